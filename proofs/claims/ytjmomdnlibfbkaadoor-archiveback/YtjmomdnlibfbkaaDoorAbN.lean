import Derived.Test.YtjmomdnlibfbkaaDoorAbM
namespace Go.Proofs.YtjmomdnlibfbkaaDoor
open Go.RowKit

theorem Rb.ofBy {w : World} {g : Nat} {l : Bs} (h : By w g l) {c : Nat} (hc : l.length ≤ c) : Rb w (.slice (some ⟨g, 0, none⟩) l.length c) l := ⟨_, c, rfl, hc, fun _ => ⟨g, 0, rfl, h.lt, fun i x hi => by rw [Nat.zero_add]; exact h.at_ i x hi⟩⟩
theorem Fb.at2 {w : World} {a : Option Addr} {n c : Nat} {fs : List Fl} (h : Fb w (.slice a n c) fs) {i : Nat} (hi : i < fs.length) : ∃ b o x y, a = some ⟨b, o, none⟩ ∧ (∀ X, Below w.heap.size w X → X.rangeAt b (o + i * 2) [.string fs[i].1, .slice x fs[i].2.length y]) ∧ Rb w (.slice x fs[i].2.length y) fs[i].2 := by
  obtain ⟨a2, c2, e, _, k⟩ := h
  cases e
  obtain ⟨b, o, x, q1, q2, q3, q4⟩ := k i _ (List.getElem?_eq_getElem hi)
  obtain ⟨xa, xc, rfl, _⟩ := q4.form
  exact ⟨b, o, xa, xc, q1, fun X hX j u hj => (hX.cell (p := ⟨b, o + i * 2 + j, none⟩) q2).trans (q3 j u hj), q4⟩
def tarR (fs : List Fl) : Int × Bs := if ckE fs ≠ 0 then (ckE fs, []) else if 16777216 < (tarL fs).length then (2, []) else (0, tarL fs)
def TaA (w : World) (R : Int × Bs) (e : Ending) (w' : World) : Prop := ∃ v, e = .returned (.tuple #[v, .int .i64 R.1]) ∧ Rb w' v R.2 ∧ Below w.heap.size w w'
theorem taa {w w' : World} {R : Int × Bs} {e : Ending} (v : Value) {er : Int} {l : Bs} (h : R = (er, l)) (h1 : e = .returned (.tuple #[v, .int .i64 er])) (h2 : Rb w' v l) (h3 : Below w.heap.size w w') : TaA w R e w' := by
  subst h
  exact ⟨v, h1, h2, h3⟩
/-- ONE FILE MORE IN THE BYTES. -/
theorem tar_step {B h d : Bs} {T S F : Nat} (hB : B.length = T) (hh : h.length = 512) (hF : d.length ≤ F) (hS : T + (512 + F) ≤ S) : put (put (B ++ zs (S - T)) T h) (T + 512) d = B ++ (h ++ (d ++ zs (F - d.length))) ++ zs (S - (T + (512 + F))) := by
  subst hB
  rw [put_app, show B.length + 512 = (B ++ h).length by rw [List.length_append, hh], put_app, hh]
  have e : zs (S - B.length - 512 - d.length) = zs (F - d.length) ++ zs (S - (B.length + (512 + F))) := by
    unfold zs
    rw [List.replicate_append_replicate]
    congr 1
    omega
  rw [e]
  simp only [List.append_assoc]
theorem flat_snoc {fs : List Fl} {i : Nat} (hi : i < fs.length) : (fs.take (i + 1)).flatMap blk = (fs.take i).flatMap blk ++ blk fs[i] := by
  rw [List.take_succ_eq_append_getElem hi, List.flatMap_append]
  simp
set_option maxRecDepth 100000 in
set_option maxHeartbeats 16000000 in
theorem Tar_any {w : World} {v : Value} {fs : List Fl} (h : Fb w v fs) (hn : fs.length ≤ 5864062014805) (hs : ∀ f ∈ fs, f.1.size ≤ 9223372036854775807) (hb : ∀ f ∈ fs, f.2.length ≤ 140737488355328) (hg : Glob w) :
    Calls Tryd.prog 6 #[v] w fun e w' => TaA w (tarR fs) e w' := by
  obtain ⟨a, c, rfl, hc⟩ := h.form
  have CF := hide (checkFiles_any h hn hs hb hg)
  by_cases h0 : ckE fs = 0
  · have hok := (ckE_iff fs).1 h0
    have hb2 : ∀ f ∈ fs, f.2.length ≤ 1048576 := fun f hf => (hok f hf).2
    have CS := hide (fun X (hX : Below w.heap.size w X) => tarSize_any (h.later hX) hn hb2)
    have hlen := tar_len hok
    rw [h0] at CF
    by_cases hz : 16777216 < (tarL fs).length
    · have HR := hide (show tarR fs = (2, []) by unfold tarR; rw [if_neg (fun q => q h0), if_pos hz])
      clear h hs hb hg hok hb2 h0
      rw [hlen] at hz
      clear hlen
      generalize tz fs + 1024 = S at *
      have hz' : (16777216 : Int) < (S : Int) := by omega
      go_enter Tryd.func6, Tryd.ntmps6
      go_wp2_with (first
        | (go_at_call 15; refine (unhide CF).mono ?_; rintro e w1 ⟨rfl, b1⟩; have W1 := hide b1; clear b1 CF)
        | (go_at_call 16; refine (unhide CS _ (unhide W1)).mono ?_; rintro e w2 ⟨rfl, b2⟩; have W2 := hide ((unhide W1).trans (b2.mono (unhide W1).size)); clear b2 CS))
      go_ret2
      exact taa _ (unhide HR) rfl (Rb.nil' _ _ _) (unhide W2)
    · have HR := hide (show tarR fs = (0, tarL fs) by unfold tarR; rw [if_neg (fun q => q h0), if_neg hz])
      rw [hlen] at hz
      have HA := hide h
      have HG := hide hg
      have HSS := hide hs
      have HOK := hide hok
      have HTT := hide (fun i (_ : i ≤ fs.length) => tz_mono (fs := fs) i)
      have HLL := hide (show tarL fs = (fs.take fs.length).flatMap blk ++ zs ((tz fs + 1024) - tz (fs.take fs.length)) by rw [List.take_length, Nat.add_sub_cancel_left]; rfl)
      have HST := hide (show (fs.take 0).flatMap blk ++ zs ((tz fs + 1024) - tz (fs.take 0)) = zs (tz fs + 1024) from rfl)
      have HLE := hide (show (tarL fs).length = tz fs + 1024 from hlen)
      generalize hSd : tz fs + 1024 = S at *
      have HSD := hide hSd
      have hz' : ¬ (16777216 : Int) < (S : Int) := by omega
      have hS2 : S ≤ 16777216 := by omega
      have mk := makeY S (by omega)
      obtain ⟨N, hN⟩ : ∃ N, fs.length = N := ⟨_, rfl⟩
      have HN := hide hN
      rw [hN] at hn HA hc HLL CF CS HTT ⊢
      clear h hs hb hg hok hb2 h0 hlen hz hN hSd
      go_enter Tryd.func6, Tryd.ntmps6
      go_wp2_with (first
        | (go_at_call 15; refine (unhide CF).mono ?_; rintro e w1 ⟨rfl, b1⟩; have W1 := hide b1; clear b1 CF)
        | (go_at_call 16; refine (unhide CS _ (unhide W1)).mono ?_; rintro e w2 ⟨rfl, b2⟩; have W2 := hide ((unhide W1).trans (b2.mono (unhide W1).size)); clear b2 CS))
      have HLM := hide (unhide W2).size
      have Y0 := hide (By.made w2 S)
      have W3 := hide ((unhide W2).alloc (unhide HLM) (.cells (madeCells #[.int .u8 0] S) 5))
      generalize w2.heap.size = g at *
      generalize World.alloc w2 (.cells (madeCells #[.int .u8 0] S) 5) = w3 at *
      clear mk
      go_loopg [7, 25] N (fun gq av iv wr => ∃ i : Nat, iv = .int .i64 i ∧ av = .int .i64 (tz (fs.take i) : Nat) ∧ i ≤ N ∧ N - i ≤ gq ∧ Hid (By wr g ((fs.take i).flatMap blk ++ zs (S - tz (fs.take i)))) ∧ Hid (Below w.heap.size w wr))
      case atStart => exact ⟨0, by go_num, by go_num, by omega, by omega, hide ((unhide HST).symm ▸ unhide Y0), W3⟩
      case round =>
        clear Y0 W3 HST
        obtain ⟨i, rfl, rfl, hi, hgk, HY, HW⟩ := hrel
        by_cases hlt : i < N
        · have hin : (i : Int) < (N : Int) := by omega
          have hil : i < fs.length := by have := unhide HN; omega
          obtain ⟨b, o, x, y, rfl, hrg, hRb⟩ := (unhide HA).at2 hil
          have hsz := unhide HSS _ (List.getElem_mem hil)
          have hof := unhide HOK _ (List.getElem_mem hil)
          have HSN := hide (tz_snoc hil)
          have HFS := hide (flat_snoc hil)
          have hm1 := unhide HTT (i + 1) (by omega)
          have hsd := unhide HSD
          have hlb : ((fs.take i).flatMap blk).length = tz (fs.take i) := flat_blk _ fun f hf => unhide HOK f (List.mem_of_mem_take hf)
          rw [unhide HSN] at hm1
          generalize fs[i] = f at *
          have HRG := hide (hrg wr (unhide HW))
          have HRB := hide hRb
          clear hrg hRb
          have hfl := fill_lt f.2.length
          have hfg := fill_ge f.2.length
          have hbk : blk f = hdP f.1 f.2.length ++ (f.2 ++ zs (fill f.2.length - f.2.length)) := rfl
          have hE : hdE f.1 f.2.length = hdP f.1 f.2.length := by unfold hdE; rw [if_pos hof.1]
          have hHl := hdP_len hof.1 f.2.length
          have hdl := hof.2
          have HHE := hide (fun X (hX : Below w.heap.size w X) => headerOf_any (w := X) (p := f.1) (s := f.2.length) hsz (by omega) ((unhide HG).later hX))
          rw [hE] at HHE
          clear hE hof
          generalize hH : hdP f.1 f.2.length = H at *
          have HST := hide (tar_step (B := (fs.take i).flatMap blk) (h := H) (d := f.2) (T := tz (fs.take i)) (S := S) (F := fill f.2.length) hlb hHl hfg (by omega))
          rw [← hbk] at HST
          have HFI := hide (filled_any f.2.length · (by omega))
          have HLO := hide (unhide HW).size
          have HLH := hide (show (H.map cb).length = 512 by rw [List.length_map]; exact hHl)
          have hLB : ((fs.take i).flatMap blk ++ zs (S - tz (fs.take i))).length = S := by rw [List.length_append, hlb, zs_len]; omega
          generalize hT : tz (fs.take i) = T at *
          generalize hF : fill f.2.length = F at *
          generalize hL0 : (fs.take i).flatMap blk ++ zs (S - T) = L0 at *
          have hD : f.2.length ≤ 1048576 := hdl
          clear hbk hlb hH hL0 hT hF
          go_upto_region 13 with (first
            | ((with_reducible refine m_load (t := 40) (k := 2) Tryd.underlying40 rfl infoBl _ rfl rfl b (o + i * 2) rfl [.string f.1, .slice x f.2.length y] (unhide HRG) rfl ?_))
            | ((with_reducible refine b_alloc (t := 40) (k := 2) zeroBl rfl rfl ?_); intro w4 q4 k4 z4; have P4 := hide q4; have K4 := hide k4; clear q4 k4 z4)
            | ((with_reducible refine b_store (t := 40) (k := 2) infoBl _ _ rfl rfl wr.heap.size rfl [.string f.1, .slice x f.2.length y] rfl rfl (two_one rfl) _ (unhide P4) ?_); intro w5 q5 o5 k5 z5; have P5 := hide q5; have c0 := q5.range 0 _ rfl; have c1 := q5.range 1 _ rfl; have K5 := hide ((unhide K4).trans (k5 _ (Nat.le_refl _))); clear q5 o5 k5 z5 P4 K4)
            | (go_at_call 17; refine (unhide HHE _ ((unhide HW).trans ((unhide K5).mono (unhide HLO)))).mono ?_; rintro e w6 ⟨rfl, b6⟩; have P6 := hide ((unhide P5).later b6); have K6 := hide ((unhide K5).trans (b6.mono (unhide K5).size)); clear b6 c0 c1 P5 K5 HHE)
            | ((with_reducible refine b_alloc (t := 44) (k := 512) zeroH rfl rfl ?_); intro w7 q7 k7 z7; have G6 := hide (unhide P6).lt; have P7 := hide ((unhide P6).later k7); have H7 := hide q7; have K7 := hide ((unhide K6).trans (k7.mono (unhide K6).size)); clear q7 k7 z7 P6 K6)
            | ((with_reducible refine b_store (t := 44) (k := 512) infoH _ _ rfl rfl w6.heap.size rfl (H.map cb) rfl (unhide HLH) (map_cb_one _) _ (unhide H7) ?_); intro w8 q8 o8 k8 z8; have H8 := hide (By.of_bk q8); have P8 := hide ((unhide P7).of (o8 _ (Nat.ne_of_lt (unhide G6)))); have K8 := hide ((unhide K7).trans (k8 _ (Nat.le_of_lt (unhide G6)))); clear q8 o8 k8 z8 P7 H7 K7))
          have HL8 := hide (show g < wr.heap.size from (unhide HY).lt)
          have Y8 := hide ((unhide HY).later (unhide K8))
          have hTS : (T : Int) ≤ (S : Int) := by omega
          have hTn : T ≤ S := by omega
          have hne : ¬ S = T := by omega
          have hHl2 : H.length = 512 := hHl
          have hw5 : IntKind.i64.wrap ((T : Int) + 512) = (T : Int) + 512 := IntWalk.i64_in _ (by omega)
          have HR8 := hide (Rb.ofBy (unhide H8) (Nat.le_of_eq hHl))
          rw [hHl] at HR8
          have Y8d := hide (show By w8.drew g L0 from (unhide Y8).same rfl (Nat.le_refl _))
          have HR8d := hide ((unhide HR8).later (w' := w8.drew) (show Below w8.heap.size w8 w8.drew from (Below.refl _ _).drew))
          refine wp_region_held_drew (S := fun _ => True) (by kernel_rfl) ?_ (fun hHeld => ?_)
          · exact trivial
          refine wpAnyH_take (i := 0) (oi := { dst := some 38, op := Op.move (Operand.tmp 7), type := 3, pos := "tar.go:26", after := #[], guard := none }) (v := ?_) rfl (by kernel_rfl) (by kernel_rfl) (by kernel_rfl) (fun _ _ _ h => h) (Or.inl ⟨by rfl, ?_⟩) (by assumption) ?_
          rotate_left
          · intro w hSw; (try dsimp only at hSw); go_simp; (try with_reducible rfl)
          try simp only [Act.put, List.setIfInBounds_toArray, List.set_cons_zero, List.set_cons_succ]
          refine wpAnyH_take (i := 1) (oi := { dst := some 39, op := Op.move (Operand.tmp 6), type := 23, pos := "tar.go:26", after := #[], guard := none }) (v := ?_) rfl (by kernel_rfl) (by kernel_rfl) (by kernel_rfl) (fun _ _ _ h => h) (Or.inl ⟨by rfl, ?_⟩) (by assumption) ?_
          rotate_left
          · intro w hSw; (try dsimp only at hSw); go_simp; (try with_reducible rfl)
          try simp only [Act.put, List.setIfInBounds_toArray, List.set_cons_zero, List.set_cons_succ]
          refine wpAnyH_take (i := 2) (oi := { dst := some 40, op := Op.move (Operand.tmp 7), type := 3, pos := "tar.go:26", after := #[], guard := none }) (v := ?_) rfl (by kernel_rfl) (by kernel_rfl) (by kernel_rfl) (fun _ _ _ h => h) (Or.inl ⟨by rfl, ?_⟩) (by assumption) ?_
          rotate_left
          · intro w hSw; (try dsimp only at hSw); go_simp; (try with_reducible rfl)
          try simp only [Act.put, List.setIfInBounds_toArray, List.set_cons_zero, List.set_cons_succ]
          refine wpAnyH_take (i := 3) (oi := { dst := some 41, op := Op.slice 23 (Operand.tmp 39) (some (Operand.tmp 40)) none none, type := 23, pos := "tar.go:26", after := #[{ on := 1, ground := Ground.data }, { on := 2, ground := Ground.data }], guard := none }) (v := ?_) rfl (by kernel_rfl) (by kernel_rfl) (by kernel_rfl) (fun _ _ _ h => h) (Or.inl ⟨by rfl, ?_⟩) (by assumption) ?_
          rotate_left
          · intro w hSw; (try dsimp only at hSw); go_simp; (try with_reducible rfl)
          try simp only [Act.put, List.setIfInBounds_toArray, List.set_cons_zero, List.set_cons_succ]
          refine wpAnyH_take (i := 4) (oi := { dst := some 42, op := Op.slice 44 (Operand.tmp 10) none none none, type := 23, pos := "tar.go:26", after := #[], guard := none }) (v := ?_) rfl (by kernel_rfl) (by kernel_rfl) (by kernel_rfl) (fun _ _ _ h => h) (Or.inl ⟨by rfl, ?_⟩) (by assumption) ?_
          rotate_left
          · intro w hSw; (try dsimp only at hSw); go_simp; (try with_reducible rfl)
          try simp only [Act.put, List.setIfInBounds_toArray, List.set_cons_zero, List.set_cons_succ]
          refine wpAnyH_ready (rs := [5]) (by kernel_rfl) (by simp) ?_
          refine AllReadyH.cons (o := { dst := some 43, op := Op.call { callee := Callee.builtin Builtin.copy, args := #[Operand.tmp 41, Operand.tmp 42], argTypes := #[23, 23] }, type := 3, pos := "tar.go:26", after := #[{ on := 3, ground := Ground.data }, { on := 4, ground := Ground.data }], guard := none }) rfl (fun K hK => ?_) AllReadyH.nil
          refine wp_copyY _ _ rfl rfl rfl (by rw [hHl2]; omega) (unhide Y8d) (by omega) (unhide HR8d) ?_
          intro w9 b9 o9 _
          rw [hHl2]
          have Y9 := hide b9
          have O9 := hide o9
          clear b9 o9
          refine hK.out _ _ trivial (fun hHeld => ?_)
          clear hK K
          try simp only [Act.put, List.setIfInBounds_toArray, List.set_cons_zero, List.set_cons_succ]
          refine wpAnyH_take (i := 6) (oi := { dst := some 44, op := Op.binOp BinOp.add 3 (Operand.tmp 38) (Operand.tmp 43) 3, type := 3, pos := "tar.go:26", after := #[{ on := 0, ground := Ground.data }, { on := 5, ground := Ground.data }], guard := none }) (v := ?_) rfl (by kernel_rfl) (by kernel_rfl) (by kernel_rfl) (fun _ _ _ h => h) (Or.inl ⟨by rfl, ?_⟩) (by assumption) ?_
          rotate_left
          · intro w hSw; (try dsimp only at hSw); go_simp; (try with_reducible rfl)
          try simp only [Act.put, List.setIfInBounds_toArray, List.set_cons_zero, List.set_cons_succ]
          refine wpAnyH_take (i := 7) (oi := { dst := some 7, op := Op.assign (Operand.tmp 44), type := 3, pos := "tar.go:26", after := #[{ on := 6, ground := Ground.data }, { on := 5, ground := Ground.chain }, { on := 0, ground := Ground.phase }, { on := 1, ground := Ground.phase }, { on := 2, ground := Ground.phase }, { on := 3, ground := Ground.phase }, { on := 4, ground := Ground.phase }, { on := 5, ground := Ground.phase }, { on := 6, ground := Ground.phase }], guard := none }) (v := ?_) rfl (by kernel_rfl) (by kernel_rfl) (by kernel_rfl) (fun _ _ _ h => h) (Or.inl ⟨by rfl, ?_⟩) (by assumption) ?_
          rotate_left
          · intro w hSw; (try dsimp only at hSw); go_simp; (try with_reducible rfl)
          try simp only [Act.put, List.setIfInBounds_toArray, List.set_cons_zero, List.set_cons_succ]
          refine wpAnyH_done (by kernel_rfl) ?_ _
          have P9 := hide ((unhide P8).of (((unhide O9).oth _ (Nat.ne_of_gt (unhide HL8))).trans rfl))
          have W9 := hide ((((unhide HW).trans ((unhide K8).mono (unhide HLO))).drew).trans ((unhide O9).bel.mono (unhide HLM)))
          have R9 := hide ((unhide HRB).later (unhide W9))
          clear O9 W1 W2 P8 K8 Y8 Y8d HR8 HR8d H8 G6 HSS HOK HLH HRG HRB hHl hw5 hTS hne hTn
          have hLP : (put L0 T H).length = S := by rw [put_len (by omega)]; exact hLB
          have hc5 : (T : Int) + 512 = ((T + 512 : Nat) : Int) := by omega
          rw [hc5]
          clear hc5
          generalize hT5 : T + 512 = T5 at *
          have hw7 : IntKind.i64.wrap ((T5 : Int) + (F : Int)) = (T5 : Int) + (F : Int) := IntWalk.i64_in _ (by omega)
          have hTS : (T5 : Int) ≤ (S : Int) := by omega
          have hne : ¬ S = T5 := by omega
          have hT5e := hide hT5
          have HDS := hide (show f.2.length ≤ S - T5 by omega)
          have HOS := hide (show T5 + (S - T5) ≤ (put L0 T H).length by omega)
          clear hT5
          go_upto_region 14 with fail
          have P9d := hide (show Bk 40 2 w9.drew wr.heap.size [Value.string f.1, .slice x f.2.length y] from (unhide P9).of rfl)
          have Y9d := hide (show By w9.drew g (put L0 T H) from (unhide Y9).same rfl (Nat.le_refl _))
          have R9d := hide ((unhide R9).later (w' := w9.drew) (show Below w9.heap.size w9 w9.drew from (Below.refl _ _).drew))
          refine wp_region_held_drew (S := fun w' => w'.cell? ⟨wr.heap.size, 1, none⟩ = some (.slice x f.2.length y)) (by kernel_rfl) ?_ (fun hHeld => ?_)
          · exact (unhide P9d).range 1 _ rfl
          refine wpAnyH_take (i := 0) (oi := { dst := some 45, op := Op.move (Operand.tmp 6), type := 23, pos := "tar.go:27", after := #[], guard := none }) (v := ?_) rfl (by kernel_rfl) (by kernel_rfl) (by kernel_rfl) (fun _ _ _ h => h) (Or.inl ⟨by rfl, ?_⟩) (by assumption) ?_
          rotate_left
          · intro w hSw; (try dsimp only at hSw); go_simp; (try with_reducible rfl)
          try simp only [Act.put, List.setIfInBounds_toArray, List.set_cons_zero, List.set_cons_succ]
          refine wpAnyH_take (i := 1) (oi := { dst := some 46, op := Op.move (Operand.tmp 7), type := 3, pos := "tar.go:27", after := #[], guard := none }) (v := ?_) rfl (by kernel_rfl) (by kernel_rfl) (by kernel_rfl) (fun _ _ _ h => h) (Or.inl ⟨by rfl, ?_⟩) (by assumption) ?_
          rotate_left
          · intro w hSw; (try dsimp only at hSw); go_simp; (try with_reducible rfl)
          try simp only [Act.put, List.setIfInBounds_toArray, List.set_cons_zero, List.set_cons_succ]
          refine wpAnyH_take (i := 2) (oi := { dst := some 47, op := Op.slice 23 (Operand.tmp 45) (some (Operand.tmp 46)) none none, type := 23, pos := "tar.go:27", after := #[{ on := 0, ground := Ground.data }, { on := 1, ground := Ground.data }], guard := none }) (v := ?_) rfl (by kernel_rfl) (by kernel_rfl) (by kernel_rfl) (fun _ _ _ h => h) (Or.inl ⟨by rfl, ?_⟩) (by assumption) ?_
          rotate_left
          · intro w hSw; (try dsimp only at hSw); go_simp; (try with_reducible rfl)
          try simp only [Act.put, List.setIfInBounds_toArray, List.set_cons_zero, List.set_cons_succ]
          refine wpAnyH_take (i := 3) (oi := { dst := some 48, op := Op.fieldAddr 40 (Operand.tmp 9) 1, type := 0, pos := "tar.go:27", after := #[], guard := none }) (v := ?_) rfl (by kernel_rfl) (by kernel_rfl) (by kernel_rfl) (fun _ _ _ h => h) (Or.inl ⟨by rfl, ?_⟩) (by assumption) ?_
          rotate_left
          · intro w hSw; (try dsimp only at hSw); go_simp; (try with_reducible rfl)
          try simp only [Act.put, List.setIfInBounds_toArray, List.set_cons_zero, List.set_cons_succ]
          refine wpAnyH_take (i := 4) (oi := { dst := some 49, op := Op.load 23 (Operand.tmp 48), type := 23, pos := "tar.go:27", after := #[{ on := 3, ground := Ground.data }], guard := none }) (v := ?_) rfl (by kernel_rfl) (by kernel_rfl) (by kernel_rfl) (fun _ _ _ h => h) (Or.inl ⟨by rfl, ?_⟩) (by assumption) ?_
          rotate_left
          · intro w hSw; (try dsimp only at hSw); go_simp; (try with_reducible rfl)
          try simp only [Act.put, List.setIfInBounds_toArray, List.set_cons_zero, List.set_cons_succ]
          refine wpAnyH_ready (rs := [5]) (by kernel_rfl) (by simp) ?_
          refine AllReadyH.cons (o := { dst := some 50, op := Op.call { callee := Callee.builtin Builtin.copy, args := #[Operand.tmp 47, Operand.tmp 49], argTypes := #[23, 23] }, type := 3, pos := "tar.go:27", after := #[{ on := 2, ground := Ground.data }, { on := 4, ground := Ground.data }], guard := none }) rfl (fun K hK => ?_) AllReadyH.nil
          refine wp_copyY _ _ rfl rfl rfl (unhide HDS) (unhide Y9d) (unhide HOS) (unhide R9d) ?_
          intro w10 b10 o10 _
          have Y10 := hide b10
          have P10 := hide ((unhide P9d).of (o10.oth _ (Nat.ne_of_gt (unhide HL8))))
          have W10 := hide (((unhide W9).drew).trans (o10.bel.mono (unhide HLM)))
          clear b10 o10
          refine hK.out _ _ ((unhide P10).range 1 _ rfl) (fun hHeld => ?_)
          clear hK K
          try simp only [Act.put, List.setIfInBounds_toArray, List.set_cons_zero, List.set_cons_succ]
          refine wpAnyH_done (by kernel_rfl) ?_ _
          have c10 := (unhide P10).range 1 _ rfl
          go_wp2_with (first
            | (go_at_call 18; refine (unhide HFI _).mono ?_; rintro e wn ⟨rfl, hw⟩; rw [hw]; clear hw wn HFI))
          have hT6 := unhide hT5e
          have HYN := hide (show By w10 g ((fs.take (i + 1)).flatMap blk ++ zs (S - tz (fs.take (i + 1)))) by rw [unhide HFS, unhide HSN, ← unhide HST]; exact unhide Y10)
          go_roundg (N - (i + 1))
          case measure => omega
          case rel => exact ⟨i + 1, by go_num, congrArg (Value.int .i64) (by rw [unhide HSN]; omega), by omega, by omega, HYN, W10⟩
        · obtain rfl : i = N := by omega
          have hge : ¬ (i : Int) < (i : Int) := by omega
          rw [← unhide HLL] at HY
          have HRL := hide (Rb.ofBy (unhide HY) (Nat.le_of_eq (unhide HLE)))
          rw [unhide HLE] at HRL
          go_wp2_with fail
          go_ret2
          exact taa _ (unhide HR) rfl (unhide HRL) (unhide HW)
  · have HR := hide (show tarR fs = (ckE fs, []) by unfold tarR; rw [if_pos h0])
    generalize ckE fs = er at *
    clear h hs hb hg
    go_enter Tryd.func6, Tryd.ntmps6
    go_wp2_with (first
      | (go_at_call 15; refine (unhide CF).mono ?_; rintro e w1 ⟨rfl, b1⟩; have W1 := hide b1; clear b1 CF))
    go_ret2
    exact taa _ (unhide HR) rfl (Rb.nil' _ _ _) (unhide W1)
end Go.Proofs.YtjmomdnlibfbkaaDoor
