import Derived.Test.YtboajcpfoejfeaaTzJ
namespace Go.Proofs.Ytboajcpfoejfeaa
open Go.RowKit Go.Maps

/-- THE HEADERS THAT ARE LAID ANEW. -/
structure Ha (w wr : World) (mv : Value) (M : List En) : Prop where
  row : wr.ownsRow w.heap.size 28 1 mv M.length (M.map (·.1))
  bw : Below w.heap.size w wr
theorem Ha.start (w : World) : Ha w w (.slice none 0 0) [] := ⟨⟨rfl, .inl ⟨rfl, rfl⟩⟩, Below.refl _ _⟩
theorem Ha.later {w wr X : World} {mv : Value} {M : List En} (h : Ha w wr mv M) (hb : Below wr.heap.size wr X) : Ha w X mv M := ⟨own_low h.row hb, bl_t h.bw hb⟩
theorem Ha.grow {w wr w9 : World} {mv v' : Value} {M : List En} {x : En} {ob : Obj} (h : Ha w wr mv M) (hown : w9.ownsRow w.heap.size 28 1 v' (M.length + 1) (M.map (·.1) ++ [x.1])) (hg : (wr.alloc ob).grownBy w9 mv.ownBlock) : Ha w w9 v' (M ++ [x]) := by
  have h5 := h.later ((Below.refl _ wr).alloc (Nat.le_refl _) ob)
  refine ⟨by rw [List.length_append, List.map_append]; exact hown, ?_⟩
  exact h5.bw.grown hg h5.bw.size fun k e => (World.ownsRow.lt h5.row k e).1
theorem first_step {fs : List Fi} {k : Nat} {f g : Fi} (hg : fs[k]? = some g) : decide (f.k ∉ hds (fs.take (k + 1))) = (decide (f.k ∉ hds (fs.take k)) && !decide (g.k = f.k)) := by
  have e : fs.take (k + 1) = fs.take k ++ [g] := by rw [List.take_add_one, hg]; rfl
  rw [e, Bool.eq_iff_iff, Bool.and_eq_true, decide_eq_true_eq, decide_eq_true_eq, Bool.not_eq_true', decide_eq_false_iff_not, hds_mem, hds_mem]
  constructor
  · intro h
    exact ⟨fun ⟨x, hx, q⟩ => h ⟨x, List.mem_append_left _ hx, q⟩, fun q => h ⟨g, by simp, q⟩⟩
  · rintro ⟨h1, h2⟩ ⟨x, hx, q⟩
    rcases List.mem_append.1 hx with hx | hx
    · exact h1 ⟨x, hx, q⟩
    · rw [List.mem_singleton] at hx
      subst hx
      exact h2 q
theorem Tp.skip {w wr X : World} {av : Value} {fs : List Fi} {i : Nat} {E : List En} {f : Fi} (h : Tp w wr av fs i E) (hb : Below wr.heap.size wr X) (hf : fs[i]? = some f) (hs : f.k ∈ hds (fs.take i) ∨ ¬ 1 < (rs (pth fs f.k)).length) : Tp w X av fs (i + 1) E := by
  refine ⟨h.ga.later hb, h.srt, ?_⟩
  by_cases q : f.k ∈ hds (fs.take i)
  · rw [gup_old hf q]; exact h.perm
  · rw [gup_new hf q, if_neg (hs.resolve_left q), List.append_nil]; exact h.perm
theorem Tp.next {w w1 w2 wr x : World} {av mv r : Value} {fs : List Fi} {i : Nat} {E M : List En} {f : Fi} (h : Tp w w1 av fs i E) (hb : Below w1.heap.size w1 w2) (hx : w.heap.size ≤ x.heap.size) (hn : An x w2 r (rs (pth fs f.k))) (hf : fs[i]? = some f) (hs : f.k ∉ hds (fs.take i)) (h2 : 1 < (rs (pth fs f.k)).length)
    (hm : Ha w2 wr mv M) (hss : SrtE M) (hp : M.Perm (E ++ [(r, rs (pth fs f.k))])) : Tp w wr mv fs (i + 1) M := by
  have hw2 : w.heap.size ≤ w2.heap.size := Nat.le_trans h.ga.bw.size hb.size
  refine ⟨⟨own_up hm.row hw2, fun e he => ?_, (h.ga.bw.trans (hb.mono h.ga.bw.size)).trans (hm.bw.mono hw2)⟩, hss, ?_⟩
  · refine own_low ?_ hm.bw
    rcases List.mem_append.1 (hp.mem_iff.1 he) with q | q
    · exact own_low (h.ga.own e q) hb
    · rw [List.mem_singleton] at q
      subst q
      exact own_up hn.row hx
  · rw [gup_new hf hs, if_pos h2]
    refine (hp.map (·.2)).trans ?_
    rw [List.map_append]
    exact h.perm.append_right _
set_option maxRecDepth 100000 in
set_option maxHeartbeats 16000000 in
theorem rTwins_any {w : World} {v : Value} {fs : List Fi} (hl : fs.length ≤ 2513169434843) (h : Fis w v fs) :
    Calls Try.prog 6 #[v] w fun e w' => ∃ r E, e = .returned r ∧ Ga w w' r E ∧ Tws fs (E.map (·.2)) := by
  obtain ⟨a, c, rfl⟩ := h.form
  obtain ⟨k0, hk0, hx0, hx1, hx2⟩ := info_parts2 infoSL
  have HP := hide (show ∀ (i : Nat) (f : Fi), fs[i]? = some f → ∃ b o : Nat, a = some ⟨b, o, none⟩ ∧ b < w.heap.size ∧ ∀ (X : World), Below w.heap.size w X → ∀ (k : Nat) (g : Fi), fs[k]? = some g → g.ok ∧ X.cell? ⟨b, o + k * 34 + 1, none⟩ = some (.int .i64 g.z) ∧ X.rangeAt b (o + k * 34 + 2) (sC g.s) from fun i f hf => by
    obtain ⟨a2, c2, e, ok, hr⟩ := h
    cases e
    obtain ⟨b, o, rfl, hbl, hc⟩ := hr (by have := (List.getElem?_eq_some_iff.1 hf).1; omega)
    refine ⟨b, o, rfl, hbl, fun X hX k g hg => ?_⟩
    have hX2 : X.rangeAt b (o + k * 34) g.cs := fun j u hj => (hX.cell (p := ⟨b, _, none⟩) hbl).trans (hc k g hg j u hj)
    exact ⟨ok g (List.mem_of_getElem? hg), hX2 1 _ rfl, fun j u hj => by rw [Nat.add_assoc (o + k * 34) 2 j, Nat.add_comm 2 j]; exact hX2 (j + 2) u hj⟩)
  have HAL := hide (show ∀ (X : World), Below w.heap.size w X → ∀ (q : Nat) (f : Fi), fs[q]? = some f → Calls Try.prog 13 #[.slice a fs.length c, .int .i64 (q : Int)] X fun e w' => ∃ r, e = .returned r ∧ An X w' r (rs (pth fs f.k)) from fun X hX q f hf => alike_any hl (h.later hX) hf)
  have HST := hide (show Tp w w (.slice none 0 0) fs 0 [] from ⟨Ga.start w, List.Pairwise.nil, by simp [gup, gal, hds]⟩)
  obtain ⟨N, hN⟩ : ∃ N, N = fs.length := ⟨_, rfl⟩
  have HN := hide hN
  rw [← hN] at hl HAL ⊢
  clear h hN
  go_enter Try.func6, Try.ntmps6
  go_wp2_with fail
  go_loopg [3, 4, 5, 6, 7, 8, 9, 10] N (fun gq av iv _ _ _ _ _ _ wr => ∃ (i : Nat) (E : List En), iv = .int .i64 i ∧ i ≤ N ∧ N - i ≤ gq ∧ Hid (Tp w wr av fs i E))
  case atStart => exact ⟨0, [], by go_num, by omega, by omega, HST⟩
  case round =>
    clear HST
    obtain ⟨i, E, rfl, hi, hg, HT⟩ := hrel
    by_cases hlt : i < N
    · have hin : (i : Int) < (N : Int) := by omega
      have hil : i < fs.length := by have := unhide HN; omega
      obtain ⟨f, hf⟩ : ∃ f, fs[i]? = some f := ⟨_, List.getElem?_eq_getElem hil⟩
      have HF := hide hf
      obtain ⟨b, o, rfl, hbl, hX⟩ := unhide HP i f hf
      have HX := hide hX
      have hEl : E.length ≤ N := by have := (unhide HT).len; have := unhide HN; omega
      have HFST := hide (show decide (f.k ∉ hds (fs.take 0)) = true by simp [hds])
      clear hX hf
      obtain ⟨W0, hW0⟩ : ∃ W0, W0 = wr := ⟨_, rfl⟩
      rw [← hW0] at HT ⊢
      clear hW0
      go_wp2_with fail
      go_loopg [5, 6] i (fun gq bv kv wr => ∃ (k : Nat) (t : Bool), bv = .bool t ∧ kv = .int .i64 k ∧ k ≤ i ∧ i - k ≤ gq ∧ Hid (∃ n, wr = W0.drewN n) ∧ Hid (t = decide (f.k ∉ hds (fs.take k))))
      case atStart => exact ⟨0, true, rfl, by go_num, by omega, by omega, hide ⟨0, rfl⟩, hide (unhide HFST).symm⟩
      case round =>
        clear HFST
        obtain ⟨k, t, rfl, rfl, hk, hgk, HW, HB⟩ := hrel
        have HW2 : Hid (∃ n, wr.drew = W0.drewN n) := hide (by obtain ⟨n, rfl⟩ := unhide HW; exact ⟨n + 1, rfl⟩)
        have HBL := hide (show Below w.heap.size w wr.drew by obtain ⟨n, e⟩ := unhide HW2; rw [e]; exact bl_t (unhide HT).ga.bw (bl_drewN W0 n))
        by_cases hkl : k < i
        · have hkn : (k : Int) < (i : Int) := by omega
          have hkN : (k : Int) < (N : Int) := by omega
          obtain ⟨g, hgf⟩ : ∃ g, fs[k]? = some g := ⟨_, List.getElem?_eq_getElem (by omega)⟩
          have HSTP := hide (first_step (f := f) hgf)
          have hb9 := unhide HBL
          obtain ⟨gok, gz, gs⟩ := unhide HX _ hb9 k g hgf
          obtain ⟨fok, fz, fss⟩ := unhide HX _ hb9 i f (unhide HF)
          have HS := hide (show wr.drew.cell? ⟨b, o + k * 34 + 1, none⟩ = some (.int .i64 g.z) ∧ wr.drew.cell? ⟨b, o + i * 34 + 1, none⟩ = some (.int .i64 f.z) ∧ wr.drew.rangeAt b (o + k * 34 + 2) (sC g.s) ∧ wr.drew.rangeAt b (o + i * 34 + 2) (sC f.s) from ⟨gz, fz, gs, fss⟩)
          have l1 : (Try.prog.info? 30).map (·.size) = some (sC g.s).length := by rw [sC_len, gok.sl]; exact infoU
          have l2 : (Try.prog.info? 30).map (·.size) = some (sC f.s).length := by rw [sC_len, fok.sl]; exact infoU
          have he : ∀ X, (binOp .neq 30 (.agg (sC g.s).toArray) (.agg (sC f.s).toArray)).run Try.prog X = .ok (.bool (!decide (g.s = f.s))) X := fun X => neqU gok.sl fok.sl gok.sr fok.sr X
          have HKF := hide (show g.k = f.k ↔ g.z = f.z ∧ g.s = f.s from ⟨fun e => by unfold Fi.k at e; injection e with e1 e2; exact ⟨e1, e2⟩, fun e => by unfold Fi.k; rw [e.1, e.2]⟩)
          clear gok gz gs fok fz fss hb9 hgf
          cases t with
          | false =>
            have HB2 := hide (show false = decide (f.k ∉ hds (fs.take (k + 1))) by rw [unhide HSTP, ← unhide HB]; rfl)
            generalize sC g.s = ss at *
            generalize sC f.s = tt at *
            generalize g.z = z1 at *
            generalize f.z = z2 at *
            clear HB HSTP HKF he
            go_wp2_with fail
            refine wp_region_held_drew (S := fun w' => w'.cell? ⟨b, o + k * 34 + 1, none⟩ = some (.int .i64 z1) ∧ w'.cell? ⟨b, o + i * 34 + 1, none⟩ = some (.int .i64 z2) ∧ w'.rangeAt b (o + k * 34 + 2) ss ∧ w'.rangeAt b (o + i * 34 + 2) tt) (by kernel_rfl) ?_ (fun hHeld => ?_)
            · exact unhide HS
            refine wpAnyH_take (i := 0) (oi := { dst := some 22, op := Op.move (Operand.tmp 5), type := 4, pos := "ref.go:281", after := #[], guard := none }) (v := ?_) rfl (by kernel_rfl) (by kernel_rfl) (by kernel_rfl) (fun _ _ _ h => h) (Or.inl ⟨by rfl, ?_⟩) (by assumption) ?_
            rotate_left
            · intro w hSw; (try dsimp only at hSw); go_simp; (try with_reducible rfl)
            try simp only [Act.put, List.setIfInBounds_toArray, List.set_cons_zero, List.set_cons_succ]
            refine wpAnyH_take (i := 1) (oi := { dst := some 23, op := Op.move (Operand.tmp 22), type := 4, pos := "ref.go:281", after := #[{ on := 0, ground := Ground.data }], guard := none }) (v := ?_) rfl (by kernel_rfl) (by kernel_rfl) (by kernel_rfl) (fun _ _ _ h => h) (Or.inl ⟨by rfl, ?_⟩) (by assumption) ?_
            rotate_left
            · intro w hSw; (try dsimp only at hSw); go_simp; (try with_reducible rfl)
            try simp only [Act.put, List.setIfInBounds_toArray, List.set_cons_zero, List.set_cons_succ]
            refine wpAnyH_take (i := 2) (oi := { dst := some 24, op := Op.move (Operand.tmp 0), type := 22, pos := "ref.go:281", after := #[{ on := 1, ground := Ground.guard }], guard := some (1, true) }) (v := undef) rfl (by kernel_rfl) (by kernel_rfl) (by kernel_rfl) (fun _ _ _ h => h) (Or.inr ⟨by rfl, rfl⟩) (by assumption) ?_
            try simp only [Act.put, List.setIfInBounds_toArray, List.set_cons_zero, List.set_cons_succ]
            refine wpAnyH_take (i := 3) (oi := { dst := some 25, op := Op.move (Operand.tmp 6), type := 3, pos := "ref.go:281", after := #[{ on := 1, ground := Ground.guard }], guard := some (1, true) }) (v := undef) rfl (by kernel_rfl) (by kernel_rfl) (by kernel_rfl) (fun _ _ _ h => h) (Or.inr ⟨by rfl, rfl⟩) (by assumption) ?_
            try simp only [Act.put, List.setIfInBounds_toArray, List.set_cons_zero, List.set_cons_succ]
            refine wpAnyH_take (i := 4) (oi := { dst := some 26, op := Op.indexAddr 22 (Operand.tmp 24) (Operand.tmp 25), type := 0, pos := "ref.go:281", after := #[{ on := 2, ground := Ground.data }, { on := 3, ground := Ground.data }, { on := 1, ground := Ground.guard }], guard := some (1, true) }) (v := undef) rfl (by kernel_rfl) (by kernel_rfl) (by kernel_rfl) (fun _ _ _ h => h) (Or.inr ⟨by rfl, rfl⟩) (by assumption) ?_
            try simp only [Act.put, List.setIfInBounds_toArray, List.set_cons_zero, List.set_cons_succ]
            refine wpAnyH_take (i := 5) (oi := { dst := some 27, op := Op.fieldAddr 32 (Operand.tmp 26) 1, type := 0, pos := "ref.go:281", after := #[{ on := 4, ground := Ground.data }, { on := 1, ground := Ground.guard }], guard := some (1, true) }) (v := undef) rfl (by kernel_rfl) (by kernel_rfl) (by kernel_rfl) (fun _ _ _ h => h) (Or.inr ⟨by rfl, rfl⟩) (by assumption) ?_
            try simp only [Act.put, List.setIfInBounds_toArray, List.set_cons_zero, List.set_cons_succ]
            refine wpAnyH_take (i := 6) (oi := { dst := some 28, op := Op.load 3 (Operand.tmp 27), type := 3, pos := "ref.go:281", after := #[{ on := 5, ground := Ground.data }, { on := 1, ground := Ground.guard }], guard := some (1, true) }) (v := undef) rfl (by kernel_rfl) (by kernel_rfl) (by kernel_rfl) (fun _ _ _ h => h) (Or.inr ⟨by rfl, rfl⟩) (by assumption) ?_
            try simp only [Act.put, List.setIfInBounds_toArray, List.set_cons_zero, List.set_cons_succ]
            refine wpAnyH_take (i := 7) (oi := { dst := some 29, op := Op.move (Operand.tmp 0), type := 22, pos := "ref.go:281", after := #[{ on := 1, ground := Ground.guard }], guard := some (1, true) }) (v := undef) rfl (by kernel_rfl) (by kernel_rfl) (by kernel_rfl) (fun _ _ _ h => h) (Or.inr ⟨by rfl, rfl⟩) (by assumption) ?_
            try simp only [Act.put, List.setIfInBounds_toArray, List.set_cons_zero, List.set_cons_succ]
            refine wpAnyH_take (i := 8) (oi := { dst := some 30, op := Op.move (Operand.tmp 4), type := 3, pos := "ref.go:281", after := #[{ on := 1, ground := Ground.guard }], guard := some (1, true) }) (v := undef) rfl (by kernel_rfl) (by kernel_rfl) (by kernel_rfl) (fun _ _ _ h => h) (Or.inr ⟨by rfl, rfl⟩) (by assumption) ?_
            try simp only [Act.put, List.setIfInBounds_toArray, List.set_cons_zero, List.set_cons_succ]
            refine wpAnyH_take (i := 9) (oi := { dst := some 31, op := Op.indexAddr 22 (Operand.tmp 29) (Operand.tmp 30), type := 0, pos := "ref.go:281", after := #[{ on := 7, ground := Ground.data }, { on := 8, ground := Ground.data }, { on := 1, ground := Ground.guard }], guard := some (1, true) }) (v := undef) rfl (by kernel_rfl) (by kernel_rfl) (by kernel_rfl) (fun _ _ _ h => h) (Or.inr ⟨by rfl, rfl⟩) (by assumption) ?_
            try simp only [Act.put, List.setIfInBounds_toArray, List.set_cons_zero, List.set_cons_succ]
            refine wpAnyH_take (i := 10) (oi := { dst := some 32, op := Op.fieldAddr 32 (Operand.tmp 31) 1, type := 0, pos := "ref.go:281", after := #[{ on := 9, ground := Ground.data }, { on := 1, ground := Ground.guard }], guard := some (1, true) }) (v := undef) rfl (by kernel_rfl) (by kernel_rfl) (by kernel_rfl) (fun _ _ _ h => h) (Or.inr ⟨by rfl, rfl⟩) (by assumption) ?_
            try simp only [Act.put, List.setIfInBounds_toArray, List.set_cons_zero, List.set_cons_succ]
            refine wpAnyH_take (i := 11) (oi := { dst := some 33, op := Op.load 3 (Operand.tmp 32), type := 3, pos := "ref.go:281", after := #[{ on := 10, ground := Ground.data }, { on := 1, ground := Ground.guard }], guard := some (1, true) }) (v := undef) rfl (by kernel_rfl) (by kernel_rfl) (by kernel_rfl) (fun _ _ _ h => h) (Or.inr ⟨by rfl, rfl⟩) (by assumption) ?_
            try simp only [Act.put, List.setIfInBounds_toArray, List.set_cons_zero, List.set_cons_succ]
            refine wpAnyH_take (i := 12) (oi := { dst := some 34, op := Op.binOp BinOp.neq 3 (Operand.tmp 28) (Operand.tmp 33) 3, type := 4, pos := "ref.go:281", after := #[{ on := 6, ground := Ground.data }, { on := 11, ground := Ground.data }, { on := 1, ground := Ground.guard }], guard := some (1, true) }) (v := undef) rfl (by kernel_rfl) (by kernel_rfl) (by kernel_rfl) (fun _ _ _ h => h) (Or.inr ⟨by rfl, rfl⟩) (by assumption) ?_
            try simp only [Act.put, List.setIfInBounds_toArray, List.set_cons_zero, List.set_cons_succ]
            refine wpAnyH_take (i := 13) (oi := { dst := some 35, op := Op.move (Operand.tmp 34), type := 4, pos := "ref.go:281", after := #[{ on := 12, ground := Ground.data }, { on := 1, ground := Ground.chain }, { on := 1, ground := Ground.guard }], guard := some (1, true) }) (v := undef) rfl (by kernel_rfl) (by kernel_rfl) (by kernel_rfl) (fun _ _ _ h => h) (Or.inr ⟨by rfl, rfl⟩) (by assumption) ?_
            try simp only [Act.put, List.setIfInBounds_toArray, List.set_cons_zero, List.set_cons_succ]
            refine wpAnyH_take (i := 14) (oi := { dst := some 36, op := Op.move (Operand.tmp 0), type := 22, pos := "ref.go:281", after := #[{ on := 13, ground := Ground.guard }], guard := some (13, false) }) (v := undef) rfl (by kernel_rfl) (by kernel_rfl) (by kernel_rfl) (fun _ _ _ h => h) (Or.inr ⟨by rfl, rfl⟩) (by assumption) ?_
            try simp only [Act.put, List.setIfInBounds_toArray, List.set_cons_zero, List.set_cons_succ]
            refine wpAnyH_take (i := 15) (oi := { dst := some 37, op := Op.move (Operand.tmp 6), type := 3, pos := "ref.go:281", after := #[{ on := 13, ground := Ground.guard }], guard := some (13, false) }) (v := undef) rfl (by kernel_rfl) (by kernel_rfl) (by kernel_rfl) (fun _ _ _ h => h) (Or.inr ⟨by rfl, rfl⟩) (by assumption) ?_
            try simp only [Act.put, List.setIfInBounds_toArray, List.set_cons_zero, List.set_cons_succ]
            refine wpAnyH_take (i := 16) (oi := { dst := some 38, op := Op.indexAddr 22 (Operand.tmp 36) (Operand.tmp 37), type := 0, pos := "ref.go:281", after := #[{ on := 14, ground := Ground.data }, { on := 15, ground := Ground.data }, { on := 13, ground := Ground.guard }], guard := some (13, false) }) (v := undef) rfl (by kernel_rfl) (by kernel_rfl) (by kernel_rfl) (fun _ _ _ h => h) (Or.inr ⟨by rfl, rfl⟩) (by assumption) ?_
            try simp only [Act.put, List.setIfInBounds_toArray, List.set_cons_zero, List.set_cons_succ]
            refine wpAnyH_take (i := 17) (oi := { dst := some 39, op := Op.fieldAddr 32 (Operand.tmp 38) 2, type := 0, pos := "ref.go:281", after := #[{ on := 16, ground := Ground.data }, { on := 13, ground := Ground.guard }], guard := some (13, false) }) (v := undef) rfl (by kernel_rfl) (by kernel_rfl) (by kernel_rfl) (fun _ _ _ h => h) (Or.inr ⟨by rfl, rfl⟩) (by assumption) ?_
            try simp only [Act.put, List.setIfInBounds_toArray, List.set_cons_zero, List.set_cons_succ]
            refine wpAnyH_take (i := 18) (oi := { dst := some 40, op := Op.load 30 (Operand.tmp 39), type := 30, pos := "ref.go:281", after := #[{ on := 17, ground := Ground.data }, { on := 13, ground := Ground.guard }], guard := some (13, false) }) (v := undef) rfl (by kernel_rfl) (by kernel_rfl) (by kernel_rfl) (fun _ _ _ h => h) (Or.inr ⟨by rfl, rfl⟩) (by assumption) ?_
            try simp only [Act.put, List.setIfInBounds_toArray, List.set_cons_zero, List.set_cons_succ]
            refine wpAnyH_take (i := 19) (oi := { dst := some 41, op := Op.move (Operand.tmp 0), type := 22, pos := "ref.go:281", after := #[{ on := 13, ground := Ground.guard }], guard := some (13, false) }) (v := undef) rfl (by kernel_rfl) (by kernel_rfl) (by kernel_rfl) (fun _ _ _ h => h) (Or.inr ⟨by rfl, rfl⟩) (by assumption) ?_
            try simp only [Act.put, List.setIfInBounds_toArray, List.set_cons_zero, List.set_cons_succ]
            refine wpAnyH_take (i := 20) (oi := { dst := some 42, op := Op.move (Operand.tmp 4), type := 3, pos := "ref.go:281", after := #[{ on := 13, ground := Ground.guard }], guard := some (13, false) }) (v := undef) rfl (by kernel_rfl) (by kernel_rfl) (by kernel_rfl) (fun _ _ _ h => h) (Or.inr ⟨by rfl, rfl⟩) (by assumption) ?_
            try simp only [Act.put, List.setIfInBounds_toArray, List.set_cons_zero, List.set_cons_succ]
            refine wpAnyH_take (i := 21) (oi := { dst := some 43, op := Op.indexAddr 22 (Operand.tmp 41) (Operand.tmp 42), type := 0, pos := "ref.go:281", after := #[{ on := 19, ground := Ground.data }, { on := 20, ground := Ground.data }, { on := 13, ground := Ground.guard }], guard := some (13, false) }) (v := undef) rfl (by kernel_rfl) (by kernel_rfl) (by kernel_rfl) (fun _ _ _ h => h) (Or.inr ⟨by rfl, rfl⟩) (by assumption) ?_
            try simp only [Act.put, List.setIfInBounds_toArray, List.set_cons_zero, List.set_cons_succ]
            refine wpAnyH_take (i := 22) (oi := { dst := some 44, op := Op.fieldAddr 32 (Operand.tmp 43) 2, type := 0, pos := "ref.go:281", after := #[{ on := 21, ground := Ground.data }, { on := 13, ground := Ground.guard }], guard := some (13, false) }) (v := undef) rfl (by kernel_rfl) (by kernel_rfl) (by kernel_rfl) (fun _ _ _ h => h) (Or.inr ⟨by rfl, rfl⟩) (by assumption) ?_
            try simp only [Act.put, List.setIfInBounds_toArray, List.set_cons_zero, List.set_cons_succ]
            refine wpAnyH_take (i := 23) (oi := { dst := some 45, op := Op.load 30 (Operand.tmp 44), type := 30, pos := "ref.go:281", after := #[{ on := 22, ground := Ground.data }, { on := 13, ground := Ground.guard }], guard := some (13, false) }) (v := undef) rfl (by kernel_rfl) (by kernel_rfl) (by kernel_rfl) (fun _ _ _ h => h) (Or.inr ⟨by rfl, rfl⟩) (by assumption) ?_
            try simp only [Act.put, List.setIfInBounds_toArray, List.set_cons_zero, List.set_cons_succ]
            refine wpAnyH_take (i := 24) (oi := { dst := some 46, op := Op.binOp BinOp.neq 30 (Operand.tmp 40) (Operand.tmp 45) 30, type := 4, pos := "ref.go:281", after := #[{ on := 18, ground := Ground.data }, { on := 23, ground := Ground.data }, { on := 13, ground := Ground.guard }], guard := some (13, false) }) (v := undef) rfl (by kernel_rfl) (by kernel_rfl) (by kernel_rfl) (fun _ _ _ h => h) (Or.inr ⟨by rfl, rfl⟩) (by assumption) ?_
            try simp only [Act.put, List.setIfInBounds_toArray, List.set_cons_zero, List.set_cons_succ]
            refine wpAnyH_take (i := 25) (oi := { dst := some 47, op := Op.pick (Operand.tmp 35) (Operand.const (Value.bool true)) (Operand.tmp 46), type := 4, pos := "ref.go:281", after := #[{ on := 13, ground := Ground.data }, { on := 24, ground := Ground.data }, { on := 1, ground := Ground.guard }], guard := some (1, true) }) (v := undef) rfl (by kernel_rfl) (by kernel_rfl) (by kernel_rfl) (fun _ _ _ h => h) (Or.inr ⟨by rfl, rfl⟩) (by assumption) ?_
            try simp only [Act.put, List.setIfInBounds_toArray, List.set_cons_zero, List.set_cons_succ]
            refine wpAnyH_take (i := 26) (oi := { dst := some 48, op := Op.pick (Operand.tmp 23) (Operand.tmp 47) (Operand.const (Value.bool false)), type := 4, pos := "ref.go:281", after := #[{ on := 1, ground := Ground.data }, { on := 25, ground := Ground.data }], guard := none }) (v := ?_) rfl (by kernel_rfl) (by kernel_rfl) (by kernel_rfl) (fun _ _ _ h => h) (Or.inl ⟨by rfl, ?_⟩) (by assumption) ?_
            rotate_left
            · intro w hSw; (try dsimp only at hSw); go_simp; (try with_reducible rfl)
            try simp only [Act.put, List.setIfInBounds_toArray, List.set_cons_zero, List.set_cons_succ]
            refine wpAnyH_take (i := 27) (oi := { dst := some 5, op := Op.assign (Operand.tmp 48), type := 4, pos := "ref.go:281", after := #[{ on := 26, ground := Ground.data }, { on := 13, ground := Ground.chain }, { on := 0, ground := Ground.phase }, { on := 1, ground := Ground.phase }, { on := 2, ground := Ground.phase }, { on := 3, ground := Ground.phase }, { on := 4, ground := Ground.phase }, { on := 5, ground := Ground.phase }, { on := 6, ground := Ground.phase }, { on := 7, ground := Ground.phase }, { on := 8, ground := Ground.phase }, { on := 9, ground := Ground.phase }, { on := 10, ground := Ground.phase }, { on := 11, ground := Ground.phase }, { on := 12, ground := Ground.phase }, { on := 13, ground := Ground.phase }, { on := 14, ground := Ground.phase }, { on := 15, ground := Ground.phase }, { on := 16, ground := Ground.phase }, { on := 17, ground := Ground.phase }, { on := 18, ground := Ground.phase }, { on := 19, ground := Ground.phase }, { on := 20, ground := Ground.phase }, { on := 21, ground := Ground.phase }, { on := 22, ground := Ground.phase }, { on := 23, ground := Ground.phase }, { on := 24, ground := Ground.phase }, { on := 25, ground := Ground.phase }, { on := 26, ground := Ground.phase }], guard := none }) (v := ?_) rfl (by kernel_rfl) (by kernel_rfl) (by kernel_rfl) (fun _ _ _ h => h) (Or.inl ⟨by rfl, ?_⟩) (by assumption) ?_
            rotate_left
            · intro w hSw; (try dsimp only at hSw); go_simp; (try with_reducible rfl)
            try simp only [Act.put, List.setIfInBounds_toArray, List.set_cons_zero, List.set_cons_succ]
            refine wpAnyH_done (by kernel_rfl) ?_ _
            go_wp2_with fail
            go_roundg (i - (k + 1))
            case measure => omega
            case rel => exact ⟨k + 1, false, rfl, by go_num, by omega, by omega, HW2, HB2⟩
          | true =>
            by_cases ez : g.z = f.z
            · have ez2 : (g.z != f.z) = false := by rw [ez]; simp
              by_cases es : g.s = f.s
              · have HB2 := hide (show false = decide (f.k ∉ hds (fs.take (k + 1))) by rw [unhide HSTP, ← unhide HB, decide_eq_true ((unhide HKF).2 ⟨ez, es⟩)]; rfl)
                rw [decide_eq_true es] at he
                generalize sC g.s = ss at *
                generalize sC f.s = tt at *
                generalize g.z = z1 at *
                generalize f.z = z2 at *
                clear HB HSTP HKF ez es
                go_wp2_with fail
                refine wp_region_held_drew (S := fun w' => w'.cell? ⟨b, o + k * 34 + 1, none⟩ = some (.int .i64 z1) ∧ w'.cell? ⟨b, o + i * 34 + 1, none⟩ = some (.int .i64 z2) ∧ w'.rangeAt b (o + k * 34 + 2) ss ∧ w'.rangeAt b (o + i * 34 + 2) tt) (by kernel_rfl) ?_ (fun hHeld => ?_)
                · exact unhide HS
                refine wpAnyH_take (i := 0) (oi := { dst := some 22, op := Op.move (Operand.tmp 5), type := 4, pos := "ref.go:281", after := #[], guard := none }) (v := ?_) rfl (by kernel_rfl) (by kernel_rfl) (by kernel_rfl) (fun _ _ _ h => h) (Or.inl ⟨by rfl, ?_⟩) (by assumption) ?_
                rotate_left
                · intro w hSw; (try dsimp only at hSw); go_simp; (try with_reducible rfl)
                try simp only [Act.put, List.setIfInBounds_toArray, List.set_cons_zero, List.set_cons_succ]
                refine wpAnyH_take (i := 1) (oi := { dst := some 23, op := Op.move (Operand.tmp 22), type := 4, pos := "ref.go:281", after := #[{ on := 0, ground := Ground.data }], guard := none }) (v := ?_) rfl (by kernel_rfl) (by kernel_rfl) (by kernel_rfl) (fun _ _ _ h => h) (Or.inl ⟨by rfl, ?_⟩) (by assumption) ?_
                rotate_left
                · intro w hSw; (try dsimp only at hSw); go_simp; (try with_reducible rfl)
                try simp only [Act.put, List.setIfInBounds_toArray, List.set_cons_zero, List.set_cons_succ]
                refine wpAnyH_take (i := 2) (oi := { dst := some 24, op := Op.move (Operand.tmp 0), type := 22, pos := "ref.go:281", after := #[{ on := 1, ground := Ground.guard }], guard := some (1, true) }) (v := ?_) rfl (by kernel_rfl) (by kernel_rfl) (by kernel_rfl) (fun _ _ _ h => h) (Or.inl ⟨by rfl, ?_⟩) (by assumption) ?_
                rotate_left
                · intro w hSw; (try dsimp only at hSw); go_simp; (try with_reducible rfl)
                try simp only [Act.put, List.setIfInBounds_toArray, List.set_cons_zero, List.set_cons_succ]
                refine wpAnyH_take (i := 3) (oi := { dst := some 25, op := Op.move (Operand.tmp 6), type := 3, pos := "ref.go:281", after := #[{ on := 1, ground := Ground.guard }], guard := some (1, true) }) (v := ?_) rfl (by kernel_rfl) (by kernel_rfl) (by kernel_rfl) (fun _ _ _ h => h) (Or.inl ⟨by rfl, ?_⟩) (by assumption) ?_
                rotate_left
                · intro w hSw; (try dsimp only at hSw); go_simp; (try with_reducible rfl)
                try simp only [Act.put, List.setIfInBounds_toArray, List.set_cons_zero, List.set_cons_succ]
                refine wpAnyH_take (i := 4) (oi := { dst := some 26, op := Op.indexAddr 22 (Operand.tmp 24) (Operand.tmp 25), type := 0, pos := "ref.go:281", after := #[{ on := 2, ground := Ground.data }, { on := 3, ground := Ground.data }, { on := 1, ground := Ground.guard }], guard := some (1, true) }) (v := ?_) rfl (by kernel_rfl) (by kernel_rfl) (by kernel_rfl) (fun _ _ _ h => h) (Or.inl ⟨by rfl, ?_⟩) (by assumption) ?_
                rotate_left
                · intro w hSw; (try dsimp only at hSw); go_simp; (try with_reducible rfl)
                try simp only [Act.put, List.setIfInBounds_toArray, List.set_cons_zero, List.set_cons_succ]
                refine wpAnyH_take (i := 5) (oi := { dst := some 27, op := Op.fieldAddr 32 (Operand.tmp 26) 1, type := 0, pos := "ref.go:281", after := #[{ on := 4, ground := Ground.data }, { on := 1, ground := Ground.guard }], guard := some (1, true) }) (v := ?_) rfl (by kernel_rfl) (by kernel_rfl) (by kernel_rfl) (fun _ _ _ h => h) (Or.inl ⟨by rfl, ?_⟩) (by assumption) ?_
                rotate_left
                · intro w hSw; (try dsimp only at hSw); go_simp; (try with_reducible rfl)
                try simp only [Act.put, List.setIfInBounds_toArray, List.set_cons_zero, List.set_cons_succ]
                refine wpAnyH_take (i := 6) (oi := { dst := some 28, op := Op.load 3 (Operand.tmp 27), type := 3, pos := "ref.go:281", after := #[{ on := 5, ground := Ground.data }, { on := 1, ground := Ground.guard }], guard := some (1, true) }) (v := ?_) rfl (by kernel_rfl) (by kernel_rfl) (by kernel_rfl) (fun _ _ _ h => h) (Or.inl ⟨by rfl, ?_⟩) (by assumption) ?_
                rotate_left
                · intro w hSw; (try dsimp only at hSw); go_simp; (try with_reducible rfl)
                try simp only [Act.put, List.setIfInBounds_toArray, List.set_cons_zero, List.set_cons_succ]
                refine wpAnyH_take (i := 7) (oi := { dst := some 29, op := Op.move (Operand.tmp 0), type := 22, pos := "ref.go:281", after := #[{ on := 1, ground := Ground.guard }], guard := some (1, true) }) (v := ?_) rfl (by kernel_rfl) (by kernel_rfl) (by kernel_rfl) (fun _ _ _ h => h) (Or.inl ⟨by rfl, ?_⟩) (by assumption) ?_
                rotate_left
                · intro w hSw; (try dsimp only at hSw); go_simp; (try with_reducible rfl)
                try simp only [Act.put, List.setIfInBounds_toArray, List.set_cons_zero, List.set_cons_succ]
                refine wpAnyH_take (i := 8) (oi := { dst := some 30, op := Op.move (Operand.tmp 4), type := 3, pos := "ref.go:281", after := #[{ on := 1, ground := Ground.guard }], guard := some (1, true) }) (v := ?_) rfl (by kernel_rfl) (by kernel_rfl) (by kernel_rfl) (fun _ _ _ h => h) (Or.inl ⟨by rfl, ?_⟩) (by assumption) ?_
                rotate_left
                · intro w hSw; (try dsimp only at hSw); go_simp; (try with_reducible rfl)
                try simp only [Act.put, List.setIfInBounds_toArray, List.set_cons_zero, List.set_cons_succ]
                refine wpAnyH_take (i := 9) (oi := { dst := some 31, op := Op.indexAddr 22 (Operand.tmp 29) (Operand.tmp 30), type := 0, pos := "ref.go:281", after := #[{ on := 7, ground := Ground.data }, { on := 8, ground := Ground.data }, { on := 1, ground := Ground.guard }], guard := some (1, true) }) (v := ?_) rfl (by kernel_rfl) (by kernel_rfl) (by kernel_rfl) (fun _ _ _ h => h) (Or.inl ⟨by rfl, ?_⟩) (by assumption) ?_
                rotate_left
                · intro w hSw; (try dsimp only at hSw); go_simp; (try with_reducible rfl)
                try simp only [Act.put, List.setIfInBounds_toArray, List.set_cons_zero, List.set_cons_succ]
                refine wpAnyH_take (i := 10) (oi := { dst := some 32, op := Op.fieldAddr 32 (Operand.tmp 31) 1, type := 0, pos := "ref.go:281", after := #[{ on := 9, ground := Ground.data }, { on := 1, ground := Ground.guard }], guard := some (1, true) }) (v := ?_) rfl (by kernel_rfl) (by kernel_rfl) (by kernel_rfl) (fun _ _ _ h => h) (Or.inl ⟨by rfl, ?_⟩) (by assumption) ?_
                rotate_left
                · intro w hSw; (try dsimp only at hSw); go_simp; (try with_reducible rfl)
                try simp only [Act.put, List.setIfInBounds_toArray, List.set_cons_zero, List.set_cons_succ]
                refine wpAnyH_take (i := 11) (oi := { dst := some 33, op := Op.load 3 (Operand.tmp 32), type := 3, pos := "ref.go:281", after := #[{ on := 10, ground := Ground.data }, { on := 1, ground := Ground.guard }], guard := some (1, true) }) (v := ?_) rfl (by kernel_rfl) (by kernel_rfl) (by kernel_rfl) (fun _ _ _ h => h) (Or.inl ⟨by rfl, ?_⟩) (by assumption) ?_
                rotate_left
                · intro w hSw; (try dsimp only at hSw); go_simp; (try with_reducible rfl)
                try simp only [Act.put, List.setIfInBounds_toArray, List.set_cons_zero, List.set_cons_succ]
                refine wpAnyH_take (i := 12) (oi := { dst := some 34, op := Op.binOp BinOp.neq 3 (Operand.tmp 28) (Operand.tmp 33) 3, type := 4, pos := "ref.go:281", after := #[{ on := 6, ground := Ground.data }, { on := 11, ground := Ground.data }, { on := 1, ground := Ground.guard }], guard := some (1, true) }) (v := ?_) rfl (by kernel_rfl) (by kernel_rfl) (by kernel_rfl) (fun _ _ _ h => h) (Or.inl ⟨by rfl, ?_⟩) (by assumption) ?_
                rotate_left
                · intro w hSw; (try dsimp only at hSw); go_simp; (try with_reducible rfl)
                try simp only [Act.put, List.setIfInBounds_toArray, List.set_cons_zero, List.set_cons_succ]
                refine wpAnyH_take (i := 13) (oi := { dst := some 35, op := Op.move (Operand.tmp 34), type := 4, pos := "ref.go:281", after := #[{ on := 12, ground := Ground.data }, { on := 1, ground := Ground.chain }, { on := 1, ground := Ground.guard }], guard := some (1, true) }) (v := ?_) rfl (by kernel_rfl) (by kernel_rfl) (by kernel_rfl) (fun _ _ _ h => h) (Or.inl ⟨by rfl, ?_⟩) (by assumption) ?_
                rotate_left
                · intro w hSw; (try dsimp only at hSw); go_simp; (try with_reducible rfl)
                try simp only [Act.put, List.setIfInBounds_toArray, List.set_cons_zero, List.set_cons_succ]
                refine wpAnyH_take (i := 14) (oi := { dst := some 36, op := Op.move (Operand.tmp 0), type := 22, pos := "ref.go:281", after := #[{ on := 13, ground := Ground.guard }], guard := some (13, false) }) (v := ?_) rfl (by kernel_rfl) (by kernel_rfl) (by kernel_rfl) (fun _ _ _ h => h) (Or.inl ⟨by rfl, ?_⟩) (by assumption) ?_
                rotate_left
                · intro w hSw; (try dsimp only at hSw); go_simp; (try with_reducible rfl)
                try simp only [Act.put, List.setIfInBounds_toArray, List.set_cons_zero, List.set_cons_succ]
                refine wpAnyH_take (i := 15) (oi := { dst := some 37, op := Op.move (Operand.tmp 6), type := 3, pos := "ref.go:281", after := #[{ on := 13, ground := Ground.guard }], guard := some (13, false) }) (v := ?_) rfl (by kernel_rfl) (by kernel_rfl) (by kernel_rfl) (fun _ _ _ h => h) (Or.inl ⟨by rfl, ?_⟩) (by assumption) ?_
                rotate_left
                · intro w hSw; (try dsimp only at hSw); go_simp; (try with_reducible rfl)
                try simp only [Act.put, List.setIfInBounds_toArray, List.set_cons_zero, List.set_cons_succ]
                refine wpAnyH_take (i := 16) (oi := { dst := some 38, op := Op.indexAddr 22 (Operand.tmp 36) (Operand.tmp 37), type := 0, pos := "ref.go:281", after := #[{ on := 14, ground := Ground.data }, { on := 15, ground := Ground.data }, { on := 13, ground := Ground.guard }], guard := some (13, false) }) (v := ?_) rfl (by kernel_rfl) (by kernel_rfl) (by kernel_rfl) (fun _ _ _ h => h) (Or.inl ⟨by rfl, ?_⟩) (by assumption) ?_
                rotate_left
                · intro w hSw; (try dsimp only at hSw); go_simp; (try with_reducible rfl)
                try simp only [Act.put, List.setIfInBounds_toArray, List.set_cons_zero, List.set_cons_succ]
                refine wpAnyH_take (i := 17) (oi := { dst := some 39, op := Op.fieldAddr 32 (Operand.tmp 38) 2, type := 0, pos := "ref.go:281", after := #[{ on := 16, ground := Ground.data }, { on := 13, ground := Ground.guard }], guard := some (13, false) }) (v := ?_) rfl (by kernel_rfl) (by kernel_rfl) (by kernel_rfl) (fun _ _ _ h => h) (Or.inl ⟨by rfl, ?_⟩) (by assumption) ?_
                rotate_left
                · intro w hSw; (try dsimp only at hSw); go_simp; (try with_reducible rfl)
                try simp only [Act.put, List.setIfInBounds_toArray, List.set_cons_zero, List.set_cons_succ]
                refine wpAnyH_take (i := 18) (oi := { dst := some 40, op := Op.load 30 (Operand.tmp 39), type := 30, pos := "ref.go:281", after := #[{ on := 17, ground := Ground.data }, { on := 13, ground := Ground.guard }], guard := some (13, false) }) (v := .agg (ss).toArray) rfl (by kernel_rfl) (by kernel_rfl) (by kernel_rfl) (fun _ _ _ h => h) (yieldsIf_load_mid (by rfl) 30 (.tmp 39) rfl b (o + k * 34 + 2) (by rfl) (ss) _ (fun _ h => h.2.2.1) Try.underlying30 rfl l1) (by assumption) ?_
                try simp only [Act.put, List.setIfInBounds_toArray, List.set_cons_zero, List.set_cons_succ]
                refine wpAnyH_take (i := 19) (oi := { dst := some 41, op := Op.move (Operand.tmp 0), type := 22, pos := "ref.go:281", after := #[{ on := 13, ground := Ground.guard }], guard := some (13, false) }) (v := ?_) rfl (by kernel_rfl) (by kernel_rfl) (by kernel_rfl) (fun _ _ _ h => h) (Or.inl ⟨by rfl, ?_⟩) (by assumption) ?_
                rotate_left
                · intro w hSw; (try dsimp only at hSw); go_simp; (try with_reducible rfl)
                try simp only [Act.put, List.setIfInBounds_toArray, List.set_cons_zero, List.set_cons_succ]
                refine wpAnyH_take (i := 20) (oi := { dst := some 42, op := Op.move (Operand.tmp 4), type := 3, pos := "ref.go:281", after := #[{ on := 13, ground := Ground.guard }], guard := some (13, false) }) (v := ?_) rfl (by kernel_rfl) (by kernel_rfl) (by kernel_rfl) (fun _ _ _ h => h) (Or.inl ⟨by rfl, ?_⟩) (by assumption) ?_
                rotate_left
                · intro w hSw; (try dsimp only at hSw); go_simp; (try with_reducible rfl)
                try simp only [Act.put, List.setIfInBounds_toArray, List.set_cons_zero, List.set_cons_succ]
                refine wpAnyH_take (i := 21) (oi := { dst := some 43, op := Op.indexAddr 22 (Operand.tmp 41) (Operand.tmp 42), type := 0, pos := "ref.go:281", after := #[{ on := 19, ground := Ground.data }, { on := 20, ground := Ground.data }, { on := 13, ground := Ground.guard }], guard := some (13, false) }) (v := ?_) rfl (by kernel_rfl) (by kernel_rfl) (by kernel_rfl) (fun _ _ _ h => h) (Or.inl ⟨by rfl, ?_⟩) (by assumption) ?_
                rotate_left
                · intro w hSw; (try dsimp only at hSw); go_simp; (try with_reducible rfl)
                try simp only [Act.put, List.setIfInBounds_toArray, List.set_cons_zero, List.set_cons_succ]
                refine wpAnyH_take (i := 22) (oi := { dst := some 44, op := Op.fieldAddr 32 (Operand.tmp 43) 2, type := 0, pos := "ref.go:281", after := #[{ on := 21, ground := Ground.data }, { on := 13, ground := Ground.guard }], guard := some (13, false) }) (v := ?_) rfl (by kernel_rfl) (by kernel_rfl) (by kernel_rfl) (fun _ _ _ h => h) (Or.inl ⟨by rfl, ?_⟩) (by assumption) ?_
                rotate_left
                · intro w hSw; (try dsimp only at hSw); go_simp; (try with_reducible rfl)
                try simp only [Act.put, List.setIfInBounds_toArray, List.set_cons_zero, List.set_cons_succ]
                refine wpAnyH_take (i := 23) (oi := { dst := some 45, op := Op.load 30 (Operand.tmp 44), type := 30, pos := "ref.go:281", after := #[{ on := 22, ground := Ground.data }, { on := 13, ground := Ground.guard }], guard := some (13, false) }) (v := .agg (tt).toArray) rfl (by kernel_rfl) (by kernel_rfl) (by kernel_rfl) (fun _ _ _ h => h) (yieldsIf_load_mid (by rfl) 30 (.tmp 44) rfl b (o + i * 34 + 2) (by rfl) (tt) _ (fun _ h => h.2.2.2) Try.underlying30 rfl l2) (by assumption) ?_
                try simp only [Act.put, List.setIfInBounds_toArray, List.set_cons_zero, List.set_cons_succ]
                refine wpAnyH_take (i := 24) (oi := { dst := some 46, op := Op.binOp BinOp.neq 30 (Operand.tmp 40) (Operand.tmp 45) 30, type := 4, pos := "ref.go:281", after := #[{ on := 18, ground := Ground.data }, { on := 23, ground := Ground.data }, { on := 13, ground := Ground.guard }], guard := some (13, false) }) (v := ?_) rfl (by kernel_rfl) (by kernel_rfl) (by kernel_rfl) (fun _ _ _ h => h) (Or.inl ⟨by rfl, ?_⟩) (by assumption) ?_
                rotate_left
                · intro w hSw; (try dsimp only at hSw); go_simp; (try with_reducible rfl)
                try simp only [Act.put, List.setIfInBounds_toArray, List.set_cons_zero, List.set_cons_succ]
                refine wpAnyH_take (i := 25) (oi := { dst := some 47, op := Op.pick (Operand.tmp 35) (Operand.const (Value.bool true)) (Operand.tmp 46), type := 4, pos := "ref.go:281", after := #[{ on := 13, ground := Ground.data }, { on := 24, ground := Ground.data }, { on := 1, ground := Ground.guard }], guard := some (1, true) }) (v := ?_) rfl (by kernel_rfl) (by kernel_rfl) (by kernel_rfl) (fun _ _ _ h => h) (Or.inl ⟨by rfl, ?_⟩) (by assumption) ?_
                rotate_left
                · intro w hSw; (try dsimp only at hSw); go_simp; (try with_reducible rfl)
                try simp only [Act.put, List.setIfInBounds_toArray, List.set_cons_zero, List.set_cons_succ]
                refine wpAnyH_take (i := 26) (oi := { dst := some 48, op := Op.pick (Operand.tmp 23) (Operand.tmp 47) (Operand.const (Value.bool false)), type := 4, pos := "ref.go:281", after := #[{ on := 1, ground := Ground.data }, { on := 25, ground := Ground.data }], guard := none }) (v := ?_) rfl (by kernel_rfl) (by kernel_rfl) (by kernel_rfl) (fun _ _ _ h => h) (Or.inl ⟨by rfl, ?_⟩) (by assumption) ?_
                rotate_left
                · intro w hSw; (try dsimp only at hSw); go_simp; (try with_reducible rfl)
                try simp only [Act.put, List.setIfInBounds_toArray, List.set_cons_zero, List.set_cons_succ]
                refine wpAnyH_take (i := 27) (oi := { dst := some 5, op := Op.assign (Operand.tmp 48), type := 4, pos := "ref.go:281", after := #[{ on := 26, ground := Ground.data }, { on := 13, ground := Ground.chain }, { on := 0, ground := Ground.phase }, { on := 1, ground := Ground.phase }, { on := 2, ground := Ground.phase }, { on := 3, ground := Ground.phase }, { on := 4, ground := Ground.phase }, { on := 5, ground := Ground.phase }, { on := 6, ground := Ground.phase }, { on := 7, ground := Ground.phase }, { on := 8, ground := Ground.phase }, { on := 9, ground := Ground.phase }, { on := 10, ground := Ground.phase }, { on := 11, ground := Ground.phase }, { on := 12, ground := Ground.phase }, { on := 13, ground := Ground.phase }, { on := 14, ground := Ground.phase }, { on := 15, ground := Ground.phase }, { on := 16, ground := Ground.phase }, { on := 17, ground := Ground.phase }, { on := 18, ground := Ground.phase }, { on := 19, ground := Ground.phase }, { on := 20, ground := Ground.phase }, { on := 21, ground := Ground.phase }, { on := 22, ground := Ground.phase }, { on := 23, ground := Ground.phase }, { on := 24, ground := Ground.phase }, { on := 25, ground := Ground.phase }, { on := 26, ground := Ground.phase }], guard := none }) (v := ?_) rfl (by kernel_rfl) (by kernel_rfl) (by kernel_rfl) (fun _ _ _ h => h) (Or.inl ⟨by rfl, ?_⟩) (by assumption) ?_
                rotate_left
                · intro w hSw; (try dsimp only at hSw); go_simp; (try with_reducible rfl)
                try simp only [Act.put, List.setIfInBounds_toArray, List.set_cons_zero, List.set_cons_succ]
                refine wpAnyH_done (by kernel_rfl) ?_ _
                go_wp2_with fail
                go_roundg (i - (k + 1))
                case measure => omega
                case rel => exact ⟨k + 1, false, rfl, by go_num, by omega, by omega, HW2, HB2⟩
              · have HB2 := hide (show true = decide (f.k ∉ hds (fs.take (k + 1))) by rw [unhide HSTP, ← unhide HB, decide_eq_false (fun e => es ((unhide HKF).1 e).2)]; rfl)
                rw [decide_eq_false es] at he
                generalize sC g.s = ss at *
                generalize sC f.s = tt at *
                generalize g.z = z1 at *
                generalize f.z = z2 at *
                clear HB HSTP HKF ez es
                go_wp2_with fail
                refine wp_region_held_drew (S := fun w' => w'.cell? ⟨b, o + k * 34 + 1, none⟩ = some (.int .i64 z1) ∧ w'.cell? ⟨b, o + i * 34 + 1, none⟩ = some (.int .i64 z2) ∧ w'.rangeAt b (o + k * 34 + 2) ss ∧ w'.rangeAt b (o + i * 34 + 2) tt) (by kernel_rfl) ?_ (fun hHeld => ?_)
                · exact unhide HS
                refine wpAnyH_take (i := 0) (oi := { dst := some 22, op := Op.move (Operand.tmp 5), type := 4, pos := "ref.go:281", after := #[], guard := none }) (v := ?_) rfl (by kernel_rfl) (by kernel_rfl) (by kernel_rfl) (fun _ _ _ h => h) (Or.inl ⟨by rfl, ?_⟩) (by assumption) ?_
                rotate_left
                · intro w hSw; (try dsimp only at hSw); go_simp; (try with_reducible rfl)
                try simp only [Act.put, List.setIfInBounds_toArray, List.set_cons_zero, List.set_cons_succ]
                refine wpAnyH_take (i := 1) (oi := { dst := some 23, op := Op.move (Operand.tmp 22), type := 4, pos := "ref.go:281", after := #[{ on := 0, ground := Ground.data }], guard := none }) (v := ?_) rfl (by kernel_rfl) (by kernel_rfl) (by kernel_rfl) (fun _ _ _ h => h) (Or.inl ⟨by rfl, ?_⟩) (by assumption) ?_
                rotate_left
                · intro w hSw; (try dsimp only at hSw); go_simp; (try with_reducible rfl)
                try simp only [Act.put, List.setIfInBounds_toArray, List.set_cons_zero, List.set_cons_succ]
                refine wpAnyH_take (i := 2) (oi := { dst := some 24, op := Op.move (Operand.tmp 0), type := 22, pos := "ref.go:281", after := #[{ on := 1, ground := Ground.guard }], guard := some (1, true) }) (v := ?_) rfl (by kernel_rfl) (by kernel_rfl) (by kernel_rfl) (fun _ _ _ h => h) (Or.inl ⟨by rfl, ?_⟩) (by assumption) ?_
                rotate_left
                · intro w hSw; (try dsimp only at hSw); go_simp; (try with_reducible rfl)
                try simp only [Act.put, List.setIfInBounds_toArray, List.set_cons_zero, List.set_cons_succ]
                refine wpAnyH_take (i := 3) (oi := { dst := some 25, op := Op.move (Operand.tmp 6), type := 3, pos := "ref.go:281", after := #[{ on := 1, ground := Ground.guard }], guard := some (1, true) }) (v := ?_) rfl (by kernel_rfl) (by kernel_rfl) (by kernel_rfl) (fun _ _ _ h => h) (Or.inl ⟨by rfl, ?_⟩) (by assumption) ?_
                rotate_left
                · intro w hSw; (try dsimp only at hSw); go_simp; (try with_reducible rfl)
                try simp only [Act.put, List.setIfInBounds_toArray, List.set_cons_zero, List.set_cons_succ]
                refine wpAnyH_take (i := 4) (oi := { dst := some 26, op := Op.indexAddr 22 (Operand.tmp 24) (Operand.tmp 25), type := 0, pos := "ref.go:281", after := #[{ on := 2, ground := Ground.data }, { on := 3, ground := Ground.data }, { on := 1, ground := Ground.guard }], guard := some (1, true) }) (v := ?_) rfl (by kernel_rfl) (by kernel_rfl) (by kernel_rfl) (fun _ _ _ h => h) (Or.inl ⟨by rfl, ?_⟩) (by assumption) ?_
                rotate_left
                · intro w hSw; (try dsimp only at hSw); go_simp; (try with_reducible rfl)
                try simp only [Act.put, List.setIfInBounds_toArray, List.set_cons_zero, List.set_cons_succ]
                refine wpAnyH_take (i := 5) (oi := { dst := some 27, op := Op.fieldAddr 32 (Operand.tmp 26) 1, type := 0, pos := "ref.go:281", after := #[{ on := 4, ground := Ground.data }, { on := 1, ground := Ground.guard }], guard := some (1, true) }) (v := ?_) rfl (by kernel_rfl) (by kernel_rfl) (by kernel_rfl) (fun _ _ _ h => h) (Or.inl ⟨by rfl, ?_⟩) (by assumption) ?_
                rotate_left
                · intro w hSw; (try dsimp only at hSw); go_simp; (try with_reducible rfl)
                try simp only [Act.put, List.setIfInBounds_toArray, List.set_cons_zero, List.set_cons_succ]
                refine wpAnyH_take (i := 6) (oi := { dst := some 28, op := Op.load 3 (Operand.tmp 27), type := 3, pos := "ref.go:281", after := #[{ on := 5, ground := Ground.data }, { on := 1, ground := Ground.guard }], guard := some (1, true) }) (v := ?_) rfl (by kernel_rfl) (by kernel_rfl) (by kernel_rfl) (fun _ _ _ h => h) (Or.inl ⟨by rfl, ?_⟩) (by assumption) ?_
                rotate_left
                · intro w hSw; (try dsimp only at hSw); go_simp; (try with_reducible rfl)
                try simp only [Act.put, List.setIfInBounds_toArray, List.set_cons_zero, List.set_cons_succ]
                refine wpAnyH_take (i := 7) (oi := { dst := some 29, op := Op.move (Operand.tmp 0), type := 22, pos := "ref.go:281", after := #[{ on := 1, ground := Ground.guard }], guard := some (1, true) }) (v := ?_) rfl (by kernel_rfl) (by kernel_rfl) (by kernel_rfl) (fun _ _ _ h => h) (Or.inl ⟨by rfl, ?_⟩) (by assumption) ?_
                rotate_left
                · intro w hSw; (try dsimp only at hSw); go_simp; (try with_reducible rfl)
                try simp only [Act.put, List.setIfInBounds_toArray, List.set_cons_zero, List.set_cons_succ]
                refine wpAnyH_take (i := 8) (oi := { dst := some 30, op := Op.move (Operand.tmp 4), type := 3, pos := "ref.go:281", after := #[{ on := 1, ground := Ground.guard }], guard := some (1, true) }) (v := ?_) rfl (by kernel_rfl) (by kernel_rfl) (by kernel_rfl) (fun _ _ _ h => h) (Or.inl ⟨by rfl, ?_⟩) (by assumption) ?_
                rotate_left
                · intro w hSw; (try dsimp only at hSw); go_simp; (try with_reducible rfl)
                try simp only [Act.put, List.setIfInBounds_toArray, List.set_cons_zero, List.set_cons_succ]
                refine wpAnyH_take (i := 9) (oi := { dst := some 31, op := Op.indexAddr 22 (Operand.tmp 29) (Operand.tmp 30), type := 0, pos := "ref.go:281", after := #[{ on := 7, ground := Ground.data }, { on := 8, ground := Ground.data }, { on := 1, ground := Ground.guard }], guard := some (1, true) }) (v := ?_) rfl (by kernel_rfl) (by kernel_rfl) (by kernel_rfl) (fun _ _ _ h => h) (Or.inl ⟨by rfl, ?_⟩) (by assumption) ?_
                rotate_left
                · intro w hSw; (try dsimp only at hSw); go_simp; (try with_reducible rfl)
                try simp only [Act.put, List.setIfInBounds_toArray, List.set_cons_zero, List.set_cons_succ]
                refine wpAnyH_take (i := 10) (oi := { dst := some 32, op := Op.fieldAddr 32 (Operand.tmp 31) 1, type := 0, pos := "ref.go:281", after := #[{ on := 9, ground := Ground.data }, { on := 1, ground := Ground.guard }], guard := some (1, true) }) (v := ?_) rfl (by kernel_rfl) (by kernel_rfl) (by kernel_rfl) (fun _ _ _ h => h) (Or.inl ⟨by rfl, ?_⟩) (by assumption) ?_
                rotate_left
                · intro w hSw; (try dsimp only at hSw); go_simp; (try with_reducible rfl)
                try simp only [Act.put, List.setIfInBounds_toArray, List.set_cons_zero, List.set_cons_succ]
                refine wpAnyH_take (i := 11) (oi := { dst := some 33, op := Op.load 3 (Operand.tmp 32), type := 3, pos := "ref.go:281", after := #[{ on := 10, ground := Ground.data }, { on := 1, ground := Ground.guard }], guard := some (1, true) }) (v := ?_) rfl (by kernel_rfl) (by kernel_rfl) (by kernel_rfl) (fun _ _ _ h => h) (Or.inl ⟨by rfl, ?_⟩) (by assumption) ?_
                rotate_left
                · intro w hSw; (try dsimp only at hSw); go_simp; (try with_reducible rfl)
                try simp only [Act.put, List.setIfInBounds_toArray, List.set_cons_zero, List.set_cons_succ]
                refine wpAnyH_take (i := 12) (oi := { dst := some 34, op := Op.binOp BinOp.neq 3 (Operand.tmp 28) (Operand.tmp 33) 3, type := 4, pos := "ref.go:281", after := #[{ on := 6, ground := Ground.data }, { on := 11, ground := Ground.data }, { on := 1, ground := Ground.guard }], guard := some (1, true) }) (v := ?_) rfl (by kernel_rfl) (by kernel_rfl) (by kernel_rfl) (fun _ _ _ h => h) (Or.inl ⟨by rfl, ?_⟩) (by assumption) ?_
                rotate_left
                · intro w hSw; (try dsimp only at hSw); go_simp; (try with_reducible rfl)
                try simp only [Act.put, List.setIfInBounds_toArray, List.set_cons_zero, List.set_cons_succ]
                refine wpAnyH_take (i := 13) (oi := { dst := some 35, op := Op.move (Operand.tmp 34), type := 4, pos := "ref.go:281", after := #[{ on := 12, ground := Ground.data }, { on := 1, ground := Ground.chain }, { on := 1, ground := Ground.guard }], guard := some (1, true) }) (v := ?_) rfl (by kernel_rfl) (by kernel_rfl) (by kernel_rfl) (fun _ _ _ h => h) (Or.inl ⟨by rfl, ?_⟩) (by assumption) ?_
                rotate_left
                · intro w hSw; (try dsimp only at hSw); go_simp; (try with_reducible rfl)
                try simp only [Act.put, List.setIfInBounds_toArray, List.set_cons_zero, List.set_cons_succ]
                refine wpAnyH_take (i := 14) (oi := { dst := some 36, op := Op.move (Operand.tmp 0), type := 22, pos := "ref.go:281", after := #[{ on := 13, ground := Ground.guard }], guard := some (13, false) }) (v := ?_) rfl (by kernel_rfl) (by kernel_rfl) (by kernel_rfl) (fun _ _ _ h => h) (Or.inl ⟨by rfl, ?_⟩) (by assumption) ?_
                rotate_left
                · intro w hSw; (try dsimp only at hSw); go_simp; (try with_reducible rfl)
                try simp only [Act.put, List.setIfInBounds_toArray, List.set_cons_zero, List.set_cons_succ]
                refine wpAnyH_take (i := 15) (oi := { dst := some 37, op := Op.move (Operand.tmp 6), type := 3, pos := "ref.go:281", after := #[{ on := 13, ground := Ground.guard }], guard := some (13, false) }) (v := ?_) rfl (by kernel_rfl) (by kernel_rfl) (by kernel_rfl) (fun _ _ _ h => h) (Or.inl ⟨by rfl, ?_⟩) (by assumption) ?_
                rotate_left
                · intro w hSw; (try dsimp only at hSw); go_simp; (try with_reducible rfl)
                try simp only [Act.put, List.setIfInBounds_toArray, List.set_cons_zero, List.set_cons_succ]
                refine wpAnyH_take (i := 16) (oi := { dst := some 38, op := Op.indexAddr 22 (Operand.tmp 36) (Operand.tmp 37), type := 0, pos := "ref.go:281", after := #[{ on := 14, ground := Ground.data }, { on := 15, ground := Ground.data }, { on := 13, ground := Ground.guard }], guard := some (13, false) }) (v := ?_) rfl (by kernel_rfl) (by kernel_rfl) (by kernel_rfl) (fun _ _ _ h => h) (Or.inl ⟨by rfl, ?_⟩) (by assumption) ?_
                rotate_left
                · intro w hSw; (try dsimp only at hSw); go_simp; (try with_reducible rfl)
                try simp only [Act.put, List.setIfInBounds_toArray, List.set_cons_zero, List.set_cons_succ]
                refine wpAnyH_take (i := 17) (oi := { dst := some 39, op := Op.fieldAddr 32 (Operand.tmp 38) 2, type := 0, pos := "ref.go:281", after := #[{ on := 16, ground := Ground.data }, { on := 13, ground := Ground.guard }], guard := some (13, false) }) (v := ?_) rfl (by kernel_rfl) (by kernel_rfl) (by kernel_rfl) (fun _ _ _ h => h) (Or.inl ⟨by rfl, ?_⟩) (by assumption) ?_
                rotate_left
                · intro w hSw; (try dsimp only at hSw); go_simp; (try with_reducible rfl)
                try simp only [Act.put, List.setIfInBounds_toArray, List.set_cons_zero, List.set_cons_succ]
                refine wpAnyH_take (i := 18) (oi := { dst := some 40, op := Op.load 30 (Operand.tmp 39), type := 30, pos := "ref.go:281", after := #[{ on := 17, ground := Ground.data }, { on := 13, ground := Ground.guard }], guard := some (13, false) }) (v := .agg (ss).toArray) rfl (by kernel_rfl) (by kernel_rfl) (by kernel_rfl) (fun _ _ _ h => h) (yieldsIf_load_mid (by rfl) 30 (.tmp 39) rfl b (o + k * 34 + 2) (by rfl) (ss) _ (fun _ h => h.2.2.1) Try.underlying30 rfl l1) (by assumption) ?_
                try simp only [Act.put, List.setIfInBounds_toArray, List.set_cons_zero, List.set_cons_succ]
                refine wpAnyH_take (i := 19) (oi := { dst := some 41, op := Op.move (Operand.tmp 0), type := 22, pos := "ref.go:281", after := #[{ on := 13, ground := Ground.guard }], guard := some (13, false) }) (v := ?_) rfl (by kernel_rfl) (by kernel_rfl) (by kernel_rfl) (fun _ _ _ h => h) (Or.inl ⟨by rfl, ?_⟩) (by assumption) ?_
                rotate_left
                · intro w hSw; (try dsimp only at hSw); go_simp; (try with_reducible rfl)
                try simp only [Act.put, List.setIfInBounds_toArray, List.set_cons_zero, List.set_cons_succ]
                refine wpAnyH_take (i := 20) (oi := { dst := some 42, op := Op.move (Operand.tmp 4), type := 3, pos := "ref.go:281", after := #[{ on := 13, ground := Ground.guard }], guard := some (13, false) }) (v := ?_) rfl (by kernel_rfl) (by kernel_rfl) (by kernel_rfl) (fun _ _ _ h => h) (Or.inl ⟨by rfl, ?_⟩) (by assumption) ?_
                rotate_left
                · intro w hSw; (try dsimp only at hSw); go_simp; (try with_reducible rfl)
                try simp only [Act.put, List.setIfInBounds_toArray, List.set_cons_zero, List.set_cons_succ]
                refine wpAnyH_take (i := 21) (oi := { dst := some 43, op := Op.indexAddr 22 (Operand.tmp 41) (Operand.tmp 42), type := 0, pos := "ref.go:281", after := #[{ on := 19, ground := Ground.data }, { on := 20, ground := Ground.data }, { on := 13, ground := Ground.guard }], guard := some (13, false) }) (v := ?_) rfl (by kernel_rfl) (by kernel_rfl) (by kernel_rfl) (fun _ _ _ h => h) (Or.inl ⟨by rfl, ?_⟩) (by assumption) ?_
                rotate_left
                · intro w hSw; (try dsimp only at hSw); go_simp; (try with_reducible rfl)
                try simp only [Act.put, List.setIfInBounds_toArray, List.set_cons_zero, List.set_cons_succ]
                refine wpAnyH_take (i := 22) (oi := { dst := some 44, op := Op.fieldAddr 32 (Operand.tmp 43) 2, type := 0, pos := "ref.go:281", after := #[{ on := 21, ground := Ground.data }, { on := 13, ground := Ground.guard }], guard := some (13, false) }) (v := ?_) rfl (by kernel_rfl) (by kernel_rfl) (by kernel_rfl) (fun _ _ _ h => h) (Or.inl ⟨by rfl, ?_⟩) (by assumption) ?_
                rotate_left
                · intro w hSw; (try dsimp only at hSw); go_simp; (try with_reducible rfl)
                try simp only [Act.put, List.setIfInBounds_toArray, List.set_cons_zero, List.set_cons_succ]
                refine wpAnyH_take (i := 23) (oi := { dst := some 45, op := Op.load 30 (Operand.tmp 44), type := 30, pos := "ref.go:281", after := #[{ on := 22, ground := Ground.data }, { on := 13, ground := Ground.guard }], guard := some (13, false) }) (v := .agg (tt).toArray) rfl (by kernel_rfl) (by kernel_rfl) (by kernel_rfl) (fun _ _ _ h => h) (yieldsIf_load_mid (by rfl) 30 (.tmp 44) rfl b (o + i * 34 + 2) (by rfl) (tt) _ (fun _ h => h.2.2.2) Try.underlying30 rfl l2) (by assumption) ?_
                try simp only [Act.put, List.setIfInBounds_toArray, List.set_cons_zero, List.set_cons_succ]
                refine wpAnyH_take (i := 24) (oi := { dst := some 46, op := Op.binOp BinOp.neq 30 (Operand.tmp 40) (Operand.tmp 45) 30, type := 4, pos := "ref.go:281", after := #[{ on := 18, ground := Ground.data }, { on := 23, ground := Ground.data }, { on := 13, ground := Ground.guard }], guard := some (13, false) }) (v := ?_) rfl (by kernel_rfl) (by kernel_rfl) (by kernel_rfl) (fun _ _ _ h => h) (Or.inl ⟨by rfl, ?_⟩) (by assumption) ?_
                rotate_left
                · intro w hSw; (try dsimp only at hSw); go_simp; (try with_reducible rfl)
                try simp only [Act.put, List.setIfInBounds_toArray, List.set_cons_zero, List.set_cons_succ]
                refine wpAnyH_take (i := 25) (oi := { dst := some 47, op := Op.pick (Operand.tmp 35) (Operand.const (Value.bool true)) (Operand.tmp 46), type := 4, pos := "ref.go:281", after := #[{ on := 13, ground := Ground.data }, { on := 24, ground := Ground.data }, { on := 1, ground := Ground.guard }], guard := some (1, true) }) (v := ?_) rfl (by kernel_rfl) (by kernel_rfl) (by kernel_rfl) (fun _ _ _ h => h) (Or.inl ⟨by rfl, ?_⟩) (by assumption) ?_
                rotate_left
                · intro w hSw; (try dsimp only at hSw); go_simp; (try with_reducible rfl)
                try simp only [Act.put, List.setIfInBounds_toArray, List.set_cons_zero, List.set_cons_succ]
                refine wpAnyH_take (i := 26) (oi := { dst := some 48, op := Op.pick (Operand.tmp 23) (Operand.tmp 47) (Operand.const (Value.bool false)), type := 4, pos := "ref.go:281", after := #[{ on := 1, ground := Ground.data }, { on := 25, ground := Ground.data }], guard := none }) (v := ?_) rfl (by kernel_rfl) (by kernel_rfl) (by kernel_rfl) (fun _ _ _ h => h) (Or.inl ⟨by rfl, ?_⟩) (by assumption) ?_
                rotate_left
                · intro w hSw; (try dsimp only at hSw); go_simp; (try with_reducible rfl)
                try simp only [Act.put, List.setIfInBounds_toArray, List.set_cons_zero, List.set_cons_succ]
                refine wpAnyH_take (i := 27) (oi := { dst := some 5, op := Op.assign (Operand.tmp 48), type := 4, pos := "ref.go:281", after := #[{ on := 26, ground := Ground.data }, { on := 13, ground := Ground.chain }, { on := 0, ground := Ground.phase }, { on := 1, ground := Ground.phase }, { on := 2, ground := Ground.phase }, { on := 3, ground := Ground.phase }, { on := 4, ground := Ground.phase }, { on := 5, ground := Ground.phase }, { on := 6, ground := Ground.phase }, { on := 7, ground := Ground.phase }, { on := 8, ground := Ground.phase }, { on := 9, ground := Ground.phase }, { on := 10, ground := Ground.phase }, { on := 11, ground := Ground.phase }, { on := 12, ground := Ground.phase }, { on := 13, ground := Ground.phase }, { on := 14, ground := Ground.phase }, { on := 15, ground := Ground.phase }, { on := 16, ground := Ground.phase }, { on := 17, ground := Ground.phase }, { on := 18, ground := Ground.phase }, { on := 19, ground := Ground.phase }, { on := 20, ground := Ground.phase }, { on := 21, ground := Ground.phase }, { on := 22, ground := Ground.phase }, { on := 23, ground := Ground.phase }, { on := 24, ground := Ground.phase }, { on := 25, ground := Ground.phase }, { on := 26, ground := Ground.phase }], guard := none }) (v := ?_) rfl (by kernel_rfl) (by kernel_rfl) (by kernel_rfl) (fun _ _ _ h => h) (Or.inl ⟨by rfl, ?_⟩) (by assumption) ?_
                rotate_left
                · intro w hSw; (try dsimp only at hSw); go_simp; (try with_reducible rfl)
                try simp only [Act.put, List.setIfInBounds_toArray, List.set_cons_zero, List.set_cons_succ]
                refine wpAnyH_done (by kernel_rfl) ?_ _
                go_wp2_with fail
                go_roundg (i - (k + 1))
                case measure => omega
                case rel => exact ⟨k + 1, true, rfl, by go_num, by omega, by omega, HW2, HB2⟩
            · have ez2 : (g.z != f.z) = true := by simpa using ez
              have HB2 := hide (show true = decide (f.k ∉ hds (fs.take (k + 1))) by rw [unhide HSTP, ← unhide HB, decide_eq_false (fun e => ez ((unhide HKF).1 e).1)]; rfl)
              generalize sC g.s = ss at *
              generalize sC f.s = tt at *
              generalize g.z = z1 at *
              generalize f.z = z2 at *
              clear HB HSTP HKF ez he
              go_wp2_with fail
              refine wp_region_held_drew (S := fun w' => w'.cell? ⟨b, o + k * 34 + 1, none⟩ = some (.int .i64 z1) ∧ w'.cell? ⟨b, o + i * 34 + 1, none⟩ = some (.int .i64 z2) ∧ w'.rangeAt b (o + k * 34 + 2) ss ∧ w'.rangeAt b (o + i * 34 + 2) tt) (by kernel_rfl) ?_ (fun hHeld => ?_)
              · exact unhide HS
              refine wpAnyH_take (i := 0) (oi := { dst := some 22, op := Op.move (Operand.tmp 5), type := 4, pos := "ref.go:281", after := #[], guard := none }) (v := ?_) rfl (by kernel_rfl) (by kernel_rfl) (by kernel_rfl) (fun _ _ _ h => h) (Or.inl ⟨by rfl, ?_⟩) (by assumption) ?_
              rotate_left
              · intro w hSw; (try dsimp only at hSw); go_simp; (try with_reducible rfl)
              try simp only [Act.put, List.setIfInBounds_toArray, List.set_cons_zero, List.set_cons_succ]
              refine wpAnyH_take (i := 1) (oi := { dst := some 23, op := Op.move (Operand.tmp 22), type := 4, pos := "ref.go:281", after := #[{ on := 0, ground := Ground.data }], guard := none }) (v := ?_) rfl (by kernel_rfl) (by kernel_rfl) (by kernel_rfl) (fun _ _ _ h => h) (Or.inl ⟨by rfl, ?_⟩) (by assumption) ?_
              rotate_left
              · intro w hSw; (try dsimp only at hSw); go_simp; (try with_reducible rfl)
              try simp only [Act.put, List.setIfInBounds_toArray, List.set_cons_zero, List.set_cons_succ]
              refine wpAnyH_take (i := 2) (oi := { dst := some 24, op := Op.move (Operand.tmp 0), type := 22, pos := "ref.go:281", after := #[{ on := 1, ground := Ground.guard }], guard := some (1, true) }) (v := ?_) rfl (by kernel_rfl) (by kernel_rfl) (by kernel_rfl) (fun _ _ _ h => h) (Or.inl ⟨by rfl, ?_⟩) (by assumption) ?_
              rotate_left
              · intro w hSw; (try dsimp only at hSw); go_simp; (try with_reducible rfl)
              try simp only [Act.put, List.setIfInBounds_toArray, List.set_cons_zero, List.set_cons_succ]
              refine wpAnyH_take (i := 3) (oi := { dst := some 25, op := Op.move (Operand.tmp 6), type := 3, pos := "ref.go:281", after := #[{ on := 1, ground := Ground.guard }], guard := some (1, true) }) (v := ?_) rfl (by kernel_rfl) (by kernel_rfl) (by kernel_rfl) (fun _ _ _ h => h) (Or.inl ⟨by rfl, ?_⟩) (by assumption) ?_
              rotate_left
              · intro w hSw; (try dsimp only at hSw); go_simp; (try with_reducible rfl)
              try simp only [Act.put, List.setIfInBounds_toArray, List.set_cons_zero, List.set_cons_succ]
              refine wpAnyH_take (i := 4) (oi := { dst := some 26, op := Op.indexAddr 22 (Operand.tmp 24) (Operand.tmp 25), type := 0, pos := "ref.go:281", after := #[{ on := 2, ground := Ground.data }, { on := 3, ground := Ground.data }, { on := 1, ground := Ground.guard }], guard := some (1, true) }) (v := ?_) rfl (by kernel_rfl) (by kernel_rfl) (by kernel_rfl) (fun _ _ _ h => h) (Or.inl ⟨by rfl, ?_⟩) (by assumption) ?_
              rotate_left
              · intro w hSw; (try dsimp only at hSw); go_simp; (try with_reducible rfl)
              try simp only [Act.put, List.setIfInBounds_toArray, List.set_cons_zero, List.set_cons_succ]
              refine wpAnyH_take (i := 5) (oi := { dst := some 27, op := Op.fieldAddr 32 (Operand.tmp 26) 1, type := 0, pos := "ref.go:281", after := #[{ on := 4, ground := Ground.data }, { on := 1, ground := Ground.guard }], guard := some (1, true) }) (v := ?_) rfl (by kernel_rfl) (by kernel_rfl) (by kernel_rfl) (fun _ _ _ h => h) (Or.inl ⟨by rfl, ?_⟩) (by assumption) ?_
              rotate_left
              · intro w hSw; (try dsimp only at hSw); go_simp; (try with_reducible rfl)
              try simp only [Act.put, List.setIfInBounds_toArray, List.set_cons_zero, List.set_cons_succ]
              refine wpAnyH_take (i := 6) (oi := { dst := some 28, op := Op.load 3 (Operand.tmp 27), type := 3, pos := "ref.go:281", after := #[{ on := 5, ground := Ground.data }, { on := 1, ground := Ground.guard }], guard := some (1, true) }) (v := ?_) rfl (by kernel_rfl) (by kernel_rfl) (by kernel_rfl) (fun _ _ _ h => h) (Or.inl ⟨by rfl, ?_⟩) (by assumption) ?_
              rotate_left
              · intro w hSw; (try dsimp only at hSw); go_simp; (try with_reducible rfl)
              try simp only [Act.put, List.setIfInBounds_toArray, List.set_cons_zero, List.set_cons_succ]
              refine wpAnyH_take (i := 7) (oi := { dst := some 29, op := Op.move (Operand.tmp 0), type := 22, pos := "ref.go:281", after := #[{ on := 1, ground := Ground.guard }], guard := some (1, true) }) (v := ?_) rfl (by kernel_rfl) (by kernel_rfl) (by kernel_rfl) (fun _ _ _ h => h) (Or.inl ⟨by rfl, ?_⟩) (by assumption) ?_
              rotate_left
              · intro w hSw; (try dsimp only at hSw); go_simp; (try with_reducible rfl)
              try simp only [Act.put, List.setIfInBounds_toArray, List.set_cons_zero, List.set_cons_succ]
              refine wpAnyH_take (i := 8) (oi := { dst := some 30, op := Op.move (Operand.tmp 4), type := 3, pos := "ref.go:281", after := #[{ on := 1, ground := Ground.guard }], guard := some (1, true) }) (v := ?_) rfl (by kernel_rfl) (by kernel_rfl) (by kernel_rfl) (fun _ _ _ h => h) (Or.inl ⟨by rfl, ?_⟩) (by assumption) ?_
              rotate_left
              · intro w hSw; (try dsimp only at hSw); go_simp; (try with_reducible rfl)
              try simp only [Act.put, List.setIfInBounds_toArray, List.set_cons_zero, List.set_cons_succ]
              refine wpAnyH_take (i := 9) (oi := { dst := some 31, op := Op.indexAddr 22 (Operand.tmp 29) (Operand.tmp 30), type := 0, pos := "ref.go:281", after := #[{ on := 7, ground := Ground.data }, { on := 8, ground := Ground.data }, { on := 1, ground := Ground.guard }], guard := some (1, true) }) (v := ?_) rfl (by kernel_rfl) (by kernel_rfl) (by kernel_rfl) (fun _ _ _ h => h) (Or.inl ⟨by rfl, ?_⟩) (by assumption) ?_
              rotate_left
              · intro w hSw; (try dsimp only at hSw); go_simp; (try with_reducible rfl)
              try simp only [Act.put, List.setIfInBounds_toArray, List.set_cons_zero, List.set_cons_succ]
              refine wpAnyH_take (i := 10) (oi := { dst := some 32, op := Op.fieldAddr 32 (Operand.tmp 31) 1, type := 0, pos := "ref.go:281", after := #[{ on := 9, ground := Ground.data }, { on := 1, ground := Ground.guard }], guard := some (1, true) }) (v := ?_) rfl (by kernel_rfl) (by kernel_rfl) (by kernel_rfl) (fun _ _ _ h => h) (Or.inl ⟨by rfl, ?_⟩) (by assumption) ?_
              rotate_left
              · intro w hSw; (try dsimp only at hSw); go_simp; (try with_reducible rfl)
              try simp only [Act.put, List.setIfInBounds_toArray, List.set_cons_zero, List.set_cons_succ]
              refine wpAnyH_take (i := 11) (oi := { dst := some 33, op := Op.load 3 (Operand.tmp 32), type := 3, pos := "ref.go:281", after := #[{ on := 10, ground := Ground.data }, { on := 1, ground := Ground.guard }], guard := some (1, true) }) (v := ?_) rfl (by kernel_rfl) (by kernel_rfl) (by kernel_rfl) (fun _ _ _ h => h) (Or.inl ⟨by rfl, ?_⟩) (by assumption) ?_
              rotate_left
              · intro w hSw; (try dsimp only at hSw); go_simp; (try with_reducible rfl)
              try simp only [Act.put, List.setIfInBounds_toArray, List.set_cons_zero, List.set_cons_succ]
              refine wpAnyH_take (i := 12) (oi := { dst := some 34, op := Op.binOp BinOp.neq 3 (Operand.tmp 28) (Operand.tmp 33) 3, type := 4, pos := "ref.go:281", after := #[{ on := 6, ground := Ground.data }, { on := 11, ground := Ground.data }, { on := 1, ground := Ground.guard }], guard := some (1, true) }) (v := ?_) rfl (by kernel_rfl) (by kernel_rfl) (by kernel_rfl) (fun _ _ _ h => h) (Or.inl ⟨by rfl, ?_⟩) (by assumption) ?_
              rotate_left
              · intro w hSw; (try dsimp only at hSw); go_simp; (try with_reducible rfl)
              try simp only [Act.put, List.setIfInBounds_toArray, List.set_cons_zero, List.set_cons_succ]
              refine wpAnyH_take (i := 13) (oi := { dst := some 35, op := Op.move (Operand.tmp 34), type := 4, pos := "ref.go:281", after := #[{ on := 12, ground := Ground.data }, { on := 1, ground := Ground.chain }, { on := 1, ground := Ground.guard }], guard := some (1, true) }) (v := ?_) rfl (by kernel_rfl) (by kernel_rfl) (by kernel_rfl) (fun _ _ _ h => h) (Or.inl ⟨by rfl, ?_⟩) (by assumption) ?_
              rotate_left
              · intro w hSw; (try dsimp only at hSw); go_simp; (try with_reducible rfl)
              try simp only [Act.put, List.setIfInBounds_toArray, List.set_cons_zero, List.set_cons_succ]
              refine wpAnyH_take (i := 14) (oi := { dst := some 36, op := Op.move (Operand.tmp 0), type := 22, pos := "ref.go:281", after := #[{ on := 13, ground := Ground.guard }], guard := some (13, false) }) (v := undef) rfl (by kernel_rfl) (by kernel_rfl) (by kernel_rfl) (fun _ _ _ h => h) (Or.inr ⟨by rfl, rfl⟩) (by assumption) ?_
              try simp only [Act.put, List.setIfInBounds_toArray, List.set_cons_zero, List.set_cons_succ]
              refine wpAnyH_take (i := 15) (oi := { dst := some 37, op := Op.move (Operand.tmp 6), type := 3, pos := "ref.go:281", after := #[{ on := 13, ground := Ground.guard }], guard := some (13, false) }) (v := undef) rfl (by kernel_rfl) (by kernel_rfl) (by kernel_rfl) (fun _ _ _ h => h) (Or.inr ⟨by rfl, rfl⟩) (by assumption) ?_
              try simp only [Act.put, List.setIfInBounds_toArray, List.set_cons_zero, List.set_cons_succ]
              refine wpAnyH_take (i := 16) (oi := { dst := some 38, op := Op.indexAddr 22 (Operand.tmp 36) (Operand.tmp 37), type := 0, pos := "ref.go:281", after := #[{ on := 14, ground := Ground.data }, { on := 15, ground := Ground.data }, { on := 13, ground := Ground.guard }], guard := some (13, false) }) (v := undef) rfl (by kernel_rfl) (by kernel_rfl) (by kernel_rfl) (fun _ _ _ h => h) (Or.inr ⟨by rfl, rfl⟩) (by assumption) ?_
              try simp only [Act.put, List.setIfInBounds_toArray, List.set_cons_zero, List.set_cons_succ]
              refine wpAnyH_take (i := 17) (oi := { dst := some 39, op := Op.fieldAddr 32 (Operand.tmp 38) 2, type := 0, pos := "ref.go:281", after := #[{ on := 16, ground := Ground.data }, { on := 13, ground := Ground.guard }], guard := some (13, false) }) (v := undef) rfl (by kernel_rfl) (by kernel_rfl) (by kernel_rfl) (fun _ _ _ h => h) (Or.inr ⟨by rfl, rfl⟩) (by assumption) ?_
              try simp only [Act.put, List.setIfInBounds_toArray, List.set_cons_zero, List.set_cons_succ]
              refine wpAnyH_take (i := 18) (oi := { dst := some 40, op := Op.load 30 (Operand.tmp 39), type := 30, pos := "ref.go:281", after := #[{ on := 17, ground := Ground.data }, { on := 13, ground := Ground.guard }], guard := some (13, false) }) (v := undef) rfl (by kernel_rfl) (by kernel_rfl) (by kernel_rfl) (fun _ _ _ h => h) (Or.inr ⟨by rfl, rfl⟩) (by assumption) ?_
              try simp only [Act.put, List.setIfInBounds_toArray, List.set_cons_zero, List.set_cons_succ]
              refine wpAnyH_take (i := 19) (oi := { dst := some 41, op := Op.move (Operand.tmp 0), type := 22, pos := "ref.go:281", after := #[{ on := 13, ground := Ground.guard }], guard := some (13, false) }) (v := undef) rfl (by kernel_rfl) (by kernel_rfl) (by kernel_rfl) (fun _ _ _ h => h) (Or.inr ⟨by rfl, rfl⟩) (by assumption) ?_
              try simp only [Act.put, List.setIfInBounds_toArray, List.set_cons_zero, List.set_cons_succ]
              refine wpAnyH_take (i := 20) (oi := { dst := some 42, op := Op.move (Operand.tmp 4), type := 3, pos := "ref.go:281", after := #[{ on := 13, ground := Ground.guard }], guard := some (13, false) }) (v := undef) rfl (by kernel_rfl) (by kernel_rfl) (by kernel_rfl) (fun _ _ _ h => h) (Or.inr ⟨by rfl, rfl⟩) (by assumption) ?_
              try simp only [Act.put, List.setIfInBounds_toArray, List.set_cons_zero, List.set_cons_succ]
              refine wpAnyH_take (i := 21) (oi := { dst := some 43, op := Op.indexAddr 22 (Operand.tmp 41) (Operand.tmp 42), type := 0, pos := "ref.go:281", after := #[{ on := 19, ground := Ground.data }, { on := 20, ground := Ground.data }, { on := 13, ground := Ground.guard }], guard := some (13, false) }) (v := undef) rfl (by kernel_rfl) (by kernel_rfl) (by kernel_rfl) (fun _ _ _ h => h) (Or.inr ⟨by rfl, rfl⟩) (by assumption) ?_
              try simp only [Act.put, List.setIfInBounds_toArray, List.set_cons_zero, List.set_cons_succ]
              refine wpAnyH_take (i := 22) (oi := { dst := some 44, op := Op.fieldAddr 32 (Operand.tmp 43) 2, type := 0, pos := "ref.go:281", after := #[{ on := 21, ground := Ground.data }, { on := 13, ground := Ground.guard }], guard := some (13, false) }) (v := undef) rfl (by kernel_rfl) (by kernel_rfl) (by kernel_rfl) (fun _ _ _ h => h) (Or.inr ⟨by rfl, rfl⟩) (by assumption) ?_
              try simp only [Act.put, List.setIfInBounds_toArray, List.set_cons_zero, List.set_cons_succ]
              refine wpAnyH_take (i := 23) (oi := { dst := some 45, op := Op.load 30 (Operand.tmp 44), type := 30, pos := "ref.go:281", after := #[{ on := 22, ground := Ground.data }, { on := 13, ground := Ground.guard }], guard := some (13, false) }) (v := undef) rfl (by kernel_rfl) (by kernel_rfl) (by kernel_rfl) (fun _ _ _ h => h) (Or.inr ⟨by rfl, rfl⟩) (by assumption) ?_
              try simp only [Act.put, List.setIfInBounds_toArray, List.set_cons_zero, List.set_cons_succ]
              refine wpAnyH_take (i := 24) (oi := { dst := some 46, op := Op.binOp BinOp.neq 30 (Operand.tmp 40) (Operand.tmp 45) 30, type := 4, pos := "ref.go:281", after := #[{ on := 18, ground := Ground.data }, { on := 23, ground := Ground.data }, { on := 13, ground := Ground.guard }], guard := some (13, false) }) (v := undef) rfl (by kernel_rfl) (by kernel_rfl) (by kernel_rfl) (fun _ _ _ h => h) (Or.inr ⟨by rfl, rfl⟩) (by assumption) ?_
              try simp only [Act.put, List.setIfInBounds_toArray, List.set_cons_zero, List.set_cons_succ]
              refine wpAnyH_take (i := 25) (oi := { dst := some 47, op := Op.pick (Operand.tmp 35) (Operand.const (Value.bool true)) (Operand.tmp 46), type := 4, pos := "ref.go:281", after := #[{ on := 13, ground := Ground.data }, { on := 24, ground := Ground.data }, { on := 1, ground := Ground.guard }], guard := some (1, true) }) (v := ?_) rfl (by kernel_rfl) (by kernel_rfl) (by kernel_rfl) (fun _ _ _ h => h) (Or.inl ⟨by rfl, ?_⟩) (by assumption) ?_
              rotate_left
              · intro w hSw; (try dsimp only at hSw); go_simp; (try with_reducible rfl)
              try simp only [Act.put, List.setIfInBounds_toArray, List.set_cons_zero, List.set_cons_succ]
              refine wpAnyH_take (i := 26) (oi := { dst := some 48, op := Op.pick (Operand.tmp 23) (Operand.tmp 47) (Operand.const (Value.bool false)), type := 4, pos := "ref.go:281", after := #[{ on := 1, ground := Ground.data }, { on := 25, ground := Ground.data }], guard := none }) (v := ?_) rfl (by kernel_rfl) (by kernel_rfl) (by kernel_rfl) (fun _ _ _ h => h) (Or.inl ⟨by rfl, ?_⟩) (by assumption) ?_
              rotate_left
              · intro w hSw; (try dsimp only at hSw); go_simp; (try with_reducible rfl)
              try simp only [Act.put, List.setIfInBounds_toArray, List.set_cons_zero, List.set_cons_succ]
              refine wpAnyH_take (i := 27) (oi := { dst := some 5, op := Op.assign (Operand.tmp 48), type := 4, pos := "ref.go:281", after := #[{ on := 26, ground := Ground.data }, { on := 13, ground := Ground.chain }, { on := 0, ground := Ground.phase }, { on := 1, ground := Ground.phase }, { on := 2, ground := Ground.phase }, { on := 3, ground := Ground.phase }, { on := 4, ground := Ground.phase }, { on := 5, ground := Ground.phase }, { on := 6, ground := Ground.phase }, { on := 7, ground := Ground.phase }, { on := 8, ground := Ground.phase }, { on := 9, ground := Ground.phase }, { on := 10, ground := Ground.phase }, { on := 11, ground := Ground.phase }, { on := 12, ground := Ground.phase }, { on := 13, ground := Ground.phase }, { on := 14, ground := Ground.phase }, { on := 15, ground := Ground.phase }, { on := 16, ground := Ground.phase }, { on := 17, ground := Ground.phase }, { on := 18, ground := Ground.phase }, { on := 19, ground := Ground.phase }, { on := 20, ground := Ground.phase }, { on := 21, ground := Ground.phase }, { on := 22, ground := Ground.phase }, { on := 23, ground := Ground.phase }, { on := 24, ground := Ground.phase }, { on := 25, ground := Ground.phase }, { on := 26, ground := Ground.phase }], guard := none }) (v := ?_) rfl (by kernel_rfl) (by kernel_rfl) (by kernel_rfl) (fun _ _ _ h => h) (Or.inl ⟨by rfl, ?_⟩) (by assumption) ?_
              rotate_left
              · intro w hSw; (try dsimp only at hSw); go_simp; (try with_reducible rfl)
              try simp only [Act.put, List.setIfInBounds_toArray, List.set_cons_zero, List.set_cons_succ]
              refine wpAnyH_done (by kernel_rfl) ?_ _
              go_wp2_with fail
              go_roundg (i - (k + 1))
              case measure => omega
              case rel => exact ⟨k + 1, true, rfl, by go_num, by omega, by omega, HW2, HB2⟩
        · obtain rfl : k = i := by omega
          have HBW := hide (show Below W0.heap.size W0 wr by obtain ⟨n, e⟩ := unhide HW; rw [e]; exact bl_drewN W0 n)
          have HTW := hide ((unhide HT).ga.bw.trans ((unhide HBW).mono (unhide HT).ga.bw.size))
          have CA := hide (unhide HAL wr (unhide HTW) k f (unhide HF))
          obtain ⟨W1, hW1⟩ : ∃ W1, W1 = wr := ⟨_, rfl⟩
          rw [← hW1] at HBW HTW CA ⊢
          clear hW1 HW HW2 HBL
          have HCA := hide (show ∀ P, Calls Try.prog 13 #[.slice (some ⟨b, o, none⟩) N c, .int .i64 (k : Int)] W1 P → True from fun _ _ => trivial)
          cases t with
          | false =>
            have HMEM := hide (show f.k ∈ hds (fs.take k) from Classical.byContradiction fun q => by have h := unhide HB; rw [decide_eq_true q] at h; cases h)
            clear HB HCA
            go_wp2_with (go_at_call 13; refine (unhide CA).mono ?_; rintro e W2 ⟨r, rfl, hAn⟩; have HAn := hide hAn; clear hAn CA)
            have HN2 := hide ((unhide HT).skip (bl_t (unhide HBW) (unhide HAn).bw) (unhide HF) (.inl (unhide HMEM)))
            go_roundg (N - (k + 1))
            case measure => omega
            case rel => exact ⟨k + 1, E, by go_num, by omega, by omega, HN2⟩
          | true =>
            have HMEM := hide (show f.k ∉ hds (fs.take k) from of_decide_eq_true (unhide HB).symm)
            clear HB HCA
            have HLL := hide (show (rs (pth fs f.k)).length ≤ 2513169434843 from Nat.le_trans (rs_ris _).len (Nat.le_trans (pth_len _ _) (by have := unhide HN; omega)))
            obtain ⟨L, hL⟩ : ∃ L, L = rs (pth fs f.k) := ⟨_, rfl⟩
            have HL := hide hL
            rw [← hL] at CA HLL
            clear hL
            obtain ⟨n, hn⟩ : ∃ n, n = L.length := ⟨_, rfl⟩
            have Hn := hide hn
            by_cases h2 : 1 < n
            · have h2i : ¬ (n : Int) < 2 := by omega
              obtain ⟨ea, ec, rfl⟩ := owns_form (unhide HT).ga.row
              have HSL := hide (show ∀ (X : World), Below W1.heap.size W1 X → Ga w X (.slice ea E.length ec) E from fun X hX => (unhide HT).ga.later (bl_t (unhide HBW) hX))
              have HRW := hide (show ∀ e ∈ E, e.2.length ≤ 2513169434843 from fun e he => Nat.le_trans ((unhide HT).row e he) (by have := unhide HN; omega))
              obtain ⟨K, hK⟩ : ∃ K, K = E.length := ⟨_, rfl⟩
              have HK := hide hK
              rw [← hK] at hEl HSL HT ⊢
              clear hn hK
              go_wp2_with (go_at_call 13; refine (unhide CA).mono ?_; rintro e W2 ⟨r, rfl, hAn⟩; obtain ⟨ra, rc, rfl⟩ := owns_form hAn.row; have HAn := hide hAn; rw [← unhide Hn] at HAn ⊢; clear hAn CA)
              have HST2 := hide (Ha.start W2)
              have HIS := hide (Ist.start E (.slice ra n rc, L))
              go_loopg [8, 9, 10] K (fun gq mv bv iv wr => ∃ (t : Nat) (M : List En) (d : Bool), bv = .bool d ∧ iv = .int .i64 t ∧ t ≤ K ∧ K - t ≤ gq ∧ Hid (Ha W2 wr mv M) ∧ Hid (Ist E (.slice ra n rc, L) t M d))
              case atStart => exact ⟨0, [], false, rfl, by go_num, by omega, by omega, HST2, HIS⟩
              case round =>
                clear HST2 HIS
                obtain ⟨t, M, d, rfl, rfl, ht, hgt, HM, HI⟩ := hrel
                have hml : M.length ≤ K + 1 := by have := (unhide HI).len; have := unhide HK; omega
                by_cases htl : t < K
                · have htn : (t : Int) < (K : Int) := by omega
                  have htE : t < E.length := by have := unhide HK; omega
                  have hga := unhide HSL wr (bl_t (unhide HAn).bw (unhide HM).bw)
                  obtain ⟨eb, rfl, heb, hec⟩ := hga.at htE
                  obtain ⟨ya, yc, hyf⟩ := owns_form (hga.own _ (List.getElem_mem htE))
                  have HCB := hide (show Calls Try.prog 14 #[.slice ra n rc, (E[t]).1] wr fun e w' => e = .returned (.bool (decide (cmpL L (E[t]).2 < 0))) ∧ Below wr.heap.size wr w' from by
                    have q1 := own_sl (own_low (show W2.ownsRow W1.heap.size 9 1 (.slice ra n rc) L.length (sv L) from by have := (unhide HAn).row; exact this) (unhide HM).bw)
                    refine (below_any (unhide HLL) (unhide HRW _ (List.getElem_mem htE)) q1 (own_sl (hga.own _ (List.getElem_mem htE)))).mono ?_
                    rintro e w' ⟨rfl, m, rfl⟩
                    exact ⟨rfl, bl_drewN _ _⟩)
                  have HI1 := hide (fun (h : Ist E (.slice ra n rc, L) t M false) (q : cmpL L (E[t]).2 < 0) => h.lay (unhide HT).srt htE q)
                  have HI2 := hide (fun (h : Ist E (.slice ra n rc, L) t M false) (q : ¬ cmpL L (E[t]).2 < 0) => h.pass htE q)
                  have HI3 := hide (fun (h : Ist E (.slice ra n rc, L) t M true) => h.more htE)
                  have HEB := hide (show ∀ (X : World), Below W2.heap.size W2 X → X.cell? ⟨eb, t, none⟩ = some (E[t]).1 from fun X hX => by
                    obtain ⟨eb2, e, _, h9⟩ := (unhide HSL X (bl_t (unhide HAn).bw hX)).at htE
                    cases e
                    exact h9)
                  clear hga
                  generalize E[t] = x0 at *
                  obtain ⟨e1, ee⟩ := x0
                  dsimp only at hyf hec HCB HI1 HI2 HI3 HEB
                  subst hyf
                  obtain ⟨yn, hyn⟩ : ∃ yn, yn = ee.length := ⟨_, rfl⟩
                  rw [← hyn] at hec HCB HI1 HI2 HI3 HEB
                  clear hyn
                  have hml2 : (M ++ [((.slice ra n rc, L) : En)]).length ≤ K + 2 := by rw [List.length_append]; simp only [List.length_singleton]; omega
                  cases d with
                  | false =>
                    by_cases hq : cmpL L ee < 0
                    · have HI4 := hide (unhide HI1 (unhide HI) hq)
                      rw [decide_eq_true hq] at HCB
                      clear hq HI1 HI2 HI3
                      go_wp2_with (first
                        | (go_at_call 14; refine (unhide HCB).mono ?_; rintro e W3 ⟨rfl, hbW3⟩; have HM1 := hide ((unhide HM).later hbW3); have HEC := hide ((hbW3.cell (p := ⟨eb, t, none⟩) heb).trans hec); have hec1 := unhide HEC; clear hbW3 HCB)
                        | (at_builtin; (refine wpList_append_own _ rfl _ _ 24 rfl W2.heap.size 28 k0 (.slice none 0 0) 1 24 Try.underlying24 hk0 hx0 hx1 hx2 rfl (by decide) _ _ _ rfl (own_low (unhide HM1).row ((Below.refl _ _).alloc (Nat.le_refl _) _)) ⟨W3.heap.size, 0, none⟩ 1 1 [.slice ra n rc] rfl rfl (fun k u hk => by rw [Addr.add_mid, Nat.zero_add, World.cell?_alloc_new]; simpa using hk) (fun u hu => by rw [List.mem_singleton] at hu; subst hu; rfl) (by unfold maxLen; omega) (by omega) (by have := (unhide HM1).bw.size; rw [World.size_alloc]; omega) ?_); intro v4 w4 hown hgrow _; have HM4 := hide ((unhide HM1).grow (x := (.slice ra n rc, L)) hown hgrow); have hec4 := unhide HEB w4 (unhide HM4).bw; clear hown hgrow HM1)
                        | (at_builtin; (refine wpList_append_own _ rfl _ _ 24 rfl W2.heap.size 28 k0 (.slice none 0 0) 1 24 Try.underlying24 hk0 hx0 hx1 hx2 rfl (by decide) _ _ _ rfl (own_low (unhide HM4).row ((Below.refl _ _).alloc (Nat.le_refl _) _)) ⟨w4.heap.size, 0, none⟩ 1 1 [.slice ya yn yc] rfl rfl (fun k u hk => by rw [Addr.add_mid, Nat.zero_add, World.cell?_alloc_new]; simpa using hk) (fun u hu => by rw [List.mem_singleton] at hu; subst hu; rfl) (by unfold maxLen; omega) (by omega) (by have := (unhide HM4).bw.size; rw [World.size_alloc]; omega) ?_); intro v5 w5 hown hgrow _; have HM5 := hide ((unhide HM4).grow (x := (.slice ya yn yc, ee)) hown hgrow); clear hown hgrow HM4))
                      go_roundg (K - (t + 1))
                      case measure => omega
                      case rel => exact ⟨t + 1, _, true, rfl, by go_num, by omega, by omega, HM5, HI4⟩
                    · have HI4 := hide (unhide HI2 (unhide HI) hq)
                      rw [decide_eq_false hq] at HCB
                      clear hq HI1 HI2 HI3
                      go_wp2_with (first
                        | (go_at_call 14; refine (unhide HCB).mono ?_; rintro e W3 ⟨rfl, hbW3⟩; have HM1 := hide ((unhide HM).later hbW3); have HEC := hide ((hbW3.cell (p := ⟨eb, t, none⟩) heb).trans hec); have hec1 := unhide HEC; clear hbW3 HCB)
                        | (at_builtin; (refine wpList_append_own _ rfl _ _ 24 rfl W2.heap.size 28 k0 (.slice none 0 0) 1 24 Try.underlying24 hk0 hx0 hx1 hx2 rfl (by decide) _ _ _ rfl (own_low (unhide HM1).row ((Below.refl _ _).alloc (Nat.le_refl _) _)) ⟨W3.heap.size, 0, none⟩ 1 1 [.slice ya yn yc] rfl rfl (fun k u hk => by rw [Addr.add_mid, Nat.zero_add, World.cell?_alloc_new]; simpa using hk) (fun u hu => by rw [List.mem_singleton] at hu; subst hu; rfl) (by unfold maxLen; omega) (by omega) (by have := (unhide HM1).bw.size; rw [World.size_alloc]; omega) ?_); intro v4 w4 hown hgrow _; have HM4 := hide ((unhide HM1).grow (x := (.slice ya yn yc, ee)) hown hgrow); clear hown hgrow HM1))
                      go_roundg (K - (t + 1))
                      case measure => omega
                      case rel => exact ⟨t + 1, _, false, rfl, by go_num, by omega, by omega, HM4, HI4⟩
                  | true =>
                    have HI4 := hide (unhide HI3 (unhide HI))
                    clear HI1 HI2 HI3 HCB
                    go_wp2_with (at_builtin; go_must (refine wpList_append_own _ rfl _ _ 24 rfl W2.heap.size 28 k0 (.slice none 0 0) 1 24 Try.underlying24 hk0 hx0 hx1 hx2 rfl (by decide) _ _ _ rfl (own_low (unhide HM).row ((Below.refl _ _).alloc (Nat.le_refl _) _)) ⟨wr.heap.size, 0, none⟩ 1 1 [.slice ya yn yc] rfl rfl (fun k u hk => by rw [Addr.add_mid, Nat.zero_add, World.cell?_alloc_new]; simpa using hk) (fun u hu => by rw [List.mem_singleton] at hu; subst hu; rfl) (by unfold maxLen; omega) (by omega) (by have := (unhide HM).bw.size; rw [World.size_alloc]; omega) ?_); intro v4 w4 hown hgrow _; have HM4 := hide ((unhide HM).grow (x := (.slice ya yn yc, ee)) hown hgrow); clear hown hgrow HM)
                    go_roundg (K - (t + 1))
                    case measure => omega
                    case rel => exact ⟨t + 1, _, true, rfl, by go_num, by omega, by omega, HM4, HI4⟩
                · obtain rfl : t = K := by omega
                  cases d with
                  | false =>
                    obtain ⟨hq1, hq2⟩ := (show Ist E (.slice ra n rc, L) E.length M false from by have := unhide HI; rw [unhide HK] at this; exact this).end1 (unhide HT).srt
                    have HQ := hide (And.intro hq1 hq2)
                    clear hq1 hq2 HI
                    go_wp2_with (at_builtin; go_must (refine wpList_append_own _ rfl _ _ 24 rfl W2.heap.size 28 k0 (.slice none 0 0) 1 24 Try.underlying24 hk0 hx0 hx1 hx2 rfl (by decide) _ _ _ rfl (own_low (unhide HM).row ((Below.refl _ _).alloc (Nat.le_refl _) _)) ⟨wr.heap.size, 0, none⟩ 1 1 [.slice ra n rc] rfl rfl (fun k u hk => by rw [Addr.add_mid, Nat.zero_add, World.cell?_alloc_new]; simpa using hk) (fun u hu => by rw [List.mem_singleton] at hu; subst hu; rfl) (by unfold maxLen; omega) (by omega) (by have := (unhide HM).bw.size; rw [World.size_alloc]; omega) ?_); intro v4 w4 hown hgrow _; have HM4 := hide ((unhide HM).grow (x := (.slice ra n rc, L)) hown hgrow); clear hown hgrow HM)
                    have HN2 := hide ((unhide HT).next (bl_t (unhide HBW) (unhide HAn).bw) (unhide HTW).size (by rw [← unhide HL]; exact (unhide HAn)) (unhide HF) (unhide HMEM) (by rw [← unhide HL, ← unhide Hn]; exact h2) (unhide HM4) (unhide HQ).1 (by rw [← unhide HL]; exact (unhide HQ).2))
                    go_roundg (N - (k + 1))
                    case measure => omega
                    case rel => exact ⟨k + 1, _, by go_num, by omega, by omega, HN2⟩
                  | true =>
                    obtain ⟨hq1, hq2⟩ := (show Ist E (.slice ra n rc, L) E.length M true from by have := unhide HI; rw [unhide HK] at this; exact this).end2 (unhide HT).srt
                    have HQ := hide (And.intro hq1 hq2)
                    clear hq1 hq2 HI
                    go_wp2_with fail
                    have HN2 := hide ((unhide HT).next (bl_t (unhide HBW) (unhide HAn).bw) (unhide HTW).size (by rw [← unhide HL]; exact (unhide HAn)) (unhide HF) (unhide HMEM) (by rw [← unhide HL, ← unhide Hn]; exact h2) (unhide HM) (unhide HQ).1 (by rw [← unhide HL]; exact (unhide HQ).2))
                    go_roundg (N - (k + 1))
                    case measure => omega
                    case rel => exact ⟨k + 1, _, by go_num, by omega, by omega, HN2⟩
            · have h2i : (n : Int) < 2 := by omega
              go_wp2_with (go_at_call 13; refine (unhide CA).mono ?_; rintro e W2 ⟨r, rfl, hAn⟩; obtain ⟨ra, rc, rfl⟩ := owns_form hAn.row; have HAn := hide hAn; rw [← unhide Hn] at HAn ⊢; clear hAn CA)
              have HN2 := hide ((unhide HT).skip (bl_t (unhide HBW) (unhide HAn).bw) (unhide HF) (.inr (by rw [← unhide HL, ← unhide Hn]; exact h2)))
              go_roundg (N - (k + 1))
              case measure => omega
              case rel => exact ⟨k + 1, E, by go_num, by omega, by omega, HN2⟩
    · obtain rfl : i = N := by omega
      have HFIN := hide (show Tws fs (E.map (·.2)) from ⟨(unhide HT).srt, by have := (unhide HT).perm; rw [unhide HN, gup_all] at this; exact this⟩)
      go_wp2_with fail
      go_ret
      exact ⟨_, E, rfl, (unhide HT).ga, unhide HFIN⟩
end Go.Proofs.Ytboajcpfoejfeaa
