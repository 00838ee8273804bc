import Derived.Test.YtcebpdcijpgkjaaGreatDoorZc31
import Derived.LoopIn
namespace Go.Proofs.YtcebpdcijpgkjaaGreatDoor
open Go.RowKit Go.Maps Go.Sort Go.Shelf

set_option maxRecDepth 100000 in
set_option maxHeartbeats 16000000 in
/-- THE REFERENCE'S Breaks. -/
theorem rBreaks_own {w : World} {v u : Value} {ps : List Pk} {ks : List (Nm × Nm)} (sm : SmP ps) (pk : Pkl w v ps) (hk : Kyl w u ks) (hkl : ks.length ≤ 1048576) :
    Calls Tryz.prog 17 #[v, u] w fun e w' => ∃ r K, e = .returned r ∧ w'.ownsRow w.heap.size 29 2 r K.length (kyC K) ∧ Kn ps (fun i => decide (i < ps.length) && lef ps ks i) (plL (fun i => decide (i < ps.length) && lef ps ks i) ps.length).length K ∧ RowKit.Below w.heap.size w w' := by
  obtain ⟨va, vc, rfl⟩ : ∃ a c, v = .slice a ps.length c := let ⟨a, c, e, _⟩ := pk; ⟨a, c, e⟩
  have hl := sm.l
  have hmk := makeBB ps.length hl w
  have CP := hide (fun (X : World) (inn : Nat → Bool) (hX : RowKit.Below w.heap.size w X) (hb : Bb X w.heap.size ps.length inn) => rfpart_gen hX sm pk hb)
  have HKY := hide (show ∀ X, RowKit.Below w.heap.size w X → ∀ i, i < ps.length → ∃ b o cs, va = some ⟨b, o, none⟩ ∧ b < X.heap.size ∧ X.rangeAt b (o + i * 43) cs ∧ (Tryz.prog.info? 46).map (·.size) = some cs.length ∧ cs.length = 43 ∧ (∀ x ∈ cs, x.oneCell' = true) ∧ (∀ Y, Calls Tryz.prog 52 #[.agg cs.toArray] Y fun e w' => e = .returned (.agg #[.string (pAt ps i).nm, .string (pAt ps i).vr]) ∧ RowKit.Below Y.heap.size Y w') from fun X hX i hi => by
    obtain ⟨vb, vo, vc', cs, dd, rr, cc, pv, ff, e, hvb, hr, hpc, hll⟩ := pk.at2 (pAt_at hi)
    injection e with e1 _ _
    exact ⟨vb, vo, cs, e1, Nat.lt_of_lt_of_le hvb hX.size, range_bel hr hvb hX, by rw [hpc.len]; exact info43, hpc.len, hpc.one, fun Y => rKeyOf_any cs _ _ Y hpc.c0 hpc.c1⟩)
  have HHS := hide (show ∀ X, RowKit.Below w.heap.size w X → ∀ n m : Nm, Calls Tryz.prog 51 #[u, .agg #[.string n, .string m]] X fun e w' => e = .returned (.bool (mK ks n m)) ∧ RowKit.Below X.heap.size X w' from fun X hX n m => rHas_any n m hkl (hk.later hX))
  have HSM := hide sm
  have HPK := hide pk
  have HS := hide (bb_new w ps.length)
  obtain ⟨ua, uc, rfl⟩ : ∃ a c, u = .slice a ks.length c := let ⟨a, c, e, _⟩ := hk; ⟨a, c, e⟩
  have HA0 := hide ((Below.refl w.heap.size w).alloc (Nat.le_refl _) (.cells (madeCells #[.bool false] ps.length) 4))
  clear sm pk hk
  obtain ⟨W1, hW1⟩ : ∃ W, W = w.alloc (.cells (madeCells #[.bool false] ps.length) 4) := ⟨_, rfl⟩
  rw [← hW1] at HS hmk HA0
  clear hW1
  go_enter Tryz.func17, Tryz.ntmps17
  go_wp2_with fail
  go_loopg [6] ps.length (fun gq iv wr => ∃ i : Nat, iv = .int .i64 i ∧ i ≤ ps.length ∧ ps.length - i ≤ gq ∧ Hid (Bb wr w.heap.size ps.length (fun p => decide (p < i) && lef ps ks p)) ∧ Hid (RowKit.Below w.heap.size w wr))
  case atStart => exact ⟨0, by go_num, by omega, by omega, hide (by simpa using unhide HS), HA0⟩
  case round =>
    clear HS HA0
    obtain ⟨i, rfl, hi, hgq, HF, HB0⟩ := hrel
    by_cases hlt : i < ps.length
    · have hin : (i : Int) < (ps.length : Int) := by omega
      obtain ⟨b, o, cs, rfl, hbl, hrg, hinf, hlen, hone, hkey⟩ := unhide HKY _ (unhide HB0) i hlt
      have HRW := hide hrg
      have HI2 := hide hinf
      have CK := hide hkey
      have HH := hide (fun X hX => unhide HHS X hX (pAt ps i).nm (pAt ps i).vr)
      have HL1 : Hid (lef ps ks i = !mK ks (pAt ps i).nm (pAt ps i).vr) := hide (by unfold lef; rw [pAt_at hlt])
      generalize (pAt ps i).nm = n at *
      generalize (pAt ps i).vr = m at *
      clear hrg hinf hkey hone hlen
      go_wp2_with (first
        | ((with_reducible refine wpList_load_p (op := { dst := some 29, op := Op.load 46 (Operand.tmp 28), type := 46, pos := "ref.go:210", after := #[{ on := 5, ground := Ground.data }], guard := none }) ?pxa 46 (.tmp 28) ?pxb b (o + i * 43) ?pxc cs _ (unhide HRW) Tryz.underlying46 ?pxd (unhide HI2) ?pxe); (case pxa => rfl); (case pxb => rfl); (case pxc => rfl); (case pxd => rfl))
        | (go_at_call 52; refine (unhide CK _).mono ?_; rintro e w5 ⟨rfl, hb5⟩; have HB5 := hide hb5; clear hb5)
        | (go_at_call 51; refine (unhide HH _ (bl_t (unhide HB0) (unhide HB5))).mono ?_; rintro e w6 ⟨rfl, hb6⟩; have HB6 := hide (bl_t (unhide HB5) hb6); obtain ⟨k1, k2⟩ := ((unhide HF).later (unhide HB6)).cell hlt; have k3 := ((unhide HF).later (unhide HB6)).lt; clear hb6))
      go_roundg (ps.length - (i + 1))
      case measure => omega
      case rel => exact ⟨i + 1, by go_num, by omega, by omega, hide (by
        have h1 := ((unhide HF).later (unhide HB6)).set hlt (!mK ks n m)
        rw [show (fun p => decide (p < i + 1) && lef ps ks p) = (fun x => if x = i then !mK ks n m else decide (x < i) && lef ps ks x) from by
          funext x
          by_cases e : x = i
          · subst e; rw [if_pos rfl, unhide HL1]; simp
          · rw [if_neg e]
            congr 1
            exact decide_eq_decide.2 (by omega)]
        exact h1), hide ((bl_t (unhide HB0) (unhide HB6)).setCell (p := ⟨w.heap.size, _, none⟩) (Nat.le_refl _) _)⟩
    · obtain rfl : i = ps.length := by omega
      have CP' := hide (unhide CP _ _ (unhide HB0) (unhide HF))
      have hmi := plL_len (fun i => decide (i < ps.length) && lef ps ks i) ps.length
      clear CP HF HHS HKY
      generalize hin : (fun i => decide (i < ps.length) && lef ps ks i) = inn at *
      have HIN := hide hin
      clear hin
      go_wp2_with fail
      refine (unhide CP').mono ?_
      rintro e w1 ⟨r1, r2, rfl, hpk, hbl, hrow, hb1⟩
      have hbw1 := bl_t (unhide HB0) hb1
      have hpk1 := hpk w1 (fun _ _ => rfl) hbw1
      obtain ⟨ra, rc, rfl⟩ : ∃ a c, r1 = .slice a ((plL inn ps.length).map (pAt ps)).length c := let ⟨a, c, e, _⟩ := hpk1; ⟨a, c, e⟩
      obtain ⟨⟨la, ln, lk⟩, rfl, hln⟩ := slice_hd hrow
      simp only at hln
      subst hln
      unfold hv at *
      have HR := hide (And.intro hpk1 (And.intro hrow hbw1))
      clear hpk hpk1 hbl hrow hb1 hbw1 CP' HB0
      obtain ⟨M, hM⟩ : ∃ M, M = (plL inn ps.length).length := ⟨_, rfl⟩
      have HM := hide hM
      rw [List.length_map] at HR ⊢
      rw [← hM] at hmi HR ⊢
      clear hM
      have HKS := hide (And.intro (show w1.ownsRow w.heap.size 29 2 (.slice none 0 0) ([] : List (Nm × Nm)).length (kyC []) from ⟨rfl, .inl ⟨rfl, rfl⟩⟩) (Kn.start ps inn))
      go_wp2_with fail
      go_loopg [9, 10] M (fun gq kv iv X => ∃ (i : Nat) (K : List (Nm × Nm)), iv = .int .i64 i ∧ i ≤ M ∧ M - i ≤ gq ∧ Hid (X.ownsRow w.heap.size 29 2 kv K.length (kyC K) ∧ Kn ps inn i K) ∧ Hid (RowKit.Below w1.heap.size w1 X))
      case atStart => exact ⟨0, [], by go_num, by omega, by omega, HKS, hide (Below.refl _ _)⟩
      case round =>
        clear HKS
        obtain ⟨i, K, rfl, hi, hgi, HK, HBo⟩ := hrel
        by_cases hlt : i < M
        · have hin : (i : Int) < (M : Int) := by omega
          have hik : i < (plL inn ps.length).length := by have := unhide HM; omega
          obtain ⟨p, hp⟩ : ∃ p, (plL inn ps.length)[i]? = some p := ⟨_, List.getElem?_eq_getElem hik⟩
          have hpl := ((plL_mem inn ps.length p).1 (List.mem_of_getElem? hp)).1
          have hq : ((plL inn ps.length).map (pAt ps))[i]? = some (pAt ps p) := by rw [List.getElem?_map, hp]; rfl
          obtain ⟨lb, lo, lc, cs, dd, rr, cc, pv, ff, e, hlb, hr, hpc, hll⟩ := (unhide HR).1.at2 hq
          injection e with e1 e2 e3
          subst e1 e3
          obtain ⟨da, dac, df, rfl, hcd⟩ := cv_of hll.dl
          obtain ⟨pa, pac, pf, rfl, hcp⟩ := cv_of hll.rl
          obtain ⟨ag, rfl, hat⟩ := row_at (unhide HR).2.1 (Below.refl _ _) hik
          rw [show (plL inn ps.length)[i] = p from (List.getElem?_eq_some_iff.1 hp).2] at hat
          have hmem := List.mem_of_getElem? (pAt_at hpl)
          have hagl := World.block_lt_of_cell? _ _ hat
          have HAT : Hid (∀ Y, RowKit.Below w1.heap.size w1 Y → Y.cell? ⟨ag, i, none⟩ = some (.int .i64 (p : Int))) := hide fun Y hY => (hY.cell (p := ⟨ag, i, none⟩) hagl).trans hat
          have HD : Hid (∀ Y, RowKit.Below w1.heap.size w1 Y → Y.cell? ⟨lb, lo + i * 43 + 3, none⟩ = some (.slice da (pAt ps p).dp.length dac) ∧ Y.cell? ⟨lb, lo + i * 43 + 4, none⟩ = some (.slice pa (pAt ps p).pr.length pac)) := hide fun Y hY => ⟨(hY.cell (p := ⟨lb, _, none⟩) hlb).trans (hr 3 _ hpc.c3), (hY.cell (p := ⟨lb, _, none⟩) hlb).trans (hr 4 _ hpc.c4)⟩
          have hzd : ∀ k, k < (pAt ps p).dp.length → ∀ a ∈ (pAt ps p).dp.getD k [], a.v.size ≤ maxLen := fun k hk a ha => (((unhide HSM).d _ hmem _ (getD_mem hk)).2 a ha).2
          have hzp : ∀ k, k < (pAt ps p).pr.length → ∀ a ∈ (pAt ps p).pr.getD k [], a.v.size ≤ maxLen := fun k hk a ha => (((unhide HSM).r _ hmem _ (getD_mem hk)).2 a ha).2
          obtain ⟨im1, hi1⟩ : ∃ F : Nat → Bool, F = fun k => imP ps (fun _ => true) (-1) ((pAt ps p).dp.getD k []) := ⟨_, rfl⟩
          obtain ⟨im2, hi2⟩ : ∃ F : Nat → Bool, F = fun k => imP ps inn (-1) ((pAt ps p).dp.getD k []) := ⟨_, rfl⟩
          obtain ⟨im3, hi3⟩ : ∃ F : Nat → Bool, F = fun k => imP ps (fun _ => true) (p : Int) ((pAt ps p).pr.getD k []) := ⟨_, rfl⟩
          obtain ⟨im4, hi4⟩ : ∃ F : Nat → Bool, F = fun k => imP ps inn (p : Int) ((pAt ps p).pr.getD k []) := ⟨_, rfl⟩
          have HMD : Hid (∀ k, k < (pAt ps p).dp.length → ∃ eb eo, da = some ⟨eb, eo, none⟩ ∧ (∀ Y, RowKit.Below w1.heap.size w1 Y → Y.cell? ⟨eb, eo + k, none⟩ = some (.slice (df k).a (df k).n (df k).c)) ∧ (∀ X, RowKit.Below w1.heap.size w1 X → Calls Tryz.prog 33 #[.slice va ps.length vc, .int .i64 (p : Int), .slice (df k).a (df k).n (df k).c, .bool false] X fun e w' => e = .returned (.bool (im1 k)) ∧ RowKit.Below X.heap.size X w') ∧ (∀ X, RowKit.Below w1.heap.size w1 X → Calls Tryz.prog 33 #[.slice (some ⟨lb, lo, none⟩) M rc, .int .i64 (i : Int), .slice (df k).a (df k).n (df k).c, .bool false] X fun e w' => e = .returned (.bool (im2 k)) ∧ RowKit.Below X.heap.size X w')) := hide fun k hk => by
            obtain ⟨eb, eo, h1, h2, h3, h4⟩ := hcd.at_ k hk
            rw [hi1, hi2]
            refine ⟨eb, eo, h1, fun Y hY => (hY.cell (p := ⟨eb, _, none⟩) h2).trans h3, fun X hX => rMet_dep _ (unhide HSM) ((unhide HPK).later (bl_t (unhide HR).2.2 hX)) (h4.later hX) (hzd k hk), fun X hX => ?_⟩
            have := rMet_dep (i : Int) (sm_part (unhide HSM) inn) ((unhide HR).1.later hX) (h4.later hX) (hzd k hk)
            rw [im_dep] at this
            exact this
          have HMP : Hid (∀ k, k < (pAt ps p).pr.length → ∃ eb eo, pa = some ⟨eb, eo, none⟩ ∧ (∀ Y, RowKit.Below w1.heap.size w1 Y → Y.cell? ⟨eb, eo + k, none⟩ = some (.slice (pf k).a (pf k).n (pf k).c)) ∧ (∀ X, RowKit.Below w1.heap.size w1 X → Calls Tryz.prog 33 #[.slice va ps.length vc, .int .i64 (p : Int), .slice (pf k).a (pf k).n (pf k).c, .bool true] X fun e w' => e = .returned (.bool (im3 k)) ∧ RowKit.Below X.heap.size X w') ∧ (∀ X, RowKit.Below w1.heap.size w1 X → Calls Tryz.prog 33 #[.slice (some ⟨lb, lo, none⟩) M rc, .int .i64 (i : Int), .slice (pf k).a (pf k).n (pf k).c, .bool true] X fun e w' => e = .returned (.bool (im4 k)) ∧ RowKit.Below X.heap.size X w')) := hide fun k hk => by
            obtain ⟨eb, eo, h1, h2, h3, h4⟩ := hcp.at_ k hk
            rw [hi3, hi4]
            refine ⟨eb, eo, h1, fun Y hY => (hY.cell (p := ⟨eb, _, none⟩) h2).trans h3, fun X hX => rMet_pre _ (unhide HSM) ((unhide HPK).later (bl_t (unhide HR).2.2 hX)) (h4.later hX) (hzp k hk), fun X hX => ?_⟩
            have := rMet_pre (i : Int) (sm_part (unhide HSM) inn) ((unhide HR).1.later hX) (h4.later hX) (hzp k hk)
            rw [im_pre ps inn _ hp] at this
            exact this
          have HLS3 : Hid (∀ k, lsD ps inn (pAt ps p) k = (im1 k && !im2 k)) := hide fun k => by rw [hi1, hi2]; rfl
          have HLS4 : Hid (∀ k, lsP ps inn p (pAt ps p) k = (im3 k && !im4 k)) := hide fun k => by rw [hi3, hi4]; rfl
          have HBR : Hid (brk ps inn p = (anyB (lsD ps inn (pAt ps p)) (pAt ps p).dp.length || anyB (lsP ps inn p (pAt ps p)) (pAt ps p).pr.length)) := hide rfl
          have HRW : Hid (∀ Y, RowKit.Below w1.heap.size w1 Y → Y.rangeAt lb (lo + i * 43) cs) := hide fun Y hY => range_bel hr hlb hY
          have HI2 := hide (show (Tryz.prog.info? 46).map (·.size) = some cs.length by rw [hpc.len]; exact info43)
          have CK := hide (fun Y => rKeyOf_any cs _ _ Y hpc.c0 hpc.c1)
          have HKP : Hid (kyP (pAt ps p) = ((pAt ps p).nm, (pAt ps p).vr)) := hide rfl
          have hDl : (pAt ps p).dp.length ≤ 1048576 := Nat.le_trans (le_sum (fun p : Pk => p.dp.length) hmem) (unhide HSM).sd
          have hPl : (pAt ps p).pr.length ≤ 1048576 := Nat.le_trans (le_sum (fun p : Pk => p.pr.length) hmem) (unhide HSM).sr
          have HP := hide hp
          clear hq hr hpc hll hcd hcp hat hagl hzd hzp hi1 hi2 hi3 hi4 hmem hp hpl e2
          generalize (pAt ps p).dp.length = D at *
          generalize (pAt ps p).pr.length = R at *
          generalize lsD ps inn (pAt ps p) = LD at *
          generalize lsP ps inn p (pAt ps p) = LP at *
          generalize (pAt ps p).nm = kn at *
          generalize (pAt ps p).vr = kw at *
          obtain ⟨wo, hwo⟩ : ∃ W, W = wr := ⟨_, rfl⟩
          subst hwo
          obtain ⟨y3, y4⟩ := unhide HD _ (unhide HBo)
          go_wp2_with fail
          go_loopg [11, 12] D (fun gq bv kv X => ∃ (k : Nat) (b' : Bool), kv = .int .i64 k ∧ bv = .bool b' ∧ k ≤ D ∧ D - k ≤ gq ∧ Hid (RowKit.Below wo.heap.size wo X) ∧ Hid (b' = (false || anyB LD k)))
          case atStart => exact ⟨0, _, by go_num, rfl, by omega, by omega, hide (Below.refl _ _), hide (by simp [anyB])⟩
          case round =>
            clear y3 y4
            obtain ⟨k, b3, rfl, rfl, hk, hgk, HBW, HV⟩ := hrel
            have HBX := hide (bl_t (unhide HBo) (unhide HBW))
            obtain ⟨y3, y4⟩ := unhide HD _ (unhide HBX)
            by_cases hlk : k < D
            · have hkz : (k : Int) < (D : Int) := by omega
              obtain ⟨eb, eo, rfl, HE⟩ := unhide HMD k hlk
              have HSS : Hid (∀ Y, RowKit.Below w1.heap.size w1 Y → Y.cell? ⟨ag, i, none⟩ = some (.int .i64 (p : Int)) ∧ Y.cell? ⟨lb, lo + i * 43 + 3, none⟩ = some (.slice (some ⟨eb, eo, none⟩) D dac) ∧ Y.cell? ⟨eb, eo + k, none⟩ = some (.slice (df k).a (df k).n (df k).c)) := hide fun Y hY => ⟨unhide HAT Y hY, (unhide HD Y hY).1, (HE.1 Y hY)⟩
              have CA := hide (HE.2.1 wr.drew (bl_t (unhide HBX) (Below.refl wr.heap.size wr).drew))
              have CB := hide HE.2.2
              have HVn : Hid (∀ c : Bool, LD k = c → (b3 || c) = (false || anyB LD (k + 1))) := hide fun c hc => by
                rw [unhide HV]
                show _ = (false || (anyB LD k || LD k))
                rw [hc, Bool.or_assoc]
              have hls := unhide HLS3 k
              clear HE HV
              cases b3
              · cases m1 : im1 k
                · rw [m1] at CA
                  have HV' := hide (unhide HVn false (by rw [hls, m1]; rfl))
                  clear HVn hls
                  go_wp2_with fail
                  refine wp_region_held_drew (S := fun w' => w'.cell? ⟨ag, i, none⟩ = some (.int .i64 (p : Int)) ∧ w'.cell? ⟨lb, lo + i * 43 + 3, none⟩ = some (.slice (some ⟨eb, eo, none⟩) D dac) ∧ w'.cell? ⟨eb, eo + k, none⟩ = some (.slice (df k).a (df k).n (df k).c)) (by kernel_rfl) ?_ (fun hHeld => ?_)
                  · exact unhide HSS wr (unhide HBX)
                  refine wpAnyH_take (i := 0) (oi := { dst := some 56, op := Op.move (Operand.tmp 11), type := 4, pos := "ref.go:217", after := #[], guard := none }) (v := ?_) rfl (by kernel_rfl) (by kernel_rfl) (by kernel_rfl) (fun _ _ _ h => h) (Or.inl ⟨by rfl, ?_⟩) (by assumption) ?_
                  rotate_left
                  · intro w hSw; (try dsimp only at hSw); go_simp; (try with_reducible rfl)
                  try simp only [Act.put, List.setIfInBounds_toArray, List.set_cons_zero, List.set_cons_succ]
                  refine wpAnyH_take (i := 1) (oi := { dst := some 57, op := Op.move (Operand.tmp 56), type := 4, pos := "ref.go:217", after := #[{ on := 0, ground := Ground.data }], guard := none }) (v := ?_) rfl (by kernel_rfl) (by kernel_rfl) (by kernel_rfl) (fun _ _ _ h => h) (Or.inl ⟨by rfl, ?_⟩) (by assumption) ?_
                  rotate_left
                  · intro w hSw; (try dsimp only at hSw); go_simp; (try with_reducible rfl)
                  try simp only [Act.put, List.setIfInBounds_toArray, List.set_cons_zero, List.set_cons_succ]
                  refine wpAnyH_take (i := 2) (oi := { dst := some 58, op := Op.move (Operand.tmp 0), type := 22, pos := "ref.go:217", after := #[{ on := 1, ground := Ground.guard }], guard := some (1, false) }) (v := ?_) rfl (by kernel_rfl) (by kernel_rfl) (by kernel_rfl) (fun _ _ _ h => h) (Or.inl ⟨by rfl, ?_⟩) (by assumption) ?_
                  rotate_left
                  · intro w hSw; (try dsimp only at hSw); go_simp; (try with_reducible rfl)
                  try simp only [Act.put, List.setIfInBounds_toArray, List.set_cons_zero, List.set_cons_succ]
                  refine wpAnyH_take (i := 3) (oi := { dst := some 59, op := Op.move (Operand.tmp 8), type := 34, pos := "ref.go:217", after := #[{ on := 1, ground := Ground.guard }], guard := some (1, false) }) (v := ?_) rfl (by kernel_rfl) (by kernel_rfl) (by kernel_rfl) (fun _ _ _ h => h) (Or.inl ⟨by rfl, ?_⟩) (by assumption) ?_
                  rotate_left
                  · intro w hSw; (try dsimp only at hSw); go_simp; (try with_reducible rfl)
                  try simp only [Act.put, List.setIfInBounds_toArray, List.set_cons_zero, List.set_cons_succ]
                  refine wpAnyH_take (i := 4) (oi := { dst := some 60, op := Op.move (Operand.tmp 10), type := 3, pos := "ref.go:217", after := #[{ on := 1, ground := Ground.guard }], guard := some (1, false) }) (v := ?_) rfl (by kernel_rfl) (by kernel_rfl) (by kernel_rfl) (fun _ _ _ h => h) (Or.inl ⟨by rfl, ?_⟩) (by assumption) ?_
                  rotate_left
                  · intro w hSw; (try dsimp only at hSw); go_simp; (try with_reducible rfl)
                  try simp only [Act.put, List.setIfInBounds_toArray, List.set_cons_zero, List.set_cons_succ]
                  refine wpAnyH_take (i := 5) (oi := { dst := some 61, op := Op.indexAddr 34 (Operand.tmp 59) (Operand.tmp 60), type := 0, pos := "ref.go:217", after := #[{ on := 3, ground := Ground.data }, { on := 4, ground := Ground.data }, { on := 1, ground := Ground.guard }], guard := some (1, false) }) (v := ?_) rfl (by kernel_rfl) (by kernel_rfl) (by kernel_rfl) (fun _ _ _ h => h) (Or.inl ⟨by rfl, ?_⟩) (by assumption) ?_
                  rotate_left
                  · intro w hSw; (try dsimp only at hSw); go_simp; (try with_reducible rfl)
                  try simp only [Act.put, List.setIfInBounds_toArray, List.set_cons_zero, List.set_cons_succ]
                  refine wpAnyH_take (i := 6) (oi := { dst := some 62, op := Op.load 3 (Operand.tmp 61), type := 3, pos := "ref.go:217", after := #[{ on := 5, ground := Ground.data }, { on := 1, ground := Ground.guard }], guard := some (1, false) }) (v := ?_) rfl (by kernel_rfl) (by kernel_rfl) (by kernel_rfl) (fun _ _ _ h => h) (Or.inl ⟨by rfl, ?_⟩) (by assumption) ?_
                  rotate_left
                  · intro w hSw; (try dsimp only at hSw); go_simp; (try with_reducible rfl)
                  try simp only [Act.put, List.setIfInBounds_toArray, List.set_cons_zero, List.set_cons_succ]
                  refine wpAnyH_take (i := 7) (oi := { dst := some 63, op := Op.move (Operand.tmp 7), type := 22, pos := "ref.go:217", after := #[{ on := 1, ground := Ground.guard }], guard := some (1, false) }) (v := ?_) rfl (by kernel_rfl) (by kernel_rfl) (by kernel_rfl) (fun _ _ _ h => h) (Or.inl ⟨by rfl, ?_⟩) (by assumption) ?_
                  rotate_left
                  · intro w hSw; (try dsimp only at hSw); go_simp; (try with_reducible rfl)
                  try simp only [Act.put, List.setIfInBounds_toArray, List.set_cons_zero, List.set_cons_succ]
                  refine wpAnyH_take (i := 8) (oi := { dst := some 64, op := Op.move (Operand.tmp 10), type := 3, pos := "ref.go:217", after := #[{ on := 1, ground := Ground.guard }], guard := some (1, false) }) (v := ?_) rfl (by kernel_rfl) (by kernel_rfl) (by kernel_rfl) (fun _ _ _ h => h) (Or.inl ⟨by rfl, ?_⟩) (by assumption) ?_
                  rotate_left
                  · intro w hSw; (try dsimp only at hSw); go_simp; (try with_reducible rfl)
                  try simp only [Act.put, List.setIfInBounds_toArray, List.set_cons_zero, List.set_cons_succ]
                  refine wpAnyH_take (i := 9) (oi := { dst := some 65, op := Op.indexAddr 22 (Operand.tmp 63) (Operand.tmp 64), type := 0, pos := "ref.go:217", after := #[{ on := 7, ground := Ground.data }, { on := 8, ground := Ground.data }, { on := 1, ground := Ground.guard }], guard := some (1, false) }) (v := ?_) rfl (by kernel_rfl) (by kernel_rfl) (by kernel_rfl) (fun _ _ _ h => h) (Or.inl ⟨by rfl, ?_⟩) (by assumption) ?_
                  rotate_left
                  · intro w hSw; (try dsimp only at hSw); go_simp; (try with_reducible rfl)
                  try simp only [Act.put, List.setIfInBounds_toArray, List.set_cons_zero, List.set_cons_succ]
                  refine wpAnyH_take (i := 10) (oi := { dst := some 66, op := Op.fieldAddr 46 (Operand.tmp 65) 3, type := 0, pos := "ref.go:217", after := #[{ on := 9, ground := Ground.data }, { on := 1, ground := Ground.guard }], guard := some (1, false) }) (v := ?_) rfl (by kernel_rfl) (by kernel_rfl) (by kernel_rfl) (fun _ _ _ h => h) (Or.inl ⟨by rfl, ?_⟩) (by assumption) ?_
                  rotate_left
                  · intro w hSw; (try dsimp only at hSw); go_simp; (try with_reducible rfl)
                  try simp only [Act.put, List.setIfInBounds_toArray, List.set_cons_zero, List.set_cons_succ]
                  refine wpAnyH_take (i := 11) (oi := { dst := some 67, op := Op.load 40 (Operand.tmp 66), type := 40, pos := "ref.go:217", after := #[{ on := 10, ground := Ground.data }, { on := 1, ground := Ground.guard }], guard := some (1, false) }) (v := ?_) rfl (by kernel_rfl) (by kernel_rfl) (by kernel_rfl) (fun _ _ _ h => h) (Or.inl ⟨by rfl, ?_⟩) (by assumption) ?_
                  rotate_left
                  · intro w hSw; (try dsimp only at hSw); go_simp; (try with_reducible rfl)
                  try simp only [Act.put, List.setIfInBounds_toArray, List.set_cons_zero, List.set_cons_succ]
                  refine wpAnyH_take (i := 12) (oi := { dst := some 68, op := Op.move (Operand.tmp 12), type := 3, pos := "ref.go:217", after := #[{ on := 1, ground := Ground.guard }], guard := some (1, false) }) (v := ?_) rfl (by kernel_rfl) (by kernel_rfl) (by kernel_rfl) (fun _ _ _ h => h) (Or.inl ⟨by rfl, ?_⟩) (by assumption) ?_
                  rotate_left
                  · intro w hSw; (try dsimp only at hSw); go_simp; (try with_reducible rfl)
                  try simp only [Act.put, List.setIfInBounds_toArray, List.set_cons_zero, List.set_cons_succ]
                  refine wpAnyH_take (i := 13) (oi := { dst := some 69, op := Op.indexAddr 40 (Operand.tmp 67) (Operand.tmp 68), type := 0, pos := "ref.go:217", after := #[{ on := 11, ground := Ground.data }, { on := 12, ground := Ground.data }, { on := 1, ground := Ground.guard }], guard := some (1, false) }) (v := ?_) rfl (by kernel_rfl) (by kernel_rfl) (by kernel_rfl) (fun _ _ _ h => h) (Or.inl ⟨by rfl, ?_⟩) (by assumption) ?_
                  rotate_left
                  · intro w hSw; (try dsimp only at hSw); go_simp; (try with_reducible rfl)
                  try simp only [Act.put, List.setIfInBounds_toArray, List.set_cons_zero, List.set_cons_succ]
                  refine wpAnyH_take (i := 14) (oi := { dst := some 70, op := Op.load 49 (Operand.tmp 69), type := 49, pos := "ref.go:217", after := #[{ on := 13, ground := Ground.data }, { on := 1, ground := Ground.guard }], guard := some (1, false) }) (v := ?_) rfl (by kernel_rfl) (by kernel_rfl) (by kernel_rfl) (fun _ _ _ h => h) (Or.inl ⟨by rfl, ?_⟩) (by assumption) ?_
                  rotate_left
                  · intro w hSw; (try dsimp only at hSw); go_simp; (try with_reducible rfl)
                  try simp only [Act.put, List.setIfInBounds_toArray, List.set_cons_zero, List.set_cons_succ]
                  refine wpAnyH_ready (rs := [15]) (by kernel_rfl) (by simp) ?_
                  refine AllReadyH.cons (o := { dst := some 71, op := Op.call { callee := Callee.value (Operand.func 33), args := #[Operand.tmp 58, Operand.tmp 62, Operand.tmp 70, Operand.const (Value.bool false)], argTypes := #[22, 3, 49, 4] }, type := 4, pos := "ref.go:217", after := #[{ on := 2, ground := Ground.data }, { on := 6, ground := Ground.data }, { on := 14, ground := Ground.data }, { on := 1, ground := Ground.chain }, { on := 1, ground := Ground.guard }], guard := some (1, false) }) rfl (fun K hK => ?_) AllReadyH.nil
                  go_simp
                  refine (unhide CA).mono ?_
                  rintro e w5 ⟨rfl, hb5⟩
                  have hb6 := (Below.refl wr.heap.size wr).drew.trans (hb5.mono (by simp))
                  have HB5 := hide hb6
                  have h5 := unhide HSS w5 (bl_t (unhide HBX) hb6)
                  refine hK.out _ _ h5 (fun hHeld => ?_)
                  clear hb5 hb6
                  clear hK K
                  try simp only [Act.put, List.setIfInBounds_toArray, List.set_cons_zero, List.set_cons_succ]
                  refine wpAnyH_take (i := 16) (oi := { dst := some 72, op := Op.move (Operand.tmp 71), type := 4, pos := "ref.go:217", after := #[{ on := 15, ground := Ground.data }, { on := 15, ground := Ground.chain }, { on := 1, ground := Ground.guard }], guard := some (1, false) }) (v := ?_) rfl (by kernel_rfl) (by kernel_rfl) (by kernel_rfl) (fun _ _ _ h => h) (Or.inl ⟨by rfl, ?_⟩) (by assumption) ?_
                  rotate_left
                  · intro w hSw; (try dsimp only at hSw); go_simp; (try with_reducible rfl)
                  try simp only [Act.put, List.setIfInBounds_toArray, List.set_cons_zero, List.set_cons_succ]
                  refine wpAnyH_take (i := 17) (oi := { dst := some 73, op := Op.move (Operand.tmp 7), type := 22, pos := "ref.go:217", after := #[{ on := 16, ground := Ground.guard }], guard := some (16, true) }) (v := undef) rfl (by kernel_rfl) (by kernel_rfl) (by kernel_rfl) (fun _ _ _ h => h) (Or.inr ⟨by rfl, rfl⟩) (by assumption) ?_
                  try simp only [Act.put, List.setIfInBounds_toArray, List.set_cons_zero, List.set_cons_succ]
                  refine wpAnyH_take (i := 18) (oi := { dst := some 74, op := Op.move (Operand.tmp 10), type := 3, pos := "ref.go:217", after := #[{ on := 16, ground := Ground.guard }], guard := some (16, true) }) (v := undef) rfl (by kernel_rfl) (by kernel_rfl) (by kernel_rfl) (fun _ _ _ h => h) (Or.inr ⟨by rfl, rfl⟩) (by assumption) ?_
                  try simp only [Act.put, List.setIfInBounds_toArray, List.set_cons_zero, List.set_cons_succ]
                  refine wpAnyH_take (i := 19) (oi := { dst := some 75, op := Op.move (Operand.tmp 7), type := 22, pos := "ref.go:217", after := #[{ on := 16, ground := Ground.guard }], guard := some (16, true) }) (v := undef) rfl (by kernel_rfl) (by kernel_rfl) (by kernel_rfl) (fun _ _ _ h => h) (Or.inr ⟨by rfl, rfl⟩) (by assumption) ?_
                  try simp only [Act.put, List.setIfInBounds_toArray, List.set_cons_zero, List.set_cons_succ]
                  refine wpAnyH_take (i := 20) (oi := { dst := some 76, op := Op.move (Operand.tmp 10), type := 3, pos := "ref.go:217", after := #[{ on := 16, ground := Ground.guard }], guard := some (16, true) }) (v := undef) rfl (by kernel_rfl) (by kernel_rfl) (by kernel_rfl) (fun _ _ _ h => h) (Or.inr ⟨by rfl, rfl⟩) (by assumption) ?_
                  try simp only [Act.put, List.setIfInBounds_toArray, List.set_cons_zero, List.set_cons_succ]
                  refine wpAnyH_take (i := 21) (oi := { dst := some 77, op := Op.indexAddr 22 (Operand.tmp 75) (Operand.tmp 76), type := 0, pos := "ref.go:217", after := #[{ on := 19, ground := Ground.data }, { on := 20, ground := Ground.data }, { on := 16, ground := Ground.guard }], guard := some (16, true) }) (v := undef) rfl (by kernel_rfl) (by kernel_rfl) (by kernel_rfl) (fun _ _ _ h => h) (Or.inr ⟨by rfl, rfl⟩) (by assumption) ?_
                  try simp only [Act.put, List.setIfInBounds_toArray, List.set_cons_zero, List.set_cons_succ]
                  refine wpAnyH_take (i := 22) (oi := { dst := some 78, op := Op.fieldAddr 46 (Operand.tmp 77) 3, type := 0, pos := "ref.go:217", after := #[{ on := 21, ground := Ground.data }, { on := 16, ground := Ground.guard }], guard := some (16, true) }) (v := undef) rfl (by kernel_rfl) (by kernel_rfl) (by kernel_rfl) (fun _ _ _ h => h) (Or.inr ⟨by rfl, rfl⟩) (by assumption) ?_
                  try simp only [Act.put, List.setIfInBounds_toArray, List.set_cons_zero, List.set_cons_succ]
                  refine wpAnyH_take (i := 23) (oi := { dst := some 79, op := Op.load 40 (Operand.tmp 78), type := 40, pos := "ref.go:217", after := #[{ on := 22, ground := Ground.data }, { on := 16, ground := Ground.guard }], guard := some (16, true) }) (v := undef) rfl (by kernel_rfl) (by kernel_rfl) (by kernel_rfl) (fun _ _ _ h => h) (Or.inr ⟨by rfl, rfl⟩) (by assumption) ?_
                  try simp only [Act.put, List.setIfInBounds_toArray, List.set_cons_zero, List.set_cons_succ]
                  refine wpAnyH_take (i := 24) (oi := { dst := some 80, op := Op.move (Operand.tmp 12), type := 3, pos := "ref.go:217", after := #[{ on := 16, ground := Ground.guard }], guard := some (16, true) }) (v := undef) rfl (by kernel_rfl) (by kernel_rfl) (by kernel_rfl) (fun _ _ _ h => h) (Or.inr ⟨by rfl, rfl⟩) (by assumption) ?_
                  try simp only [Act.put, List.setIfInBounds_toArray, List.set_cons_zero, List.set_cons_succ]
                  refine wpAnyH_take (i := 25) (oi := { dst := some 81, op := Op.indexAddr 40 (Operand.tmp 79) (Operand.tmp 80), type := 0, pos := "ref.go:217", after := #[{ on := 23, ground := Ground.data }, { on := 24, ground := Ground.data }, { on := 16, ground := Ground.guard }], guard := some (16, true) }) (v := undef) rfl (by kernel_rfl) (by kernel_rfl) (by kernel_rfl) (fun _ _ _ h => h) (Or.inr ⟨by rfl, rfl⟩) (by assumption) ?_
                  try simp only [Act.put, List.setIfInBounds_toArray, List.set_cons_zero, List.set_cons_succ]
                  refine wpAnyH_take (i := 26) (oi := { dst := some 82, op := Op.load 49 (Operand.tmp 81), type := 49, pos := "ref.go:217", after := #[{ on := 25, ground := Ground.data }, { on := 16, ground := Ground.guard }], guard := some (16, true) }) (v := undef) rfl (by kernel_rfl) (by kernel_rfl) (by kernel_rfl) (fun _ _ _ h => h) (Or.inr ⟨by rfl, rfl⟩) (by assumption) ?_
                  try simp only [Act.put, List.setIfInBounds_toArray, List.set_cons_zero, List.set_cons_succ]
                  refine wpAnyH_take (i := 27) (oi := { dst := some 83, op := Op.call { callee := Callee.value (Operand.func 33), args := #[Operand.tmp 73, Operand.tmp 74, Operand.tmp 82, Operand.const (Value.bool false)], argTypes := #[22, 3, 49, 4] }, type := 4, pos := "ref.go:217", after := #[{ on := 17, ground := Ground.data }, { on := 18, ground := Ground.data }, { on := 26, ground := Ground.data }, { on := 16, ground := Ground.chain }, { on := 16, ground := Ground.guard }], guard := some (16, true) }) (v := undef) rfl (by kernel_rfl) (by kernel_rfl) (by kernel_rfl) (fun _ _ _ h => h) (Or.inr ⟨by rfl, rfl⟩) (by assumption) ?_
                  try simp only [Act.put, List.setIfInBounds_toArray, List.set_cons_zero, List.set_cons_succ]
                  refine wpAnyH_take (i := 28) (oi := { dst := some 84, op := Op.unOp UnOp.not 4 (Operand.tmp 83), type := 4, pos := "ref.go:217", after := #[{ on := 27, ground := Ground.data }, { on := 16, ground := Ground.guard }], guard := some (16, true) }) (v := undef) rfl (by kernel_rfl) (by kernel_rfl) (by kernel_rfl) (fun _ _ _ h => h) (Or.inr ⟨by rfl, rfl⟩) (by assumption) ?_
                  try simp only [Act.put, List.setIfInBounds_toArray, List.set_cons_zero, List.set_cons_succ]
                  refine wpAnyH_take (i := 29) (oi := { dst := some 85, op := Op.pick (Operand.tmp 72) (Operand.tmp 84) (Operand.const (Value.bool false)), type := 4, pos := "ref.go:217", after := #[{ on := 16, ground := Ground.data }, { on := 28, ground := Ground.data }, { on := 1, ground := Ground.guard }], guard := some (1, false) }) (v := ?_) rfl (by kernel_rfl) (by kernel_rfl) (by kernel_rfl) (fun _ _ _ h => h) (Or.inl ⟨by rfl, ?_⟩) (by assumption) ?_
                  rotate_left
                  · intro w hSw; (try dsimp only at hSw); go_simp; (try with_reducible rfl)
                  try simp only [Act.put, List.setIfInBounds_toArray, List.set_cons_zero, List.set_cons_succ]
                  refine wpAnyH_take (i := 30) (oi := { dst := some 86, op := Op.pick (Operand.tmp 57) (Operand.const (Value.bool true)) (Operand.tmp 85), type := 4, pos := "ref.go:217", after := #[{ on := 1, ground := Ground.data }, { on := 29, ground := Ground.data }], guard := none }) (v := ?_) rfl (by kernel_rfl) (by kernel_rfl) (by kernel_rfl) (fun _ _ _ h => h) (Or.inl ⟨by rfl, ?_⟩) (by assumption) ?_
                  rotate_left
                  · intro w hSw; (try dsimp only at hSw); go_simp; (try with_reducible rfl)
                  try simp only [Act.put, List.setIfInBounds_toArray, List.set_cons_zero, List.set_cons_succ]
                  refine wpAnyH_take (i := 31) (oi := { dst := some 11, op := Op.assign (Operand.tmp 86), type := 4, pos := "ref.go:217", after := #[{ on := 30, ground := Ground.data }, { on := 27, ground := Ground.chain }, { on := 0, ground := Ground.phase }, { on := 1, ground := Ground.phase }, { on := 2, ground := Ground.phase }, { on := 3, ground := Ground.phase }, { on := 4, ground := Ground.phase }, { on := 5, ground := Ground.phase }, { on := 6, ground := Ground.phase }, { on := 7, ground := Ground.phase }, { on := 8, ground := Ground.phase }, { on := 9, ground := Ground.phase }, { on := 10, ground := Ground.phase }, { on := 11, ground := Ground.phase }, { on := 12, ground := Ground.phase }, { on := 13, ground := Ground.phase }, { on := 14, ground := Ground.phase }, { on := 15, ground := Ground.phase }, { on := 16, ground := Ground.phase }, { on := 17, ground := Ground.phase }, { on := 18, ground := Ground.phase }, { on := 19, ground := Ground.phase }, { on := 20, ground := Ground.phase }, { on := 21, ground := Ground.phase }, { on := 22, ground := Ground.phase }, { on := 23, ground := Ground.phase }, { on := 24, ground := Ground.phase }, { on := 25, ground := Ground.phase }, { on := 26, ground := Ground.phase }, { on := 27, ground := Ground.phase }, { on := 28, ground := Ground.phase }, { on := 29, ground := Ground.phase }, { on := 30, ground := Ground.phase }], guard := none }) (v := ?_) rfl (by kernel_rfl) (by kernel_rfl) (by kernel_rfl) (fun _ _ _ h => h) (Or.inl ⟨by rfl, ?_⟩) (by assumption) ?_
                  rotate_left
                  · intro w hSw; (try dsimp only at hSw); go_simp; (try with_reducible rfl)
                  try simp only [Act.put, List.setIfInBounds_toArray, List.set_cons_zero, List.set_cons_succ]
                  refine wpAnyH_done (by kernel_rfl) ?_ _
                  have HB7 := hide (bl_t (unhide HBW) (unhide HB5))
                  clear h5 hHeld HB5 CA CB
                  go_wp2_with fail
                  go_roundg (D - (k + 1))
                  case measure => omega
                  case rel => exact ⟨k + 1, false, by go_num, rfl, by omega, by omega, hide (unhide HB7), HV'⟩
                · rw [m1] at CA
                  cases m2 : im2 k
                  · rw [m2] at CB
                    have HV' := hide (unhide HVn true (by rw [hls, m1, m2]; rfl))
                    clear HVn hls
                    go_wp2_with fail
                    refine wp_region_held_drew (S := fun w' => w'.cell? ⟨ag, i, none⟩ = some (.int .i64 (p : Int)) ∧ w'.cell? ⟨lb, lo + i * 43 + 3, none⟩ = some (.slice (some ⟨eb, eo, none⟩) D dac) ∧ w'.cell? ⟨eb, eo + k, none⟩ = some (.slice (df k).a (df k).n (df k).c)) (by kernel_rfl) ?_ (fun hHeld => ?_)
                    · exact unhide HSS wr (unhide HBX)
                    refine wpAnyH_take (i := 0) (oi := { dst := some 56, op := Op.move (Operand.tmp 11), type := 4, pos := "ref.go:217", after := #[], guard := none }) (v := ?_) rfl (by kernel_rfl) (by kernel_rfl) (by kernel_rfl) (fun _ _ _ h => h) (Or.inl ⟨by rfl, ?_⟩) (by assumption) ?_
                    rotate_left
                    · intro w hSw; (try dsimp only at hSw); go_simp; (try with_reducible rfl)
                    try simp only [Act.put, List.setIfInBounds_toArray, List.set_cons_zero, List.set_cons_succ]
                    refine wpAnyH_take (i := 1) (oi := { dst := some 57, op := Op.move (Operand.tmp 56), type := 4, pos := "ref.go:217", after := #[{ on := 0, ground := Ground.data }], guard := none }) (v := ?_) rfl (by kernel_rfl) (by kernel_rfl) (by kernel_rfl) (fun _ _ _ h => h) (Or.inl ⟨by rfl, ?_⟩) (by assumption) ?_
                    rotate_left
                    · intro w hSw; (try dsimp only at hSw); go_simp; (try with_reducible rfl)
                    try simp only [Act.put, List.setIfInBounds_toArray, List.set_cons_zero, List.set_cons_succ]
                    refine wpAnyH_take (i := 2) (oi := { dst := some 58, op := Op.move (Operand.tmp 0), type := 22, pos := "ref.go:217", after := #[{ on := 1, ground := Ground.guard }], guard := some (1, false) }) (v := ?_) rfl (by kernel_rfl) (by kernel_rfl) (by kernel_rfl) (fun _ _ _ h => h) (Or.inl ⟨by rfl, ?_⟩) (by assumption) ?_
                    rotate_left
                    · intro w hSw; (try dsimp only at hSw); go_simp; (try with_reducible rfl)
                    try simp only [Act.put, List.setIfInBounds_toArray, List.set_cons_zero, List.set_cons_succ]
                    refine wpAnyH_take (i := 3) (oi := { dst := some 59, op := Op.move (Operand.tmp 8), type := 34, pos := "ref.go:217", after := #[{ on := 1, ground := Ground.guard }], guard := some (1, false) }) (v := ?_) rfl (by kernel_rfl) (by kernel_rfl) (by kernel_rfl) (fun _ _ _ h => h) (Or.inl ⟨by rfl, ?_⟩) (by assumption) ?_
                    rotate_left
                    · intro w hSw; (try dsimp only at hSw); go_simp; (try with_reducible rfl)
                    try simp only [Act.put, List.setIfInBounds_toArray, List.set_cons_zero, List.set_cons_succ]
                    refine wpAnyH_take (i := 4) (oi := { dst := some 60, op := Op.move (Operand.tmp 10), type := 3, pos := "ref.go:217", after := #[{ on := 1, ground := Ground.guard }], guard := some (1, false) }) (v := ?_) rfl (by kernel_rfl) (by kernel_rfl) (by kernel_rfl) (fun _ _ _ h => h) (Or.inl ⟨by rfl, ?_⟩) (by assumption) ?_
                    rotate_left
                    · intro w hSw; (try dsimp only at hSw); go_simp; (try with_reducible rfl)
                    try simp only [Act.put, List.setIfInBounds_toArray, List.set_cons_zero, List.set_cons_succ]
                    refine wpAnyH_take (i := 5) (oi := { dst := some 61, op := Op.indexAddr 34 (Operand.tmp 59) (Operand.tmp 60), type := 0, pos := "ref.go:217", after := #[{ on := 3, ground := Ground.data }, { on := 4, ground := Ground.data }, { on := 1, ground := Ground.guard }], guard := some (1, false) }) (v := ?_) rfl (by kernel_rfl) (by kernel_rfl) (by kernel_rfl) (fun _ _ _ h => h) (Or.inl ⟨by rfl, ?_⟩) (by assumption) ?_
                    rotate_left
                    · intro w hSw; (try dsimp only at hSw); go_simp; (try with_reducible rfl)
                    try simp only [Act.put, List.setIfInBounds_toArray, List.set_cons_zero, List.set_cons_succ]
                    refine wpAnyH_take (i := 6) (oi := { dst := some 62, op := Op.load 3 (Operand.tmp 61), type := 3, pos := "ref.go:217", after := #[{ on := 5, ground := Ground.data }, { on := 1, ground := Ground.guard }], guard := some (1, false) }) (v := ?_) rfl (by kernel_rfl) (by kernel_rfl) (by kernel_rfl) (fun _ _ _ h => h) (Or.inl ⟨by rfl, ?_⟩) (by assumption) ?_
                    rotate_left
                    · intro w hSw; (try dsimp only at hSw); go_simp; (try with_reducible rfl)
                    try simp only [Act.put, List.setIfInBounds_toArray, List.set_cons_zero, List.set_cons_succ]
                    refine wpAnyH_take (i := 7) (oi := { dst := some 63, op := Op.move (Operand.tmp 7), type := 22, pos := "ref.go:217", after := #[{ on := 1, ground := Ground.guard }], guard := some (1, false) }) (v := ?_) rfl (by kernel_rfl) (by kernel_rfl) (by kernel_rfl) (fun _ _ _ h => h) (Or.inl ⟨by rfl, ?_⟩) (by assumption) ?_
                    rotate_left
                    · intro w hSw; (try dsimp only at hSw); go_simp; (try with_reducible rfl)
                    try simp only [Act.put, List.setIfInBounds_toArray, List.set_cons_zero, List.set_cons_succ]
                    refine wpAnyH_take (i := 8) (oi := { dst := some 64, op := Op.move (Operand.tmp 10), type := 3, pos := "ref.go:217", after := #[{ on := 1, ground := Ground.guard }], guard := some (1, false) }) (v := ?_) rfl (by kernel_rfl) (by kernel_rfl) (by kernel_rfl) (fun _ _ _ h => h) (Or.inl ⟨by rfl, ?_⟩) (by assumption) ?_
                    rotate_left
                    · intro w hSw; (try dsimp only at hSw); go_simp; (try with_reducible rfl)
                    try simp only [Act.put, List.setIfInBounds_toArray, List.set_cons_zero, List.set_cons_succ]
                    refine wpAnyH_take (i := 9) (oi := { dst := some 65, op := Op.indexAddr 22 (Operand.tmp 63) (Operand.tmp 64), type := 0, pos := "ref.go:217", after := #[{ on := 7, ground := Ground.data }, { on := 8, ground := Ground.data }, { on := 1, ground := Ground.guard }], guard := some (1, false) }) (v := ?_) rfl (by kernel_rfl) (by kernel_rfl) (by kernel_rfl) (fun _ _ _ h => h) (Or.inl ⟨by rfl, ?_⟩) (by assumption) ?_
                    rotate_left
                    · intro w hSw; (try dsimp only at hSw); go_simp; (try with_reducible rfl)
                    try simp only [Act.put, List.setIfInBounds_toArray, List.set_cons_zero, List.set_cons_succ]
                    refine wpAnyH_take (i := 10) (oi := { dst := some 66, op := Op.fieldAddr 46 (Operand.tmp 65) 3, type := 0, pos := "ref.go:217", after := #[{ on := 9, ground := Ground.data }, { on := 1, ground := Ground.guard }], guard := some (1, false) }) (v := ?_) rfl (by kernel_rfl) (by kernel_rfl) (by kernel_rfl) (fun _ _ _ h => h) (Or.inl ⟨by rfl, ?_⟩) (by assumption) ?_
                    rotate_left
                    · intro w hSw; (try dsimp only at hSw); go_simp; (try with_reducible rfl)
                    try simp only [Act.put, List.setIfInBounds_toArray, List.set_cons_zero, List.set_cons_succ]
                    refine wpAnyH_take (i := 11) (oi := { dst := some 67, op := Op.load 40 (Operand.tmp 66), type := 40, pos := "ref.go:217", after := #[{ on := 10, ground := Ground.data }, { on := 1, ground := Ground.guard }], guard := some (1, false) }) (v := ?_) rfl (by kernel_rfl) (by kernel_rfl) (by kernel_rfl) (fun _ _ _ h => h) (Or.inl ⟨by rfl, ?_⟩) (by assumption) ?_
                    rotate_left
                    · intro w hSw; (try dsimp only at hSw); go_simp; (try with_reducible rfl)
                    try simp only [Act.put, List.setIfInBounds_toArray, List.set_cons_zero, List.set_cons_succ]
                    refine wpAnyH_take (i := 12) (oi := { dst := some 68, op := Op.move (Operand.tmp 12), type := 3, pos := "ref.go:217", after := #[{ on := 1, ground := Ground.guard }], guard := some (1, false) }) (v := ?_) rfl (by kernel_rfl) (by kernel_rfl) (by kernel_rfl) (fun _ _ _ h => h) (Or.inl ⟨by rfl, ?_⟩) (by assumption) ?_
                    rotate_left
                    · intro w hSw; (try dsimp only at hSw); go_simp; (try with_reducible rfl)
                    try simp only [Act.put, List.setIfInBounds_toArray, List.set_cons_zero, List.set_cons_succ]
                    refine wpAnyH_take (i := 13) (oi := { dst := some 69, op := Op.indexAddr 40 (Operand.tmp 67) (Operand.tmp 68), type := 0, pos := "ref.go:217", after := #[{ on := 11, ground := Ground.data }, { on := 12, ground := Ground.data }, { on := 1, ground := Ground.guard }], guard := some (1, false) }) (v := ?_) rfl (by kernel_rfl) (by kernel_rfl) (by kernel_rfl) (fun _ _ _ h => h) (Or.inl ⟨by rfl, ?_⟩) (by assumption) ?_
                    rotate_left
                    · intro w hSw; (try dsimp only at hSw); go_simp; (try with_reducible rfl)
                    try simp only [Act.put, List.setIfInBounds_toArray, List.set_cons_zero, List.set_cons_succ]
                    refine wpAnyH_take (i := 14) (oi := { dst := some 70, op := Op.load 49 (Operand.tmp 69), type := 49, pos := "ref.go:217", after := #[{ on := 13, ground := Ground.data }, { on := 1, ground := Ground.guard }], guard := some (1, false) }) (v := ?_) rfl (by kernel_rfl) (by kernel_rfl) (by kernel_rfl) (fun _ _ _ h => h) (Or.inl ⟨by rfl, ?_⟩) (by assumption) ?_
                    rotate_left
                    · intro w hSw; (try dsimp only at hSw); go_simp; (try with_reducible rfl)
                    try simp only [Act.put, List.setIfInBounds_toArray, List.set_cons_zero, List.set_cons_succ]
                    refine wpAnyH_ready (rs := [15]) (by kernel_rfl) (by simp) ?_
                    refine AllReadyH.cons (o := { dst := some 71, op := Op.call { callee := Callee.value (Operand.func 33), args := #[Operand.tmp 58, Operand.tmp 62, Operand.tmp 70, Operand.const (Value.bool false)], argTypes := #[22, 3, 49, 4] }, type := 4, pos := "ref.go:217", after := #[{ on := 2, ground := Ground.data }, { on := 6, ground := Ground.data }, { on := 14, ground := Ground.data }, { on := 1, ground := Ground.chain }, { on := 1, ground := Ground.guard }], guard := some (1, false) }) rfl (fun K hK => ?_) AllReadyH.nil
                    go_simp
                    refine (unhide CA).mono ?_
                    rintro e w5 ⟨rfl, hb5⟩
                    have hb6 := (Below.refl wr.heap.size wr).drew.trans (hb5.mono (by simp))
                    have HB5 := hide hb6
                    have h5 := unhide HSS w5 (bl_t (unhide HBX) hb6)
                    refine hK.out _ _ h5 (fun hHeld => ?_)
                    clear hb5 hb6
                    clear hK K
                    try simp only [Act.put, List.setIfInBounds_toArray, List.set_cons_zero, List.set_cons_succ]
                    refine wpAnyH_take (i := 16) (oi := { dst := some 72, op := Op.move (Operand.tmp 71), type := 4, pos := "ref.go:217", after := #[{ on := 15, ground := Ground.data }, { on := 15, ground := Ground.chain }, { on := 1, ground := Ground.guard }], guard := some (1, false) }) (v := ?_) rfl (by kernel_rfl) (by kernel_rfl) (by kernel_rfl) (fun _ _ _ h => h) (Or.inl ⟨by rfl, ?_⟩) (by assumption) ?_
                    rotate_left
                    · intro w hSw; (try dsimp only at hSw); go_simp; (try with_reducible rfl)
                    try simp only [Act.put, List.setIfInBounds_toArray, List.set_cons_zero, List.set_cons_succ]
                    refine wpAnyH_take (i := 17) (oi := { dst := some 73, op := Op.move (Operand.tmp 7), type := 22, pos := "ref.go:217", after := #[{ on := 16, ground := Ground.guard }], guard := some (16, true) }) (v := ?_) rfl (by kernel_rfl) (by kernel_rfl) (by kernel_rfl) (fun _ _ _ h => h) (Or.inl ⟨by rfl, ?_⟩) (by assumption) ?_
                    rotate_left
                    · intro w hSw; (try dsimp only at hSw); go_simp; (try with_reducible rfl)
                    try simp only [Act.put, List.setIfInBounds_toArray, List.set_cons_zero, List.set_cons_succ]
                    refine wpAnyH_take (i := 18) (oi := { dst := some 74, op := Op.move (Operand.tmp 10), type := 3, pos := "ref.go:217", after := #[{ on := 16, ground := Ground.guard }], guard := some (16, true) }) (v := ?_) rfl (by kernel_rfl) (by kernel_rfl) (by kernel_rfl) (fun _ _ _ h => h) (Or.inl ⟨by rfl, ?_⟩) (by assumption) ?_
                    rotate_left
                    · intro w hSw; (try dsimp only at hSw); go_simp; (try with_reducible rfl)
                    try simp only [Act.put, List.setIfInBounds_toArray, List.set_cons_zero, List.set_cons_succ]
                    refine wpAnyH_take (i := 19) (oi := { dst := some 75, op := Op.move (Operand.tmp 7), type := 22, pos := "ref.go:217", after := #[{ on := 16, ground := Ground.guard }], guard := some (16, true) }) (v := ?_) rfl (by kernel_rfl) (by kernel_rfl) (by kernel_rfl) (fun _ _ _ h => h) (Or.inl ⟨by rfl, ?_⟩) (by assumption) ?_
                    rotate_left
                    · intro w hSw; (try dsimp only at hSw); go_simp; (try with_reducible rfl)
                    try simp only [Act.put, List.setIfInBounds_toArray, List.set_cons_zero, List.set_cons_succ]
                    refine wpAnyH_take (i := 20) (oi := { dst := some 76, op := Op.move (Operand.tmp 10), type := 3, pos := "ref.go:217", after := #[{ on := 16, ground := Ground.guard }], guard := some (16, true) }) (v := ?_) rfl (by kernel_rfl) (by kernel_rfl) (by kernel_rfl) (fun _ _ _ h => h) (Or.inl ⟨by rfl, ?_⟩) (by assumption) ?_
                    rotate_left
                    · intro w hSw; (try dsimp only at hSw); go_simp; (try with_reducible rfl)
                    try simp only [Act.put, List.setIfInBounds_toArray, List.set_cons_zero, List.set_cons_succ]
                    refine wpAnyH_take (i := 21) (oi := { dst := some 77, op := Op.indexAddr 22 (Operand.tmp 75) (Operand.tmp 76), type := 0, pos := "ref.go:217", after := #[{ on := 19, ground := Ground.data }, { on := 20, ground := Ground.data }, { on := 16, ground := Ground.guard }], guard := some (16, true) }) (v := ?_) rfl (by kernel_rfl) (by kernel_rfl) (by kernel_rfl) (fun _ _ _ h => h) (Or.inl ⟨by rfl, ?_⟩) (by assumption) ?_
                    rotate_left
                    · intro w hSw; (try dsimp only at hSw); go_simp; (try with_reducible rfl)
                    try simp only [Act.put, List.setIfInBounds_toArray, List.set_cons_zero, List.set_cons_succ]
                    refine wpAnyH_take (i := 22) (oi := { dst := some 78, op := Op.fieldAddr 46 (Operand.tmp 77) 3, type := 0, pos := "ref.go:217", after := #[{ on := 21, ground := Ground.data }, { on := 16, ground := Ground.guard }], guard := some (16, true) }) (v := ?_) rfl (by kernel_rfl) (by kernel_rfl) (by kernel_rfl) (fun _ _ _ h => h) (Or.inl ⟨by rfl, ?_⟩) (by assumption) ?_
                    rotate_left
                    · intro w hSw; (try dsimp only at hSw); go_simp; (try with_reducible rfl)
                    try simp only [Act.put, List.setIfInBounds_toArray, List.set_cons_zero, List.set_cons_succ]
                    refine wpAnyH_take (i := 23) (oi := { dst := some 79, op := Op.load 40 (Operand.tmp 78), type := 40, pos := "ref.go:217", after := #[{ on := 22, ground := Ground.data }, { on := 16, ground := Ground.guard }], guard := some (16, true) }) (v := ?_) rfl (by kernel_rfl) (by kernel_rfl) (by kernel_rfl) (fun _ _ _ h => h) (Or.inl ⟨by rfl, ?_⟩) (by assumption) ?_
                    rotate_left
                    · intro w hSw; (try dsimp only at hSw); go_simp; (try with_reducible rfl)
                    try simp only [Act.put, List.setIfInBounds_toArray, List.set_cons_zero, List.set_cons_succ]
                    refine wpAnyH_take (i := 24) (oi := { dst := some 80, op := Op.move (Operand.tmp 12), type := 3, pos := "ref.go:217", after := #[{ on := 16, ground := Ground.guard }], guard := some (16, true) }) (v := ?_) rfl (by kernel_rfl) (by kernel_rfl) (by kernel_rfl) (fun _ _ _ h => h) (Or.inl ⟨by rfl, ?_⟩) (by assumption) ?_
                    rotate_left
                    · intro w hSw; (try dsimp only at hSw); go_simp; (try with_reducible rfl)
                    try simp only [Act.put, List.setIfInBounds_toArray, List.set_cons_zero, List.set_cons_succ]
                    refine wpAnyH_take (i := 25) (oi := { dst := some 81, op := Op.indexAddr 40 (Operand.tmp 79) (Operand.tmp 80), type := 0, pos := "ref.go:217", after := #[{ on := 23, ground := Ground.data }, { on := 24, ground := Ground.data }, { on := 16, ground := Ground.guard }], guard := some (16, true) }) (v := ?_) rfl (by kernel_rfl) (by kernel_rfl) (by kernel_rfl) (fun _ _ _ h => h) (Or.inl ⟨by rfl, ?_⟩) (by assumption) ?_
                    rotate_left
                    · intro w hSw; (try dsimp only at hSw); go_simp; (try with_reducible rfl)
                    try simp only [Act.put, List.setIfInBounds_toArray, List.set_cons_zero, List.set_cons_succ]
                    refine wpAnyH_take (i := 26) (oi := { dst := some 82, op := Op.load 49 (Operand.tmp 81), type := 49, pos := "ref.go:217", after := #[{ on := 25, ground := Ground.data }, { on := 16, ground := Ground.guard }], guard := some (16, true) }) (v := ?_) rfl (by kernel_rfl) (by kernel_rfl) (by kernel_rfl) (fun _ _ _ h => h) (Or.inl ⟨by rfl, ?_⟩) (by assumption) ?_
                    rotate_left
                    · intro w hSw; (try dsimp only at hSw); go_simp; (try with_reducible rfl)
                    try simp only [Act.put, List.setIfInBounds_toArray, List.set_cons_zero, List.set_cons_succ]
                    refine wpAnyH_ready (rs := [27]) (by kernel_rfl) (by simp) ?_
                    refine AllReadyH.cons (o := { dst := some 83, op := Op.call { callee := Callee.value (Operand.func 33), args := #[Operand.tmp 73, Operand.tmp 74, Operand.tmp 82, Operand.const (Value.bool false)], argTypes := #[22, 3, 49, 4] }, type := 4, pos := "ref.go:217", after := #[{ on := 17, ground := Ground.data }, { on := 18, ground := Ground.data }, { on := 26, ground := Ground.data }, { on := 16, ground := Ground.chain }, { on := 16, ground := Ground.guard }], guard := some (16, true) }) rfl (fun K hK => ?_) AllReadyH.nil
                    go_simp
                    refine (unhide CB w5 (bl_t (unhide HBX) (unhide HB5))).mono ?_
                    rintro e w6 ⟨rfl, hb5⟩
                    have HB6 := hide (bl_t (unhide HB5) hb5)
                    have h6 := unhide HSS w6 (bl_t (unhide HBX) (unhide HB6))
                    refine hK.out _ _ h6 (fun hHeld => ?_)
                    clear hb5
                    clear hK K
                    try simp only [Act.put, List.setIfInBounds_toArray, List.set_cons_zero, List.set_cons_succ]
                    refine wpAnyH_take (i := 28) (oi := { dst := some 84, op := Op.unOp UnOp.not 4 (Operand.tmp 83), type := 4, pos := "ref.go:217", after := #[{ on := 27, ground := Ground.data }, { on := 16, ground := Ground.guard }], guard := some (16, true) }) (v := ?_) rfl (by kernel_rfl) (by kernel_rfl) (by kernel_rfl) (fun _ _ _ h => h) (Or.inl ⟨by rfl, ?_⟩) (by assumption) ?_
                    rotate_left
                    · intro w hSw; (try dsimp only at hSw); go_simp; (try with_reducible rfl)
                    try simp only [Act.put, List.setIfInBounds_toArray, List.set_cons_zero, List.set_cons_succ]
                    refine wpAnyH_take (i := 29) (oi := { dst := some 85, op := Op.pick (Operand.tmp 72) (Operand.tmp 84) (Operand.const (Value.bool false)), type := 4, pos := "ref.go:217", after := #[{ on := 16, ground := Ground.data }, { on := 28, ground := Ground.data }, { on := 1, ground := Ground.guard }], guard := some (1, false) }) (v := ?_) rfl (by kernel_rfl) (by kernel_rfl) (by kernel_rfl) (fun _ _ _ h => h) (Or.inl ⟨by rfl, ?_⟩) (by assumption) ?_
                    rotate_left
                    · intro w hSw; (try dsimp only at hSw); go_simp; (try with_reducible rfl)
                    try simp only [Act.put, List.setIfInBounds_toArray, List.set_cons_zero, List.set_cons_succ]
                    refine wpAnyH_take (i := 30) (oi := { dst := some 86, op := Op.pick (Operand.tmp 57) (Operand.const (Value.bool true)) (Operand.tmp 85), type := 4, pos := "ref.go:217", after := #[{ on := 1, ground := Ground.data }, { on := 29, ground := Ground.data }], guard := none }) (v := ?_) rfl (by kernel_rfl) (by kernel_rfl) (by kernel_rfl) (fun _ _ _ h => h) (Or.inl ⟨by rfl, ?_⟩) (by assumption) ?_
                    rotate_left
                    · intro w hSw; (try dsimp only at hSw); go_simp; (try with_reducible rfl)
                    try simp only [Act.put, List.setIfInBounds_toArray, List.set_cons_zero, List.set_cons_succ]
                    refine wpAnyH_take (i := 31) (oi := { dst := some 11, op := Op.assign (Operand.tmp 86), type := 4, pos := "ref.go:217", after := #[{ on := 30, ground := Ground.data }, { on := 27, ground := Ground.chain }, { on := 0, ground := Ground.phase }, { on := 1, ground := Ground.phase }, { on := 2, ground := Ground.phase }, { on := 3, ground := Ground.phase }, { on := 4, ground := Ground.phase }, { on := 5, ground := Ground.phase }, { on := 6, ground := Ground.phase }, { on := 7, ground := Ground.phase }, { on := 8, ground := Ground.phase }, { on := 9, ground := Ground.phase }, { on := 10, ground := Ground.phase }, { on := 11, ground := Ground.phase }, { on := 12, ground := Ground.phase }, { on := 13, ground := Ground.phase }, { on := 14, ground := Ground.phase }, { on := 15, ground := Ground.phase }, { on := 16, ground := Ground.phase }, { on := 17, ground := Ground.phase }, { on := 18, ground := Ground.phase }, { on := 19, ground := Ground.phase }, { on := 20, ground := Ground.phase }, { on := 21, ground := Ground.phase }, { on := 22, ground := Ground.phase }, { on := 23, ground := Ground.phase }, { on := 24, ground := Ground.phase }, { on := 25, ground := Ground.phase }, { on := 26, ground := Ground.phase }, { on := 27, ground := Ground.phase }, { on := 28, ground := Ground.phase }, { on := 29, ground := Ground.phase }, { on := 30, ground := Ground.phase }], guard := none }) (v := ?_) rfl (by kernel_rfl) (by kernel_rfl) (by kernel_rfl) (fun _ _ _ h => h) (Or.inl ⟨by rfl, ?_⟩) (by assumption) ?_
                    rotate_left
                    · intro w hSw; (try dsimp only at hSw); go_simp; (try with_reducible rfl)
                    try simp only [Act.put, List.setIfInBounds_toArray, List.set_cons_zero, List.set_cons_succ]
                    refine wpAnyH_done (by kernel_rfl) ?_ _
                    have HB7 := hide (bl_t (unhide HBW) (unhide HB6))
                    clear h5 h6 hHeld HB5 HB6 CA CB
                    go_wp2_with fail
                    go_roundg (D - (k + 1))
                    case measure => omega
                    case rel => exact ⟨k + 1, true, by go_num, rfl, by omega, by omega, hide (unhide HB7), HV'⟩
                  · rw [m2] at CB
                    have HV' := hide (unhide HVn false (by rw [hls, m1, m2]; rfl))
                    clear HVn hls
                    go_wp2_with fail
                    refine wp_region_held_drew (S := fun w' => w'.cell? ⟨ag, i, none⟩ = some (.int .i64 (p : Int)) ∧ w'.cell? ⟨lb, lo + i * 43 + 3, none⟩ = some (.slice (some ⟨eb, eo, none⟩) D dac) ∧ w'.cell? ⟨eb, eo + k, none⟩ = some (.slice (df k).a (df k).n (df k).c)) (by kernel_rfl) ?_ (fun hHeld => ?_)
                    · exact unhide HSS wr (unhide HBX)
                    refine wpAnyH_take (i := 0) (oi := { dst := some 56, op := Op.move (Operand.tmp 11), type := 4, pos := "ref.go:217", after := #[], guard := none }) (v := ?_) rfl (by kernel_rfl) (by kernel_rfl) (by kernel_rfl) (fun _ _ _ h => h) (Or.inl ⟨by rfl, ?_⟩) (by assumption) ?_
                    rotate_left
                    · intro w hSw; (try dsimp only at hSw); go_simp; (try with_reducible rfl)
                    try simp only [Act.put, List.setIfInBounds_toArray, List.set_cons_zero, List.set_cons_succ]
                    refine wpAnyH_take (i := 1) (oi := { dst := some 57, op := Op.move (Operand.tmp 56), type := 4, pos := "ref.go:217", after := #[{ on := 0, ground := Ground.data }], guard := none }) (v := ?_) rfl (by kernel_rfl) (by kernel_rfl) (by kernel_rfl) (fun _ _ _ h => h) (Or.inl ⟨by rfl, ?_⟩) (by assumption) ?_
                    rotate_left
                    · intro w hSw; (try dsimp only at hSw); go_simp; (try with_reducible rfl)
                    try simp only [Act.put, List.setIfInBounds_toArray, List.set_cons_zero, List.set_cons_succ]
                    refine wpAnyH_take (i := 2) (oi := { dst := some 58, op := Op.move (Operand.tmp 0), type := 22, pos := "ref.go:217", after := #[{ on := 1, ground := Ground.guard }], guard := some (1, false) }) (v := ?_) rfl (by kernel_rfl) (by kernel_rfl) (by kernel_rfl) (fun _ _ _ h => h) (Or.inl ⟨by rfl, ?_⟩) (by assumption) ?_
                    rotate_left
                    · intro w hSw; (try dsimp only at hSw); go_simp; (try with_reducible rfl)
                    try simp only [Act.put, List.setIfInBounds_toArray, List.set_cons_zero, List.set_cons_succ]
                    refine wpAnyH_take (i := 3) (oi := { dst := some 59, op := Op.move (Operand.tmp 8), type := 34, pos := "ref.go:217", after := #[{ on := 1, ground := Ground.guard }], guard := some (1, false) }) (v := ?_) rfl (by kernel_rfl) (by kernel_rfl) (by kernel_rfl) (fun _ _ _ h => h) (Or.inl ⟨by rfl, ?_⟩) (by assumption) ?_
                    rotate_left
                    · intro w hSw; (try dsimp only at hSw); go_simp; (try with_reducible rfl)
                    try simp only [Act.put, List.setIfInBounds_toArray, List.set_cons_zero, List.set_cons_succ]
                    refine wpAnyH_take (i := 4) (oi := { dst := some 60, op := Op.move (Operand.tmp 10), type := 3, pos := "ref.go:217", after := #[{ on := 1, ground := Ground.guard }], guard := some (1, false) }) (v := ?_) rfl (by kernel_rfl) (by kernel_rfl) (by kernel_rfl) (fun _ _ _ h => h) (Or.inl ⟨by rfl, ?_⟩) (by assumption) ?_
                    rotate_left
                    · intro w hSw; (try dsimp only at hSw); go_simp; (try with_reducible rfl)
                    try simp only [Act.put, List.setIfInBounds_toArray, List.set_cons_zero, List.set_cons_succ]
                    refine wpAnyH_take (i := 5) (oi := { dst := some 61, op := Op.indexAddr 34 (Operand.tmp 59) (Operand.tmp 60), type := 0, pos := "ref.go:217", after := #[{ on := 3, ground := Ground.data }, { on := 4, ground := Ground.data }, { on := 1, ground := Ground.guard }], guard := some (1, false) }) (v := ?_) rfl (by kernel_rfl) (by kernel_rfl) (by kernel_rfl) (fun _ _ _ h => h) (Or.inl ⟨by rfl, ?_⟩) (by assumption) ?_
                    rotate_left
                    · intro w hSw; (try dsimp only at hSw); go_simp; (try with_reducible rfl)
                    try simp only [Act.put, List.setIfInBounds_toArray, List.set_cons_zero, List.set_cons_succ]
                    refine wpAnyH_take (i := 6) (oi := { dst := some 62, op := Op.load 3 (Operand.tmp 61), type := 3, pos := "ref.go:217", after := #[{ on := 5, ground := Ground.data }, { on := 1, ground := Ground.guard }], guard := some (1, false) }) (v := ?_) rfl (by kernel_rfl) (by kernel_rfl) (by kernel_rfl) (fun _ _ _ h => h) (Or.inl ⟨by rfl, ?_⟩) (by assumption) ?_
                    rotate_left
                    · intro w hSw; (try dsimp only at hSw); go_simp; (try with_reducible rfl)
                    try simp only [Act.put, List.setIfInBounds_toArray, List.set_cons_zero, List.set_cons_succ]
                    refine wpAnyH_take (i := 7) (oi := { dst := some 63, op := Op.move (Operand.tmp 7), type := 22, pos := "ref.go:217", after := #[{ on := 1, ground := Ground.guard }], guard := some (1, false) }) (v := ?_) rfl (by kernel_rfl) (by kernel_rfl) (by kernel_rfl) (fun _ _ _ h => h) (Or.inl ⟨by rfl, ?_⟩) (by assumption) ?_
                    rotate_left
                    · intro w hSw; (try dsimp only at hSw); go_simp; (try with_reducible rfl)
                    try simp only [Act.put, List.setIfInBounds_toArray, List.set_cons_zero, List.set_cons_succ]
                    refine wpAnyH_take (i := 8) (oi := { dst := some 64, op := Op.move (Operand.tmp 10), type := 3, pos := "ref.go:217", after := #[{ on := 1, ground := Ground.guard }], guard := some (1, false) }) (v := ?_) rfl (by kernel_rfl) (by kernel_rfl) (by kernel_rfl) (fun _ _ _ h => h) (Or.inl ⟨by rfl, ?_⟩) (by assumption) ?_
                    rotate_left
                    · intro w hSw; (try dsimp only at hSw); go_simp; (try with_reducible rfl)
                    try simp only [Act.put, List.setIfInBounds_toArray, List.set_cons_zero, List.set_cons_succ]
                    refine wpAnyH_take (i := 9) (oi := { dst := some 65, op := Op.indexAddr 22 (Operand.tmp 63) (Operand.tmp 64), type := 0, pos := "ref.go:217", after := #[{ on := 7, ground := Ground.data }, { on := 8, ground := Ground.data }, { on := 1, ground := Ground.guard }], guard := some (1, false) }) (v := ?_) rfl (by kernel_rfl) (by kernel_rfl) (by kernel_rfl) (fun _ _ _ h => h) (Or.inl ⟨by rfl, ?_⟩) (by assumption) ?_
                    rotate_left
                    · intro w hSw; (try dsimp only at hSw); go_simp; (try with_reducible rfl)
                    try simp only [Act.put, List.setIfInBounds_toArray, List.set_cons_zero, List.set_cons_succ]
                    refine wpAnyH_take (i := 10) (oi := { dst := some 66, op := Op.fieldAddr 46 (Operand.tmp 65) 3, type := 0, pos := "ref.go:217", after := #[{ on := 9, ground := Ground.data }, { on := 1, ground := Ground.guard }], guard := some (1, false) }) (v := ?_) rfl (by kernel_rfl) (by kernel_rfl) (by kernel_rfl) (fun _ _ _ h => h) (Or.inl ⟨by rfl, ?_⟩) (by assumption) ?_
                    rotate_left
                    · intro w hSw; (try dsimp only at hSw); go_simp; (try with_reducible rfl)
                    try simp only [Act.put, List.setIfInBounds_toArray, List.set_cons_zero, List.set_cons_succ]
                    refine wpAnyH_take (i := 11) (oi := { dst := some 67, op := Op.load 40 (Operand.tmp 66), type := 40, pos := "ref.go:217", after := #[{ on := 10, ground := Ground.data }, { on := 1, ground := Ground.guard }], guard := some (1, false) }) (v := ?_) rfl (by kernel_rfl) (by kernel_rfl) (by kernel_rfl) (fun _ _ _ h => h) (Or.inl ⟨by rfl, ?_⟩) (by assumption) ?_
                    rotate_left
                    · intro w hSw; (try dsimp only at hSw); go_simp; (try with_reducible rfl)
                    try simp only [Act.put, List.setIfInBounds_toArray, List.set_cons_zero, List.set_cons_succ]
                    refine wpAnyH_take (i := 12) (oi := { dst := some 68, op := Op.move (Operand.tmp 12), type := 3, pos := "ref.go:217", after := #[{ on := 1, ground := Ground.guard }], guard := some (1, false) }) (v := ?_) rfl (by kernel_rfl) (by kernel_rfl) (by kernel_rfl) (fun _ _ _ h => h) (Or.inl ⟨by rfl, ?_⟩) (by assumption) ?_
                    rotate_left
                    · intro w hSw; (try dsimp only at hSw); go_simp; (try with_reducible rfl)
                    try simp only [Act.put, List.setIfInBounds_toArray, List.set_cons_zero, List.set_cons_succ]
                    refine wpAnyH_take (i := 13) (oi := { dst := some 69, op := Op.indexAddr 40 (Operand.tmp 67) (Operand.tmp 68), type := 0, pos := "ref.go:217", after := #[{ on := 11, ground := Ground.data }, { on := 12, ground := Ground.data }, { on := 1, ground := Ground.guard }], guard := some (1, false) }) (v := ?_) rfl (by kernel_rfl) (by kernel_rfl) (by kernel_rfl) (fun _ _ _ h => h) (Or.inl ⟨by rfl, ?_⟩) (by assumption) ?_
                    rotate_left
                    · intro w hSw; (try dsimp only at hSw); go_simp; (try with_reducible rfl)
                    try simp only [Act.put, List.setIfInBounds_toArray, List.set_cons_zero, List.set_cons_succ]
                    refine wpAnyH_take (i := 14) (oi := { dst := some 70, op := Op.load 49 (Operand.tmp 69), type := 49, pos := "ref.go:217", after := #[{ on := 13, ground := Ground.data }, { on := 1, ground := Ground.guard }], guard := some (1, false) }) (v := ?_) rfl (by kernel_rfl) (by kernel_rfl) (by kernel_rfl) (fun _ _ _ h => h) (Or.inl ⟨by rfl, ?_⟩) (by assumption) ?_
                    rotate_left
                    · intro w hSw; (try dsimp only at hSw); go_simp; (try with_reducible rfl)
                    try simp only [Act.put, List.setIfInBounds_toArray, List.set_cons_zero, List.set_cons_succ]
                    refine wpAnyH_ready (rs := [15]) (by kernel_rfl) (by simp) ?_
                    refine AllReadyH.cons (o := { dst := some 71, op := Op.call { callee := Callee.value (Operand.func 33), args := #[Operand.tmp 58, Operand.tmp 62, Operand.tmp 70, Operand.const (Value.bool false)], argTypes := #[22, 3, 49, 4] }, type := 4, pos := "ref.go:217", after := #[{ on := 2, ground := Ground.data }, { on := 6, ground := Ground.data }, { on := 14, ground := Ground.data }, { on := 1, ground := Ground.chain }, { on := 1, ground := Ground.guard }], guard := some (1, false) }) rfl (fun K hK => ?_) AllReadyH.nil
                    go_simp
                    refine (unhide CA).mono ?_
                    rintro e w5 ⟨rfl, hb5⟩
                    have hb6 := (Below.refl wr.heap.size wr).drew.trans (hb5.mono (by simp))
                    have HB5 := hide hb6
                    have h5 := unhide HSS w5 (bl_t (unhide HBX) hb6)
                    refine hK.out _ _ h5 (fun hHeld => ?_)
                    clear hb5 hb6
                    clear hK K
                    try simp only [Act.put, List.setIfInBounds_toArray, List.set_cons_zero, List.set_cons_succ]
                    refine wpAnyH_take (i := 16) (oi := { dst := some 72, op := Op.move (Operand.tmp 71), type := 4, pos := "ref.go:217", after := #[{ on := 15, ground := Ground.data }, { on := 15, ground := Ground.chain }, { on := 1, ground := Ground.guard }], guard := some (1, false) }) (v := ?_) rfl (by kernel_rfl) (by kernel_rfl) (by kernel_rfl) (fun _ _ _ h => h) (Or.inl ⟨by rfl, ?_⟩) (by assumption) ?_
                    rotate_left
                    · intro w hSw; (try dsimp only at hSw); go_simp; (try with_reducible rfl)
                    try simp only [Act.put, List.setIfInBounds_toArray, List.set_cons_zero, List.set_cons_succ]
                    refine wpAnyH_take (i := 17) (oi := { dst := some 73, op := Op.move (Operand.tmp 7), type := 22, pos := "ref.go:217", after := #[{ on := 16, ground := Ground.guard }], guard := some (16, true) }) (v := ?_) rfl (by kernel_rfl) (by kernel_rfl) (by kernel_rfl) (fun _ _ _ h => h) (Or.inl ⟨by rfl, ?_⟩) (by assumption) ?_
                    rotate_left
                    · intro w hSw; (try dsimp only at hSw); go_simp; (try with_reducible rfl)
                    try simp only [Act.put, List.setIfInBounds_toArray, List.set_cons_zero, List.set_cons_succ]
                    refine wpAnyH_take (i := 18) (oi := { dst := some 74, op := Op.move (Operand.tmp 10), type := 3, pos := "ref.go:217", after := #[{ on := 16, ground := Ground.guard }], guard := some (16, true) }) (v := ?_) rfl (by kernel_rfl) (by kernel_rfl) (by kernel_rfl) (fun _ _ _ h => h) (Or.inl ⟨by rfl, ?_⟩) (by assumption) ?_
                    rotate_left
                    · intro w hSw; (try dsimp only at hSw); go_simp; (try with_reducible rfl)
                    try simp only [Act.put, List.setIfInBounds_toArray, List.set_cons_zero, List.set_cons_succ]
                    refine wpAnyH_take (i := 19) (oi := { dst := some 75, op := Op.move (Operand.tmp 7), type := 22, pos := "ref.go:217", after := #[{ on := 16, ground := Ground.guard }], guard := some (16, true) }) (v := ?_) rfl (by kernel_rfl) (by kernel_rfl) (by kernel_rfl) (fun _ _ _ h => h) (Or.inl ⟨by rfl, ?_⟩) (by assumption) ?_
                    rotate_left
                    · intro w hSw; (try dsimp only at hSw); go_simp; (try with_reducible rfl)
                    try simp only [Act.put, List.setIfInBounds_toArray, List.set_cons_zero, List.set_cons_succ]
                    refine wpAnyH_take (i := 20) (oi := { dst := some 76, op := Op.move (Operand.tmp 10), type := 3, pos := "ref.go:217", after := #[{ on := 16, ground := Ground.guard }], guard := some (16, true) }) (v := ?_) rfl (by kernel_rfl) (by kernel_rfl) (by kernel_rfl) (fun _ _ _ h => h) (Or.inl ⟨by rfl, ?_⟩) (by assumption) ?_
                    rotate_left
                    · intro w hSw; (try dsimp only at hSw); go_simp; (try with_reducible rfl)
                    try simp only [Act.put, List.setIfInBounds_toArray, List.set_cons_zero, List.set_cons_succ]
                    refine wpAnyH_take (i := 21) (oi := { dst := some 77, op := Op.indexAddr 22 (Operand.tmp 75) (Operand.tmp 76), type := 0, pos := "ref.go:217", after := #[{ on := 19, ground := Ground.data }, { on := 20, ground := Ground.data }, { on := 16, ground := Ground.guard }], guard := some (16, true) }) (v := ?_) rfl (by kernel_rfl) (by kernel_rfl) (by kernel_rfl) (fun _ _ _ h => h) (Or.inl ⟨by rfl, ?_⟩) (by assumption) ?_
                    rotate_left
                    · intro w hSw; (try dsimp only at hSw); go_simp; (try with_reducible rfl)
                    try simp only [Act.put, List.setIfInBounds_toArray, List.set_cons_zero, List.set_cons_succ]
                    refine wpAnyH_take (i := 22) (oi := { dst := some 78, op := Op.fieldAddr 46 (Operand.tmp 77) 3, type := 0, pos := "ref.go:217", after := #[{ on := 21, ground := Ground.data }, { on := 16, ground := Ground.guard }], guard := some (16, true) }) (v := ?_) rfl (by kernel_rfl) (by kernel_rfl) (by kernel_rfl) (fun _ _ _ h => h) (Or.inl ⟨by rfl, ?_⟩) (by assumption) ?_
                    rotate_left
                    · intro w hSw; (try dsimp only at hSw); go_simp; (try with_reducible rfl)
                    try simp only [Act.put, List.setIfInBounds_toArray, List.set_cons_zero, List.set_cons_succ]
                    refine wpAnyH_take (i := 23) (oi := { dst := some 79, op := Op.load 40 (Operand.tmp 78), type := 40, pos := "ref.go:217", after := #[{ on := 22, ground := Ground.data }, { on := 16, ground := Ground.guard }], guard := some (16, true) }) (v := ?_) rfl (by kernel_rfl) (by kernel_rfl) (by kernel_rfl) (fun _ _ _ h => h) (Or.inl ⟨by rfl, ?_⟩) (by assumption) ?_
                    rotate_left
                    · intro w hSw; (try dsimp only at hSw); go_simp; (try with_reducible rfl)
                    try simp only [Act.put, List.setIfInBounds_toArray, List.set_cons_zero, List.set_cons_succ]
                    refine wpAnyH_take (i := 24) (oi := { dst := some 80, op := Op.move (Operand.tmp 12), type := 3, pos := "ref.go:217", after := #[{ on := 16, ground := Ground.guard }], guard := some (16, true) }) (v := ?_) rfl (by kernel_rfl) (by kernel_rfl) (by kernel_rfl) (fun _ _ _ h => h) (Or.inl ⟨by rfl, ?_⟩) (by assumption) ?_
                    rotate_left
                    · intro w hSw; (try dsimp only at hSw); go_simp; (try with_reducible rfl)
                    try simp only [Act.put, List.setIfInBounds_toArray, List.set_cons_zero, List.set_cons_succ]
                    refine wpAnyH_take (i := 25) (oi := { dst := some 81, op := Op.indexAddr 40 (Operand.tmp 79) (Operand.tmp 80), type := 0, pos := "ref.go:217", after := #[{ on := 23, ground := Ground.data }, { on := 24, ground := Ground.data }, { on := 16, ground := Ground.guard }], guard := some (16, true) }) (v := ?_) rfl (by kernel_rfl) (by kernel_rfl) (by kernel_rfl) (fun _ _ _ h => h) (Or.inl ⟨by rfl, ?_⟩) (by assumption) ?_
                    rotate_left
                    · intro w hSw; (try dsimp only at hSw); go_simp; (try with_reducible rfl)
                    try simp only [Act.put, List.setIfInBounds_toArray, List.set_cons_zero, List.set_cons_succ]
                    refine wpAnyH_take (i := 26) (oi := { dst := some 82, op := Op.load 49 (Operand.tmp 81), type := 49, pos := "ref.go:217", after := #[{ on := 25, ground := Ground.data }, { on := 16, ground := Ground.guard }], guard := some (16, true) }) (v := ?_) rfl (by kernel_rfl) (by kernel_rfl) (by kernel_rfl) (fun _ _ _ h => h) (Or.inl ⟨by rfl, ?_⟩) (by assumption) ?_
                    rotate_left
                    · intro w hSw; (try dsimp only at hSw); go_simp; (try with_reducible rfl)
                    try simp only [Act.put, List.setIfInBounds_toArray, List.set_cons_zero, List.set_cons_succ]
                    refine wpAnyH_ready (rs := [27]) (by kernel_rfl) (by simp) ?_
                    refine AllReadyH.cons (o := { dst := some 83, op := Op.call { callee := Callee.value (Operand.func 33), args := #[Operand.tmp 73, Operand.tmp 74, Operand.tmp 82, Operand.const (Value.bool false)], argTypes := #[22, 3, 49, 4] }, type := 4, pos := "ref.go:217", after := #[{ on := 17, ground := Ground.data }, { on := 18, ground := Ground.data }, { on := 26, ground := Ground.data }, { on := 16, ground := Ground.chain }, { on := 16, ground := Ground.guard }], guard := some (16, true) }) rfl (fun K hK => ?_) AllReadyH.nil
                    go_simp
                    refine (unhide CB w5 (bl_t (unhide HBX) (unhide HB5))).mono ?_
                    rintro e w6 ⟨rfl, hb5⟩
                    have HB6 := hide (bl_t (unhide HB5) hb5)
                    have h6 := unhide HSS w6 (bl_t (unhide HBX) (unhide HB6))
                    refine hK.out _ _ h6 (fun hHeld => ?_)
                    clear hb5
                    clear hK K
                    try simp only [Act.put, List.setIfInBounds_toArray, List.set_cons_zero, List.set_cons_succ]
                    refine wpAnyH_take (i := 28) (oi := { dst := some 84, op := Op.unOp UnOp.not 4 (Operand.tmp 83), type := 4, pos := "ref.go:217", after := #[{ on := 27, ground := Ground.data }, { on := 16, ground := Ground.guard }], guard := some (16, true) }) (v := ?_) rfl (by kernel_rfl) (by kernel_rfl) (by kernel_rfl) (fun _ _ _ h => h) (Or.inl ⟨by rfl, ?_⟩) (by assumption) ?_
                    rotate_left
                    · intro w hSw; (try dsimp only at hSw); go_simp; (try with_reducible rfl)
                    try simp only [Act.put, List.setIfInBounds_toArray, List.set_cons_zero, List.set_cons_succ]
                    refine wpAnyH_take (i := 29) (oi := { dst := some 85, op := Op.pick (Operand.tmp 72) (Operand.tmp 84) (Operand.const (Value.bool false)), type := 4, pos := "ref.go:217", after := #[{ on := 16, ground := Ground.data }, { on := 28, ground := Ground.data }, { on := 1, ground := Ground.guard }], guard := some (1, false) }) (v := ?_) rfl (by kernel_rfl) (by kernel_rfl) (by kernel_rfl) (fun _ _ _ h => h) (Or.inl ⟨by rfl, ?_⟩) (by assumption) ?_
                    rotate_left
                    · intro w hSw; (try dsimp only at hSw); go_simp; (try with_reducible rfl)
                    try simp only [Act.put, List.setIfInBounds_toArray, List.set_cons_zero, List.set_cons_succ]
                    refine wpAnyH_take (i := 30) (oi := { dst := some 86, op := Op.pick (Operand.tmp 57) (Operand.const (Value.bool true)) (Operand.tmp 85), type := 4, pos := "ref.go:217", after := #[{ on := 1, ground := Ground.data }, { on := 29, ground := Ground.data }], guard := none }) (v := ?_) rfl (by kernel_rfl) (by kernel_rfl) (by kernel_rfl) (fun _ _ _ h => h) (Or.inl ⟨by rfl, ?_⟩) (by assumption) ?_
                    rotate_left
                    · intro w hSw; (try dsimp only at hSw); go_simp; (try with_reducible rfl)
                    try simp only [Act.put, List.setIfInBounds_toArray, List.set_cons_zero, List.set_cons_succ]
                    refine wpAnyH_take (i := 31) (oi := { dst := some 11, op := Op.assign (Operand.tmp 86), type := 4, pos := "ref.go:217", after := #[{ on := 30, ground := Ground.data }, { on := 27, ground := Ground.chain }, { on := 0, ground := Ground.phase }, { on := 1, ground := Ground.phase }, { on := 2, ground := Ground.phase }, { on := 3, ground := Ground.phase }, { on := 4, ground := Ground.phase }, { on := 5, ground := Ground.phase }, { on := 6, ground := Ground.phase }, { on := 7, ground := Ground.phase }, { on := 8, ground := Ground.phase }, { on := 9, ground := Ground.phase }, { on := 10, ground := Ground.phase }, { on := 11, ground := Ground.phase }, { on := 12, ground := Ground.phase }, { on := 13, ground := Ground.phase }, { on := 14, ground := Ground.phase }, { on := 15, ground := Ground.phase }, { on := 16, ground := Ground.phase }, { on := 17, ground := Ground.phase }, { on := 18, ground := Ground.phase }, { on := 19, ground := Ground.phase }, { on := 20, ground := Ground.phase }, { on := 21, ground := Ground.phase }, { on := 22, ground := Ground.phase }, { on := 23, ground := Ground.phase }, { on := 24, ground := Ground.phase }, { on := 25, ground := Ground.phase }, { on := 26, ground := Ground.phase }, { on := 27, ground := Ground.phase }, { on := 28, ground := Ground.phase }, { on := 29, ground := Ground.phase }, { on := 30, ground := Ground.phase }], guard := none }) (v := ?_) rfl (by kernel_rfl) (by kernel_rfl) (by kernel_rfl) (fun _ _ _ h => h) (Or.inl ⟨by rfl, ?_⟩) (by assumption) ?_
                    rotate_left
                    · intro w hSw; (try dsimp only at hSw); go_simp; (try with_reducible rfl)
                    try simp only [Act.put, List.setIfInBounds_toArray, List.set_cons_zero, List.set_cons_succ]
                    refine wpAnyH_done (by kernel_rfl) ?_ _
                    have HB7 := hide (bl_t (unhide HBW) (unhide HB6))
                    clear h5 h6 hHeld HB5 HB6 CA CB
                    go_wp2_with fail
                    go_roundg (D - (k + 1))
                    case measure => omega
                    case rel => exact ⟨k + 1, false, by go_num, rfl, by omega, by omega, hide (unhide HB7), HV'⟩
              · have HV' := hide (unhide HVn (LD k) rfl)
                rw [Bool.true_or] at HV'
                have HBd := hide (fun n => bl_t (unhide HBW) (bl_drewN wr n))
                clear HVn hls CA CB HSS
                go_wp2_with fail
                go_quiet (fail)
                go_wp2
                go_roundg (D - (k + 1))
                case measure => omega
                case rel => exact ⟨k + 1, true, by go_num, rfl, by omega, by omega, hide (unhide HBd _), HV'⟩
            · obtain rfl : k = D := by omega
              have HV3 := HV
              clear HV HMD
              go_wp2_with fail
              go_loopg [11, 13] R (fun gq bv kv X => ∃ (k : Nat) (b' : Bool), kv = .int .i64 k ∧ bv = .bool b' ∧ k ≤ R ∧ R - k ≤ gq ∧ Hid (RowKit.Below wo.heap.size wo X) ∧ Hid (b' = (b3 || anyB LP k)))
              case atStart => exact ⟨0, _, by go_num, rfl, by omega, by omega, HBW, hide (by simp [anyB])⟩
              case round =>
                clear y3 y4 HBW HBX
                obtain ⟨k, b4, rfl, rfl, hk, hgk, HBW, HV⟩ := hrel
                have HBX := hide (bl_t (unhide HBo) (unhide HBW))
                obtain ⟨y3, y4⟩ := unhide HD _ (unhide HBX)
                by_cases hlk : k < R
                · have hkz : (k : Int) < (R : Int) := by omega
                  obtain ⟨eb, eo, rfl, HE⟩ := unhide HMP k hlk
                  have HSS : Hid (∀ Y, RowKit.Below w1.heap.size w1 Y → Y.cell? ⟨ag, i, none⟩ = some (.int .i64 (p : Int)) ∧ Y.cell? ⟨lb, lo + i * 43 + 4, none⟩ = some (.slice (some ⟨eb, eo, none⟩) R pac) ∧ Y.cell? ⟨eb, eo + k, none⟩ = some (.slice (pf k).a (pf k).n (pf k).c)) := hide fun Y hY => ⟨unhide HAT Y hY, (unhide HD Y hY).2, (HE.1 Y hY)⟩
                  have CA := hide (HE.2.1 wr.drew (bl_t (unhide HBX) (Below.refl wr.heap.size wr).drew))
                  have CB := hide HE.2.2
                  have HVn : Hid (∀ c : Bool, LP k = c → (b4 || c) = (b3 || anyB LP (k + 1))) := hide fun c hc => by
                    rw [unhide HV]
                    show _ = (b3 || (anyB LP k || LP k))
                    rw [hc, Bool.or_assoc]
                  have hls := unhide HLS4 k
                  clear HE HV
                  cases b4
                  · cases m1 : im3 k
                    · rw [m1] at CA
                      have HV' := hide (unhide HVn false (by rw [hls, m1]; rfl))
                      clear HVn hls
                      go_wp2_with fail
                      refine wp_region_held_drew (S := fun w' => w'.cell? ⟨ag, i, none⟩ = some (.int .i64 (p : Int)) ∧ w'.cell? ⟨lb, lo + i * 43 + 4, none⟩ = some (.slice (some ⟨eb, eo, none⟩) R pac) ∧ w'.cell? ⟨eb, eo + k, none⟩ = some (.slice (pf k).a (pf k).n (pf k).c)) (by kernel_rfl) ?_ (fun hHeld => ?_)
                      · exact unhide HSS wr (unhide HBX)
                      refine wpAnyH_take (i := 0) (oi := { dst := some 97, op := Op.move (Operand.tmp 11), type := 4, pos := "ref.go:220", after := #[], guard := none }) (v := ?_) rfl (by kernel_rfl) (by kernel_rfl) (by kernel_rfl) (fun _ _ _ h => h) (Or.inl ⟨by rfl, ?_⟩) (by assumption) ?_
                      rotate_left
                      · intro w hSw; (try dsimp only at hSw); go_simp; (try with_reducible rfl)
                      try simp only [Act.put, List.setIfInBounds_toArray, List.set_cons_zero, List.set_cons_succ]
                      refine wpAnyH_take (i := 1) (oi := { dst := some 98, op := Op.move (Operand.tmp 97), type := 4, pos := "ref.go:220", after := #[{ on := 0, ground := Ground.data }], guard := none }) (v := ?_) rfl (by kernel_rfl) (by kernel_rfl) (by kernel_rfl) (fun _ _ _ h => h) (Or.inl ⟨by rfl, ?_⟩) (by assumption) ?_
                      rotate_left
                      · intro w hSw; (try dsimp only at hSw); go_simp; (try with_reducible rfl)
                      try simp only [Act.put, List.setIfInBounds_toArray, List.set_cons_zero, List.set_cons_succ]
                      refine wpAnyH_take (i := 2) (oi := { dst := some 99, op := Op.move (Operand.tmp 0), type := 22, pos := "ref.go:220", after := #[{ on := 1, ground := Ground.guard }], guard := some (1, false) }) (v := ?_) rfl (by kernel_rfl) (by kernel_rfl) (by kernel_rfl) (fun _ _ _ h => h) (Or.inl ⟨by rfl, ?_⟩) (by assumption) ?_
                      rotate_left
                      · intro w hSw; (try dsimp only at hSw); go_simp; (try with_reducible rfl)
                      try simp only [Act.put, List.setIfInBounds_toArray, List.set_cons_zero, List.set_cons_succ]
                      refine wpAnyH_take (i := 3) (oi := { dst := some 100, op := Op.move (Operand.tmp 8), type := 34, pos := "ref.go:220", after := #[{ on := 1, ground := Ground.guard }], guard := some (1, false) }) (v := ?_) rfl (by kernel_rfl) (by kernel_rfl) (by kernel_rfl) (fun _ _ _ h => h) (Or.inl ⟨by rfl, ?_⟩) (by assumption) ?_
                      rotate_left
                      · intro w hSw; (try dsimp only at hSw); go_simp; (try with_reducible rfl)
                      try simp only [Act.put, List.setIfInBounds_toArray, List.set_cons_zero, List.set_cons_succ]
                      refine wpAnyH_take (i := 4) (oi := { dst := some 101, op := Op.move (Operand.tmp 10), type := 3, pos := "ref.go:220", after := #[{ on := 1, ground := Ground.guard }], guard := some (1, false) }) (v := ?_) rfl (by kernel_rfl) (by kernel_rfl) (by kernel_rfl) (fun _ _ _ h => h) (Or.inl ⟨by rfl, ?_⟩) (by assumption) ?_
                      rotate_left
                      · intro w hSw; (try dsimp only at hSw); go_simp; (try with_reducible rfl)
                      try simp only [Act.put, List.setIfInBounds_toArray, List.set_cons_zero, List.set_cons_succ]
                      refine wpAnyH_take (i := 5) (oi := { dst := some 102, op := Op.indexAddr 34 (Operand.tmp 100) (Operand.tmp 101), type := 0, pos := "ref.go:220", after := #[{ on := 3, ground := Ground.data }, { on := 4, ground := Ground.data }, { on := 1, ground := Ground.guard }], guard := some (1, false) }) (v := ?_) rfl (by kernel_rfl) (by kernel_rfl) (by kernel_rfl) (fun _ _ _ h => h) (Or.inl ⟨by rfl, ?_⟩) (by assumption) ?_
                      rotate_left
                      · intro w hSw; (try dsimp only at hSw); go_simp; (try with_reducible rfl)
                      try simp only [Act.put, List.setIfInBounds_toArray, List.set_cons_zero, List.set_cons_succ]
                      refine wpAnyH_take (i := 6) (oi := { dst := some 103, op := Op.load 3 (Operand.tmp 102), type := 3, pos := "ref.go:220", after := #[{ on := 5, ground := Ground.data }, { on := 1, ground := Ground.guard }], guard := some (1, false) }) (v := ?_) rfl (by kernel_rfl) (by kernel_rfl) (by kernel_rfl) (fun _ _ _ h => h) (Or.inl ⟨by rfl, ?_⟩) (by assumption) ?_
                      rotate_left
                      · intro w hSw; (try dsimp only at hSw); go_simp; (try with_reducible rfl)
                      try simp only [Act.put, List.setIfInBounds_toArray, List.set_cons_zero, List.set_cons_succ]
                      refine wpAnyH_take (i := 7) (oi := { dst := some 104, op := Op.move (Operand.tmp 7), type := 22, pos := "ref.go:220", after := #[{ on := 1, ground := Ground.guard }], guard := some (1, false) }) (v := ?_) rfl (by kernel_rfl) (by kernel_rfl) (by kernel_rfl) (fun _ _ _ h => h) (Or.inl ⟨by rfl, ?_⟩) (by assumption) ?_
                      rotate_left
                      · intro w hSw; (try dsimp only at hSw); go_simp; (try with_reducible rfl)
                      try simp only [Act.put, List.setIfInBounds_toArray, List.set_cons_zero, List.set_cons_succ]
                      refine wpAnyH_take (i := 8) (oi := { dst := some 105, op := Op.move (Operand.tmp 10), type := 3, pos := "ref.go:220", after := #[{ on := 1, ground := Ground.guard }], guard := some (1, false) }) (v := ?_) rfl (by kernel_rfl) (by kernel_rfl) (by kernel_rfl) (fun _ _ _ h => h) (Or.inl ⟨by rfl, ?_⟩) (by assumption) ?_
                      rotate_left
                      · intro w hSw; (try dsimp only at hSw); go_simp; (try with_reducible rfl)
                      try simp only [Act.put, List.setIfInBounds_toArray, List.set_cons_zero, List.set_cons_succ]
                      refine wpAnyH_take (i := 9) (oi := { dst := some 106, op := Op.indexAddr 22 (Operand.tmp 104) (Operand.tmp 105), type := 0, pos := "ref.go:220", after := #[{ on := 7, ground := Ground.data }, { on := 8, ground := Ground.data }, { on := 1, ground := Ground.guard }], guard := some (1, false) }) (v := ?_) rfl (by kernel_rfl) (by kernel_rfl) (by kernel_rfl) (fun _ _ _ h => h) (Or.inl ⟨by rfl, ?_⟩) (by assumption) ?_
                      rotate_left
                      · intro w hSw; (try dsimp only at hSw); go_simp; (try with_reducible rfl)
                      try simp only [Act.put, List.setIfInBounds_toArray, List.set_cons_zero, List.set_cons_succ]
                      refine wpAnyH_take (i := 10) (oi := { dst := some 107, op := Op.fieldAddr 46 (Operand.tmp 106) 4, type := 0, pos := "ref.go:220", after := #[{ on := 9, ground := Ground.data }, { on := 1, ground := Ground.guard }], guard := some (1, false) }) (v := ?_) rfl (by kernel_rfl) (by kernel_rfl) (by kernel_rfl) (fun _ _ _ h => h) (Or.inl ⟨by rfl, ?_⟩) (by assumption) ?_
                      rotate_left
                      · intro w hSw; (try dsimp only at hSw); go_simp; (try with_reducible rfl)
                      try simp only [Act.put, List.setIfInBounds_toArray, List.set_cons_zero, List.set_cons_succ]
                      refine wpAnyH_take (i := 11) (oi := { dst := some 108, op := Op.load 40 (Operand.tmp 107), type := 40, pos := "ref.go:220", after := #[{ on := 10, ground := Ground.data }, { on := 1, ground := Ground.guard }], guard := some (1, false) }) (v := ?_) rfl (by kernel_rfl) (by kernel_rfl) (by kernel_rfl) (fun _ _ _ h => h) (Or.inl ⟨by rfl, ?_⟩) (by assumption) ?_
                      rotate_left
                      · intro w hSw; (try dsimp only at hSw); go_simp; (try with_reducible rfl)
                      try simp only [Act.put, List.setIfInBounds_toArray, List.set_cons_zero, List.set_cons_succ]
                      refine wpAnyH_take (i := 12) (oi := { dst := some 109, op := Op.move (Operand.tmp 13), type := 3, pos := "ref.go:220", after := #[{ on := 1, ground := Ground.guard }], guard := some (1, false) }) (v := ?_) rfl (by kernel_rfl) (by kernel_rfl) (by kernel_rfl) (fun _ _ _ h => h) (Or.inl ⟨by rfl, ?_⟩) (by assumption) ?_
                      rotate_left
                      · intro w hSw; (try dsimp only at hSw); go_simp; (try with_reducible rfl)
                      try simp only [Act.put, List.setIfInBounds_toArray, List.set_cons_zero, List.set_cons_succ]
                      refine wpAnyH_take (i := 13) (oi := { dst := some 110, op := Op.indexAddr 40 (Operand.tmp 108) (Operand.tmp 109), type := 0, pos := "ref.go:220", after := #[{ on := 11, ground := Ground.data }, { on := 12, ground := Ground.data }, { on := 1, ground := Ground.guard }], guard := some (1, false) }) (v := ?_) rfl (by kernel_rfl) (by kernel_rfl) (by kernel_rfl) (fun _ _ _ h => h) (Or.inl ⟨by rfl, ?_⟩) (by assumption) ?_
                      rotate_left
                      · intro w hSw; (try dsimp only at hSw); go_simp; (try with_reducible rfl)
                      try simp only [Act.put, List.setIfInBounds_toArray, List.set_cons_zero, List.set_cons_succ]
                      refine wpAnyH_take (i := 14) (oi := { dst := some 111, op := Op.load 49 (Operand.tmp 110), type := 49, pos := "ref.go:220", after := #[{ on := 13, ground := Ground.data }, { on := 1, ground := Ground.guard }], guard := some (1, false) }) (v := ?_) rfl (by kernel_rfl) (by kernel_rfl) (by kernel_rfl) (fun _ _ _ h => h) (Or.inl ⟨by rfl, ?_⟩) (by assumption) ?_
                      rotate_left
                      · intro w hSw; (try dsimp only at hSw); go_simp; (try with_reducible rfl)
                      try simp only [Act.put, List.setIfInBounds_toArray, List.set_cons_zero, List.set_cons_succ]
                      refine wpAnyH_ready (rs := [15]) (by kernel_rfl) (by simp) ?_
                      refine AllReadyH.cons (o := { dst := some 112, op := Op.call { callee := Callee.value (Operand.func 33), args := #[Operand.tmp 99, Operand.tmp 103, Operand.tmp 111, Operand.const (Value.bool true)], argTypes := #[22, 3, 49, 4] }, type := 4, pos := "ref.go:220", after := #[{ on := 2, ground := Ground.data }, { on := 6, ground := Ground.data }, { on := 14, ground := Ground.data }, { on := 1, ground := Ground.chain }, { on := 1, ground := Ground.guard }], guard := some (1, false) }) rfl (fun K hK => ?_) AllReadyH.nil
                      go_simp
                      refine (unhide CA).mono ?_
                      rintro e w5 ⟨rfl, hb5⟩
                      have hb6 := (Below.refl wr.heap.size wr).drew.trans (hb5.mono (by simp))
                      have HB5 := hide hb6
                      have h5 := unhide HSS w5 (bl_t (unhide HBX) hb6)
                      refine hK.out _ _ h5 (fun hHeld => ?_)
                      clear hb5 hb6
                      clear hK K
                      try simp only [Act.put, List.setIfInBounds_toArray, List.set_cons_zero, List.set_cons_succ]
                      refine wpAnyH_take (i := 16) (oi := { dst := some 113, op := Op.move (Operand.tmp 112), type := 4, pos := "ref.go:220", after := #[{ on := 15, ground := Ground.data }, { on := 15, ground := Ground.chain }, { on := 1, ground := Ground.guard }], guard := some (1, false) }) (v := ?_) rfl (by kernel_rfl) (by kernel_rfl) (by kernel_rfl) (fun _ _ _ h => h) (Or.inl ⟨by rfl, ?_⟩) (by assumption) ?_
                      rotate_left
                      · intro w hSw; (try dsimp only at hSw); go_simp; (try with_reducible rfl)
                      try simp only [Act.put, List.setIfInBounds_toArray, List.set_cons_zero, List.set_cons_succ]
                      refine wpAnyH_take (i := 17) (oi := { dst := some 114, op := Op.move (Operand.tmp 7), type := 22, pos := "ref.go:220", after := #[{ on := 16, ground := Ground.guard }], guard := some (16, true) }) (v := undef) rfl (by kernel_rfl) (by kernel_rfl) (by kernel_rfl) (fun _ _ _ h => h) (Or.inr ⟨by rfl, rfl⟩) (by assumption) ?_
                      try simp only [Act.put, List.setIfInBounds_toArray, List.set_cons_zero, List.set_cons_succ]
                      refine wpAnyH_take (i := 18) (oi := { dst := some 115, op := Op.move (Operand.tmp 10), type := 3, pos := "ref.go:220", after := #[{ on := 16, ground := Ground.guard }], guard := some (16, true) }) (v := undef) rfl (by kernel_rfl) (by kernel_rfl) (by kernel_rfl) (fun _ _ _ h => h) (Or.inr ⟨by rfl, rfl⟩) (by assumption) ?_
                      try simp only [Act.put, List.setIfInBounds_toArray, List.set_cons_zero, List.set_cons_succ]
                      refine wpAnyH_take (i := 19) (oi := { dst := some 116, op := Op.move (Operand.tmp 7), type := 22, pos := "ref.go:220", after := #[{ on := 16, ground := Ground.guard }], guard := some (16, true) }) (v := undef) rfl (by kernel_rfl) (by kernel_rfl) (by kernel_rfl) (fun _ _ _ h => h) (Or.inr ⟨by rfl, rfl⟩) (by assumption) ?_
                      try simp only [Act.put, List.setIfInBounds_toArray, List.set_cons_zero, List.set_cons_succ]
                      refine wpAnyH_take (i := 20) (oi := { dst := some 117, op := Op.move (Operand.tmp 10), type := 3, pos := "ref.go:220", after := #[{ on := 16, ground := Ground.guard }], guard := some (16, true) }) (v := undef) rfl (by kernel_rfl) (by kernel_rfl) (by kernel_rfl) (fun _ _ _ h => h) (Or.inr ⟨by rfl, rfl⟩) (by assumption) ?_
                      try simp only [Act.put, List.setIfInBounds_toArray, List.set_cons_zero, List.set_cons_succ]
                      refine wpAnyH_take (i := 21) (oi := { dst := some 118, op := Op.indexAddr 22 (Operand.tmp 116) (Operand.tmp 117), type := 0, pos := "ref.go:220", after := #[{ on := 19, ground := Ground.data }, { on := 20, ground := Ground.data }, { on := 16, ground := Ground.guard }], guard := some (16, true) }) (v := undef) rfl (by kernel_rfl) (by kernel_rfl) (by kernel_rfl) (fun _ _ _ h => h) (Or.inr ⟨by rfl, rfl⟩) (by assumption) ?_
                      try simp only [Act.put, List.setIfInBounds_toArray, List.set_cons_zero, List.set_cons_succ]
                      refine wpAnyH_take (i := 22) (oi := { dst := some 119, op := Op.fieldAddr 46 (Operand.tmp 118) 4, type := 0, pos := "ref.go:220", after := #[{ on := 21, ground := Ground.data }, { on := 16, ground := Ground.guard }], guard := some (16, true) }) (v := undef) rfl (by kernel_rfl) (by kernel_rfl) (by kernel_rfl) (fun _ _ _ h => h) (Or.inr ⟨by rfl, rfl⟩) (by assumption) ?_
                      try simp only [Act.put, List.setIfInBounds_toArray, List.set_cons_zero, List.set_cons_succ]
                      refine wpAnyH_take (i := 23) (oi := { dst := some 120, op := Op.load 40 (Operand.tmp 119), type := 40, pos := "ref.go:220", after := #[{ on := 22, ground := Ground.data }, { on := 16, ground := Ground.guard }], guard := some (16, true) }) (v := undef) rfl (by kernel_rfl) (by kernel_rfl) (by kernel_rfl) (fun _ _ _ h => h) (Or.inr ⟨by rfl, rfl⟩) (by assumption) ?_
                      try simp only [Act.put, List.setIfInBounds_toArray, List.set_cons_zero, List.set_cons_succ]
                      refine wpAnyH_take (i := 24) (oi := { dst := some 121, op := Op.move (Operand.tmp 13), type := 3, pos := "ref.go:220", after := #[{ on := 16, ground := Ground.guard }], guard := some (16, true) }) (v := undef) rfl (by kernel_rfl) (by kernel_rfl) (by kernel_rfl) (fun _ _ _ h => h) (Or.inr ⟨by rfl, rfl⟩) (by assumption) ?_
                      try simp only [Act.put, List.setIfInBounds_toArray, List.set_cons_zero, List.set_cons_succ]
                      refine wpAnyH_take (i := 25) (oi := { dst := some 122, op := Op.indexAddr 40 (Operand.tmp 120) (Operand.tmp 121), type := 0, pos := "ref.go:220", after := #[{ on := 23, ground := Ground.data }, { on := 24, ground := Ground.data }, { on := 16, ground := Ground.guard }], guard := some (16, true) }) (v := undef) rfl (by kernel_rfl) (by kernel_rfl) (by kernel_rfl) (fun _ _ _ h => h) (Or.inr ⟨by rfl, rfl⟩) (by assumption) ?_
                      try simp only [Act.put, List.setIfInBounds_toArray, List.set_cons_zero, List.set_cons_succ]
                      refine wpAnyH_take (i := 26) (oi := { dst := some 123, op := Op.load 49 (Operand.tmp 122), type := 49, pos := "ref.go:220", after := #[{ on := 25, ground := Ground.data }, { on := 16, ground := Ground.guard }], guard := some (16, true) }) (v := undef) rfl (by kernel_rfl) (by kernel_rfl) (by kernel_rfl) (fun _ _ _ h => h) (Or.inr ⟨by rfl, rfl⟩) (by assumption) ?_
                      try simp only [Act.put, List.setIfInBounds_toArray, List.set_cons_zero, List.set_cons_succ]
                      refine wpAnyH_take (i := 27) (oi := { dst := some 124, op := Op.call { callee := Callee.value (Operand.func 33), args := #[Operand.tmp 114, Operand.tmp 115, Operand.tmp 123, Operand.const (Value.bool true)], argTypes := #[22, 3, 49, 4] }, type := 4, pos := "ref.go:220", after := #[{ on := 17, ground := Ground.data }, { on := 18, ground := Ground.data }, { on := 26, ground := Ground.data }, { on := 16, ground := Ground.chain }, { on := 16, ground := Ground.guard }], guard := some (16, true) }) (v := undef) rfl (by kernel_rfl) (by kernel_rfl) (by kernel_rfl) (fun _ _ _ h => h) (Or.inr ⟨by rfl, rfl⟩) (by assumption) ?_
                      try simp only [Act.put, List.setIfInBounds_toArray, List.set_cons_zero, List.set_cons_succ]
                      refine wpAnyH_take (i := 28) (oi := { dst := some 125, op := Op.unOp UnOp.not 4 (Operand.tmp 124), type := 4, pos := "ref.go:220", after := #[{ on := 27, ground := Ground.data }, { on := 16, ground := Ground.guard }], guard := some (16, true) }) (v := undef) rfl (by kernel_rfl) (by kernel_rfl) (by kernel_rfl) (fun _ _ _ h => h) (Or.inr ⟨by rfl, rfl⟩) (by assumption) ?_
                      try simp only [Act.put, List.setIfInBounds_toArray, List.set_cons_zero, List.set_cons_succ]
                      refine wpAnyH_take (i := 29) (oi := { dst := some 126, op := Op.pick (Operand.tmp 113) (Operand.tmp 125) (Operand.const (Value.bool false)), type := 4, pos := "ref.go:220", after := #[{ on := 16, ground := Ground.data }, { on := 28, ground := Ground.data }, { on := 1, ground := Ground.guard }], guard := some (1, false) }) (v := ?_) rfl (by kernel_rfl) (by kernel_rfl) (by kernel_rfl) (fun _ _ _ h => h) (Or.inl ⟨by rfl, ?_⟩) (by assumption) ?_
                      rotate_left
                      · intro w hSw; (try dsimp only at hSw); go_simp; (try with_reducible rfl)
                      try simp only [Act.put, List.setIfInBounds_toArray, List.set_cons_zero, List.set_cons_succ]
                      refine wpAnyH_take (i := 30) (oi := { dst := some 127, op := Op.pick (Operand.tmp 98) (Operand.const (Value.bool true)) (Operand.tmp 126), type := 4, pos := "ref.go:220", after := #[{ on := 1, ground := Ground.data }, { on := 29, ground := Ground.data }], guard := none }) (v := ?_) rfl (by kernel_rfl) (by kernel_rfl) (by kernel_rfl) (fun _ _ _ h => h) (Or.inl ⟨by rfl, ?_⟩) (by assumption) ?_
                      rotate_left
                      · intro w hSw; (try dsimp only at hSw); go_simp; (try with_reducible rfl)
                      try simp only [Act.put, List.setIfInBounds_toArray, List.set_cons_zero, List.set_cons_succ]
                      refine wpAnyH_take (i := 31) (oi := { dst := some 11, op := Op.assign (Operand.tmp 127), type := 4, pos := "ref.go:220", after := #[{ on := 30, ground := Ground.data }, { on := 27, ground := Ground.chain }, { on := 0, ground := Ground.phase }, { on := 1, ground := Ground.phase }, { on := 2, ground := Ground.phase }, { on := 3, ground := Ground.phase }, { on := 4, ground := Ground.phase }, { on := 5, ground := Ground.phase }, { on := 6, ground := Ground.phase }, { on := 7, ground := Ground.phase }, { on := 8, ground := Ground.phase }, { on := 9, ground := Ground.phase }, { on := 10, ground := Ground.phase }, { on := 11, ground := Ground.phase }, { on := 12, ground := Ground.phase }, { on := 13, ground := Ground.phase }, { on := 14, ground := Ground.phase }, { on := 15, ground := Ground.phase }, { on := 16, ground := Ground.phase }, { on := 17, ground := Ground.phase }, { on := 18, ground := Ground.phase }, { on := 19, ground := Ground.phase }, { on := 20, ground := Ground.phase }, { on := 21, ground := Ground.phase }, { on := 22, ground := Ground.phase }, { on := 23, ground := Ground.phase }, { on := 24, ground := Ground.phase }, { on := 25, ground := Ground.phase }, { on := 26, ground := Ground.phase }, { on := 27, ground := Ground.phase }, { on := 28, ground := Ground.phase }, { on := 29, ground := Ground.phase }, { on := 30, ground := Ground.phase }], guard := none }) (v := ?_) rfl (by kernel_rfl) (by kernel_rfl) (by kernel_rfl) (fun _ _ _ h => h) (Or.inl ⟨by rfl, ?_⟩) (by assumption) ?_
                      rotate_left
                      · intro w hSw; (try dsimp only at hSw); go_simp; (try with_reducible rfl)
                      try simp only [Act.put, List.setIfInBounds_toArray, List.set_cons_zero, List.set_cons_succ]
                      refine wpAnyH_done (by kernel_rfl) ?_ _
                      have HB7 := hide (bl_t (unhide HBW) (unhide HB5))
                      clear h5 hHeld HB5 CA CB
                      go_wp2_with fail
                      go_roundg (R - (k + 1))
                      case measure => omega
                      case rel => exact ⟨k + 1, false, by go_num, rfl, by omega, by omega, hide (unhide HB7), HV'⟩
                    · rw [m1] at CA
                      cases m2 : im4 k
                      · rw [m2] at CB
                        have HV' := hide (unhide HVn true (by rw [hls, m1, m2]; rfl))
                        clear HVn hls
                        go_wp2_with fail
                        refine wp_region_held_drew (S := fun w' => w'.cell? ⟨ag, i, none⟩ = some (.int .i64 (p : Int)) ∧ w'.cell? ⟨lb, lo + i * 43 + 4, none⟩ = some (.slice (some ⟨eb, eo, none⟩) R pac) ∧ w'.cell? ⟨eb, eo + k, none⟩ = some (.slice (pf k).a (pf k).n (pf k).c)) (by kernel_rfl) ?_ (fun hHeld => ?_)
                        · exact unhide HSS wr (unhide HBX)
                        refine wpAnyH_take (i := 0) (oi := { dst := some 97, op := Op.move (Operand.tmp 11), type := 4, pos := "ref.go:220", after := #[], guard := none }) (v := ?_) rfl (by kernel_rfl) (by kernel_rfl) (by kernel_rfl) (fun _ _ _ h => h) (Or.inl ⟨by rfl, ?_⟩) (by assumption) ?_
                        rotate_left
                        · intro w hSw; (try dsimp only at hSw); go_simp; (try with_reducible rfl)
                        try simp only [Act.put, List.setIfInBounds_toArray, List.set_cons_zero, List.set_cons_succ]
                        refine wpAnyH_take (i := 1) (oi := { dst := some 98, op := Op.move (Operand.tmp 97), type := 4, pos := "ref.go:220", after := #[{ on := 0, ground := Ground.data }], guard := none }) (v := ?_) rfl (by kernel_rfl) (by kernel_rfl) (by kernel_rfl) (fun _ _ _ h => h) (Or.inl ⟨by rfl, ?_⟩) (by assumption) ?_
                        rotate_left
                        · intro w hSw; (try dsimp only at hSw); go_simp; (try with_reducible rfl)
                        try simp only [Act.put, List.setIfInBounds_toArray, List.set_cons_zero, List.set_cons_succ]
                        refine wpAnyH_take (i := 2) (oi := { dst := some 99, op := Op.move (Operand.tmp 0), type := 22, pos := "ref.go:220", after := #[{ on := 1, ground := Ground.guard }], guard := some (1, false) }) (v := ?_) rfl (by kernel_rfl) (by kernel_rfl) (by kernel_rfl) (fun _ _ _ h => h) (Or.inl ⟨by rfl, ?_⟩) (by assumption) ?_
                        rotate_left
                        · intro w hSw; (try dsimp only at hSw); go_simp; (try with_reducible rfl)
                        try simp only [Act.put, List.setIfInBounds_toArray, List.set_cons_zero, List.set_cons_succ]
                        refine wpAnyH_take (i := 3) (oi := { dst := some 100, op := Op.move (Operand.tmp 8), type := 34, pos := "ref.go:220", after := #[{ on := 1, ground := Ground.guard }], guard := some (1, false) }) (v := ?_) rfl (by kernel_rfl) (by kernel_rfl) (by kernel_rfl) (fun _ _ _ h => h) (Or.inl ⟨by rfl, ?_⟩) (by assumption) ?_
                        rotate_left
                        · intro w hSw; (try dsimp only at hSw); go_simp; (try with_reducible rfl)
                        try simp only [Act.put, List.setIfInBounds_toArray, List.set_cons_zero, List.set_cons_succ]
                        refine wpAnyH_take (i := 4) (oi := { dst := some 101, op := Op.move (Operand.tmp 10), type := 3, pos := "ref.go:220", after := #[{ on := 1, ground := Ground.guard }], guard := some (1, false) }) (v := ?_) rfl (by kernel_rfl) (by kernel_rfl) (by kernel_rfl) (fun _ _ _ h => h) (Or.inl ⟨by rfl, ?_⟩) (by assumption) ?_
                        rotate_left
                        · intro w hSw; (try dsimp only at hSw); go_simp; (try with_reducible rfl)
                        try simp only [Act.put, List.setIfInBounds_toArray, List.set_cons_zero, List.set_cons_succ]
                        refine wpAnyH_take (i := 5) (oi := { dst := some 102, op := Op.indexAddr 34 (Operand.tmp 100) (Operand.tmp 101), type := 0, pos := "ref.go:220", after := #[{ on := 3, ground := Ground.data }, { on := 4, ground := Ground.data }, { on := 1, ground := Ground.guard }], guard := some (1, false) }) (v := ?_) rfl (by kernel_rfl) (by kernel_rfl) (by kernel_rfl) (fun _ _ _ h => h) (Or.inl ⟨by rfl, ?_⟩) (by assumption) ?_
                        rotate_left
                        · intro w hSw; (try dsimp only at hSw); go_simp; (try with_reducible rfl)
                        try simp only [Act.put, List.setIfInBounds_toArray, List.set_cons_zero, List.set_cons_succ]
                        refine wpAnyH_take (i := 6) (oi := { dst := some 103, op := Op.load 3 (Operand.tmp 102), type := 3, pos := "ref.go:220", after := #[{ on := 5, ground := Ground.data }, { on := 1, ground := Ground.guard }], guard := some (1, false) }) (v := ?_) rfl (by kernel_rfl) (by kernel_rfl) (by kernel_rfl) (fun _ _ _ h => h) (Or.inl ⟨by rfl, ?_⟩) (by assumption) ?_
                        rotate_left
                        · intro w hSw; (try dsimp only at hSw); go_simp; (try with_reducible rfl)
                        try simp only [Act.put, List.setIfInBounds_toArray, List.set_cons_zero, List.set_cons_succ]
                        refine wpAnyH_take (i := 7) (oi := { dst := some 104, op := Op.move (Operand.tmp 7), type := 22, pos := "ref.go:220", after := #[{ on := 1, ground := Ground.guard }], guard := some (1, false) }) (v := ?_) rfl (by kernel_rfl) (by kernel_rfl) (by kernel_rfl) (fun _ _ _ h => h) (Or.inl ⟨by rfl, ?_⟩) (by assumption) ?_
                        rotate_left
                        · intro w hSw; (try dsimp only at hSw); go_simp; (try with_reducible rfl)
                        try simp only [Act.put, List.setIfInBounds_toArray, List.set_cons_zero, List.set_cons_succ]
                        refine wpAnyH_take (i := 8) (oi := { dst := some 105, op := Op.move (Operand.tmp 10), type := 3, pos := "ref.go:220", after := #[{ on := 1, ground := Ground.guard }], guard := some (1, false) }) (v := ?_) rfl (by kernel_rfl) (by kernel_rfl) (by kernel_rfl) (fun _ _ _ h => h) (Or.inl ⟨by rfl, ?_⟩) (by assumption) ?_
                        rotate_left
                        · intro w hSw; (try dsimp only at hSw); go_simp; (try with_reducible rfl)
                        try simp only [Act.put, List.setIfInBounds_toArray, List.set_cons_zero, List.set_cons_succ]
                        refine wpAnyH_take (i := 9) (oi := { dst := some 106, op := Op.indexAddr 22 (Operand.tmp 104) (Operand.tmp 105), type := 0, pos := "ref.go:220", after := #[{ on := 7, ground := Ground.data }, { on := 8, ground := Ground.data }, { on := 1, ground := Ground.guard }], guard := some (1, false) }) (v := ?_) rfl (by kernel_rfl) (by kernel_rfl) (by kernel_rfl) (fun _ _ _ h => h) (Or.inl ⟨by rfl, ?_⟩) (by assumption) ?_
                        rotate_left
                        · intro w hSw; (try dsimp only at hSw); go_simp; (try with_reducible rfl)
                        try simp only [Act.put, List.setIfInBounds_toArray, List.set_cons_zero, List.set_cons_succ]
                        refine wpAnyH_take (i := 10) (oi := { dst := some 107, op := Op.fieldAddr 46 (Operand.tmp 106) 4, type := 0, pos := "ref.go:220", after := #[{ on := 9, ground := Ground.data }, { on := 1, ground := Ground.guard }], guard := some (1, false) }) (v := ?_) rfl (by kernel_rfl) (by kernel_rfl) (by kernel_rfl) (fun _ _ _ h => h) (Or.inl ⟨by rfl, ?_⟩) (by assumption) ?_
                        rotate_left
                        · intro w hSw; (try dsimp only at hSw); go_simp; (try with_reducible rfl)
                        try simp only [Act.put, List.setIfInBounds_toArray, List.set_cons_zero, List.set_cons_succ]
                        refine wpAnyH_take (i := 11) (oi := { dst := some 108, op := Op.load 40 (Operand.tmp 107), type := 40, pos := "ref.go:220", after := #[{ on := 10, ground := Ground.data }, { on := 1, ground := Ground.guard }], guard := some (1, false) }) (v := ?_) rfl (by kernel_rfl) (by kernel_rfl) (by kernel_rfl) (fun _ _ _ h => h) (Or.inl ⟨by rfl, ?_⟩) (by assumption) ?_
                        rotate_left
                        · intro w hSw; (try dsimp only at hSw); go_simp; (try with_reducible rfl)
                        try simp only [Act.put, List.setIfInBounds_toArray, List.set_cons_zero, List.set_cons_succ]
                        refine wpAnyH_take (i := 12) (oi := { dst := some 109, op := Op.move (Operand.tmp 13), type := 3, pos := "ref.go:220", after := #[{ on := 1, ground := Ground.guard }], guard := some (1, false) }) (v := ?_) rfl (by kernel_rfl) (by kernel_rfl) (by kernel_rfl) (fun _ _ _ h => h) (Or.inl ⟨by rfl, ?_⟩) (by assumption) ?_
                        rotate_left
                        · intro w hSw; (try dsimp only at hSw); go_simp; (try with_reducible rfl)
                        try simp only [Act.put, List.setIfInBounds_toArray, List.set_cons_zero, List.set_cons_succ]
                        refine wpAnyH_take (i := 13) (oi := { dst := some 110, op := Op.indexAddr 40 (Operand.tmp 108) (Operand.tmp 109), type := 0, pos := "ref.go:220", after := #[{ on := 11, ground := Ground.data }, { on := 12, ground := Ground.data }, { on := 1, ground := Ground.guard }], guard := some (1, false) }) (v := ?_) rfl (by kernel_rfl) (by kernel_rfl) (by kernel_rfl) (fun _ _ _ h => h) (Or.inl ⟨by rfl, ?_⟩) (by assumption) ?_
                        rotate_left
                        · intro w hSw; (try dsimp only at hSw); go_simp; (try with_reducible rfl)
                        try simp only [Act.put, List.setIfInBounds_toArray, List.set_cons_zero, List.set_cons_succ]
                        refine wpAnyH_take (i := 14) (oi := { dst := some 111, op := Op.load 49 (Operand.tmp 110), type := 49, pos := "ref.go:220", after := #[{ on := 13, ground := Ground.data }, { on := 1, ground := Ground.guard }], guard := some (1, false) }) (v := ?_) rfl (by kernel_rfl) (by kernel_rfl) (by kernel_rfl) (fun _ _ _ h => h) (Or.inl ⟨by rfl, ?_⟩) (by assumption) ?_
                        rotate_left
                        · intro w hSw; (try dsimp only at hSw); go_simp; (try with_reducible rfl)
                        try simp only [Act.put, List.setIfInBounds_toArray, List.set_cons_zero, List.set_cons_succ]
                        refine wpAnyH_ready (rs := [15]) (by kernel_rfl) (by simp) ?_
                        refine AllReadyH.cons (o := { dst := some 112, op := Op.call { callee := Callee.value (Operand.func 33), args := #[Operand.tmp 99, Operand.tmp 103, Operand.tmp 111, Operand.const (Value.bool true)], argTypes := #[22, 3, 49, 4] }, type := 4, pos := "ref.go:220", after := #[{ on := 2, ground := Ground.data }, { on := 6, ground := Ground.data }, { on := 14, ground := Ground.data }, { on := 1, ground := Ground.chain }, { on := 1, ground := Ground.guard }], guard := some (1, false) }) rfl (fun K hK => ?_) AllReadyH.nil
                        go_simp
                        refine (unhide CA).mono ?_
                        rintro e w5 ⟨rfl, hb5⟩
                        have hb6 := (Below.refl wr.heap.size wr).drew.trans (hb5.mono (by simp))
                        have HB5 := hide hb6
                        have h5 := unhide HSS w5 (bl_t (unhide HBX) hb6)
                        refine hK.out _ _ h5 (fun hHeld => ?_)
                        clear hb5 hb6
                        clear hK K
                        try simp only [Act.put, List.setIfInBounds_toArray, List.set_cons_zero, List.set_cons_succ]
                        refine wpAnyH_take (i := 16) (oi := { dst := some 113, op := Op.move (Operand.tmp 112), type := 4, pos := "ref.go:220", after := #[{ on := 15, ground := Ground.data }, { on := 15, ground := Ground.chain }, { on := 1, ground := Ground.guard }], guard := some (1, false) }) (v := ?_) rfl (by kernel_rfl) (by kernel_rfl) (by kernel_rfl) (fun _ _ _ h => h) (Or.inl ⟨by rfl, ?_⟩) (by assumption) ?_
                        rotate_left
                        · intro w hSw; (try dsimp only at hSw); go_simp; (try with_reducible rfl)
                        try simp only [Act.put, List.setIfInBounds_toArray, List.set_cons_zero, List.set_cons_succ]
                        refine wpAnyH_take (i := 17) (oi := { dst := some 114, op := Op.move (Operand.tmp 7), type := 22, pos := "ref.go:220", after := #[{ on := 16, ground := Ground.guard }], guard := some (16, true) }) (v := ?_) rfl (by kernel_rfl) (by kernel_rfl) (by kernel_rfl) (fun _ _ _ h => h) (Or.inl ⟨by rfl, ?_⟩) (by assumption) ?_
                        rotate_left
                        · intro w hSw; (try dsimp only at hSw); go_simp; (try with_reducible rfl)
                        try simp only [Act.put, List.setIfInBounds_toArray, List.set_cons_zero, List.set_cons_succ]
                        refine wpAnyH_take (i := 18) (oi := { dst := some 115, op := Op.move (Operand.tmp 10), type := 3, pos := "ref.go:220", after := #[{ on := 16, ground := Ground.guard }], guard := some (16, true) }) (v := ?_) rfl (by kernel_rfl) (by kernel_rfl) (by kernel_rfl) (fun _ _ _ h => h) (Or.inl ⟨by rfl, ?_⟩) (by assumption) ?_
                        rotate_left
                        · intro w hSw; (try dsimp only at hSw); go_simp; (try with_reducible rfl)
                        try simp only [Act.put, List.setIfInBounds_toArray, List.set_cons_zero, List.set_cons_succ]
                        refine wpAnyH_take (i := 19) (oi := { dst := some 116, op := Op.move (Operand.tmp 7), type := 22, pos := "ref.go:220", after := #[{ on := 16, ground := Ground.guard }], guard := some (16, true) }) (v := ?_) rfl (by kernel_rfl) (by kernel_rfl) (by kernel_rfl) (fun _ _ _ h => h) (Or.inl ⟨by rfl, ?_⟩) (by assumption) ?_
                        rotate_left
                        · intro w hSw; (try dsimp only at hSw); go_simp; (try with_reducible rfl)
                        try simp only [Act.put, List.setIfInBounds_toArray, List.set_cons_zero, List.set_cons_succ]
                        refine wpAnyH_take (i := 20) (oi := { dst := some 117, op := Op.move (Operand.tmp 10), type := 3, pos := "ref.go:220", after := #[{ on := 16, ground := Ground.guard }], guard := some (16, true) }) (v := ?_) rfl (by kernel_rfl) (by kernel_rfl) (by kernel_rfl) (fun _ _ _ h => h) (Or.inl ⟨by rfl, ?_⟩) (by assumption) ?_
                        rotate_left
                        · intro w hSw; (try dsimp only at hSw); go_simp; (try with_reducible rfl)
                        try simp only [Act.put, List.setIfInBounds_toArray, List.set_cons_zero, List.set_cons_succ]
                        refine wpAnyH_take (i := 21) (oi := { dst := some 118, op := Op.indexAddr 22 (Operand.tmp 116) (Operand.tmp 117), type := 0, pos := "ref.go:220", after := #[{ on := 19, ground := Ground.data }, { on := 20, ground := Ground.data }, { on := 16, ground := Ground.guard }], guard := some (16, true) }) (v := ?_) rfl (by kernel_rfl) (by kernel_rfl) (by kernel_rfl) (fun _ _ _ h => h) (Or.inl ⟨by rfl, ?_⟩) (by assumption) ?_
                        rotate_left
                        · intro w hSw; (try dsimp only at hSw); go_simp; (try with_reducible rfl)
                        try simp only [Act.put, List.setIfInBounds_toArray, List.set_cons_zero, List.set_cons_succ]
                        refine wpAnyH_take (i := 22) (oi := { dst := some 119, op := Op.fieldAddr 46 (Operand.tmp 118) 4, type := 0, pos := "ref.go:220", after := #[{ on := 21, ground := Ground.data }, { on := 16, ground := Ground.guard }], guard := some (16, true) }) (v := ?_) rfl (by kernel_rfl) (by kernel_rfl) (by kernel_rfl) (fun _ _ _ h => h) (Or.inl ⟨by rfl, ?_⟩) (by assumption) ?_
                        rotate_left
                        · intro w hSw; (try dsimp only at hSw); go_simp; (try with_reducible rfl)
                        try simp only [Act.put, List.setIfInBounds_toArray, List.set_cons_zero, List.set_cons_succ]
                        refine wpAnyH_take (i := 23) (oi := { dst := some 120, op := Op.load 40 (Operand.tmp 119), type := 40, pos := "ref.go:220", after := #[{ on := 22, ground := Ground.data }, { on := 16, ground := Ground.guard }], guard := some (16, true) }) (v := ?_) rfl (by kernel_rfl) (by kernel_rfl) (by kernel_rfl) (fun _ _ _ h => h) (Or.inl ⟨by rfl, ?_⟩) (by assumption) ?_
                        rotate_left
                        · intro w hSw; (try dsimp only at hSw); go_simp; (try with_reducible rfl)
                        try simp only [Act.put, List.setIfInBounds_toArray, List.set_cons_zero, List.set_cons_succ]
                        refine wpAnyH_take (i := 24) (oi := { dst := some 121, op := Op.move (Operand.tmp 13), type := 3, pos := "ref.go:220", after := #[{ on := 16, ground := Ground.guard }], guard := some (16, true) }) (v := ?_) rfl (by kernel_rfl) (by kernel_rfl) (by kernel_rfl) (fun _ _ _ h => h) (Or.inl ⟨by rfl, ?_⟩) (by assumption) ?_
                        rotate_left
                        · intro w hSw; (try dsimp only at hSw); go_simp; (try with_reducible rfl)
                        try simp only [Act.put, List.setIfInBounds_toArray, List.set_cons_zero, List.set_cons_succ]
                        refine wpAnyH_take (i := 25) (oi := { dst := some 122, op := Op.indexAddr 40 (Operand.tmp 120) (Operand.tmp 121), type := 0, pos := "ref.go:220", after := #[{ on := 23, ground := Ground.data }, { on := 24, ground := Ground.data }, { on := 16, ground := Ground.guard }], guard := some (16, true) }) (v := ?_) rfl (by kernel_rfl) (by kernel_rfl) (by kernel_rfl) (fun _ _ _ h => h) (Or.inl ⟨by rfl, ?_⟩) (by assumption) ?_
                        rotate_left
                        · intro w hSw; (try dsimp only at hSw); go_simp; (try with_reducible rfl)
                        try simp only [Act.put, List.setIfInBounds_toArray, List.set_cons_zero, List.set_cons_succ]
                        refine wpAnyH_take (i := 26) (oi := { dst := some 123, op := Op.load 49 (Operand.tmp 122), type := 49, pos := "ref.go:220", after := #[{ on := 25, ground := Ground.data }, { on := 16, ground := Ground.guard }], guard := some (16, true) }) (v := ?_) rfl (by kernel_rfl) (by kernel_rfl) (by kernel_rfl) (fun _ _ _ h => h) (Or.inl ⟨by rfl, ?_⟩) (by assumption) ?_
                        rotate_left
                        · intro w hSw; (try dsimp only at hSw); go_simp; (try with_reducible rfl)
                        try simp only [Act.put, List.setIfInBounds_toArray, List.set_cons_zero, List.set_cons_succ]
                        refine wpAnyH_ready (rs := [27]) (by kernel_rfl) (by simp) ?_
                        refine AllReadyH.cons (o := { dst := some 124, op := Op.call { callee := Callee.value (Operand.func 33), args := #[Operand.tmp 114, Operand.tmp 115, Operand.tmp 123, Operand.const (Value.bool true)], argTypes := #[22, 3, 49, 4] }, type := 4, pos := "ref.go:220", after := #[{ on := 17, ground := Ground.data }, { on := 18, ground := Ground.data }, { on := 26, ground := Ground.data }, { on := 16, ground := Ground.chain }, { on := 16, ground := Ground.guard }], guard := some (16, true) }) rfl (fun K hK => ?_) AllReadyH.nil
                        go_simp
                        refine (unhide CB w5 (bl_t (unhide HBX) (unhide HB5))).mono ?_
                        rintro e w6 ⟨rfl, hb5⟩
                        have HB6 := hide (bl_t (unhide HB5) hb5)
                        have h6 := unhide HSS w6 (bl_t (unhide HBX) (unhide HB6))
                        refine hK.out _ _ h6 (fun hHeld => ?_)
                        clear hb5
                        clear hK K
                        try simp only [Act.put, List.setIfInBounds_toArray, List.set_cons_zero, List.set_cons_succ]
                        refine wpAnyH_take (i := 28) (oi := { dst := some 125, op := Op.unOp UnOp.not 4 (Operand.tmp 124), type := 4, pos := "ref.go:220", after := #[{ on := 27, ground := Ground.data }, { on := 16, ground := Ground.guard }], guard := some (16, true) }) (v := ?_) rfl (by kernel_rfl) (by kernel_rfl) (by kernel_rfl) (fun _ _ _ h => h) (Or.inl ⟨by rfl, ?_⟩) (by assumption) ?_
                        rotate_left
                        · intro w hSw; (try dsimp only at hSw); go_simp; (try with_reducible rfl)
                        try simp only [Act.put, List.setIfInBounds_toArray, List.set_cons_zero, List.set_cons_succ]
                        refine wpAnyH_take (i := 29) (oi := { dst := some 126, op := Op.pick (Operand.tmp 113) (Operand.tmp 125) (Operand.const (Value.bool false)), type := 4, pos := "ref.go:220", after := #[{ on := 16, ground := Ground.data }, { on := 28, ground := Ground.data }, { on := 1, ground := Ground.guard }], guard := some (1, false) }) (v := ?_) rfl (by kernel_rfl) (by kernel_rfl) (by kernel_rfl) (fun _ _ _ h => h) (Or.inl ⟨by rfl, ?_⟩) (by assumption) ?_
                        rotate_left
                        · intro w hSw; (try dsimp only at hSw); go_simp; (try with_reducible rfl)
                        try simp only [Act.put, List.setIfInBounds_toArray, List.set_cons_zero, List.set_cons_succ]
                        refine wpAnyH_take (i := 30) (oi := { dst := some 127, op := Op.pick (Operand.tmp 98) (Operand.const (Value.bool true)) (Operand.tmp 126), type := 4, pos := "ref.go:220", after := #[{ on := 1, ground := Ground.data }, { on := 29, ground := Ground.data }], guard := none }) (v := ?_) rfl (by kernel_rfl) (by kernel_rfl) (by kernel_rfl) (fun _ _ _ h => h) (Or.inl ⟨by rfl, ?_⟩) (by assumption) ?_
                        rotate_left
                        · intro w hSw; (try dsimp only at hSw); go_simp; (try with_reducible rfl)
                        try simp only [Act.put, List.setIfInBounds_toArray, List.set_cons_zero, List.set_cons_succ]
                        refine wpAnyH_take (i := 31) (oi := { dst := some 11, op := Op.assign (Operand.tmp 127), type := 4, pos := "ref.go:220", after := #[{ on := 30, ground := Ground.data }, { on := 27, ground := Ground.chain }, { on := 0, ground := Ground.phase }, { on := 1, ground := Ground.phase }, { on := 2, ground := Ground.phase }, { on := 3, ground := Ground.phase }, { on := 4, ground := Ground.phase }, { on := 5, ground := Ground.phase }, { on := 6, ground := Ground.phase }, { on := 7, ground := Ground.phase }, { on := 8, ground := Ground.phase }, { on := 9, ground := Ground.phase }, { on := 10, ground := Ground.phase }, { on := 11, ground := Ground.phase }, { on := 12, ground := Ground.phase }, { on := 13, ground := Ground.phase }, { on := 14, ground := Ground.phase }, { on := 15, ground := Ground.phase }, { on := 16, ground := Ground.phase }, { on := 17, ground := Ground.phase }, { on := 18, ground := Ground.phase }, { on := 19, ground := Ground.phase }, { on := 20, ground := Ground.phase }, { on := 21, ground := Ground.phase }, { on := 22, ground := Ground.phase }, { on := 23, ground := Ground.phase }, { on := 24, ground := Ground.phase }, { on := 25, ground := Ground.phase }, { on := 26, ground := Ground.phase }, { on := 27, ground := Ground.phase }, { on := 28, ground := Ground.phase }, { on := 29, ground := Ground.phase }, { on := 30, ground := Ground.phase }], guard := none }) (v := ?_) rfl (by kernel_rfl) (by kernel_rfl) (by kernel_rfl) (fun _ _ _ h => h) (Or.inl ⟨by rfl, ?_⟩) (by assumption) ?_
                        rotate_left
                        · intro w hSw; (try dsimp only at hSw); go_simp; (try with_reducible rfl)
                        try simp only [Act.put, List.setIfInBounds_toArray, List.set_cons_zero, List.set_cons_succ]
                        refine wpAnyH_done (by kernel_rfl) ?_ _
                        have HB7 := hide (bl_t (unhide HBW) (unhide HB6))
                        clear h5 h6 hHeld HB5 HB6 CA CB
                        go_wp2_with fail
                        go_roundg (R - (k + 1))
                        case measure => omega
                        case rel => exact ⟨k + 1, true, by go_num, rfl, by omega, by omega, hide (unhide HB7), HV'⟩
                      · rw [m2] at CB
                        have HV' := hide (unhide HVn false (by rw [hls, m1, m2]; rfl))
                        clear HVn hls
                        go_wp2_with fail
                        refine wp_region_held_drew (S := fun w' => w'.cell? ⟨ag, i, none⟩ = some (.int .i64 (p : Int)) ∧ w'.cell? ⟨lb, lo + i * 43 + 4, none⟩ = some (.slice (some ⟨eb, eo, none⟩) R pac) ∧ w'.cell? ⟨eb, eo + k, none⟩ = some (.slice (pf k).a (pf k).n (pf k).c)) (by kernel_rfl) ?_ (fun hHeld => ?_)
                        · exact unhide HSS wr (unhide HBX)
                        refine wpAnyH_take (i := 0) (oi := { dst := some 97, op := Op.move (Operand.tmp 11), type := 4, pos := "ref.go:220", after := #[], guard := none }) (v := ?_) rfl (by kernel_rfl) (by kernel_rfl) (by kernel_rfl) (fun _ _ _ h => h) (Or.inl ⟨by rfl, ?_⟩) (by assumption) ?_
                        rotate_left
                        · intro w hSw; (try dsimp only at hSw); go_simp; (try with_reducible rfl)
                        try simp only [Act.put, List.setIfInBounds_toArray, List.set_cons_zero, List.set_cons_succ]
                        refine wpAnyH_take (i := 1) (oi := { dst := some 98, op := Op.move (Operand.tmp 97), type := 4, pos := "ref.go:220", after := #[{ on := 0, ground := Ground.data }], guard := none }) (v := ?_) rfl (by kernel_rfl) (by kernel_rfl) (by kernel_rfl) (fun _ _ _ h => h) (Or.inl ⟨by rfl, ?_⟩) (by assumption) ?_
                        rotate_left
                        · intro w hSw; (try dsimp only at hSw); go_simp; (try with_reducible rfl)
                        try simp only [Act.put, List.setIfInBounds_toArray, List.set_cons_zero, List.set_cons_succ]
                        refine wpAnyH_take (i := 2) (oi := { dst := some 99, op := Op.move (Operand.tmp 0), type := 22, pos := "ref.go:220", after := #[{ on := 1, ground := Ground.guard }], guard := some (1, false) }) (v := ?_) rfl (by kernel_rfl) (by kernel_rfl) (by kernel_rfl) (fun _ _ _ h => h) (Or.inl ⟨by rfl, ?_⟩) (by assumption) ?_
                        rotate_left
                        · intro w hSw; (try dsimp only at hSw); go_simp; (try with_reducible rfl)
                        try simp only [Act.put, List.setIfInBounds_toArray, List.set_cons_zero, List.set_cons_succ]
                        refine wpAnyH_take (i := 3) (oi := { dst := some 100, op := Op.move (Operand.tmp 8), type := 34, pos := "ref.go:220", after := #[{ on := 1, ground := Ground.guard }], guard := some (1, false) }) (v := ?_) rfl (by kernel_rfl) (by kernel_rfl) (by kernel_rfl) (fun _ _ _ h => h) (Or.inl ⟨by rfl, ?_⟩) (by assumption) ?_
                        rotate_left
                        · intro w hSw; (try dsimp only at hSw); go_simp; (try with_reducible rfl)
                        try simp only [Act.put, List.setIfInBounds_toArray, List.set_cons_zero, List.set_cons_succ]
                        refine wpAnyH_take (i := 4) (oi := { dst := some 101, op := Op.move (Operand.tmp 10), type := 3, pos := "ref.go:220", after := #[{ on := 1, ground := Ground.guard }], guard := some (1, false) }) (v := ?_) rfl (by kernel_rfl) (by kernel_rfl) (by kernel_rfl) (fun _ _ _ h => h) (Or.inl ⟨by rfl, ?_⟩) (by assumption) ?_
                        rotate_left
                        · intro w hSw; (try dsimp only at hSw); go_simp; (try with_reducible rfl)
                        try simp only [Act.put, List.setIfInBounds_toArray, List.set_cons_zero, List.set_cons_succ]
                        refine wpAnyH_take (i := 5) (oi := { dst := some 102, op := Op.indexAddr 34 (Operand.tmp 100) (Operand.tmp 101), type := 0, pos := "ref.go:220", after := #[{ on := 3, ground := Ground.data }, { on := 4, ground := Ground.data }, { on := 1, ground := Ground.guard }], guard := some (1, false) }) (v := ?_) rfl (by kernel_rfl) (by kernel_rfl) (by kernel_rfl) (fun _ _ _ h => h) (Or.inl ⟨by rfl, ?_⟩) (by assumption) ?_
                        rotate_left
                        · intro w hSw; (try dsimp only at hSw); go_simp; (try with_reducible rfl)
                        try simp only [Act.put, List.setIfInBounds_toArray, List.set_cons_zero, List.set_cons_succ]
                        refine wpAnyH_take (i := 6) (oi := { dst := some 103, op := Op.load 3 (Operand.tmp 102), type := 3, pos := "ref.go:220", after := #[{ on := 5, ground := Ground.data }, { on := 1, ground := Ground.guard }], guard := some (1, false) }) (v := ?_) rfl (by kernel_rfl) (by kernel_rfl) (by kernel_rfl) (fun _ _ _ h => h) (Or.inl ⟨by rfl, ?_⟩) (by assumption) ?_
                        rotate_left
                        · intro w hSw; (try dsimp only at hSw); go_simp; (try with_reducible rfl)
                        try simp only [Act.put, List.setIfInBounds_toArray, List.set_cons_zero, List.set_cons_succ]
                        refine wpAnyH_take (i := 7) (oi := { dst := some 104, op := Op.move (Operand.tmp 7), type := 22, pos := "ref.go:220", after := #[{ on := 1, ground := Ground.guard }], guard := some (1, false) }) (v := ?_) rfl (by kernel_rfl) (by kernel_rfl) (by kernel_rfl) (fun _ _ _ h => h) (Or.inl ⟨by rfl, ?_⟩) (by assumption) ?_
                        rotate_left
                        · intro w hSw; (try dsimp only at hSw); go_simp; (try with_reducible rfl)
                        try simp only [Act.put, List.setIfInBounds_toArray, List.set_cons_zero, List.set_cons_succ]
                        refine wpAnyH_take (i := 8) (oi := { dst := some 105, op := Op.move (Operand.tmp 10), type := 3, pos := "ref.go:220", after := #[{ on := 1, ground := Ground.guard }], guard := some (1, false) }) (v := ?_) rfl (by kernel_rfl) (by kernel_rfl) (by kernel_rfl) (fun _ _ _ h => h) (Or.inl ⟨by rfl, ?_⟩) (by assumption) ?_
                        rotate_left
                        · intro w hSw; (try dsimp only at hSw); go_simp; (try with_reducible rfl)
                        try simp only [Act.put, List.setIfInBounds_toArray, List.set_cons_zero, List.set_cons_succ]
                        refine wpAnyH_take (i := 9) (oi := { dst := some 106, op := Op.indexAddr 22 (Operand.tmp 104) (Operand.tmp 105), type := 0, pos := "ref.go:220", after := #[{ on := 7, ground := Ground.data }, { on := 8, ground := Ground.data }, { on := 1, ground := Ground.guard }], guard := some (1, false) }) (v := ?_) rfl (by kernel_rfl) (by kernel_rfl) (by kernel_rfl) (fun _ _ _ h => h) (Or.inl ⟨by rfl, ?_⟩) (by assumption) ?_
                        rotate_left
                        · intro w hSw; (try dsimp only at hSw); go_simp; (try with_reducible rfl)
                        try simp only [Act.put, List.setIfInBounds_toArray, List.set_cons_zero, List.set_cons_succ]
                        refine wpAnyH_take (i := 10) (oi := { dst := some 107, op := Op.fieldAddr 46 (Operand.tmp 106) 4, type := 0, pos := "ref.go:220", after := #[{ on := 9, ground := Ground.data }, { on := 1, ground := Ground.guard }], guard := some (1, false) }) (v := ?_) rfl (by kernel_rfl) (by kernel_rfl) (by kernel_rfl) (fun _ _ _ h => h) (Or.inl ⟨by rfl, ?_⟩) (by assumption) ?_
                        rotate_left
                        · intro w hSw; (try dsimp only at hSw); go_simp; (try with_reducible rfl)
                        try simp only [Act.put, List.setIfInBounds_toArray, List.set_cons_zero, List.set_cons_succ]
                        refine wpAnyH_take (i := 11) (oi := { dst := some 108, op := Op.load 40 (Operand.tmp 107), type := 40, pos := "ref.go:220", after := #[{ on := 10, ground := Ground.data }, { on := 1, ground := Ground.guard }], guard := some (1, false) }) (v := ?_) rfl (by kernel_rfl) (by kernel_rfl) (by kernel_rfl) (fun _ _ _ h => h) (Or.inl ⟨by rfl, ?_⟩) (by assumption) ?_
                        rotate_left
                        · intro w hSw; (try dsimp only at hSw); go_simp; (try with_reducible rfl)
                        try simp only [Act.put, List.setIfInBounds_toArray, List.set_cons_zero, List.set_cons_succ]
                        refine wpAnyH_take (i := 12) (oi := { dst := some 109, op := Op.move (Operand.tmp 13), type := 3, pos := "ref.go:220", after := #[{ on := 1, ground := Ground.guard }], guard := some (1, false) }) (v := ?_) rfl (by kernel_rfl) (by kernel_rfl) (by kernel_rfl) (fun _ _ _ h => h) (Or.inl ⟨by rfl, ?_⟩) (by assumption) ?_
                        rotate_left
                        · intro w hSw; (try dsimp only at hSw); go_simp; (try with_reducible rfl)
                        try simp only [Act.put, List.setIfInBounds_toArray, List.set_cons_zero, List.set_cons_succ]
                        refine wpAnyH_take (i := 13) (oi := { dst := some 110, op := Op.indexAddr 40 (Operand.tmp 108) (Operand.tmp 109), type := 0, pos := "ref.go:220", after := #[{ on := 11, ground := Ground.data }, { on := 12, ground := Ground.data }, { on := 1, ground := Ground.guard }], guard := some (1, false) }) (v := ?_) rfl (by kernel_rfl) (by kernel_rfl) (by kernel_rfl) (fun _ _ _ h => h) (Or.inl ⟨by rfl, ?_⟩) (by assumption) ?_
                        rotate_left
                        · intro w hSw; (try dsimp only at hSw); go_simp; (try with_reducible rfl)
                        try simp only [Act.put, List.setIfInBounds_toArray, List.set_cons_zero, List.set_cons_succ]
                        refine wpAnyH_take (i := 14) (oi := { dst := some 111, op := Op.load 49 (Operand.tmp 110), type := 49, pos := "ref.go:220", after := #[{ on := 13, ground := Ground.data }, { on := 1, ground := Ground.guard }], guard := some (1, false) }) (v := ?_) rfl (by kernel_rfl) (by kernel_rfl) (by kernel_rfl) (fun _ _ _ h => h) (Or.inl ⟨by rfl, ?_⟩) (by assumption) ?_
                        rotate_left
                        · intro w hSw; (try dsimp only at hSw); go_simp; (try with_reducible rfl)
                        try simp only [Act.put, List.setIfInBounds_toArray, List.set_cons_zero, List.set_cons_succ]
                        refine wpAnyH_ready (rs := [15]) (by kernel_rfl) (by simp) ?_
                        refine AllReadyH.cons (o := { dst := some 112, op := Op.call { callee := Callee.value (Operand.func 33), args := #[Operand.tmp 99, Operand.tmp 103, Operand.tmp 111, Operand.const (Value.bool true)], argTypes := #[22, 3, 49, 4] }, type := 4, pos := "ref.go:220", after := #[{ on := 2, ground := Ground.data }, { on := 6, ground := Ground.data }, { on := 14, ground := Ground.data }, { on := 1, ground := Ground.chain }, { on := 1, ground := Ground.guard }], guard := some (1, false) }) rfl (fun K hK => ?_) AllReadyH.nil
                        go_simp
                        refine (unhide CA).mono ?_
                        rintro e w5 ⟨rfl, hb5⟩
                        have hb6 := (Below.refl wr.heap.size wr).drew.trans (hb5.mono (by simp))
                        have HB5 := hide hb6
                        have h5 := unhide HSS w5 (bl_t (unhide HBX) hb6)
                        refine hK.out _ _ h5 (fun hHeld => ?_)
                        clear hb5 hb6
                        clear hK K
                        try simp only [Act.put, List.setIfInBounds_toArray, List.set_cons_zero, List.set_cons_succ]
                        refine wpAnyH_take (i := 16) (oi := { dst := some 113, op := Op.move (Operand.tmp 112), type := 4, pos := "ref.go:220", after := #[{ on := 15, ground := Ground.data }, { on := 15, ground := Ground.chain }, { on := 1, ground := Ground.guard }], guard := some (1, false) }) (v := ?_) rfl (by kernel_rfl) (by kernel_rfl) (by kernel_rfl) (fun _ _ _ h => h) (Or.inl ⟨by rfl, ?_⟩) (by assumption) ?_
                        rotate_left
                        · intro w hSw; (try dsimp only at hSw); go_simp; (try with_reducible rfl)
                        try simp only [Act.put, List.setIfInBounds_toArray, List.set_cons_zero, List.set_cons_succ]
                        refine wpAnyH_take (i := 17) (oi := { dst := some 114, op := Op.move (Operand.tmp 7), type := 22, pos := "ref.go:220", after := #[{ on := 16, ground := Ground.guard }], guard := some (16, true) }) (v := ?_) rfl (by kernel_rfl) (by kernel_rfl) (by kernel_rfl) (fun _ _ _ h => h) (Or.inl ⟨by rfl, ?_⟩) (by assumption) ?_
                        rotate_left
                        · intro w hSw; (try dsimp only at hSw); go_simp; (try with_reducible rfl)
                        try simp only [Act.put, List.setIfInBounds_toArray, List.set_cons_zero, List.set_cons_succ]
                        refine wpAnyH_take (i := 18) (oi := { dst := some 115, op := Op.move (Operand.tmp 10), type := 3, pos := "ref.go:220", after := #[{ on := 16, ground := Ground.guard }], guard := some (16, true) }) (v := ?_) rfl (by kernel_rfl) (by kernel_rfl) (by kernel_rfl) (fun _ _ _ h => h) (Or.inl ⟨by rfl, ?_⟩) (by assumption) ?_
                        rotate_left
                        · intro w hSw; (try dsimp only at hSw); go_simp; (try with_reducible rfl)
                        try simp only [Act.put, List.setIfInBounds_toArray, List.set_cons_zero, List.set_cons_succ]
                        refine wpAnyH_take (i := 19) (oi := { dst := some 116, op := Op.move (Operand.tmp 7), type := 22, pos := "ref.go:220", after := #[{ on := 16, ground := Ground.guard }], guard := some (16, true) }) (v := ?_) rfl (by kernel_rfl) (by kernel_rfl) (by kernel_rfl) (fun _ _ _ h => h) (Or.inl ⟨by rfl, ?_⟩) (by assumption) ?_
                        rotate_left
                        · intro w hSw; (try dsimp only at hSw); go_simp; (try with_reducible rfl)
                        try simp only [Act.put, List.setIfInBounds_toArray, List.set_cons_zero, List.set_cons_succ]
                        refine wpAnyH_take (i := 20) (oi := { dst := some 117, op := Op.move (Operand.tmp 10), type := 3, pos := "ref.go:220", after := #[{ on := 16, ground := Ground.guard }], guard := some (16, true) }) (v := ?_) rfl (by kernel_rfl) (by kernel_rfl) (by kernel_rfl) (fun _ _ _ h => h) (Or.inl ⟨by rfl, ?_⟩) (by assumption) ?_
                        rotate_left
                        · intro w hSw; (try dsimp only at hSw); go_simp; (try with_reducible rfl)
                        try simp only [Act.put, List.setIfInBounds_toArray, List.set_cons_zero, List.set_cons_succ]
                        refine wpAnyH_take (i := 21) (oi := { dst := some 118, op := Op.indexAddr 22 (Operand.tmp 116) (Operand.tmp 117), type := 0, pos := "ref.go:220", after := #[{ on := 19, ground := Ground.data }, { on := 20, ground := Ground.data }, { on := 16, ground := Ground.guard }], guard := some (16, true) }) (v := ?_) rfl (by kernel_rfl) (by kernel_rfl) (by kernel_rfl) (fun _ _ _ h => h) (Or.inl ⟨by rfl, ?_⟩) (by assumption) ?_
                        rotate_left
                        · intro w hSw; (try dsimp only at hSw); go_simp; (try with_reducible rfl)
                        try simp only [Act.put, List.setIfInBounds_toArray, List.set_cons_zero, List.set_cons_succ]
                        refine wpAnyH_take (i := 22) (oi := { dst := some 119, op := Op.fieldAddr 46 (Operand.tmp 118) 4, type := 0, pos := "ref.go:220", after := #[{ on := 21, ground := Ground.data }, { on := 16, ground := Ground.guard }], guard := some (16, true) }) (v := ?_) rfl (by kernel_rfl) (by kernel_rfl) (by kernel_rfl) (fun _ _ _ h => h) (Or.inl ⟨by rfl, ?_⟩) (by assumption) ?_
                        rotate_left
                        · intro w hSw; (try dsimp only at hSw); go_simp; (try with_reducible rfl)
                        try simp only [Act.put, List.setIfInBounds_toArray, List.set_cons_zero, List.set_cons_succ]
                        refine wpAnyH_take (i := 23) (oi := { dst := some 120, op := Op.load 40 (Operand.tmp 119), type := 40, pos := "ref.go:220", after := #[{ on := 22, ground := Ground.data }, { on := 16, ground := Ground.guard }], guard := some (16, true) }) (v := ?_) rfl (by kernel_rfl) (by kernel_rfl) (by kernel_rfl) (fun _ _ _ h => h) (Or.inl ⟨by rfl, ?_⟩) (by assumption) ?_
                        rotate_left
                        · intro w hSw; (try dsimp only at hSw); go_simp; (try with_reducible rfl)
                        try simp only [Act.put, List.setIfInBounds_toArray, List.set_cons_zero, List.set_cons_succ]
                        refine wpAnyH_take (i := 24) (oi := { dst := some 121, op := Op.move (Operand.tmp 13), type := 3, pos := "ref.go:220", after := #[{ on := 16, ground := Ground.guard }], guard := some (16, true) }) (v := ?_) rfl (by kernel_rfl) (by kernel_rfl) (by kernel_rfl) (fun _ _ _ h => h) (Or.inl ⟨by rfl, ?_⟩) (by assumption) ?_
                        rotate_left
                        · intro w hSw; (try dsimp only at hSw); go_simp; (try with_reducible rfl)
                        try simp only [Act.put, List.setIfInBounds_toArray, List.set_cons_zero, List.set_cons_succ]
                        refine wpAnyH_take (i := 25) (oi := { dst := some 122, op := Op.indexAddr 40 (Operand.tmp 120) (Operand.tmp 121), type := 0, pos := "ref.go:220", after := #[{ on := 23, ground := Ground.data }, { on := 24, ground := Ground.data }, { on := 16, ground := Ground.guard }], guard := some (16, true) }) (v := ?_) rfl (by kernel_rfl) (by kernel_rfl) (by kernel_rfl) (fun _ _ _ h => h) (Or.inl ⟨by rfl, ?_⟩) (by assumption) ?_
                        rotate_left
                        · intro w hSw; (try dsimp only at hSw); go_simp; (try with_reducible rfl)
                        try simp only [Act.put, List.setIfInBounds_toArray, List.set_cons_zero, List.set_cons_succ]
                        refine wpAnyH_take (i := 26) (oi := { dst := some 123, op := Op.load 49 (Operand.tmp 122), type := 49, pos := "ref.go:220", after := #[{ on := 25, ground := Ground.data }, { on := 16, ground := Ground.guard }], guard := some (16, true) }) (v := ?_) rfl (by kernel_rfl) (by kernel_rfl) (by kernel_rfl) (fun _ _ _ h => h) (Or.inl ⟨by rfl, ?_⟩) (by assumption) ?_
                        rotate_left
                        · intro w hSw; (try dsimp only at hSw); go_simp; (try with_reducible rfl)
                        try simp only [Act.put, List.setIfInBounds_toArray, List.set_cons_zero, List.set_cons_succ]
                        refine wpAnyH_ready (rs := [27]) (by kernel_rfl) (by simp) ?_
                        refine AllReadyH.cons (o := { dst := some 124, op := Op.call { callee := Callee.value (Operand.func 33), args := #[Operand.tmp 114, Operand.tmp 115, Operand.tmp 123, Operand.const (Value.bool true)], argTypes := #[22, 3, 49, 4] }, type := 4, pos := "ref.go:220", after := #[{ on := 17, ground := Ground.data }, { on := 18, ground := Ground.data }, { on := 26, ground := Ground.data }, { on := 16, ground := Ground.chain }, { on := 16, ground := Ground.guard }], guard := some (16, true) }) rfl (fun K hK => ?_) AllReadyH.nil
                        go_simp
                        refine (unhide CB w5 (bl_t (unhide HBX) (unhide HB5))).mono ?_
                        rintro e w6 ⟨rfl, hb5⟩
                        have HB6 := hide (bl_t (unhide HB5) hb5)
                        have h6 := unhide HSS w6 (bl_t (unhide HBX) (unhide HB6))
                        refine hK.out _ _ h6 (fun hHeld => ?_)
                        clear hb5
                        clear hK K
                        try simp only [Act.put, List.setIfInBounds_toArray, List.set_cons_zero, List.set_cons_succ]
                        refine wpAnyH_take (i := 28) (oi := { dst := some 125, op := Op.unOp UnOp.not 4 (Operand.tmp 124), type := 4, pos := "ref.go:220", after := #[{ on := 27, ground := Ground.data }, { on := 16, ground := Ground.guard }], guard := some (16, true) }) (v := ?_) rfl (by kernel_rfl) (by kernel_rfl) (by kernel_rfl) (fun _ _ _ h => h) (Or.inl ⟨by rfl, ?_⟩) (by assumption) ?_
                        rotate_left
                        · intro w hSw; (try dsimp only at hSw); go_simp; (try with_reducible rfl)
                        try simp only [Act.put, List.setIfInBounds_toArray, List.set_cons_zero, List.set_cons_succ]
                        refine wpAnyH_take (i := 29) (oi := { dst := some 126, op := Op.pick (Operand.tmp 113) (Operand.tmp 125) (Operand.const (Value.bool false)), type := 4, pos := "ref.go:220", after := #[{ on := 16, ground := Ground.data }, { on := 28, ground := Ground.data }, { on := 1, ground := Ground.guard }], guard := some (1, false) }) (v := ?_) rfl (by kernel_rfl) (by kernel_rfl) (by kernel_rfl) (fun _ _ _ h => h) (Or.inl ⟨by rfl, ?_⟩) (by assumption) ?_
                        rotate_left
                        · intro w hSw; (try dsimp only at hSw); go_simp; (try with_reducible rfl)
                        try simp only [Act.put, List.setIfInBounds_toArray, List.set_cons_zero, List.set_cons_succ]
                        refine wpAnyH_take (i := 30) (oi := { dst := some 127, op := Op.pick (Operand.tmp 98) (Operand.const (Value.bool true)) (Operand.tmp 126), type := 4, pos := "ref.go:220", after := #[{ on := 1, ground := Ground.data }, { on := 29, ground := Ground.data }], guard := none }) (v := ?_) rfl (by kernel_rfl) (by kernel_rfl) (by kernel_rfl) (fun _ _ _ h => h) (Or.inl ⟨by rfl, ?_⟩) (by assumption) ?_
                        rotate_left
                        · intro w hSw; (try dsimp only at hSw); go_simp; (try with_reducible rfl)
                        try simp only [Act.put, List.setIfInBounds_toArray, List.set_cons_zero, List.set_cons_succ]
                        refine wpAnyH_take (i := 31) (oi := { dst := some 11, op := Op.assign (Operand.tmp 127), type := 4, pos := "ref.go:220", after := #[{ on := 30, ground := Ground.data }, { on := 27, ground := Ground.chain }, { on := 0, ground := Ground.phase }, { on := 1, ground := Ground.phase }, { on := 2, ground := Ground.phase }, { on := 3, ground := Ground.phase }, { on := 4, ground := Ground.phase }, { on := 5, ground := Ground.phase }, { on := 6, ground := Ground.phase }, { on := 7, ground := Ground.phase }, { on := 8, ground := Ground.phase }, { on := 9, ground := Ground.phase }, { on := 10, ground := Ground.phase }, { on := 11, ground := Ground.phase }, { on := 12, ground := Ground.phase }, { on := 13, ground := Ground.phase }, { on := 14, ground := Ground.phase }, { on := 15, ground := Ground.phase }, { on := 16, ground := Ground.phase }, { on := 17, ground := Ground.phase }, { on := 18, ground := Ground.phase }, { on := 19, ground := Ground.phase }, { on := 20, ground := Ground.phase }, { on := 21, ground := Ground.phase }, { on := 22, ground := Ground.phase }, { on := 23, ground := Ground.phase }, { on := 24, ground := Ground.phase }, { on := 25, ground := Ground.phase }, { on := 26, ground := Ground.phase }, { on := 27, ground := Ground.phase }, { on := 28, ground := Ground.phase }, { on := 29, ground := Ground.phase }, { on := 30, ground := Ground.phase }], guard := none }) (v := ?_) rfl (by kernel_rfl) (by kernel_rfl) (by kernel_rfl) (fun _ _ _ h => h) (Or.inl ⟨by rfl, ?_⟩) (by assumption) ?_
                        rotate_left
                        · intro w hSw; (try dsimp only at hSw); go_simp; (try with_reducible rfl)
                        try simp only [Act.put, List.setIfInBounds_toArray, List.set_cons_zero, List.set_cons_succ]
                        refine wpAnyH_done (by kernel_rfl) ?_ _
                        have HB7 := hide (bl_t (unhide HBW) (unhide HB6))
                        clear h5 h6 hHeld HB5 HB6 CA CB
                        go_wp2_with fail
                        go_roundg (R - (k + 1))
                        case measure => omega
                        case rel => exact ⟨k + 1, false, by go_num, rfl, by omega, by omega, hide (unhide HB7), HV'⟩
                  · have HV' := hide (unhide HVn (LP k) rfl)
                    rw [Bool.true_or] at HV'
                    have HBd := hide (fun n => bl_t (unhide HBW) (bl_drewN wr n))
                    clear HVn hls CA CB HSS
                    go_wp2_with fail
                    go_quiet (fail)
                    go_wp2
                    go_roundg (R - (k + 1))
                    case measure => omega
                    case rel => exact ⟨k + 1, true, by go_num, rfl, by omega, by omega, hide (unhide HBd _), HV'⟩
                · obtain rfl : k = R := by omega
                  have HBK : Hid (brk ps inn p = b4) := hide (by rw [unhide HBR, unhide HV, unhide HV3, Bool.false_or])
                  have HKy := hide (own_same (unhide HK).1 fun b e => (unhide HBW).block b (World.ownsRow.lt (unhide HK).1 b e).2)
                  have HRW2 := hide (unhide HRW _ (unhide HBX))
                  have hKl : K.length ≤ 1048576 := by have := (unhide HK).2.len; omega
                  clear HV HV3 HBR HMP HLS3 HLS4
                  cases b4
                  · have HKn := hide ((unhide HK).2.no (unhide HP) (unhide HBK))
                    clear HBK
                    go_wp2_with fail
                    go_roundg (M - (i + 1))
                    case measure => omega
                    case rel => exact ⟨i + 1, K, by go_num, by omega, by omega, hide ⟨unhide HKy, unhide HKn⟩, HBX⟩
                  · have HKn := hide ((unhide HK).2.yes (unhide HP) (unhide HBK))
                    rw [unhide HKP] at HKn
                    clear HBK
                    go_wp2_with (first
                      | ((with_reducible refine wpList_load_p (op := { dst := some 133, op := Op.load 46 (Operand.tmp 132), type := 46, pos := "ref.go:223", after := #[{ on := 3, ground := Ground.data }], guard := none }) ?pya 46 (.tmp 132) ?pyb lb (lo + i * 43) ?pyc cs _ (unhide HRW2) Tryz.underlying46 ?pyd (unhide HI2) ?pye); (case pya => rfl); (case pyb => rfl); (case pyc => rfl); (case pyd => rfl))
                      | (go_at_call 52; refine (unhide CK _).mono ?_; rintro e w5 ⟨rfl, hb5⟩; have HB5 := hide hb5; clear hb5)
                      | (go_at_call 53; refine (rinsert_any kn kw hKl ((row_kyl (unhide HKy)).later (unhide HB5))).mono ?_; rintro e w6 ⟨r6, rfl, hown, hb6⟩; have H6 := hide (And.intro (row_lo2 hown (bl_t (unhide HR).2.2 (bl_t (unhide HBX) (unhide HB5))).size) (bl_t (unhide HB5) hb6)); clear hown hb6))
                    go_roundg (M - (i + 1))
                    case measure => omega
                    case rel => exact ⟨i + 1, insK (kn, kw) K, by go_num, by omega, by omega, hide ⟨(unhide H6).1, unhide HKn⟩, hide (bl_t (unhide HBX) (unhide H6).2)⟩
        · have hie : i = M := by omega
          subst hie
          go_wp2_with fail
          go_ret
          exact ⟨_, K, rfl, (unhide HK).1, by rw [unhide HIN, ← unhide HM]; exact (unhide HK).2, bl_t (unhide HR).2.2 (unhide HBo)⟩

end Go.Proofs.YtcebpdcijpgkjaaGreatDoor

