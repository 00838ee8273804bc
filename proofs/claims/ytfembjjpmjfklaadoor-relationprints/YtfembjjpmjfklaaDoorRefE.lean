import Derived.Test.YtfembjjpmjfklaaDoorRefB
namespace Go.Proofs.YtfembjjpmjfklaaDoor
open Go.RowKit

theorem prR_long {α : Type} (tx : α → ByteArray) (er : α → Int) (al : List α) (sep : ByteArray) (most : Nat) (h : ¬ most < al.length) (h0 : ∀ j (hj : j < al.length), er al[j] = 0) : prR tx er al sep most = (if 16777216 < (prK tx al sep al.length).size then ⟨#[]⟩ else prK tx al sep al.length, if 16777216 < (prK tx al sep al.length).size then 2 else 0) := by
  have e := errG_none er al h0
  unfold prR
  rw [if_neg h, e, if_neg (by simp), prK_all]
  by_cases hs : 16777216 < (prJ tx al sep).size
  · rw [if_pos hs, if_pos hs, if_pos hs]; rfl
  · rw [if_neg hs, if_neg hs, if_neg hs]
theorem strCells_app (s t : ByteArray) : Lib.strCells (s ++ t) = Lib.strCells s ++ Lib.strCells t := by
  unfold Lib.strCells
  rw [pj_toList_append, List.map_append]
theorem info5 : (Tryd.prog.info? 5).map (fun i => (i.zero, i.size, i.bytes)) = some (some (.int .u8 0), 1, 1) := by kernel_rfl
theorem Cls.shape {w : World} {v : Value} {cl : List (List Am)} (h : Cls w v cl) : ∃ a c, v = .slice a cl.length c := by
  obtain ⟨a, c, e, _⟩ := h
  exact ⟨a, c, e⟩
theorem Cls.bigL {w : World} {v : Value} {cl : List (List Am)} (h : Cls w v cl) : cl.length ≤ 9223372036854775807 := by
  obtain ⟨a, c, e, h2, _⟩ := h
  exact h2
/-- BYTES OF THE CALL'S OWN AS A TEXT. -/
theorem conv_own {W : World} {base : Nat} {a : Option Addr} {c n : Nat} {S : ByteArray} (hn : S.size = n) (h : W.ownsRow base 5 1 (.slice a n c) n (Lib.strCells S)) : (convert 85 9 (.slice a n c)).run Tryd.prog W = .ok (.string S) W := by
  rcases h.2 with ⟨e, h0⟩ | ⟨g, cap, cur, e, _⟩
  · cases e
    have hs : S = ⟨#[]⟩ := ba_inj (List.length_eq_zero_iff.1 (by rw [size_list]; exact hn))
    have hc := run_convert_bytes_string (P := Tryd.prog) W 85 9 5 none 0 0 Tryd.underlying85 Tryd.underlying5 Tryd.underlying9
    rw [hs, hc]
    rfl
  · cases e
    have hc := run_convert_bytes_back (P := Tryd.prog) W 85 9 5 ⟨g, 0, none⟩ c S.data.toList Tryd.underlying85 Tryd.underlying5 Tryd.underlying9 (fun j hj => World.ownsRow.cells (g := g) h rfl j _ (by unfold Lib.strCells; rw [List.getElem?_map, List.getElem?_eq_getElem hj]; rfl))
    rw [size_list, hn] at hc
    exact hc

set_option maxRecDepth 100000 in
set_option maxHeartbeats 4000000 in
theorem rPrintField_any (al : List (List Am)) (v : Value) (w : World) (hv : Cls w v al) (hz : ∀ j (h : j < al.length), Szs al[j]) :
    Calls Tryd.prog 31 #[v] w fun e w' => e = .returned (.tuple #[.string (prF al).1, .int .i64 (prF al).2]) ∧ Below w.heap.size w w' := by
  obtain ⟨va, vc, rfl⟩ := hv.shape
  have hbig := hv.bigL
  have HV := hide hv
  have HZ := hide hz
  clear hv hz
  obtain ⟨N, hN⟩ : ∃ N, al.length = N := ⟨_, rfl⟩
  rw [hN] at HV hbig ⊢
  by_cases hmo : 1024 < N
  · have hmo' : (1024 : Int) < (N : Int) := by omega
    have HF := hide (show prF al = (⟨#[]⟩, 24) by unfold prF; exact prR_many _ _ _ _ _ (by omega))
    go_enter Tryd.func31, Tryd.ntmps31
    go_wp2_with fail
    go_ret2
    rw [unhide HF]
    exact ⟨rfl, Below.refl _ _⟩
  · have hmo' : ¬ ((1024 : Int) < (N : Int)) := by omega
    obtain ⟨i0, hi, hz0, hz1, hz2⟩ := info_parts info5
    have HBad := hide (fun k (hk : k < al.length) (h0 : ∀ j (hj : j < al.length), j < k → (prC al[j]).2 = 0) (hn : (prC al[k]).2 ≠ 0) => show prF al = (⟨#[]⟩, (prC al[k]).2) by unfold prF; exact prR_bad (fun a => (prC a).1) (fun a => (prC a).2) al _ _ (by omega) k hk h0 hn)
    have HGood := hide (fun (h0 : ∀ j (hj : j < al.length), (prC al[j]).2 = 0) => show prF al = (if 16777216 < (prK (fun a => (prC a).1) al ⟨#[44, 32]⟩ N).size then ⟨#[]⟩ else prK (fun a => (prC a).1) al ⟨#[44, 32]⟩ N, if 16777216 < (prK (fun a => (prC a).1) al ⟨#[44, 32]⟩ N).size then 2 else 0) by unfold prF; rw [← hN]; exact prR_long (fun a => (prC a).1) (fun a => (prC a).2) al _ _ (by omega) h0)
    have H0 := hide (prK_zero (fun a => (prC a).1) al ⟨#[44, 32]⟩)
    have H1 := hide (fun (h : 0 < al.length) => prK_one (fun a => (prC a).1) al ⟨#[44, 32]⟩ h)
    have HNx := hide (fun k (hk : k < al.length) (h0 : 0 < k) => prK_next (fun a => (prC a).1) al ⟨#[44, 32]⟩ k hk h0)
    have HLe := hide (fun k => show (prK (fun a => (prC a).1) al ⟨#[44, 32]⟩ k).size ≤ k * 16777219 from Nat.le_trans (prK_le (fun a => (prC a).1) al ⟨#[44, 32]⟩ k 16777216 (fun a _ => prC_size a)) (Nat.mul_le_mul_left _ (by decide)))
    generalize prK (fun a => (prC a).1) al ⟨#[44, 32]⟩ = pk at *
    go_enter Tryd.func31, Tryd.ntmps31
    go_wp2_with fail
    go_loopw [4, 5] (fun bv i wr => ∃ (k : Nat) (S : ByteArray), k ≤ N ∧ S.size ≤ k * 16777219 ∧ i = .int .i64 k ∧ Hid (wr.ownsRow w.heap.size 5 1 bv S.size (Lib.strCells S)) ∧ Hid (S = pk k) ∧ Hid (Below w.heap.size w wr) ∧ Hid (∀ j (hj : j < al.length), j < k → (prC al[j]).2 = 0)) (fun _ i _ => N - (intOf i).toNat)
    case atStart => exact ⟨0, ⟨#[]⟩, Nat.zero_le _, Nat.le_refl _, rfl, hide (World.ownsRow_nil _ _ _ _), hide (unhide H0).symm, hide (Below.refl _ _), hide (fun j _ h => absurd h (Nat.not_lt_zero _))⟩
    case round =>
      obtain ⟨k, S, hk, hS, rfl, HO, HS, HB, HE⟩ := hrel
      obtain ⟨ba0, bc0, hbv⟩ := ownRow_shape (unhide HO)
      subst hbv
      by_cases hlt : k < N
      · have hkl : k < al.length := by omega
        obtain ⟨b, o, x, rfl, hbl, q0, hx⟩ := ((unhide HV).later (unhide HB)).elem k hkl
        have hsz := unhide HZ k hkl
        have hbz := (unhide HB).size
        have c1 := hide (rPrintClause_any al[k] x wr hx hsz)
        have HBad' := hide (unhide HBad k hkl (unhide HE))
        have HE' := hide (fun h => upto_nxG (fun a => (prC a).2 = 0) al k hkl (unhide HE) h)
        have HNx' := hide (unhide HNx k hkl)
        have H1' := hide (fun (h : k = 0) => show pk (0 + 1) = ⟨#[]⟩ ++ (prC al[k]).1 by subst h; exact unhide H1 hkl)
        have hps := prC_size al[k]
        have HLe' := hide (unhide HLe (k + 1))
        obtain ⟨xa, xc, rfl⟩ := hx.shape
        clear hx hsz
        generalize al[k] = am at *
        rcases hp : prC am with ⟨tx, e0⟩
        rw [hp] at c1 HBad' HE' HNx' H1' hps
        simp only at c1 HBad' HE' HNx' H1' hps
        clear hp HE HBad H1 HNx
        by_cases he : e0 = 0
        · subst he
          have HE2 := hide (unhide HE' rfl)
          clear HE' HBad'
          by_cases hk0 : k = 0
          · have hkp : ¬ ((0 : Int) < (k : Int)) := by omega
            have HS2 := hide (show S ++ tx = pk (k + 1) by rw [unhide HS, hk0, unhide H0, unhide H1' hk0])
            have hS2 : (S ++ tx).size ≤ (k + 1) * 16777219 := by rw [ByteArray.size_append]; omega
            clear HNx' H1' hk0
            go_wp2_with fail
            refine (unhide c1).mono ?_
            rintro e w1 ⟨rfl, hb1⟩
            have HB1 := hide ((unhide HB).trans (hb1.mono (unhide HB).size))
            have HO1 := hide (ownsRow_below (unhide HO) hb1)
            have hbz1 := (unhide HB1).size
            clear hb1
            go_wp2_with (first | (at_builtin; refine Lib.wpList_append_own_string _ rfl _ _ 85 9 rfl w.heap.size 5 i0 Tryd.underlying85 Tryd.underlying9 hi hz0 hz1 hz2 _ _ _ rfl (unhide HO1) tx rfl (by unfold maxLen; omega) (by omega) (by omega) ?_; intro v5 w5 hown5 hgrow5 _; have HO5 := hide (show w5.ownsRow w.heap.size 5 1 v5 (S ++ tx).size (Lib.strCells (S ++ tx)) by rw [ByteArray.size_append, strCells_app]; exact hown5); have HB5 := hide ((unhide HB1).grown hgrow5 (unhide HB1).size (ownRow_own (unhide HO1))); clear hown5 hgrow5))
            go_wp2_with fail
            go_roundw
            case rel => exact ⟨k + 1, S ++ tx, by omega, hS2, by go_num, HO5, HS2, HB5, HE2⟩
            case measure => simp [intOf]; omega
          · have hkp : (0 : Int) < (k : Int) := by omega
            have HS2 := hide (show S ++ ⟨#[44, 32]⟩ ++ tx = pk (k + 1) by rw [unhide HS, unhide HNx' (by omega)])
            have hS2 : (S ++ ⟨#[44, 32]⟩ ++ tx).size ≤ (k + 1) * 16777219 := by rw [unhide HS2]; exact unhide HLe'
            have hsep : (⟨#[44, 32]⟩ : ByteArray).size = 2 := rfl
            have hS3 : (S ++ ⟨#[44, 32]⟩).size = S.size + 2 := by rw [ByteArray.size_append, hsep]
            clear HNx' H1'
            go_wp2_with fail
            refine (unhide c1).mono ?_
            rintro e w1 ⟨rfl, hb1⟩
            have HB1 := hide ((unhide HB).trans (hb1.mono (unhide HB).size))
            have HO1 := hide (ownsRow_below (unhide HO) hb1)
            have hbz1 := (unhide HB1).size
            clear hb1
            go_wp2_with (first | (at_builtin; refine Lib.wpList_append_own_string _ rfl _ _ 85 9 rfl w.heap.size 5 i0 Tryd.underlying85 Tryd.underlying9 hi hz0 hz1 hz2 _ _ _ rfl (unhide HO1) ⟨#[44, 32]⟩ rfl (by rw [hsep]; unfold maxLen; omega) (by rw [hsep]; omega) (by omega) ?_; intro v4 w4 hown4 hgrow4 _; have HO4 := hide (show w4.ownsRow w.heap.size 5 1 v4 (S ++ ⟨#[44, 32]⟩).size (Lib.strCells (S ++ ⟨#[44, 32]⟩)) by rw [ByteArray.size_append, strCells_app]; exact hown4); have HB4 := hide ((unhide HB1).grown hgrow4 (unhide HB1).size (ownRow_own (unhide HO1))); have hbz4 := (unhide HB4).size; clear hown4 hgrow4) | (at_builtin; refine Lib.wpList_append_own_string _ rfl _ _ 85 9 rfl w.heap.size 5 i0 Tryd.underlying85 Tryd.underlying9 hi hz0 hz1 hz2 _ _ _ rfl (unhide HO4) tx rfl (by rw [hS3]; unfold maxLen; omega) (by rw [hS3]; omega) (by omega) ?_; intro v5 w5 hown5 hgrow5 _; have HO5 := hide (show w5.ownsRow w.heap.size 5 1 v5 (S ++ ⟨#[44, 32]⟩ ++ tx).size (Lib.strCells (S ++ ⟨#[44, 32]⟩ ++ tx)) by rw [ByteArray.size_append (a := S ++ ⟨#[44, 32]⟩), strCells_app (S ++ ⟨#[44, 32]⟩)]; exact hown5); have HB5 := hide ((unhide HB4).grown hgrow5 (unhide HB4).size (ownRow_own (unhide HO4))); clear hown5 hgrow5))
            go_wp2_with fail
            go_roundw
            case rel => exact ⟨k + 1, S ++ ⟨#[44, 32]⟩ ++ tx, by omega, hS2, by go_num, HO5, HS2, HB5, HE2⟩
            case measure => simp [intOf]; omega
        · have he' : (e0 == 0) = false := by simpa using he
          have HF := hide (unhide HBad' he)
          clear HE' HBad' HNx' H1'
          go_wp2_with fail
          refine (unhide c1).mono ?_
          rintro e w1 ⟨rfl, hb1⟩
          have HB1 := hide ((unhide HB).trans (hb1.mono (unhide HB).size))
          clear hb1
          go_wp2_with fail
          go_ret2
          rw [unhide HF]
          exact ⟨rfl, unhide HB1⟩
      · obtain rfl : k = N := by omega
        have HF := hide (unhide HGood (fun j hj => unhide HE j hj (by omega)))
        rw [← unhide HS] at HF
        have hcv := conv_own rfl (unhide HO)
        have c9 := hide (rlong_any S wr (by unfold maxLen; omega))
        clear HE HBad HGood H0 H1 HNx HLe HO HS
        generalize hA : (if 16777216 < S.size then (⟨#[]⟩ : ByteArray) else S) = sA at *
        generalize hE0 : (if 16777216 < S.size then (2 : Int) else 0) = sE at *
        clear hA hE0
        go_wp2_with fail
        refine (unhide c9).mono ?_
        rintro e w1 ⟨rfl, rfl⟩
        go_wp2_with fail
        go_ret2
        rw [unhide HF]
        exact ⟨rfl, unhide HB⟩

end Go.Proofs.YtfembjjpmjfklaaDoor
