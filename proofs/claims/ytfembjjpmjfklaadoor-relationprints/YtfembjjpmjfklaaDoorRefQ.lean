import Derived.Test.YtfembjjpmjfklaaDoorRefP
namespace Go.Proofs.YtfembjjpmjfklaaDoor
open Go.RowKit

theorem Ams.shape {w : World} {v : Value} {al : List Am} (h : Ams w v al) : ∃ a c, v = .slice a al.length c := by
  obtain ⟨a, c, e, _⟩ := h
  exact ⟨a, c, e⟩
theorem Ams.bigL {w : World} {v : Value} {al : List Am} (h : Ams w v al) : al.length ≤ 9223372036854775807 := by
  obtain ⟨a, c, e, h2, _⟩ := h
  exact h2
theorem prR_many {α : Type} (tx : α → ByteArray) (er : α → Int) (al : List α) (sep : ByteArray) (most : Nat) (h : most < al.length) : prR tx er al sep most = (⟨#[]⟩, 24) := by
  unfold prR
  rw [if_pos h]
  rfl
theorem prR_bad {α : Type} (tx : α → ByteArray) (er : α → Int) (al : List α) (sep : ByteArray) (most : Nat) (h : ¬ most < al.length) (k : Nat) (hk : k < al.length) (h0 : ∀ j (hj : j < al.length), j < k → er al[j] = 0) (hn : er al[k] ≠ 0) : prR tx er al sep most = (⟨#[]⟩, er al[k]) := by
  have e := errG_at er al k hk h0 hn
  unfold prR
  rw [if_neg h, e, if_pos hn]
  rfl
theorem prR_good {α : Type} (tx : α → ByteArray) (er : α → Int) (al : List α) (sep : ByteArray) (most : Nat) (h : ¬ most < al.length) (h0 : ∀ j (hj : j < al.length), er al[j] = 0) (M : Nat) (hM : ∀ a ∈ al, (tx a).size ≤ M) (hs : al.length * (M + sep.size) ≤ 16777216) : prR tx er al sep most = (prK tx al sep al.length, 0) := by
  have e := errG_none er al h0
  have hl := prJ_le tx al sep M hM
  unfold prR
  rw [if_neg h, e, if_neg (by simp), if_neg (by omega), prK_all]

set_option maxRecDepth 100000 in
set_option maxHeartbeats 4000000 in
theorem rPrintClause_any (al : List Am) (v : Value) (w : World) (hv : Ams w v al) (hz : Szs al) :
    Calls Tryd.prog 34 #[v] w fun e w' => e = .returned (.tuple #[.string (prC al).1, .int .i64 (prC al).2]) ∧ Below w.heap.size w w' := by
  obtain ⟨va, vc, rfl⟩ := hv.shape
  have hbig := hv.bigL
  have HV := hide hv
  have HZ := hide hz
  clear hv hz
  obtain ⟨N, hN⟩ : ∃ N, al.length = N := ⟨_, rfl⟩
  rw [hN] at HV hbig ⊢
  by_cases hz0 : N = 0
  · have hz0' : (N : Int) = 0 := by omega
    have hz0b : ((N : Int) == 0) = true := by rw [hz0']; rfl
    have HF := hide (show prC al = (⟨#[]⟩, 23) by unfold prC; rw [if_pos (by omega)]; rfl)
    go_enter Tryd.func34, Tryd.ntmps34
    go_wp2_with fail
    go_ret2
    rw [unhide HF]
    exact ⟨rfl, Below.refl _ _⟩
  have hz0' : ¬ ((N : Int) = 0) := by omega
  have hz0b : ((N : Int) == 0) = false := beq_eq_false_iff_ne.2 hz0'
  by_cases hmo : 256 < N
  · have hmo' : (256 : Int) < (N : Int) := by omega
    have HF := hide (show prC al = (⟨#[]⟩, 24) by unfold prC ; rw [if_neg (by omega)]; exact prR_many _ _ _ _ _ (by omega))
    go_enter Tryd.func34, Tryd.ntmps34
    go_wp2_with fail
    go_ret2
    rw [unhide HF]
    exact ⟨rfl, Below.refl _ _⟩
  · have hmo' : ¬ ((256 : Int) < (N : Int)) := by omega
    have HBad := hide (fun k (hk : k < al.length) (h0 : ∀ j (hj : j < al.length), j < k → (printA al[j]).2 = 0) (hn : (printA al[k]).2 ≠ 0) => show prC al = (⟨#[]⟩, (printA al[k]).2) by unfold prC ; rw [if_neg (by omega)]; exact prR_bad (fun a => (printA a).1) (fun a => (printA a).2) al _ _ (by omega) k hk h0 hn)
    have HGood := hide (fun (h0 : ∀ j (hj : j < al.length), (printA al[j]).2 = 0) => show prC al = (prK (fun a => (printA a).1) al ⟨#[32, 124, 32]⟩ N, 0) by unfold prC ; rw [if_neg (by omega)]; rw [← hN]; exact prR_good (fun a => (printA a).1) (fun a => (printA a).2) al _ _ (by omega) h0 1000 (fun a _ => printA_small a) (by rw [hN, show 1000 + (⟨#[32, 124, 32]⟩ : ByteArray).size = 1003 from rfl]; omega))
    have H0 := hide (prK_zero (fun a => (printA a).1) al ⟨#[32, 124, 32]⟩)
    have H1 := hide (fun (h : 0 < al.length) => prK_one (fun a => (printA a).1) al ⟨#[32, 124, 32]⟩ h)
    have HNx := hide (fun k (hk : k < al.length) (h0 : 0 < k) => prK_next (fun a => (printA a).1) al ⟨#[32, 124, 32]⟩ k hk h0)
    have HLe := hide (fun k => show (prK (fun a => (printA a).1) al ⟨#[32, 124, 32]⟩ k).size ≤ k * 1003 from Nat.le_trans (prK_le (fun a => (printA a).1) al ⟨#[32, 124, 32]⟩ k 1000 (fun a _ => printA_small a)) (Nat.mul_le_mul_left _ (by decide)))
    generalize prK (fun a => (printA a).1) al ⟨#[32, 124, 32]⟩ = pk at *
    go_enter Tryd.func34, Tryd.ntmps34
    go_wp2_with fail
    go_loopw [4, 5] (fun sv i wr => ∃ (k : Nat) (S : ByteArray), k ≤ N ∧ S.size ≤ k * 1003 ∧ sv = .string S ∧ i = .int .i64 k ∧ Hid (S = pk k) ∧ Hid (Below w.heap.size w wr) ∧ Hid (∀ j (hj : j < al.length), j < k → (printA al[j]).2 = 0)) (fun _ i _ => N - (intOf i).toNat)
    case atStart => exact ⟨0, ⟨#[]⟩, Nat.zero_le _, Nat.le_refl _, rfl, rfl, hide (unhide H0).symm, hide (Below.refl _ _), hide (fun j _ h => absurd h (Nat.not_lt_zero _))⟩
    case round =>
      obtain ⟨k, S, hk, hS, rfl, rfl, HS, HB, HE⟩ := hrel
      by_cases hlt : k < N
      · have hkl : k < al.length := by omega
        obtain ⟨b, o, rfl, hbl, q0, q1, q2⟩ := ((unhide HV).later (unhide HB)).elem k hkl
        have hsz := unhide HZ k hkl
        have c1 := hide (fun w => rPrintAtom_any al[k].n al[k].op al[k].v w hsz.1 hsz.2)
        have HBad' := hide (unhide HBad k hkl (unhide HE))
        have HE' := hide (fun h => upto_nxG (fun a => (printA a).2 = 0) al k hkl (unhide HE) h)
        have HNx' := hide (unhide HNx k hkl)
        have H1' := hide (fun (h : k = 0) => show pk (0 + 1) = ⟨#[]⟩ ++ (printA al[k]).1 by subst h; exact unhide H1 hkl)
        have hps := printA_small al[k]
        have HLe' := hide (unhide HLe (k + 1))
        generalize al[k] = am at *
        obtain ⟨an, ao, av⟩ := am
        simp only at q0 q1 q2 c1
        rcases hp : printA ⟨an, ao, av⟩ with ⟨tx, e0⟩
        rw [hp] at c1 HBad' HE' HNx' H1' hps
        simp only at c1 HBad' HE' HNx' H1' hps
        clear hp HE hsz HBad H1 HNx
        by_cases he : e0 = 0
        · subst he
          have HE2 := hide (unhide HE' rfl)
          clear HE' HBad'
          by_cases hk0 : k = 0
          · have hkp : ¬ ((0 : Int) < (k : Int)) := by omega
            have HS2 := hide (show S ++ tx = pk (k + 1) by rw [unhide HS, hk0, unhide H0, unhide H1' hk0])
            have hS2 : (S ++ tx).size ≤ (k + 1) * 1003 := by rw [ByteArray.size_append]; omega
            clear HNx' H1' hk0
            go_wp2_with fail
            refine (unhide c1 _).mono ?_
            rintro e w1 ⟨rfl, hb1⟩
            have HB1 := hide ((unhide HB).trans (hb1.mono (unhide HB).size))
            clear hb1
            go_wp2_with fail
            go_roundw
            case rel => exact ⟨k + 1, S ++ tx, by omega, hS2, rfl, by go_num, HS2, HB1, HE2⟩
            case measure => simp [intOf]; omega
          · have hkp : (0 : Int) < (k : Int) := by omega
            have HS2 := hide (show S ++ ⟨#[32, 124, 32]⟩ ++ tx = pk (k + 1) by rw [unhide HS, unhide HNx' (by omega)])
            have hS2 : (S ++ ⟨#[32, 124, 32]⟩ ++ tx).size ≤ (k + 1) * 1003 := by rw [unhide HS2]; exact unhide HLe'
            have hsep : (⟨#[32, 124, 32]⟩ : ByteArray).size = 3 := rfl
            clear HNx' H1'
            go_wp2_with fail
            refine (unhide c1 _).mono ?_
            rintro e w1 ⟨rfl, hb1⟩
            have HB1 := hide ((unhide HB).trans (hb1.mono (unhide HB).size))
            clear hb1
            go_wp2_with fail
            go_roundw
            case rel => exact ⟨k + 1, S ++ ⟨#[32, 124, 32]⟩ ++ tx, by omega, hS2, rfl, by go_num, HS2, HB1, HE2⟩
            case measure => simp [intOf]; omega
        · have he' : (e0 == 0) = false := by simpa using he
          have HF := hide (unhide HBad' he)
          clear HE' HBad' HNx' H1'
          go_wp2_with fail
          refine (unhide c1 _).mono ?_
          rintro e w1 ⟨rfl, hb1⟩
          have HB1 := hide ((unhide HB).trans (hb1.mono (unhide HB).size))
          clear hb1
          go_wp2_with fail
          go_ret2
          rw [unhide HF]
          exact ⟨rfl, unhide HB1⟩
      · obtain rfl : k = N := by omega
        have HF := hide (unhide HGood (fun j hj => unhide HE j hj (by omega)))
        rw [← unhide HS] at HF
        clear HE HBad HGood H0 H1 HNx HLe
        go_wp2_with fail
        go_ret2
        rw [unhide HF]
        exact ⟨rfl, unhide HB⟩

set_option maxRecDepth 100000 in
set_option maxHeartbeats 4000000 in
theorem rPrintAtoms_any (al : List Am) (v : Value) (w : World) (hv : Ams w v al) (hz : Szs al) :
    Calls Tryd.prog 36 #[v] w fun e w' => e = .returned (.tuple #[.string (prA al).1, .int .i64 (prA al).2]) ∧ Below w.heap.size w w' := by
  obtain ⟨va, vc, rfl⟩ := hv.shape
  have hbig := hv.bigL
  have HV := hide hv
  have HZ := hide hz
  clear hv hz
  obtain ⟨N, hN⟩ : ∃ N, al.length = N := ⟨_, rfl⟩
  rw [hN] at HV hbig ⊢
  by_cases hmo : 1024 < N
  · have hmo' : (1024 : Int) < (N : Int) := by omega
    have HF := hide (show prA al = (⟨#[]⟩, 24) by unfold prA; exact prR_many _ _ _ _ _ (by omega))
    go_enter Tryd.func36, Tryd.ntmps36
    go_wp2_with fail
    go_ret2
    rw [unhide HF]
    exact ⟨rfl, Below.refl _ _⟩
  · have hmo' : ¬ ((1024 : Int) < (N : Int)) := by omega
    have HBad := hide (fun k (hk : k < al.length) (h0 : ∀ j (hj : j < al.length), j < k → (printA al[j]).2 = 0) (hn : (printA al[k]).2 ≠ 0) => show prA al = (⟨#[]⟩, (printA al[k]).2) by unfold prA; exact prR_bad (fun a => (printA a).1) (fun a => (printA a).2) al _ _ (by omega) k hk h0 hn)
    have HGood := hide (fun (h0 : ∀ j (hj : j < al.length), (printA al[j]).2 = 0) => show prA al = (prK (fun a => (printA a).1) al ⟨#[44, 32]⟩ N, 0) by unfold prA; rw [← hN]; exact prR_good (fun a => (printA a).1) (fun a => (printA a).2) al _ _ (by omega) h0 1000 (fun a _ => printA_small a) (by rw [hN, show 1000 + (⟨#[44, 32]⟩ : ByteArray).size = 1002 from rfl]; omega))
    have H0 := hide (prK_zero (fun a => (printA a).1) al ⟨#[44, 32]⟩)
    have H1 := hide (fun (h : 0 < al.length) => prK_one (fun a => (printA a).1) al ⟨#[44, 32]⟩ h)
    have HNx := hide (fun k (hk : k < al.length) (h0 : 0 < k) => prK_next (fun a => (printA a).1) al ⟨#[44, 32]⟩ k hk h0)
    have HLe := hide (fun k => show (prK (fun a => (printA a).1) al ⟨#[44, 32]⟩ k).size ≤ k * 1003 from Nat.le_trans (prK_le (fun a => (printA a).1) al ⟨#[44, 32]⟩ k 1000 (fun a _ => printA_small a)) (Nat.mul_le_mul_left _ (by decide)))
    generalize prK (fun a => (printA a).1) al ⟨#[44, 32]⟩ = pk at *
    go_enter Tryd.func36, Tryd.ntmps36
    go_wp2_with fail
    go_loopw [4, 5] (fun sv i wr => ∃ (k : Nat) (S : ByteArray), k ≤ N ∧ S.size ≤ k * 1003 ∧ sv = .string S ∧ i = .int .i64 k ∧ Hid (S = pk k) ∧ Hid (Below w.heap.size w wr) ∧ Hid (∀ j (hj : j < al.length), j < k → (printA al[j]).2 = 0)) (fun _ i _ => N - (intOf i).toNat)
    case atStart => exact ⟨0, ⟨#[]⟩, Nat.zero_le _, Nat.le_refl _, rfl, rfl, hide (unhide H0).symm, hide (Below.refl _ _), hide (fun j _ h => absurd h (Nat.not_lt_zero _))⟩
    case round =>
      obtain ⟨k, S, hk, hS, rfl, rfl, HS, HB, HE⟩ := hrel
      by_cases hlt : k < N
      · have hkl : k < al.length := by omega
        obtain ⟨b, o, rfl, hbl, q0, q1, q2⟩ := ((unhide HV).later (unhide HB)).elem k hkl
        have hsz := unhide HZ k hkl
        have c1 := hide (fun w => rPrintAtom_any al[k].n al[k].op al[k].v w hsz.1 hsz.2)
        have HBad' := hide (unhide HBad k hkl (unhide HE))
        have HE' := hide (fun h => upto_nxG (fun a => (printA a).2 = 0) al k hkl (unhide HE) h)
        have HNx' := hide (unhide HNx k hkl)
        have H1' := hide (fun (h : k = 0) => show pk (0 + 1) = ⟨#[]⟩ ++ (printA al[k]).1 by subst h; exact unhide H1 hkl)
        have hps := printA_small al[k]
        have HLe' := hide (unhide HLe (k + 1))
        generalize al[k] = am at *
        obtain ⟨an, ao, av⟩ := am
        simp only at q0 q1 q2 c1
        rcases hp : printA ⟨an, ao, av⟩ with ⟨tx, e0⟩
        rw [hp] at c1 HBad' HE' HNx' H1' hps
        simp only at c1 HBad' HE' HNx' H1' hps
        clear hp HE hsz HBad H1 HNx
        by_cases he : e0 = 0
        · subst he
          have HE2 := hide (unhide HE' rfl)
          clear HE' HBad'
          by_cases hk0 : k = 0
          · have hkp : ¬ ((0 : Int) < (k : Int)) := by omega
            have HS2 := hide (show S ++ tx = pk (k + 1) by rw [unhide HS, hk0, unhide H0, unhide H1' hk0])
            have hS2 : (S ++ tx).size ≤ (k + 1) * 1003 := by rw [ByteArray.size_append]; omega
            clear HNx' H1' hk0
            go_wp2_with fail
            refine (unhide c1 _).mono ?_
            rintro e w1 ⟨rfl, hb1⟩
            have HB1 := hide ((unhide HB).trans (hb1.mono (unhide HB).size))
            clear hb1
            go_wp2_with fail
            go_roundw
            case rel => exact ⟨k + 1, S ++ tx, by omega, hS2, rfl, by go_num, HS2, HB1, HE2⟩
            case measure => simp [intOf]; omega
          · have hkp : (0 : Int) < (k : Int) := by omega
            have HS2 := hide (show S ++ ⟨#[44, 32]⟩ ++ tx = pk (k + 1) by rw [unhide HS, unhide HNx' (by omega)])
            have hS2 : (S ++ ⟨#[44, 32]⟩ ++ tx).size ≤ (k + 1) * 1003 := by rw [unhide HS2]; exact unhide HLe'
            have hsep : (⟨#[44, 32]⟩ : ByteArray).size = 2 := rfl
            clear HNx' H1'
            go_wp2_with fail
            refine (unhide c1 _).mono ?_
            rintro e w1 ⟨rfl, hb1⟩
            have HB1 := hide ((unhide HB).trans (hb1.mono (unhide HB).size))
            clear hb1
            go_wp2_with fail
            go_roundw
            case rel => exact ⟨k + 1, S ++ ⟨#[44, 32]⟩ ++ tx, by omega, hS2, rfl, by go_num, HS2, HB1, HE2⟩
            case measure => simp [intOf]; omega
        · have he' : (e0 == 0) = false := by simpa using he
          have HF := hide (unhide HBad' he)
          clear HE' HBad' HNx' H1'
          go_wp2_with fail
          refine (unhide c1 _).mono ?_
          rintro e w1 ⟨rfl, hb1⟩
          have HB1 := hide ((unhide HB).trans (hb1.mono (unhide HB).size))
          clear hb1
          go_wp2_with fail
          go_ret2
          rw [unhide HF]
          exact ⟨rfl, unhide HB1⟩
      · obtain rfl : k = N := by omega
        have HF := hide (unhide HGood (fun j hj => unhide HE j hj (by omega)))
        rw [← unhide HS] at HF
        clear HE HBad HGood H0 H1 HNx HLe
        go_wp2_with fail
        go_ret2
        rw [unhide HF]
        exact ⟨rfl, unhide HB⟩

end Go.Proofs.YtfembjjpmjfklaaDoor
