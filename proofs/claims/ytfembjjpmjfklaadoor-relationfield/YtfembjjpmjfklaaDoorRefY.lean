import Derived.Test.YtfembjjpmjfklaaDoorRefX
namespace Go.Proofs.YtfembjjpmjfklaaDoor
open Go.RowKit

theorem byte_beq (b c : UInt8) : ((b.toNat : Int) == (c.toNat : Int)) = (b == c) := by
  cases h : b == c
  · rw [beq_eq_false_iff_ne] at h ⊢
    intro e
    exact h (UInt8.toNat_inj.1 (by omega))
  · rw [eq_of_beq h]; simp

def nmE (n : Int) : Bool := blI n || (n == 40)
theorem nmE_in (b : UInt8) : nmE (b.toNat : Int) = [32, 9, 10, 40].contains b := by
  have e4 := byte_beq b 40
  unfold nmE
  rw [blI_blk, show ((b.toNat : Int) == 40) = (b == 40) from e4]
  unfold blk
  simp only [List.contains_cons, List.contains_nil, Bool.or_false]
  simp only [Bool.or_assoc]
def pnI (n : Int) : Bool := (n == 40) || (n == 41)
theorem pnI_in (b : UInt8) : pnI (b.toNat : Int) = [40, 41].contains b := by
  have e1 := byte_beq b 40
  have e2 := byte_beq b 41
  unfold pnI
  rw [show ((b.toNat : Int) == 40) = (b == 40) from e1, show ((b.toNat : Int) == 41) = (b == 41) from e2]
  simp only [List.contains_cons, List.contains_nil, Bool.or_false]

/-- THE FIRST SIGN OF A KIND, OR THE END. -/
theorem firstN (p : Int → Bool) (t : ByteArray) : ∃ n, n ≤ t.size ∧ (∀ j (hj : j < t.size), j < n → p (t[j].toNat : Int) = false) ∧ ((∃ hj : n < t.size, p (t[n].toNat : Int) = true) ∨ n = t.size) := by
  have key : ∀ k n, n + k = t.size → (∀ j (hj : j < t.size), j < n → p (t[j].toNat : Int) = false) → ∃ n, n ≤ t.size ∧ (∀ j (hj : j < t.size), j < n → p (t[j].toNat : Int) = false) ∧ ((∃ hj : n < t.size, p (t[n].toNat : Int) = true) ∨ n = t.size) := by
    intro k
    induction k with
    | zero => intro n hn h; exact ⟨n, by omega, h, .inr (by omega)⟩
    | succ k ih =>
      intro n hn h
      have hlt : n < t.size := by omega
      cases hb : p (t[n].toNat : Int)
      · refine ih (n + 1) (by omega) (fun j hj hj' => ?_)
        by_cases e : j = n
        · subst e; exact hb
        · exact h j hj (by omega)
      · exact ⟨n, by omega, h, .inl ⟨hlt, hb⟩⟩
  exact key t.size 0 (by omega) (fun j _ h => absurd h (Nat.not_lt_zero _))

theorem trimB_nob : trimB nob = nob := rfl
theorem size0_nob {t : ByteArray} (h : t.size = 0) : t = nob := by
  apply ba_inj
  have : t.data.toList.length = 0 := by rw [size_list]; exact h
  rw [List.length_eq_zero_iff.1 this]
  rfl

theorem cutN_at (t : ByteArray) (hl : LastOk t.data.toList) (n : Nat) (hn : n ≤ t.size) (h1 : ∀ j (hj : j < t.size), j < n → nmE (t[j].toNat : Int) = false) (h2 : (∃ hj : n < t.size, nmE (t[n].toNat : Int) = true) ∨ n = t.size) : cutN t = (t.extract 0 n, trimB (t.extract n t.size)) := by
  have hno : Lib.NoAny t.data.toList [32, 9, 10, 40] n := fun j y hj hy => by
    obtain ⟨hj', rfl⟩ := byte_at t j y hy
    rw [← nmE_in]; exact h1 j hj' hj
  rcases h2 with ⟨hj, h2⟩ | rfl
  · have e : idxN t = n := Lib.indexAny_hit hno (x := t[n]) (by rw [List.getElem?_eq_some_iff]; exact ⟨by rw [size_list]; exact hj, rfl⟩) (by rw [← nmE_in]; exact h2)
    unfold cutN
    rw [e, if_neg (by omega)]
    congr 1
    exact (trimB_L (last_suffix (by rw [ext_from]; exact List.drop_suffix _ _) hl)).symm
  · have e : idxN t = -1 := Lib.indexAny_none (by rw [size_list]; exact hno)
    unfold cutN
    rw [e, if_pos (by decide)]
    have e1 : t.extract 0 t.size = t := by
      apply ba_inj
      rw [ext_to, List.take_of_length_le (by rw [size_list]; exact Nat.le_refl _)]
    have e2 : t.extract t.size t.size = nob := size0_nob (by rw [ByteArray.size_extract]; omega)
    rw [e1, e2, trimB_nob]

theorem preP_at (r : ByteArray) (hz : 0 < r.size) (h0 : r[0] = 40) : hasP r = true ∧ preP r = r.extract 1 r.size := by
  have e := ext_tail r hz
  rw [h0] at e
  have hp : Lib.hasPrefix r.data.toList [40] = true := by rw [e]; rfl
  refine ⟨hp, ?_⟩
  apply ba_inj
  show Lib.trimPrefix r.data.toList [40] = _
  unfold Lib.trimPrefix
  rw [if_pos hp]
  conv => lhs; rw [e]
  rfl
theorem hasP_no (r : ByteArray) (h : ∀ hz : 0 < r.size, r[0] ≠ 40) : hasP r = false := by
  show Lib.hasPrefix r.data.toList [40] = false
  by_cases hz : 0 < r.size
  · rw [ext_tail r hz]
    have := h hz
    unfold Lib.hasPrefix
    simp only [List.isPrefixOf, Bool.and_true]
    rw [beq_eq_false_iff_ne]
    exact fun e => this e.symm
  · have : r.data.toList.length = 0 := by rw [size_list]; omega
    rw [List.length_eq_zero_iff.1 this]
    rfl
theorem hasS_no (m : ByteArray) (h : ∀ hz : 0 < m.size, m[m.size - 1] ≠ 41) : hasS m = false := by
  show Lib.hasSuffix m.data.toList [41] = false
  by_cases hz : 0 < m.size
  · have := h hz
    rw [ext_init m hz]
    unfold Lib.hasSuffix List.isSuffixOf
    rw [List.reverse_append]
    simp only [List.reverse_singleton, List.singleton_append, List.isPrefixOf, Bool.and_true]
    rw [beq_eq_false_iff_ne]
    exact fun e => this e.symm
  · have : m.data.toList.length = 0 := by rw [size_list]; omega
    rw [List.length_eq_zero_iff.1 this]
    rfl
theorem last_tail (r : ByteArray) (hz : 2 ≤ r.size) (h : 0 < (r.extract 1 r.size).size) : (r.extract 1 r.size)[(r.extract 1 r.size).size - 1] = r[r.size - 1] := by
  rw [ByteArray.getElem_extract]
  congr 1
  rw [ByteArray.size_extract]
  omega
theorem sufP_at (r : ByteArray) (hz : 2 ≤ r.size) (h0 : r[r.size - 1] = 41) : hasS (r.extract 1 r.size) = true ∧ sufP (r.extract 1 r.size) = r.extract 1 (r.size - 1) := by
  have hz' : 0 < (r.extract 1 r.size).size := by rw [ByteArray.size_extract]; omega
  have e := ext_init (r.extract 1 r.size) hz'
  rw [last_tail r hz hz', h0] at e
  have hp : Lib.hasSuffix (r.extract 1 r.size).data.toList [41] = true := by
    rw [e]
    unfold Lib.hasSuffix
    rw [List.isSuffixOf_iff_suffix]
    exact List.suffix_append _ _
  refine ⟨hp, ?_⟩
  apply ba_inj
  show Lib.trimSuffix (r.extract 1 r.size).data.toList [41] = _
  unfold Lib.trimSuffix
  rw [if_pos hp]
  have h := Lib.extract_toList r 1 (r.size - 1)
  rw [Lib.toList_data] at h
  have hl := size_list r
  rw [h, ext_from, List.length_drop, hl]
  congr 1
theorem anyP_no (m : ByteArray) (h : ∀ j (hj : j < m.size), pnI (m[j].toNat : Int) = false) : anyP m = false := by
  show Lib.containsAny m.data.toList [40, 41] = false
  unfold Lib.containsAny
  rw [Lib.indexAny_none (fun j y hj hy => by obtain ⟨hj', rfl⟩ := byte_at m j y hy; rw [← pnI_in]; exact h j hj')]
  rfl
theorem anyP_yes (m : ByteArray) (n : Nat) (hn : n < m.size) (h1 : ∀ j (hj : j < m.size), j < n → pnI (m[j].toNat : Int) = false) (h2 : pnI (m[n].toNat : Int) = true) : anyP m = true := by
  show Lib.containsAny m.data.toList [40, 41] = true
  unfold Lib.containsAny
  rw [Lib.indexAny_hit (i := n) (x := m[n]) (fun j y hj hy => by obtain ⟨hj', rfl⟩ := byte_at m j y hy; rw [← pnI_in]; exact h1 j hj' hj) (by rw [List.getElem?_eq_some_iff]; exact ⟨by rw [size_list]; exact hn, rfl⟩) (by rw [← pnI_in]; exact h2)]
  simp

theorem cutB_bad (r : ByteArray) (h : r.size < 2 ∨ (∃ hz : 2 ≤ r.size, r[0] ≠ 40) ∨ (∃ hz : 2 ≤ r.size, r[0] = 40 ∧ r[r.size - 1] ≠ 41)) : (cutB r).2 = false := by
  have key : hasP r = false ∨ hasS (preP r) = false := by
    rcases h with h | ⟨hz, h⟩ | ⟨hz, h0, h⟩
    · by_cases hp : ∃ hz : 0 < r.size, r[0] = 40
      · obtain ⟨hz, h0⟩ := hp
        right
        rw [(preP_at r hz h0).2]
        exact hasS_no _ (fun hz' => absurd hz' (by rw [ByteArray.size_extract]; omega))
      · exact .inl (hasP_no r (fun hz e => hp ⟨hz, e⟩))
    · exact .inl (hasP_no r (fun _ => h))
    · right
      rw [(preP_at r (by omega) h0).2]
      exact hasS_no _ (fun hz' => by rw [last_tail r hz hz']; exact h)
  unfold cutB
  rw [if_pos (by rcases key with h | h; exact .inl h; exact .inr (.inl h))]
theorem cutB_par (r : ByteArray) (hz : 2 ≤ r.size) (h0 : r[0] = 40) (h1 : r[r.size - 1] = 41) (ha : anyP (r.extract 1 (r.size - 1)) = true) : (cutB r).2 = false := by
  unfold cutB
  rw [if_pos (.inr (.inr (by rw [(preP_at r (by omega) h0).2, (sufP_at r hz h1).2]; exact ha)))]
theorem cutB_ok (r : ByteArray) (hz : 2 ≤ r.size) (h0 : r[0] = 40) (h1 : r[r.size - 1] = 41) (ha : anyP (r.extract 1 (r.size - 1)) = false) : cutB r = (trimB (r.extract 1 (r.size - 1)), true) := by
  unfold cutB
  rw [(preP_at r (by omega) h0).2, (sufP_at r hz h1).2, (preP_at r (by omega) h0).1, (sufP_at r hz h1).1, ha]
  rfl

end Go.Proofs.YtfembjjpmjfklaaDoor
