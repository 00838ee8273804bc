import Derived.Lib.SplitLaws
import Derived.Lib.CutLaws
import Derived.Lib.Slices
namespace Go.Proofs.YtjmomdnlibfbkaaDoor
open Go

def ba (l : List UInt8) : ByteArray := ⟨l.toArray⟩
theorem ba_size (l : List UInt8) : (ba l).size = l.length := by simp [ba, ByteArray.size]
theorem ba_list (l : List UInt8) : (ba l).data.toList = l := rfl
theorem size_list (s : ByteArray) : s.data.toList.length = s.size := by simp
theorem ba_inj {s t : ByteArray} (h : s.data.toList = t.data.toList) : s = t := ByteArray.ext (Array.ext' h)
theorem ba_self (s : ByteArray) : ba s.data.toList = s := ba_inj rfl
theorem ext_list (s : ByteArray) (a b : Nat) : (s.extract a b).data.toList = (s.data.toList.drop a).take (b - a) := by
  rw [ByteArray.data_extract, Array.toList_extract]
theorem ext_from (t : ByteArray) (n : Nat) : (t.extract n t.size).data.toList = t.data.toList.drop n := by
  have hl := size_list t
  rw [ext_list, List.take_of_length_le (by rw [List.length_drop]; omega)]
theorem ext_to (t : ByteArray) (n : Nat) : (t.extract 0 n).data.toList = t.data.toList.take n := by
  rw [ext_list]; rfl
theorem whole (s : ByteArray) : s.extract 0 s.size = s := by
  apply ba_inj
  rw [ext_to, List.take_of_length_le (by rw [size_list]; exact Nat.le_refl _)]
theorem ba_extract (l : List UInt8) (i j : Nat) : (ba l).extract i j = ba ((l.drop i).take (j - i)) := by
  apply ba_inj
  rw [ext_list]
  rfl

/-! ### The place of a byte -/
theorem pre_one (c b : UInt8) (l : List UInt8) : [c].isPrefixOf (b :: l) = (c == b) := by simp [List.isPrefixOf]
theorem idx1_miss (c : UInt8) : ∀ l : List UInt8, c ∉ l → Lib.index l [c] = -1
  | [], _ => rfl
  | b :: l, h => by
    have hb : (c == b) = false := by
      have : c ≠ b := fun e => h (e ▸ List.mem_cons_self)
      simpa using this
    unfold Lib.index
    rw [pre_one, hb, idx1_miss c l (fun hm => h (List.mem_cons_of_mem _ hm))]
    rfl
theorem idx1_hit (c : UInt8) (r : List UInt8) : ∀ a : List UInt8, c ∉ a → Lib.index (a ++ c :: r) [c] = (a.length : Int)
  | [], _ => by
    show Lib.index (c :: r) [c] = 0
    unfold Lib.index
    rw [pre_one]
    simp
  | b :: a, h => by
    have hb : (c == b) = false := by
      have : c ≠ b := fun e => h (e ▸ List.mem_cons_self)
      simpa using this
    have ih := idx1_hit c r a (fun hm => h (List.mem_cons_of_mem _ hm))
    show Lib.index (b :: (a ++ c :: r)) [c] = _
    unfold Lib.index
    rw [pre_one, hb, ih]
    have : ((a.length : Int) == -1) = false := beq_eq_false_iff_ne.2 (by omega)
    rw [this]
    simp
theorem first_of {c : UInt8} : ∀ {l : List UInt8}, c ∈ l → ∃ a r, l = a ++ c :: r ∧ c ∉ a
  | [], h => by simp at h
  | b :: l, h => by
    by_cases hb : c = b
    · subst hb; exact ⟨[], l, rfl, by simp⟩
    · have h' : c ∈ l := by simpa [hb] using h
      obtain ⟨a, r, e, hn⟩ := first_of h'
      exact ⟨b :: a, r, by rw [e]; rfl, by simp [hb, hn]⟩

/-! ### Pieces -/
def pcs (s : ByteArray) (c : UInt8) : List ByteArray := Lib.splitB ⟨#[c]⟩ 0 (Lib.countB s ⟨#[c]⟩) s
theorem pcs_len (s : ByteArray) (c : UInt8) : (pcs s c).length = Lib.countB s ⟨#[c]⟩ + 1 := Lib.splitB_all ⟨#[c]⟩ (Nat.le_refl _) 0 _ s rfl
theorem pcs_miss (s : ByteArray) (c : UInt8) (h : c ∉ s.data.toList) : pcs s c = [s] := by
  unfold pcs
  rw [Lib.countB_miss s ⟨#[c]⟩ (idx1_miss c _ h)]
  rfl
theorem pcs_hit (a r : List UInt8) (c : UInt8) (h : c ∉ a) : pcs (ba (a ++ c :: r)) c = ba a :: pcs (ba r) c := by
  have hi : Lib.indexB (ba (a ++ c :: r)) ⟨#[c]⟩ = ((a.length : Nat) : Int) := idx1_hit c r a h
  have hs : (ba (a ++ c :: r)).extract (a.length + (⟨#[c]⟩ : ByteArray).size) (ba (a ++ c :: r)).size = ba r := by
    have e1 : (⟨#[c]⟩ : ByteArray).size = 1 := rfl
    rw [ba_extract, e1, ba_size]
    congr 1
    rw [show a ++ c :: r = (a ++ [c]) ++ r by simp, List.drop_append_of_le_length (by simp), List.take_of_length_le (by simp; omega)]
    simp
  have h0 : (ba (a ++ c :: r)).extract 0 (a.length + 0) = ba a := by
    rw [ba_extract]
    simp
  unfold pcs
  rw [Lib.countB_hit _ _ a.length (Nat.le_refl _) hi, hs, Nat.add_comm, Lib.splitB_hit _ 0 _ _ a.length hi, hs, h0]

theorem mem_range2 (s : ByteArray) (f k : Nat) (hk : k ≤ s.size) (c : UInt8) (h : ∀ j (hj : j < s.size), f ≤ j → j < k → s[j] ≠ c) : c ∉ (s.extract f k).data.toList := by
  intro hc
  rw [ext_list] at hc
  obtain ⟨i, hi, e⟩ := List.getElem_of_mem hc
  rw [List.getElem_take, List.getElem_drop] at e
  rw [List.length_take, List.length_drop, size_list] at hi
  exact h (f + i) (by omega) (by omega) (by omega) e
theorem range_cut (s : ByteArray) (f k : Nat) (hf : f ≤ k) (hk : k < s.size) : s.extract f s.size = ba ((s.extract f k).data.toList ++ s[k] :: (s.extract (k + 1) s.size).data.toList) := by
  apply ba_inj
  rw [ext_from, ba_list, ext_from, ext_list]
  have hl := size_list s
  have e2 : s.data.toList.drop f = (s.data.toList.drop f).take (k - f) ++ (s.data.toList.drop f).drop (k - f) := (List.take_append_drop _ _).symm
  have e3 := List.drop_eq_getElem_cons (l := s.data.toList) (i := k) (by omega)
  conv => lhs; rw [e2]
  rw [List.drop_drop, show f + (k - f) = k by omega, e3]
  rfl
theorem pcs_step (s : ByteArray) (c : UInt8) (f k : Nat) (hf : f ≤ k) (hk : k < s.size) (hc : s[k] = c) (h : ∀ j (hj : j < s.size), f ≤ j → j < k → s[j] ≠ c) : pcs (s.extract f s.size) c = s.extract f k :: pcs (s.extract (k + 1) s.size) c := by
  rw [range_cut s f k hf hk, hc, pcs_hit _ _ c (mem_range2 s f k (by omega) c h)]
  rfl

/-! ### A path -/
/-- A SEGMENT MAY BE. -/
def seg (t : ByteArray) : Bool := !(t.data.toList == []) && !(t.data.toList == [46]) && !(t.data.toList == [46, 46])
def segs (s : ByteArray) : Bool := (pcs s 47).all seg
def inR (lo hi : Nat) (s : ByteArray) : Bool := s.data.toList.all fun b => decide (lo ≤ b.toNat) && decide (b.toNat ≤ hi)
def okP (s : ByteArray) : Bool := decide (s.size ≤ 256) && inR 33 126 s && segs s
/-- WHERE A PATH IS CUT: no prefix (0), none that fits (-1), or the first slash that leaves at most 100 bytes. -/
def cutOf (s : ByteArray) : Int := if s.size ≤ 100 then 0 else
  let j := Lib.index (s.data.toList.drop (s.size - 101)) [47]
  if j = -1 then -1 else if 155 < ((s.size - 101 : Nat) : Int) + j then -1 else ((s.size - 101 : Nat) : Int) + j
/-- SPLIT: prefix, name, error. -/
def spl (s : ByteArray) : ByteArray × ByteArray × Int :=
  if okP s = false then (⟨#[]⟩, ⟨#[]⟩, 44) else if s.size ≤ 100 then (⟨#[]⟩, s, 0) else if cutOf s < 0 then (⟨#[]⟩, ⟨#[]⟩, 44) else (s.extract 0 (cutOf s).toNat, s.extract ((cutOf s).toNat + 1) s.size, 0)

theorem segs_step (s : ByteArray) (f k : Nat) (hf : f ≤ k) (hk : k < s.size) (hc : s[k] = 47) (h : ∀ j (hj : j < s.size), f ≤ j → j < k → s[j] ≠ 47) : segs (s.extract f s.size) = (seg (s.extract f k) && segs (s.extract (k + 1) s.size)) := by
  unfold segs
  rw [pcs_step s 47 f k hf hk hc h]
  rfl
theorem segs_last (s : ByteArray) (f : Nat) (h : ∀ j (hj : j < s.size), f ≤ j → s[j] ≠ 47) : segs (s.extract f s.size) = seg (s.extract f s.size) := by
  unfold segs
  rw [pcs_miss _ _ (mem_range2 s f s.size (Nat.le_refl _) 47 (fun j hj hf _ => h j hj hf))]
  simp
theorem segs_end : ∀ (n : Nat) (l : List UInt8), l.length ≤ n → segs (ba (l ++ [47])) = false
  | n, l, hl => by
    by_cases hm : (47 : UInt8) ∈ l
    · obtain ⟨a, r, e, hn⟩ := first_of hm
      match n, hl with
      | 0, hl => rw [e] at hl; simp at hl
      | n + 1, hl =>
        have ih := segs_end n r (by rw [e] at hl; simp at hl; omega)
        unfold segs at ih ⊢
        rw [e, List.append_assoc, List.cons_append, pcs_hit a (r ++ [47]) 47 hn, List.all_cons, ih]
        simp
    · have h0 : pcs (ba []) 47 = [ba []] := pcs_miss _ _ (by simp [ba])
      unfold segs
      rw [pcs_hit l [] 47 hm, h0]
      simp [seg, ba_list]
theorem segs_tail (s : ByteArray) (h : segs s = true) : ∀ (hp : 0 < s.size), s[s.size - 1] ≠ 47 := by
  intro hp e
  have hl := size_list s
  have e1 : s = ba (s.data.toList.take (s.size - 1) ++ [47]) := by
    apply ba_inj
    rw [ba_list]
    have e3 := List.drop_eq_getElem_cons (l := s.data.toList) (i := s.size - 1) (by omega)
    have e4 : s.data.toList[s.size - 1]'(by omega) = 47 := e
    conv => lhs; rw [← List.take_append_drop (s.size - 1) s.data.toList]
    rw [e3, e4, List.drop_of_length_le (by omega)]
  rw [e1, segs_end _ _ (Nat.le_refl _)] at h
  cases h
theorem okP_tail (s : ByteArray) (h : okP s = true) (hp : 0 < s.size) : s[s.size - 1] ≠ 47 := by
  unfold okP at h
  simp only [Bool.and_eq_true] at h
  exact segs_tail s h.2 hp

theorem cutOf_hit (s : ByteArray) (hs : 100 < s.size) (i : Nat) (hi : i < s.size) (hlo : s.size - 101 ≤ i) (h155 : i ≤ 155) (hc : s[i] = 47) (h : ∀ j (hj : j < s.size), s.size - 101 ≤ j → j < i → s[j] ≠ 47) : cutOf s = i := by
  have e1 := congrArg (fun x => x.data.toList) (range_cut s (s.size - 101) i hlo hi)
  simp only [ext_from, ba_list, hc] at e1
  have hn := mem_range2 s (s.size - 101) i (by omega) 47 h
  have hlen : ((s.extract (s.size - 101) i).data.toList).length = i - (s.size - 101) := by rw [ext_list, List.length_take, List.length_drop, size_list]; omega
  unfold cutOf
  rw [if_neg (by omega), e1, idx1_hit 47 _ _ hn, hlen]
  simp only
  rw [if_neg (by omega), if_neg (by omega)]
  omega
theorem cutOf_miss (s : ByteArray) (hs : 100 < s.size) (h : ∀ j (hj : j < s.size), s.size - 101 ≤ j → j ≤ 155 → s[j] ≠ 47) : cutOf s = -1 := by
  unfold cutOf
  rw [if_neg (by omega)]
  have hl := size_list s
  by_cases hm : (47 : UInt8) ∈ s.data.toList.drop (s.size - 101)
  · obtain ⟨a, r, e, hn⟩ := first_of hm
    rw [e, idx1_hit 47 r a hn]
    simp only
    rw [if_neg (by omega)]
    by_cases hb : 155 < ((s.size - 101 : Nat) : Int) + a.length
    · rw [if_pos hb]
    · exfalso
      have hla := congrArg List.length e
      rw [List.length_drop, List.length_append, List.length_cons] at hla
      have hx : (s.data.toList.drop (s.size - 101))[a.length]'(by rw [e]; simp) = 47 := by simp [e]
      rw [List.getElem_drop] at hx
      exact h (s.size - 101 + a.length) (by omega) (by omega) (by omega) hx
  · rw [idx1_miss 47 _ hm]
    rfl

end Go.Proofs.YtjmomdnlibfbkaaDoor
