import Derived.Test.YtmjdpddpphfpiaaOrS
import Derived.Test.YtmjdpddpphfpiaaOrB
import Derived.Sort.KeysCollected
namespace Go.Proofs.Ytmjdpddpphfpiaa
open Go.RowKit Go.Maps Go.Sort Go.Shelf

def nmOf (l : List UInt8) : Nm := ⟨l.toArray⟩
theorem nmOf_data (x : Nm) : nmOf x.data.toList = x := by
  cases x
  simp [nmOf]
theorem data_nmOf (l : List UInt8) : (nmOf l).data.toList = l := by simp [nmOf]
/-- THE NAMES OF A MAP. -/
theorem RepV.keys {W : World} {b k : Nat} {D : DataW Value} {L : List Nm} (hL : ∀ x ∈ L, x.size ≤ maxLen) (ho : W.ownsMap Try.prog 9 raw b k D) (r : RepV D L) : (strKeys D).Nodup ∧ (∀ x : Nm, x.data.toList ∈ strKeys D ↔ x ∈ L) ∧ (strKeys D).length = Maps.size D := by
  obtain ⟨es, rfl, hpw, hkl⟩ := ho.entries law9
  obtain ⟨es2, e2, hk2⟩ := ho.keysOf
  cases e2
  have hs : ∀ p ∈ es, ∃ l, p.1 = .string l ∧ l.length ≤ maxLen := fun p hp => by
    obtain ⟨key, hkey⟩ := hk2 p hp
    obtain ⟨x, _, e, hx⟩ := Maps.keyOf_str Try.underlying9 hkey
    exact ⟨x, e, hx⟩
  have hmem : ∀ l : List UInt8, l ∈ strKeys (DataW.map es) ↔ ∃ p ∈ es, p.1 = .string l := fun l => by
    unfold strKeys
    rw [List.mem_map]
    refine ⟨fun ⟨p, hp, e⟩ => ?_, fun ⟨p, hp, e⟩ => ⟨p, hp, by rw [e]; rfl⟩⟩
    obtain ⟨l2, e2, _⟩ := hs p hp
    rw [e2] at e
    exact ⟨p, hp, by rw [e2]; exact congrArg _ e⟩
  refine ⟨?_, fun x => ?_, by simp [strKeys, Maps.size]⟩
  · unfold strKeys
    rw [List.Nodup, List.pairwise_map]
    refine hpw.imp_of_mem fun {p q} hp hq hne e => hne ?_
    obtain ⟨l1, e1, _⟩ := hs p hp
    obtain ⟨l2, e2, _⟩ := hs q hq
    rw [e1, e2] at e ⊢
    exact congrArg _ e
  · rw [hmem]
    by_cases hx : x.size ≤ maxLen
    · have h1 := r.has x hx
      rw [has_eq] at h1
      rw [← hasN_iff, ← h1, List.any_eq_true]
      constructor
      · rintro ⟨p, hp, e⟩
        exact ⟨p, hp, by rw [e]; simp [kl, Lit.sameKey]⟩
      · rintro ⟨p, hp, e⟩
        obtain ⟨l2, e2, _⟩ := hs p hp
        rw [e2] at e
        refine ⟨p, hp, ?_⟩
        rw [e2]
        simpa [kl, Lit.sameKey] using e
    · constructor
      · rintro ⟨p, hp, e⟩
        obtain ⟨l2, e2, h2⟩ := hs p hp
        rw [e2] at e
        injection e with e
        subst e
        exact absurd (by simpa using h2) hx
      · intro hH
        exact absurd (hL x hH) hx
/-- NAMES THAT RISE, AND ARE JUST THESE. -/
structure Ris (l L : List Nm) : Prop where
  up : l.Pairwise fun x y => x.data.toList < y.data.toList
  mem : ∀ x, x ∈ l ↔ x ∈ L
theorem lt_ne {x y : Nm} (h : x.data.toList < y.data.toList) : x ≠ y := fun e => by rw [e] at h; exact List.lt_irrefl _ h
theorem rise_uniq : ∀ {a b : List Nm}, (a.Pairwise fun x y => x.data.toList < y.data.toList) → (b.Pairwise fun x y => x.data.toList < y.data.toList) → (∀ x, x ∈ a ↔ x ∈ b) → a = b
  | [], [], _, _, _ => rfl
  | [], y :: b, _, _, h => absurd ((h y).2 List.mem_cons_self) (by simp)
  | x :: a, [], _, _, h => absurd ((h x).1 List.mem_cons_self) (by simp)
  | x :: a, y :: b, ha, hb, h => by
    rw [List.pairwise_cons] at ha hb
    have e : x = y := by
      rcases List.mem_cons.1 ((h x).1 List.mem_cons_self) with e | hx
      · exact e
      · rcases List.mem_cons.1 ((h y).2 List.mem_cons_self) with e | hy
        · exact e.symm
        · exact absurd (List.lt_trans (ha.1 y hy) (hb.1 x hx)) (List.lt_irrefl _)
    subst e
    congr 1
    refine rise_uniq ha.2 hb.2 fun z => ⟨fun hz => ?_, fun hz => ?_⟩
    · rcases List.mem_cons.1 ((h z).1 (List.mem_cons_of_mem _ hz)) with e | q
      · exact absurd e.symm (lt_ne (ha.1 z hz))
      · exact q
    · rcases List.mem_cons.1 ((h z).2 (List.mem_cons_of_mem _ hz)) with e | q
      · exact absurd e.symm (lt_ne (hb.1 z hz))
      · exact q
theorem Ris.uniq {a b L : List Nm} (h : Ris a L) (k : Ris b L) : a = b := rise_uniq h.up k.up fun x => (h.mem x).trans (k.mem x).symm
theorem Ris.len {l L : List Nm} (h : Ris l L) : l.length ≤ L.length := by
  have hn : l.Nodup := h.up.imp lt_ne
  exact List.Nodup.length_le_of_subset hn fun x hx => (h.mem x).1 hx
/-- WHAT SORTING MAKES OF THE KEYS. -/
theorem sorted_ris {D : DataW Value} {L : List Nm} {ss : List (List UInt8)} (hn : (strKeys D).Nodup) (hm : ∀ x : Nm, x.data.toList ∈ strKeys D ↔ x ∈ L) (hp : ss.Perm (strKeys D)) :
    Ris ((ss.mergeSort fun x y => decide (x ≤ y)).map nmOf) L ∧ (ss.mergeSort fun x y => decide (x ≤ y)).map encStr = sv ((ss.mergeSort fun x y => decide (x ≤ y)).map nmOf) ∧ ((ss.mergeSort fun x y => decide (x ≤ y)).map nmOf).length = ss.length := by
  have hq : (ss.mergeSort fun x y => decide (x ≤ y)).Perm (strKeys D) := (List.mergeSort_perm ss _).trans hp
  have hnd : (ss.mergeSort fun x y => decide (x ≤ y)).Nodup := hq.nodup_iff.2 hn
  have hs : (ss.mergeSort fun x y => decide (x ≤ y)).Pairwise fun x y => decide (x ≤ y) = true := List.pairwise_mergeSort (le := fun x y : List UInt8 => decide (x ≤ y)) (fun a b c h1 h2 => decide_eq_true (List.le_trans (of_decide_eq_true h1) (of_decide_eq_true h2))) (fun a b => by rcases List.le_total a b with h | h <;> simp [h]) ss
  refine ⟨⟨?_, fun x => ?_⟩, ?_, ?_⟩
  · rw [List.pairwise_map]
    refine (hnd.and hs).imp fun {a b} ⟨h1, h2⟩ => ?_
    rw [data_nmOf, data_nmOf]
    refine Classical.byContradiction fun h => h1 (List.le_antisymm (of_decide_eq_true h2) (List.not_lt.1 h))
  · rw [← hm x, ← hq.mem_iff, List.mem_map]
    constructor
    · rintro ⟨y, hy, rfl⟩
      rw [data_nmOf]; exact hy
    · intro h
      exact ⟨_, h, nmOf_data x⟩
  · unfold sv
    rw [List.map_map]
    rfl
  · rw [List.length_map, List.length_mergeSort]
end Go.Proofs.Ytmjdpddpphfpiaa
