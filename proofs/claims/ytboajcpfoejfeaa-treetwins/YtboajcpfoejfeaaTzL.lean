import Derived.Test.YtboajcpfoejfeaaTzK
import Derived.Test.YtboajcpfoejfeaaShT
import Derived.Sort.OwnSorted
import Derived.Lib.SlicesCompact
namespace Go.Proofs.Ytboajcpfoejfeaa
open Go.RowKit Go.Maps Go.Sort Go.Shelf

def bs (l : List Nm) : List (List UInt8) := l.map (·.data.toList)
theorem bs_len (l : List Nm) : (bs l).length = l.length := List.length_map _
theorem sv_bs (l : List Nm) : sv l = (bs l).map encStr := by
  unfold sv bs
  rw [List.map_map]
  refine List.map_congr_left fun x _ => ?_
  show Value.string x = encStr x.data.toList
  have := nmOf_data x
  unfold nmOf at this
  show Value.string x = Value.string ⟨x.data.toList.toArray⟩
  rw [this]
theorem sv_nm (L : List (List UInt8)) : L.map encStr = sv (L.map nmOf) := by
  unfold sv
  rw [List.map_map]
  rfl
theorem own_cut {W : World} {base e g n cap k : Nat} {xs : List Value} (h : W.ownsRow base e 1 (.slice (some ⟨g, 0, none⟩) n cap) n xs) (hk : k ≤ n) : W.ownsRow base e 1 (.slice (some ⟨g, 0, none⟩) k cap) k (xs.take k) := by
  rcases h.2 with ⟨q, _⟩ | ⟨g2, cap2, cur, e2, hg, hh, h1, h2, h3, h4⟩
  · cases q
  · cases e2
    have h0 := h.1
    refine ⟨by rw [List.length_take]; omega, .inr ⟨g, cap, cur, rfl, hg, hh, by omega, h2, h3, ?_⟩⟩
    rw [← h4, List.take_take]
    congr 1
    omega
theorem blt_of {a b : List UInt8} (h : a ≤ b) (e : a ≠ b) : a < b := Classical.byContradiction fun q => e (List.le_antisymm h (List.not_lt.1 q))
theorem ble_lt {a b c : List UInt8} (h : a ≤ b) (k : b < c) : a < c := by
  by_cases e : a = b
  · rw [e]; exact k
  · exact List.lt_trans (blt_of h e) k
theorem cpU (d : Array (List UInt8)) (hs : ∀ i j, i ≤ j → j < d.size → d[i]! ≤ d[j]!) : ∀ m, m ≤ d.size → (Lib.compactUpTo d m).Pairwise (· < ·) ∧ (∀ x, x ∈ Lib.compactUpTo d m ↔ ∃ j, j < m ∧ d[j]! = x)
  | 0, _ => ⟨List.Pairwise.nil, fun x => by simp [Lib.compactUpTo]⟩
  | m + 1, hm => by
    obtain ⟨h1, h2⟩ := cpU d hs m (by omega)
    have e := Lib.compactUpTo_succ d m
    rw [e]
    by_cases hk : Lib.keeps d m = true
    · rw [if_pos hk]
      refine ⟨List.pairwise_append.2 ⟨h1, List.pairwise_singleton _ _, fun a ha b hb => ?_⟩, fun x => ?_⟩
      · rw [List.mem_singleton] at hb
        subst hb
        obtain ⟨j, hj, rfl⟩ := (h2 a).1 ha
        have l1 := hs j (m - 1) (by omega) (by omega)
        have l2 := hs (m - 1) m (by omega) (by omega)
        have hn : d[m]! ≠ d[m - 1]! := fun e => by
          rw [Lib.keeps_neg (by omega) e] at hk
          cases hk
        exact ble_lt l1 (blt_of l2 (Ne.symm hn))
      · rw [List.mem_append, h2, List.mem_singleton]
        constructor
        · rintro (⟨j, hj, q⟩ | q)
          · exact ⟨j, by omega, q⟩
          · exact ⟨m, by omega, q.symm⟩
        · rintro ⟨j, hj, q⟩
          by_cases ej : j = m
          · subst ej; exact .inr q.symm
          · exact .inl ⟨j, by omega, q⟩
    · rw [if_neg hk, List.append_nil]
      refine ⟨h1, fun x => ?_⟩
      rw [h2]
      have hm0 : 0 < m := Nat.pos_of_ne_zero fun e => hk (by subst e; exact Lib.keeps_lt_one d 0 (by omega))
      have hq : d[m]! = d[m - 1]! := Classical.byContradiction fun e => hk (Lib.keeps_pos e)
      constructor
      · rintro ⟨j, hj, q⟩; exact ⟨j, by omega, q⟩
      · rintro ⟨j, hj, q⟩
        by_cases ej : j = m
        · subst ej; exact ⟨j - 1, by omega, by rw [← hq]; exact q⟩
        · exact ⟨j, by omega, q⟩
/-- NAMES THAT DO NOT FALL. -/
def Nf (l : List Nm) : Prop := l.Pairwise fun x y => x.data.toList ≤ y.data.toList
theorem cp_ris {l : List Nm} (h : Nf l) : Ris ((Lib.compactUpTo (bs l).toArray (bs l).toArray.size).map nmOf) l := by
  have hd : ∀ i j, i ≤ j → j < (bs l).toArray.size → (bs l).toArray[i]! ≤ (bs l).toArray[j]! := fun i j hij hj => by
    have hj' : j < l.length := by simpa [bs] using hj
    rw [getElem!_pos _ i (by simp [bs]; omega), getElem!_pos _ j (by simp [bs]; omega)]
    by_cases e : i = j
    · subst e; exact List.le_refl _
    · have := List.pairwise_iff_getElem.1 h i j (by omega) hj' (by omega)
      simpa [bs] using this
  obtain ⟨k1, k2⟩ := cpU (bs l).toArray hd _ (Nat.le_refl _)
  refine ⟨?_, fun x => ?_⟩
  · rw [List.pairwise_map]
    refine k1.imp fun {a b} q => ?_
    rw [data_nmOf, data_nmOf]
    exact q
  · rw [List.mem_map]
    constructor
    · rintro ⟨y, hy, rfl⟩
      obtain ⟨j, hj, rfl⟩ := (k2 y).1 hy
      have hj' : j < l.length := by simpa [bs] using hj
      rw [getElem!_pos _ j hj]
      have : (bs l).toArray[j] = l[j].data.toList := by simp [bs]
      rw [this, nmOf_data]
      exact List.getElem_mem hj'
    · intro hx
      obtain ⟨j, hj, rfl⟩ := List.getElem_of_mem hx
      refine ⟨l[j].data.toList, (k2 _).2 ⟨j, by simpa [bs] using hj, ?_⟩, nmOf_data _⟩
      rw [getElem!_pos _ j (by simpa [bs] using hj)]
      simp [bs]
/-- SORTED IN ITS OWN BLOCK. -/
theorem sort_own {W : World} {lo g cap : Nat} {l : List Nm} (hl : l.length ≤ 2513169434843) (h : W.ownsRow lo 9 1 (.slice (some ⟨g, 0, none⟩) l.length cap) l.length (sv l)) :
    Calls Try.prog 9 #[.slice (some ⟨g, 0, none⟩) l.length cap] W fun e w' => e = .returned (.tuple #[]) ∧ ∃ l2, l2.length = l.length ∧ w'.ownsRow lo 9 1 (.slice (some ⟨g, 0, none⟩) l.length cap) l.length (sv l2) ∧ W.grownBy w' (some g) ∧ (∀ x, x ∈ l2 ↔ x ∈ l) ∧ Nf l2 := by
  rcases h.2 with ⟨q, _⟩ | ⟨g2, cap2, cur, e2, hg, hh, h1, h2, h3, h4⟩
  · cases q
  · cases e2
    rw [Nat.mul_one, sv_bs, ← bs_len l] at h4
    have hH := holds_of_block hh h4
    have hc := Any.slices_Sort_string Try.lays190 g 0 cap (bs l) W hH (blk_lt hh) (by rw [bs_len]; omega)
    rw [bs_len] at hc
    refine Calls.mono hc ?_
    rintro e w' ⟨rfl, n, os, rfl⟩
    have hs : ((bs l).mergeSort fun x y => decide (x ≤ y)).Pairwise fun x y => decide (x ≤ y) = true := List.pairwise_mergeSort (le := fun x y : List UInt8 => decide (x ≤ y)) (fun a b c h1 h2 => decide_eq_true (List.le_trans (of_decide_eq_true h1) (of_decide_eq_true h2))) (fun a b => by rcases List.le_total a b with h | h <;> simp [h]) (bs l)
    have hp := List.mergeSort_perm (bs l) (fun x y => decide (x ≤ y))
    refine ⟨rfl, ((bs l).mergeSort fun x y => decide (x ≤ y)).map nmOf, by rw [List.length_map, List.length_mergeSort, bs_len], ?_, grownBy_sorted _, fun x => ?_, ?_⟩
    · rw [← sv_nm]
      have := ownsRow_sorted (os := os) (n := n) (ss := bs l) (ts := (bs l).mergeSort fun x y => decide (x ≤ y)) (by simp) hg hh (by rw [bs_len]; exact h1) h2 h3
      rw [bs_len] at this
      exact this
    · rw [List.mem_map]
      constructor
      · rintro ⟨y, hy, rfl⟩
        obtain ⟨z, hz, rfl⟩ := List.mem_map.1 (hp.mem_iff.1 hy)
        rw [nmOf_data]
        exact hz
      · intro hx
        exact ⟨x.data.toList, hp.mem_iff.2 (List.mem_map.2 ⟨x, hx, rfl⟩), nmOf_data x⟩
    · unfold Nf
      rw [List.pairwise_map]
      refine hs.imp fun {a b} q => ?_
      rw [data_nmOf, data_nmOf]
      exact of_decide_eq_true q
/-- FREED OF WHAT STANDS TWICE. -/
theorem compact_own {W : World} {lo g cap : Nat} {l : List Nm} (hl : l.length ≤ 2513169434843) (hn : Nf l) (h : W.ownsRow lo 9 1 (.slice (some ⟨g, 0, none⟩) l.length cap) l.length (sv l)) :
    Calls Try.prog 10 #[.slice (some ⟨g, 0, none⟩) l.length cap] W fun e w' => ∃ m, e = .returned (.slice (some ⟨g, 0, none⟩) m.length cap) ∧ w'.ownsRow lo 9 1 (.slice (some ⟨g, 0, none⟩) m.length cap) m.length (sv m) ∧ W.grownBy w' (some g) ∧ Ris m l := by
  rcases h.2 with ⟨q, _⟩ | ⟨g2, cap2, cur, e2, hg, hh, h1, h2, h3, h4⟩
  · cases q
  · cases e2
    rw [Nat.mul_one, sv_bs, ← bs_len l] at h4
    have hH := holds_of_block hh h4
    have hc := Any.slices_Compact_string_arr Try.lays194 g 0 cap (bs l).toArray W hH (by simp [bs_len]; omega) (by simp [bs_len]; exact h1)
    have hsz : (bs l).toArray.size = l.length := by simp [bs_len]
    have hris := cp_ris hn
    have hle : (Lib.compactUpTo (bs l).toArray (bs l).toArray.size).length ≤ l.length := by
      have := hris.len
      rw [List.length_map] at this
      exact this
    generalize hC : Lib.compactUpTo (bs l).toArray (bs l).toArray.size = C at *
    rw [hsz] at hc
    refine Calls.mono hc ?_
    rintro e w' ⟨rfl, q, rfl⟩
    refine ⟨C.map nmOf, by rw [List.length_map], ?_, ?_, hris⟩
    · have := ownsRow_sorted (os := #[]) (n := q) (ss := bs l) (ts := C ++ List.replicate (l.length - C.length) []) (by simp [bs_len]; omega) hg hh (by rw [bs_len]; exact h1) h2 h3
      rw [grow_empty, bs_len] at this
      have h5 := own_cut this hle
      rw [List.length_map, ← sv_nm]
      rw [List.map_append, List.take_append_of_le_length (by simp), List.take_of_length_le (by simp)] at h5
      exact h5
    · have := grownBy_sorted (w := W) (g := g) (n := q) (os := #[]) (C ++ List.replicate (l.length - C.length) []).toArray
      rw [grow_empty] at this
      exact this
end Go.Proofs.Ytboajcpfoejfeaa
