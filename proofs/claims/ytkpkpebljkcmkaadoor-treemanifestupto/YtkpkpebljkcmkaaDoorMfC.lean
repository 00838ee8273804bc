import Derived.Test.YtkpkpebljkcmkaaDoorMfB
import Derived.Deep.LoopGhost
namespace Go.Proofs.YtkpkpebljkcmkaaDoor
open Go.RowKit

set_option maxRecDepth 100000 in
theorem isT.path2 {r : List Value} (h : isT 40 34 r) : ∃ s : Nm, r[0]? = some (.string s) ∧ pth r = s ∧ s.size ≤ maxLen := by
  obtain ⟨s, hs⟩ := h.path
  refine ⟨s, hs, by unfold pth; rw [hs], ?_⟩
  obtain ⟨hl, ⟨ls, hk⟩, _⟩ := h
  unfold Program.keyLits at hk
  rw [Tryd.underlying40] at hk
  simp only at hk
  split at hk
  · obtain ⟨L, h1, _⟩ := Option.map_eq_some_iff.1 hk
    obtain ⟨y, hy⟩ := mapM_mem _ _ _ h1 _ List.mem_cons_self
    have e : (r.drop 0).take 1 = [.string s] := by
      have hr : r ≠ [] := by intro q; rw [q] at hs; cases hs
      cases r with
      | nil => exact absurd rfl hr
      | cons a t => simp at hs; subst hs; rfl
    have hy2 : Tryd.prog.keyLits 5 9 ((r.drop 0).take (Tryd.prog.cellsOf 9)) = some y := hy
    rw [cells9, e] at hy2
    unfold Program.keyLits at hy2
    rw [Tryd.underlying9] at hy2
    simp only at hy2
    by_cases hc : s.size ≤ maxLen
    · exact hc
    · rw [if_neg hc] at hy2; cases hy2
  · cases hk
theorem own_rws2 {w : World} {lo : Nat} {v : Value} {fl : List (List Value)} {t k : Nat} (ok : ∀ r ∈ fl, isT t k r) (h : w.ownsRow lo t k v fl.length fl.flatten) : Rws t k w v fl := by
  obtain ⟨a, c, rfl⟩ := owns_form h
  rcases h.2 with ⟨e, h0⟩ | ⟨g, cap, cur, e, _⟩
  · have e2 : fl = [] := List.length_eq_zero_iff.1 h0
    subst e2
    exact Rws.nil _ _ _ _ _
  · cases e
    exact own_rws (ys := []) ok (by rw [List.append_nil]; exact h) _
theorem allF_split {ps : List Pk} {i : Nat} (hi : i < ps.length) {k : Nat} (hk : k < (ps[i]).fs.length) : ∃ rest, allF ps = allF (ps.take i) ++ (ps[i]).fs.take k ++ (ps[i]).fs[k] :: rest := by
  refine ⟨(ps[i]).fs.drop (k + 1) ++ allF (ps.drop (i + 1)), ?_⟩
  have e1 : allF ps = allF (ps.take i) ++ ((ps[i]).fs ++ allF (ps.drop (i + 1))) := by
    unfold allF
    conv => lhs; rw [← List.take_append_drop i ps, List.flatMap_append, List.drop_eq_getElem_cons hi, List.flatMap_cons]
  have e2 : (ps[i]).fs = (ps[i]).fs.take k ++ (ps[i]).fs[k] :: (ps[i]).fs.drop (k + 1) := by
    conv => lhs; rw [← List.take_append_drop k (ps[i]).fs, List.drop_eq_getElem_cons hk]
  have e3 : (ps[i]).fs ++ allF (ps.drop (i + 1)) = ((ps[i]).fs.take k ++ (ps[i]).fs[k] :: (ps[i]).fs.drop (k + 1)) ++ allF (ps.drop (i + 1)) := congrArg (· ++ allF (ps.drop (i + 1))) e2
  rw [e1, e3]
  simp only [List.append_assoc, List.cons_append]
theorem allF_mem {ps : List Pk} {i : Nat} (hi : i < ps.length) {r : List Value} (hr : r ∈ (ps[i]).fs) : r ∈ allF ps := List.mem_flatMap.2 ⟨_, List.getElem_mem hi, hr⟩
theorem allF_le {ps : List Pk} {i : Nat} (hi : i < ps.length) : (ps[i]).fs.length ≤ (allF ps).length := by
  have e1 : allF ps = allF (ps.take i) ++ ((ps[i]).fs ++ allF (ps.drop (i + 1))) := by
    unfold allF
    conv => lhs; rw [← List.take_append_drop i ps, List.flatMap_append, List.drop_eq_getElem_cons hi, List.flatMap_cons]
  rw [e1, List.length_append, List.length_append]
  omega
/-- WHILE THEY ARE SORTED. -/
structure Sr (w wr : World) (P : List (List Value)) (lv : Value) (acc : List (List Value)) : Prop where
  row : wr.ownsRow w.heap.size 40 34 lv acc.length acc.flatten
  perm : acc.Perm P
  up : Up acc
  bw : Below w.heap.size w wr
theorem Sr.start (w : World) : Sr w w [] (.slice none 0 0) [] := ⟨World.ownsRow_nil _ _ _ _, List.Perm.refl _, List.Pairwise.nil, Below.refl _ _⟩
theorem Sr.put {w wr w9 : World} {P acc : List (List Value)} {lv v' : Value} {r : List Value} (h : Sr w wr P lv acc) (hn : ∀ x ∈ acc, pth x ≠ pth r) (ho : w9.ownsRow wr.heap.size 40 34 v' (acc.length + 1) (insR r acc).flatten) (hb : Below wr.heap.size wr w9) : Sr w w9 (P ++ [r]) v' (insR r acc) := by
  have hp := insR_perm r acc
  refine ⟨?_, ?_, insR_up r h.up hn, bl_t h.bw hb⟩
  · rw [hp.length_eq]
    exact own_base ho h.bw.size
  · exact hp.trans (((h.perm.cons r)).trans (List.perm_append_singleton r P).symm)
theorem Sr.twice {w wr : World} {P acc L : List (List Value)} {lv : Value} {r : List Value} {rest : List (List Value)} (h : Sr w wr P lv acc) (hn : ∃ x ∈ acc, pth x = pth r) (hL : L = P ++ r :: rest) : ¬ (L.map pth).Nodup := by
  obtain ⟨x, hx, e⟩ := hn
  have hx' : x ∈ P := h.perm.mem_iff.1 hx
  rw [hL, List.map_append, List.map_cons]
  intro hnd
  have := (List.nodup_append.1 hnd).2.2 (pth x) (List.mem_map.2 ⟨x, hx', rfl⟩) (pth r) List.mem_cons_self
  exact this e
end Go.Proofs.YtkpkpebljkcmkaaDoor
