import Derived.Test.YtokgegbodbnimaaNmA
import Derived.Laws.IdiomRangeMap
namespace Go.Proofs.Ytokgegbodbnimaa
open Go.RowKit Go.Maps Go.Sort

set_option maxRecDepth 100000 in
theorem names_none {W : World} {B o : Nat} {cur : Array Value} {p : Nm} (hB : W.heap[B]? = some (.cells cur 75 (0, 0))) (hd : cur[o]? = some (.map none)) :
    Calls Try.prog 47 #[.pointer (some ⟨B, o, none⟩), .string p] W fun e w' => e = .returned (.slice none 0 0) ∧ RowKit.Below W.heap.size W w' := by
  have cd := (cell_blk hB o).1.trans hd
  have hrg := run_range_nilMap (P := Try.prog) W 70 9 22 Try.underlying70
  have hnx : ∀ ty, (Instr.next (.pointer (some ⟨W.heap.size, 0, none⟩)) false ty).run Try.prog (W.alloc (.mapIter none 0 #[] 0)) = _ := fun ty => run_next_nilMap _ ty 0 0 #[]
  go_enter Try.func47, Try.ntmps47
  go_wp2
  refine wp_loop_rounds 1 ?_
  rw [rounds_succ]
  go_wp2_with (first
    | (go_at_call 55; refine (sort_nil _).mono ?_; rintro e w' ⟨rfl, rfl⟩)
    | go_in)
  go_ret
  exact ⟨rfl, (Below.refl _ W).alloc (Nat.le_refl _) _⟩
theorem has_keys {W : World} {b k : Nat} {D : DataW Value} (ho : W.ownsMap Try.prog 9 raw b k D) (l : List UInt8) : Maps.has D (.string l) = true ↔ l ∈ strKeys D := by
  obtain ⟨es, rfl, hpw, hkl⟩ := ho.entries law9
  obtain ⟨es2, e2, hk2⟩ := ho.keysOf
  cases e2
  rw [has_eq, List.any_eq_true]
  unfold strKeys
  rw [List.mem_map]
  constructor
  · rintro ⟨p, hp, e⟩
    obtain ⟨key, hkey⟩ := hk2 p hp
    obtain ⟨x, _, e3, hx⟩ := Maps.keyOf_str Try.underlying9 hkey
    rw [e3] at e
    refine ⟨p, hp, ?_⟩
    rw [e3]
    show x = l
    simpa [Lit.sameKey] using e
  · rintro ⟨p, hp, e⟩
    obtain ⟨key, hkey⟩ := hk2 p hp
    obtain ⟨x, _, e3, hx⟩ := Maps.keyOf_str Try.underlying9 hkey
    rw [e3] at e
    replace e : x = l := e
    refine ⟨p, hp, ?_⟩
    rw [e3]
    simpa [Lit.sameKey] using e
/-- THE NAMES OF A DIRECTORY THAT BEGIN WITH A TEXT, RISING. -/
def IsNms (m : Cn) (p : Nm) (l : List (List UInt8)) : Prop := l.Nodup ∧ ∀ x : Nm, x.data.toList ∈ l ↔ (m x ≠ none ∧ pre x p = true)
noncomputable def nmS (m : Cn) (p : Nm) : List (List UInt8) := @dite _ (∃ l, IsNms m p l) (Classical.propDecidable _) (fun h => (Classical.choose h).mergeSort (fun x y => decide (x ≤ y))) (fun _ => [])
theorem nmS_eq {m : Cn} {p : Nm} {l : List (List UInt8)} (h : IsNms m p l) : nmS m p = l.mergeSort (fun x y => decide (x ≤ y)) := by
  have hx : ∃ l, IsNms m p l := ⟨l, h⟩
  unfold nmS
  rw [dif_pos hx]
  obtain ⟨h1, h2⟩ := Classical.choose_spec hx
  refine mergeSort_of_perm (perm_nodup h1 h.1 fun y => ?_)
  have e : (nmOf y).data.toList = y := by simp [nmOf]
  rw [← e, h2, h.2]
theorem fnames_any {W : World} {B o k : Nat} {cur : Array Value} {d : Value} {H : Nm → Option Hd} {m : Cn} {p : Nm} (hB : W.heap[B]? = some (.cells cur 75 (0, 0))) (hd : cur[o]? = some d) (s : Sd W d H m k) (hk : cnt m ≤ 4000000000000) :
    Calls Try.prog 47 #[.pointer (some ⟨B, o, none⟩), .string p] W fun e w' => ∃ v, e = .returned v ∧
      w'.ownsRow W.heap.size 9 1 v (nmS m p).length ((nmS m p).map encStr) ∧ (v = .slice none 0 0 ↔ nmS m p = []) ∧ RowKit.Below W.heap.size W w' := by
  rcases s.keys with ⟨rfl, h⟩ | ⟨b, D, rfl, ho, r, h1, h2, h3⟩
  · have e : nmS m p = [] := by
      rw [nmS_eq (l := []) ⟨List.nodup_nil, fun x => by simp [h x]⟩]
      exact List.mergeSort_nil
    refine (names_none hB hd).mono ?_
    rintro e' w' ⟨rfl, hb⟩
    rw [e]
    exact ⟨_, rfl, World.ownsRow_nil _ _ _ _, by simp, hb⟩
  · rw [cnt_eq h1 h2, h3] at hk
    refine (names_some hB hd ho hk).mono ?_
    rintro e' w' ⟨v, left, ss, rfl, hC, hl, hr, hn, hb⟩
    have hi : IsNms m p ss := by
      refine ⟨hC.1, fun x => ?_⟩
      rw [hC.2, hl]
      have e1 : nmOf x.data.toList = x := nmOf_data x
      rw [e1]
      rw [has_keys ho, h2]
      simp
    rw [nmS_eq hi]
    refine ⟨v, rfl, by simpa using hr, ?_, hb⟩
    rw [hn]
    constructor
    · rintro rfl; exact List.mergeSort_nil
    · intro h
      have := congrArg List.length h
      simpa using this
end Go.Proofs.Ytokgegbodbnimaa
