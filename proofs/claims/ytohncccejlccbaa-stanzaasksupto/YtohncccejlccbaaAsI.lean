import Derived.Test.YtohncccejlccbaaAsH
namespace Go.Proofs.Ytohncccejlccbaa
open Go.RowKit Go.Shelf

def eqG (f g : Gd) : Bool := f.nm == g.nm && f.ls == g.ls
theorem ba_eq (x y : Bs) : ((ba x).toList == (ba y).toList) = (x == y) := by rw [ba_tl, ba_tl]
theorem linesEq_any (l1 l2 : List Bs) (a1 a2 : Option Addr) (c1 c2 : Nat) (w : World) (h1 : l1.length ≤ 16777216) (h2 : l2.length ≤ 16777216) (k1 : Cl w a1 (strs l1)) (k2 : Cl w a2 (strs l2)) :
    Calls Try.prog 42 #[.slice a1 l1.length c1, .slice a2 l2.length c2] w fun e w' => e = .returned (.bool (l1 == l2)) ∧ Below w.heap.size w w' := by
  by_cases hl : l1.length = l2.length
  · by_cases h0 : l1.length = 0
    · obtain rfl : l1 = [] := List.length_eq_zero_iff.1 h0
      obtain rfl : l2 = [] := List.length_eq_zero_iff.1 (by simpa using hl.symm)
      refine (Try.slices_Equal_string_empty a1 a2 c1 0 c2 w (by omega)).mono ?_
      rintro e w' ⟨rfl, rfl⟩
      exact ⟨rfl, Below.refl _ _⟩
    · obtain ⟨b1, o1, rfl, y1⟩ := k1 (by simp [strs]; omega)
      obtain ⟨b2, o2, rfl, y2⟩ := k2 (by simp [strs]; omega)
      have cell : ∀ (l : List Bs) (b o : Nat), (∀ i u, (strs l)[i]? = some u → w.cell? ⟨b, o + i, none⟩ = some u) → ∀ j, j < (l.map ba).length → w.cell? ⟨b, o + j, none⟩ = some (.string ((l.map ba).getD j ByteArray.empty)) := fun l b o hc j hj => by
        have hj' : j < l.length := by simpa using hj
        refine hc j _ ?_
        unfold strs
        rw [List.getElem?_map, List.getElem?_eq_getElem hj']
        simp only [Option.map_some, Option.some.injEq, Value.string.injEq]
        rw [List.getD_eq_getElem?_getD, List.getElem?_map, List.getElem?_eq_getElem hj']
        rfl
      refine (Try.slices_Equal_string b1 o1 l1.length c1 b2 o2 l2.length c2 (l1.map ba) (l2.map ba) w (by simp) (by simp) (by omega) (by omega) (cell l1 b1 o1 y1) (cell l2 b2 o2 y2)).mono ?_
      rintro e w' ⟨rfl, q, rfl⟩
      refine ⟨?_, bl_drewN w q⟩
      rw [List.take_of_length_le (by simp), List.take_of_length_le (by simp)]
      congr 2
      rw [Bool.eq_iff_iff, decide_eq_true_eq, beq_iff_eq]
      constructor
      · intro h
        have h2 := congrArg (List.map fun x : ByteArray => x.data.toList) h
        rw [List.map_map, List.map_map] at h2
        have e : ∀ l : List Bs, l.map ((fun x : ByteArray => x.data.toList) ∘ ba) = l := fun l => (List.map_congr_left (g := id) fun x _ => rfl).trans (List.map_id _)
        rw [e, e] at h2
        exact h2
      · intro h
        rw [h]
  · refine (Try.slices_Equal_string_lens a1 a2 l1.length c1 l2.length c2 w hl).mono ?_
    rintro e w' ⟨rfl, rfl⟩
    refine ⟨?_, Below.refl _ _⟩
    congr 2
    symm
    rw [beq_eq_false_iff_ne]
    intro h
    exact hl (by rw [h])

set_option maxHeartbeats 2000000 in
theorem sameField_any (f g : Gd) (la lb : Option Addr) (lc ld : Nat) (av bv : Value) (w : World) (h1 : f.ls.length ≤ 16777216) (h2 : g.ls.length ≤ 16777216) (k1 : Cl w la (strs f.ls)) (k2 : Cl w lb (strs g.ls)) :
    Calls Try.prog 38 #[.agg #[.string (ba f.nm), .slice la f.ls.length lc, av], .agg #[.string (ba g.nm), .slice lb g.ls.length ld, bv]] w fun e w' => e = .returned (.bool (eqG f g)) ∧ Below w.heap.size w w' := by
  obtain ⟨n1, s1, t1⟩ := f
  obtain ⟨n2, s2, t2⟩ := g
  simp only at h1 h2 k1 k2 ⊢
  have BX := hide (((Below.refl w.heap.size w).alloc (Nat.le_refl _) (.cells #[.string (ba n1), .slice la s1.length lc, av] 30)).alloc (by simp) (.cells #[.string (ba n2), .slice lb s2.length ld, bv] 30))
  have cE := hide (linesEq_any s1 s2 la lb lc ld ((w.alloc (.cells #[.string (ba n1), .slice la s1.length lc, av] 30)).alloc (.cells #[.string (ba n2), .slice lb s2.length ld, bv] 30)) h1 h2 (k1.later (unhide BX)) (k2.later (unhide BX)))
  clear h1 h2 k1 k2
  by_cases e : n1 = n2
  · subst e
    have HR := hide (show eqG ⟨n1, s1, t1⟩ ⟨n1, s2, t2⟩ = (s1 == s2) by simp [eqG])
    rw [unhide HR]
    generalize (s1 == s2) = R at *
    go_enter Try.func38, Try.ntmps38
    go_wp2_with (go_at_call 42; refine (unhide cE).mono ?_; rintro e w1 ⟨rfl, hb⟩; have HB1 := hide (bl_t (unhide BX) hb); clear hb)
    go_ret
    exact ⟨rfl, unhide HB1⟩
  · have hne : ((ba n1).toList == (ba n2).toList) = false := by rw [ba_eq, beq_eq_false_iff_ne]; exact e
    have HR := hide (show eqG ⟨n1, s1, t1⟩ ⟨n2, s2, t2⟩ = false by simp [eqG, e])
    rw [unhide HR]
    clear e
    generalize ba n1 = b1 at *
    generalize ba n2 = b2 at *
    go_enter Try.func38, Try.ntmps38
    go_wp2_with fail
    go_ret
    exact ⟨rfl, unhide BX⟩
end Go.Proofs.Ytohncccejlccbaa
