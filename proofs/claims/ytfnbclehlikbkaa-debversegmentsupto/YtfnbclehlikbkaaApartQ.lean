import Derived.Test.YtfnbclehlikbkaaApartL
namespace Go.Proofs.Ytfnbclehlikbkaa
open Go.RowKit

theorem infoS : (Try.prog.info? 22).map (fun i => (i.zero, i.size, i.bytes)) = some (some (.slice none 0 0), 1, 24) := by kernel_rfl

theorem Q2.later {W W' : World} {base Lb : Nat} {vv : Nat → Value} {N : Nat → Nat} {i : Nat} {lv : Value} {h hc : Nat → Nat} (q : Q2 W base Lb vv N i lv h hc) (hb : Below W.heap.size W W') : Q2 W' base Lb vv N i lv h hc :=
  ⟨q.pa.later hb, owns_below q.own hb, q.lfar, fun j hj => owns_below (q.rows j hj) hb, q.sep, q.hfar⟩
theorem Q3.later {W W' : World} {base Lb : Nat} {vv : Nat → Value} {N : Nat → Nat} {i : Nat} {lv : Value} {h hc : Nat → Nat} {k : Nat} {xv : Value} (q : Q3 W base Lb vv N i lv h hc k xv) (hb : Below W.heap.size W W') : Q3 W' base Lb vv N i lv h hc k xv :=
  ⟨q.q.later hb, owns_below q.x hb, q.xw, q.xfar, q.xsep⟩

/-- THE LONG LIST IS PUT TO THE OTHERS. -/
theorem Q3.put {W W' : World} {base Lb : Nat} {vv : Nat → Value} {N : Nat → Nat} {i : Nat} {lv : Value} {h hc : Nat → Nat} {g c G cap : Nat} (hi : i < 5) (q : Q3 W base Lb vv N i lv h hc 64 (.slice (some ⟨g, 0, none⟩) (N i + 64) c))
    (hown : W'.ownsRow base 22 1 (.slice (some ⟨G, 0, none⟩) (i + 1) cap) (i + 1) (((List.range i).map fun j => .slice (some ⟨h j, 0, none⟩) (N j + 64) (hc j)) ++ [.slice (some ⟨g, 0, none⟩) (N i + 64) c])) (hg : W.grownBy W' lv.ownBlock) (hat : lv.ownBlock = some G ∨ W.heap.size ≤ G) :
    Q2 W' base Lb vv N (i + 1) (.slice (some ⟨G, 0, none⟩) (i + 1) cap) (fun j => if j = i then g else h j) (fun j => if j = i then c else hc j) := by
  have hrow9 : ∀ {u : Value} {n : Nat} {xs : List Value}, W.ownsRow base 9 1 u n xs → W'.ownsRow base 9 1 u n xs := fun {u n xs} hu => by
    refine hu.kept hg ?_
    rcases owns_types q.q.own hu with e | e
    · rw [e]; cases u.ownBlock <;> simp
    · exact .inr (fun e' => e e'.symm)
  refine ⟨⟨fun m hm => hg.cell (a := ⟨Lb, m, none⟩) (q.q.pa.lst m hm) (fun e => q.q.lfar e.symm), fun m hm => hrow9 (q.q.pa.row m hm), q.q.pa.apart, q.q.pa.far, Nat.lt_of_lt_of_le q.q.pa.lt hg.size, q.q.pa.base_le⟩, ?_, ?_, fun j hj => ?_, fun j hj m hm1 hm2 => ?_, fun j hj => ?_⟩
  · rw [List.range_succ, List.map_append]
    have e : ((List.range i).map fun j => Value.slice (some ⟨if j = i then g else h j, 0, none⟩) (N j + 64) (if j = i then c else hc j)) = (List.range i).map fun j => .slice (some ⟨h j, 0, none⟩) (N j + 64) (hc j) := by
      apply List.map_congr_left
      intro j hj
      have : j < i := List.mem_range.1 hj
      rw [if_neg (by omega), if_neg (by omega)]
    rw [e]
    simpa using hown
  · intro e
    have e' : G = Lb := by simpa [Value.ownBlock] using e
    rcases hat with h1 | h1
    · exact q.q.lfar (by rw [h1, e'])
    · have := q.q.pa.lt
      omega
  · by_cases e : j = i
    · subst e
      simp only
      exact hrow9 q.x
    · simp only [if_neg e]
      exact hrow9 (q.q.rows j (by omega))
  · by_cases e : j = i
    · subst e
      simp only
      rcases q.xw with e1 | e1
      · intro e2
        have := q.q.pa.apart j m hi hm2 (by omega)
        rw [e2] at this
        rcases this with h0 | h0
        · cases h0
        · exact h0 e1
      · intro e2
        have := e1 m hm2
        rw [e2] at this
        rcases this with h0 | h0
        · cases h0
        · exact h0 rfl
    · simp only [if_neg e]
      exact q.q.sep j (by omega) m (by omega) hm2
  · by_cases e : j = i
    · subst e
      simp only
      intro e2
      exact q.xfar (by rw [← e2]; rfl)
    · simp only [if_neg e]
      exact q.q.hfar j (by omega)

end Go.Proofs.Ytfnbclehlikbkaa
