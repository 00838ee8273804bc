import Derived.Test.YtokgegbodbnimaaMsC
namespace Go.Proofs.Ytokgegbodbnimaa
open Go.RowKit Go.Maps

theorem set_self {cur : Array Value} {o : Nat} {d : Value} (h : cur[o]? = some d) : cur.setIfInBounds o d = cur := by
  obtain ⟨hlt, e⟩ := Array.getElem?_eq_some_iff.1 h
  apply Array.ext
  · simp
  · intro i h1 h2
    by_cases q : i = o
    · subst q; simp [e]
    · rw [Array.getElem_setIfInBounds_ne _ (fun z => q z.symm)]
/-- A FILE COMES IN. -/
theorem put_any {W : World} {B o k : Nat} {d : Value} {u : Int} {cur : Array Value} {H : Nm → Option Hd} {x : Nm} {f : Hd} (hB : W.heap[B]? = some (.cells cur 75 (0, 0))) (hd : cur[o]? = some d) (hu : cur[o + 1]? = some (.int .i64 u)) (h : Dm W d H k) (hk : k < maxLen) (hx : x.size ≤ 258) :
    Calls Try.prog 51 #[.pointer (some ⟨B, o, none⟩), .string x, hv f] W fun x1 W' => ∃ d', x1 = .returned (.tuple #[]) ∧ W'.heap[B]? = some (.cells ((cur.setIfInBounds o d').setIfInBounds (o + 1) (.int .i64 (usP u f.n (ln0 (H x))))) 75 (0, 0)) ∧ Dm W' d' (up H x (some f)) (k + 1) ∧ (mb d' = mb d ∨ mb d' = some W.heap.size) ∧ Fx (fun c => c = B ∨ mb d = some c) W W' := by
  rcases h with ⟨rfl, h⟩ | ⟨b, D, rfl, ho, r⟩
  · exact (put_new (k := k) (f := f) hB hd hu h hx).mono fun x1 W' ⟨h1, h2, h3, h4⟩ => ⟨_, h1, h2, h3, .inr rfl, h4.mono fun c _ e => .inl e⟩
  · refine (put_old (f := f) hB hd hu (.inr ⟨b, D, rfl, ho, r⟩) hk hx).mono fun x1 W' ⟨h1, h2, h3, h4⟩ => ⟨.map (some b), h1, ?_, h3, .inl rfl, h4.mono fun c _ e => ?_⟩
    · rw [set_self hd]; exact h2
    · rcases e with e | e
      · exact .inl e
      · exact .inr (by rw [e]; rfl)
theorem Dm.ne {W : World} {d : Value} {H : Nm → Option Hd} {k B : Nat} {cur : Array Value} {t : TypeId} {f : Nat × Nat} (h : Dm W d H k) (hB : W.heap[B]? = some (.cells cur t f)) : mb d ≠ some B := fun e => by
  rcases h with ⟨rfl, _⟩ | ⟨b2, D, rfl, ⟨es, cl, ho, _⟩, _⟩
  · cases e
  · cases e
    rw [hB] at ho
    cases ho
set_option maxRecDepth 100000 in
set_option maxHeartbeats 4000000 in
theorem drop_any {W : World} {B o k : Nat} {d : Value} {u : Int} {cur : Array Value} {H : Nm → Option Hd} {x : Nm} (hB : W.heap[B]? = some (.cells cur 75 (0, 0))) (hd : cur[o]? = some d) (hu : cur[o + 1]? = some (.int .i64 u)) (h : Dm W d H k) (hx : x.size ≤ 258) :
    Calls Try.prog 56 #[.pointer (some ⟨B, o, none⟩), .string x] W fun x1 W' => x1 = .returned (.tuple #[]) ∧ W'.heap[B]? = some (.cells (cur.setIfInBounds (o + 1) (.int .i64 (usD u (ln0 (H x))))) 75 (0, 0)) ∧ Dm W' d (up H x none) k ∧ Fx (fun c => c = B ∨ mb d = some c) W W' := by
  obtain ⟨mo, rfl⟩ := h.form
  have cd := (cell_blk hB o).1.trans hd
  obtain ⟨cu, fu⟩ := cell_blk hB (o + 1)
  rw [hu] at cu
  have hne := h.ne hB
  have lk := look1 (h.later (W2 := W.drew) ((Below.refl _ W).drew)) (Nat.le_trans hx (by decide) : x.size ≤ maxLen)
  obtain ⟨oa, oc, eo⟩ := hv0_form (H x)
  rw [eo] at lk
  obtain ⟨on, hon⟩ : ∃ n, n = ln0 (H x) := ⟨_, rfl⟩
  rw [← hon] at lk ⊢
  obtain ⟨W1, hW1⟩ : ∃ w, w = (W.setCell ⟨B, o + 1, none⟩ (.int .i64 (wrap64 (u - (on : Int))))).drew := ⟨_, rfl⟩
  have F1 : Fx (fun c => c = B ∨ mb (.map mo) = some c) W W1 := by rw [hW1]; exact ((Fx.refl _ W).set (.inl rfl) _ _).trans (Fx.of ((Below.refl _ _).drew))
  have B1 : W1.heap[B]? = some (.cells (cur.setIfInBounds (o + 1) (.int .i64 (usD u on))) 75 (0, 0)) := by rw [hW1]; exact set_blk (W := W) hB _ _
  have D1 : Dm W1 (.map mo) H k := h.same fun z e => by
    rw [hW1]
    exact set_other _ _ _ _ _ (fun q => hne (by rw [e, q]))
  have c1 : W1.cell? ⟨B, o, none⟩ = some (.map mo) := by
    rw [(cell_blk B1 o).1, Array.getElem?_setIfInBounds_ne (by omega)]
    exact hd
  obtain ⟨W2, hr, D2, F2⟩ := del_map D1 (Nat.le_trans hx (by decide) : x.size ≤ maxLen) 0
  have HE := hide (And.intro ((F2.blk B (blk_lt B1) hne).trans B1) (And.intro D2 (F1.next F2 (fun c _ e => .inr e))))
  clear F1 B1 D1 D2 F2 h eo hon
  go_enter Try.func56, Try.ntmps56
  go_upto_region 0 with fail
  go_big_region
  rw [← hW1]
  clear hW1
  go_wp2_with fail
  go_end0
  exact ⟨rfl, unhide HE⟩
/-- A NAME LEADS TO WHAT IT LEADS TO ELSEWHERE. -/
def usF (u : Int) (new old : Option Hd) : Int := match new with | some h => usP u h.n (ln0 old) | none => usD u (ln0 old)
set_option maxRecDepth 100000 in
set_option maxHeartbeats 4000000 in
theorem follow_any {W : World} {B o o2 k k2 : Nat} {d d2 : Value} {u : Int} {cur : Array Value} {H H2 : Nm → Option Hd} {x : Nm} (hB : W.heap[B]? = some (.cells cur 75 (0, 0))) (hd : cur[o]? = some d) (hu : cur[o + 1]? = some (.int .i64 u)) (hd2 : cur[o2]? = some d2) (h : Dm W d H k) (h2 : Dm W d2 H2 k2) (hk : k < maxLen) (hx : x.size ≤ 258) :
    Calls Try.prog 52 #[.pointer (some ⟨B, o, none⟩), .pointer (some ⟨B, o2, none⟩), .string x] W fun x1 W' => ∃ d', x1 = .returned (.tuple #[]) ∧ W'.heap[B]? = some (.cells ((cur.setIfInBounds o d').setIfInBounds (o + 1) (.int .i64 (usF u (H2 x) (H x)))) 75 (0, 0)) ∧ Dm W' d' (up H x (H2 x)) (k + 1) ∧ (mb d' = mb d ∨ mb d' = some W.heap.size) ∧ Fx (fun c => c = B ∨ mb d = some c) W W' := by
  have cd := (cell_blk hB o2).1.trans hd2
  have lk := look2 h2 (Nat.le_trans hx (by decide) : x.size ≤ maxLen)
  cases hH : H2 x with
  | none =>
    rw [hH] at lk
    have e0 : hv0 none = .slice none 0 0 := rfl
    rw [e0] at lk
    have C := drop_any (x := x) hB hd hu h hx
    have HD := hide hd
    clear hB hd hu hd2 h h2
    go_enter Try.func52, Try.ntmps52
    go_wp2_with (first | (go_at_call 56; refine C.mono ?_; rintro x1 W1 ⟨rfl, HE⟩; have HE := hide HE))
    go_end0
    obtain ⟨q1, q2, q3⟩ := unhide HE
    refine ⟨d, rfl, ?_, q2.mono (Nat.le_succ _), .inl rfl, q3⟩
    rw [set_self (unhide HD)]
    exact q1
  | some f =>
    rw [hH] at lk
    have e0 : hv0 (some f) = .slice f.a f.n f.c := rfl
    rw [e0] at lk
    have C := put_any (x := x) (f := f) hB hd hu h hk hx
    have e1 : hv f = .slice f.a f.n f.c := rfl
    rw [e1] at C
    clear hB hd hu hd2 h h2
    go_enter Try.func52, Try.ntmps52
    go_wp2_with (first | (go_at_call 51; refine C.mono ?_; rintro x1 W1 ⟨d', rfl, HE⟩; have HE := hide HE))
    go_end0
    exact ⟨d', rfl, unhide HE⟩
end Go.Proofs.Ytokgegbodbnimaa
