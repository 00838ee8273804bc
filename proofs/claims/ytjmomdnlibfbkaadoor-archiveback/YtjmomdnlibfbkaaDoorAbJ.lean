import Derived.Test.YtjmomdnlibfbkaaDoorAbI
namespace Go.Proofs.YtjmomdnlibfbkaaDoor
open Go.RowKit

/-! ### The fuel does not matter -/
theorem unt_fuel : ∀ (n m : Nat) (d : Bs), d.length < n → d.length < m → untL n d = untL m d
  | 0, _, _, h, _ => absurd h (Nat.not_lt_zero _)
  | _ + 1, 0, _, _, h => absurd h (Nat.not_lt_zero _)
  | n + 1, m + 1, d, h1, h2 => by
    rw [unt_succ, unt_succ]
    by_cases a : d.length < 512
    · rw [if_pos a, if_pos a]
    · rw [if_neg a, if_neg a]
      split
      · rfl
      · split
        · rfl
        · rename_i p s _
          have e : untL n ((d.drop 512).drop (fill s)) = untL m ((d.drop 512).drop (fill s)) := unt_fuel n m _ (by rw [List.length_drop, List.length_drop]; omega) (by rw [List.length_drop, List.length_drop]; omega)
          rw [e]
def U (d : Bs) : Int × List Fl := untL (d.length + 1) d
theorem U_eq {n : Nat} {d : Bs} (h : d.length < n) : untL n d = U d := unt_fuel n _ d h (Nat.lt_succ_self _)
/-- WHAT IS STILL TO COME. -/
def Gt (R : Int × List Fl) (acc : List Fl) (d : Bs) : Prop := R = ((U d).1, if (U d).1 = 0 then acc ++ (U d).2 else [])
theorem Gt.start (d : Bs) : Gt (U d) [] d := by
  unfold Gt
  by_cases e : (U d).1 = 0
  · rw [if_pos e]
    rfl
  · rw [if_neg e, ← unt_nil _ _ e]
    rfl
theorem Gt.bad {R : Int × List Fl} {acc : List Fl} {d : Bs} {e : Int} (h : Gt R acc d) (hu : U d = (e, [])) (h0 : e ≠ 0) : R = (e, []) := by
  unfold Gt at h
  rw [hu] at h
  rw [h]
  simp [h0]
theorem Gt.done {R : Int × List Fl} {acc : List Fl} {d : Bs} (h : Gt R acc d) (hu : U d = (0, [])) : R = (0, acc) := by
  unfold Gt at h
  rw [hu] at h
  rw [h]
  simp
theorem Gt.next {R : Int × List Fl} {acc : List Fl} {d d' : Bs} {f : Fl} (h : Gt R acc d) (hu : U d = ((U d').1, if (U d').1 = 0 then f :: (U d').2 else [])) : Gt R (acc ++ [f]) d' := by
  unfold Gt at h ⊢
  rw [hu] at h
  rw [h]
  by_cases e : (U d').1 = 0
  · simp [e]
  · simp [e]
theorem U_short {d : Bs} (h : d.length < 512) : U d = (73, []) := by unfold U; rw [unt_succ, if_pos h]
theorem U_end {d : Bs} (h : ¬ d.length < 512) (hz : d.take 512 = zs 512) : U d = (endE (d.drop 512), []) := by unfold U; rw [unt_succ, if_neg h, if_pos hz]
section
variable {d : Bs} (h : ¬ d.length < 512) (hz : ¬ d.take 512 = zs 512)
include h hz
theorem U_none (ht : toldL (d.take 512) = none) : U d = (72, []) := by unfold U; rw [unt_succ, if_neg h, if_neg hz, ht]
theorem U_size {p : ByteArray} {s : Nat} (ht : toldL (d.take 512) = some (p, s)) (h1 : 1048576 < s) : U d = (78, []) := by
  unfold U
  rw [unt_succ, if_neg h, if_neg hz, ht]
  simp only
  rw [if_pos h1]
theorem U_less {p : ByteArray} {s : Nat} (ht : toldL (d.take 512) = some (p, s)) (h1 : ¬ 1048576 < s) (h2 : (d.drop 512).length < fill s) : U d = (73, []) := by
  unfold U
  rw [unt_succ, if_neg h, if_neg hz, ht]
  simp only
  rw [if_neg h1, if_pos h2]
theorem U_pad {p : ByteArray} {s : Nat} (ht : toldL (d.take 512) = some (p, s)) (h1 : ¬ 1048576 < s) (h2 : ¬ (d.drop 512).length < fill s) (h3 : ((d.drop 512).drop s).take (fill s - s) ≠ zs (fill s - s)) : U d = (74, []) := by
  unfold U
  rw [unt_succ, if_neg h, if_neg hz, ht]
  simp only
  rw [if_neg h1, if_neg h2, if_pos h3]
theorem U_ok {p : ByteArray} {s : Nat} (ht : toldL (d.take 512) = some (p, s)) (h1 : ¬ 1048576 < s) (h2 : ¬ (d.drop 512).length < fill s) (h3 : ((d.drop 512).drop s).take (fill s - s) = zs (fill s - s)) : U d = ((U ((d.drop 512).drop (fill s))).1, if (U ((d.drop 512).drop (fill s))).1 = 0 then (p, (d.drop 512).take s) :: (U ((d.drop 512).drop (fill s))).2 else []) := by
  have e : untL d.length ((d.drop 512).drop (fill s)) = U ((d.drop 512).drop (fill s)) := U_eq (by rw [List.length_drop, List.length_drop]; omega)
  rw [← e]
  unfold U
  rw [unt_succ, if_neg h, if_neg hz, ht]
  simp only
  rw [if_neg h1, if_neg h2, if_neg (fun q => q h3)]
end
/-! ### Files of the call's own -/
def cellsB (fs : List Fl) (vs : List Value) : List Value := (fs.zip vs).flatMap fun q => [Value.string q.1.1, q.2]
def FlsO (w : World) (lo : Nat) (v : Value) (fs : List Fl) : Prop := ∃ vs : List Value, vs.length = fs.length ∧ w.ownsRow lo 40 2 v fs.length (cellsB fs vs) ∧ ∀ (i : Nat) (f : Fl) (x : Value), fs[i]? = some f → vs[i]? = some x → w.ownsRow lo 5 1 x f.2.length (f.2.map cb)
theorem FlsO.nil (w : World) (lo : Nat) : FlsO w lo (.slice none 0 0) [] := ⟨[], rfl, World.ownsRow_nil _ _ _ _, fun i f x h => by cases h⟩
theorem FlsO.later {w w' : World} {lo : Nat} {v : Value} {fs : List Fl} (h : FlsO w lo v fs) (hb : Below w.heap.size w w') : FlsO w' lo v fs := by
  obtain ⟨vs, h1, h2, h3⟩ := h
  exact ⟨vs, h1, own_low h2 hb, fun i f x hf hx => own_low (h3 i f x hf hx) hb⟩
theorem FlsO.form {w : World} {lo : Nat} {v : Value} {fs : List Fl} (h : FlsO w lo v fs) : ∃ a c, v = .slice a fs.length c := let ⟨_, _, h2, _⟩ := h; owns_form h2
theorem cellsB_snoc {fs : List Fl} {vs : List Value} (h : vs.length = fs.length) (f : Fl) (x : Value) : cellsB (fs ++ [f]) (vs ++ [x]) = cellsB fs vs ++ [.string f.1, x] := by
  unfold cellsB
  rw [List.zip_append h.symm, List.flatMap_append]
  rfl
theorem zeroB1 : ∃ zc : List Value, (Tryd.prog.info? 40).map (fun i => (i.zero, i.size)) = some (some (.agg zc.toArray), 2) ∧ zc.length = 2 ∧ zc.all (·.oneCell') = true := ⟨_, zeroBl⟩
theorem tyBl : Ty 22 40 2 40 (.agg #[.string ⟨#[]⟩, .slice none 0 0]) := ⟨Tryd.underlying22, by kernel_rfl, by kernel_rfl, by decide⟩
theorem own_ne {w : World} {lo1 lo2 e1 e2 k1 k2 n1 n2 : Nat} {v1 v2 : Value} {xs ys : List Value} (h : w.ownsRow lo1 e1 k1 v1 n1 xs) (k : w.ownsRow lo2 e2 k2 v2 n2 ys) (hne : e1 ≠ e2) {g : Nat} (h1 : v1.ownBlock = some g) : v2.ownBlock ≠ some g := fun h2 => by
  rcases h.2 with ⟨q, _⟩ | ⟨g1, c1, cur1, rfl, _, hh1, _⟩
  · rw [q] at h1
    cases h1
  · rcases k.2 with ⟨q, _⟩ | ⟨g2, c2, cur2, rfl, _, hh2, _⟩
    · rw [q] at h2
      cases h2
    · obtain rfl : g1 = g := Option.some.inj h1
      obtain rfl : g2 = g1 := Option.some.inj h2
      rw [hh1] at hh2
      injection hh2 with hh2
      injection hh2 with _ hh2
      exact hne hh2
/-- ONE MORE FILE. -/
theorem FlsO.app {w : World} {lo : Nat} {v : Value} {fs : List Fl} (h : FlsO w lo v fs) (hlo : lo ≤ w.heap.size) {f : Fl} {x : Value} (hx : w.ownsRow lo 5 1 x f.2.length (f.2.map cb)) (h63 : fs.length + 1 ≤ 3518437208883) :
    ∃ v' w9, (Builtin.append_ #[22, 22] 22 #[v, .slice (some ⟨w.heap.size, 0, none⟩) 1 1]).run Tryd.prog (w.alloc (.cells #[.string f.1, x] 40)) = .ok v' w9 ∧ FlsO w9 lo v' (fs ++ [f]) ∧ Below lo w w9 := by
  obtain ⟨vs, h1, h2, h3⟩ := h
  obtain ⟨g, cap, w9, r1, r2, r3, _⟩ := row_app tyBl h2 hlo [.string f.1, x] rfl (two_one (own_one hx)) (m := 1) (by decide) (by unfold maxLen; omega) (by omega) 22
  have keep : ∀ {y : Value} {n : Nat} {xs : List Value}, w.ownsRow lo 5 1 y n xs → w9.ownsRow lo 5 1 y n xs := fun {y n xs} hy => own_same hy fun b e => r3.blk b (World.ownsRow.lt hy b e).2 fun q => own_ne h2 hy (by decide) q e
  refine ⟨_, w9, r1, ⟨vs ++ [x], by simp [h1], by rw [List.length_append, cellsB_snoc h1]; exact r2, fun i f' y hf hy => ?_⟩, r3.below hlo fun b hb e => by have := (World.ownsRow.lt h2 b e).1; omega⟩
  by_cases hi : i < fs.length
  · rw [List.getElem?_append_left hi] at hf
    rw [List.getElem?_append_left (by omega)] at hy
    exact keep (h3 i f' y hf hy)
  · have hi2 := (List.getElem?_eq_some_iff.1 hf).1
    rw [List.length_append, List.length_singleton] at hi2
    obtain rfl : i = fs.length := by omega
    rw [List.getElem?_append_right (Nat.le_refl _), Nat.sub_self] at hf
    rw [List.getElem?_append_right (by omega), h1, Nat.sub_self] at hy
    cases hf
    cases hy
    exact keep hx
section
variable {ops : Array Oper} {rest : List Oper} {oo : Oper} {ac : Act} {w : World} {Q : Exit → Act → World → Prop}
/-- A HEADER'S BYTES COPIED. -/
theorem b_copyB {g dc n c : Nat} {a : Option Addr} {L l : Bs} (x y : Operand) (hgd : oo.guard = none) (ho : oo.op = .call { callee := .builtin .copy, args := #[x, y], argTypes := #[23, 23] }) (hx : ac.eval x = .slice (some ⟨g, 0, none⟩) 512 dc) (hy : ac.eval y = .slice a n c) (hB : By w g L) (hL : L.length = 512) (hR : Rb w (.slice a n c) l) (hl : 512 ≤ l.length)
    (h : ∀ w2, By w2 g (l.take 512) → Ow g w w2 → wpList Tryd.prog ops Q rest (ac.put oo.dst (goInt 512)) w2) : wpList Tryd.prog ops Q (oo :: rest) ac w := by
  obtain ⟨a2, c2, e, _⟩ := hR.form
  cases e
  obtain ⟨b, o, rfl, _, hc⟩ := hR.at (by omega)
  have hlt : (l.take 512).length = 512 := by rw [List.length_take]; omega
  have hrun := run_copy_cells (P := Tryd.prog) w 23 23 oo.type 5 g 0 512 dc ⟨b, o, none⟩ l.length c ((l.take 512).map cb) Tryd.underlying23 (by kernel_rfl) (by rw [List.length_map, hlt]; exact (Nat.min_eq_right hl).symm)
    (fun j v hj => by
      rw [List.getElem?_map] at hj
      obtain ⟨u, hu, rfl⟩ := Option.map_eq_some_iff.1 hj
      have hjl := (List.getElem?_eq_some_iff.1 hu).1
      rw [hlt] at hjl
      rw [List.getElem?_take_of_lt hjl] at hu
      rw [Addr.add_mid, hc j (by omega)]
      rw [List.getElem?_eq_getElem (by omega)] at hu
      cases hu
      rfl)
    (fun j hj => by
      rw [List.length_map, hlt] at hj
      rw [Nat.zero_add, hB.at_ j _ (List.getElem?_eq_getElem (by omega))]
      rfl) (fun j _ => hB.fr _) (map_cb_one _)
  rw [List.length_map, hlt] at hrun
  refine wpList_plain hgd fun _ hK => ?_
  unfold Oper.wp execOp
  simp only [ho, resolve, invoke, builtin, Sem.run_bind, Sem.run_pure, Result.andThen_ok, List.map_toArray, List.map_cons, List.map_nil, hx, hy, hrun]
  refine hK _ _ (h _ ?_ ((Ow.refl g w).sets 0 _))
  have q := hB.sets (t := l.take 512) (o := 0) (by omega)
  have e2 : put L 0 (l.take 512) = l.take 512 := by
    unfold put
    rw [List.drop_of_length_le (by omega)]
    simp
  rw [e2] at q
  exact q
end
end Go.Proofs.YtjmomdnlibfbkaaDoor
