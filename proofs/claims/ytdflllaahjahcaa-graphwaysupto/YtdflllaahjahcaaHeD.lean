import Derived.Test.YtdflllaahjahcaaHeC
import Derived.Test.YtdflllaahjahcaaGrZ
import Derived.Test.YtdflllaahjahcaaGrX
namespace Go.Proofs.Ytdflllaahjahcaa
open Go.RowKit

/-- THE GRAPH THAT IS ASKED ABOUT BETWEEN. -/
def lnA : Nat → Nat
  | 0 => 1
  | 1 => 2
  | _ => 0
def LA : Nat → Nat → Int
  | 0, _ => 1
  | 1, 0 => 0
  | _, _ => 2
theorem rgtA : rgt 3 lnA LA = true := by decide
def oF (v : Nat) : Bool := v == 2
theorem rbA (v : Nat) (hv : v < 3) : rb 3 lnA LA 1 (fun _ => 2) v = oF v := by
  have hall : ∀ k v, Wk (Eg 3 lnA LA) (Fr 1 fun _ => 2) k v → v = 2 := by
    intro k
    induction k with
    | zero =>
      rintro v ⟨i, hi, e⟩
      have : (2 : Int) = (v : Int) := e
      omega
    | succ k ih =>
      rintro v ⟨u, hu, hE⟩
      have := ih u hu
      subst this
      obtain ⟨_, i, hi, _⟩ := hE
      exact absurd hi (Nat.not_lt_zero _)
  unfold rb oF
  by_cases e : v = 2
  · subst e
    obtain ⟨j, _, ej⟩ := ds_of (E := Eg 3 lnA LA) (S := Fr 1 fun _ => 2) (k := 0) (v := 2) ⟨0, by omega, rfl⟩
    rw [ej]
    simp
  · rcases ds_is (Eg 3 lnA LA) (Fr 1 fun _ => 2) v with ⟨h, _⟩ | ⟨k, _, hk, _⟩
    · rw [h]
      have : (v == 2) = false := by simpa using e
      rw [this]
      rfl
    · exact absurd (hall k v hk) e
theorem reA : reN 3 lnA LA 1 (fun _ => 2) = 3 ∧ reE 3 lnA LA 1 (fun _ => 2) = 0 := by decide
theorem dtA : dt 3 lnA LA 0 1 = ((1 : Nat) : Int) := by
  obtain ⟨j, hj, ej⟩ := ds_of (E := Ge 3 lnA LA) (S := fun x => x = 0) (k := 1) (v := 1) ⟨0, rfl, by omega, 0, by decide, rfl⟩
  have e2 : dt 3 lnA LA 0 1 = (j : Int) := ej
  by_cases e : j = 0
  · rw [e] at e2
    have := dt_zero.1 e2
    omega
  · rw [e2]
    omega
theorem cyA : cyE 3 lnA LA 0 1 = 0 ∧ cyN 3 lnA LA 0 1 = 2 := by
  have h := cy_yes (N := 3) (ln := lnA) (L := LA) (u := 0) (v := 1) (k := 1) (by decide) (by
    show (ebB (lnA 0) (LA 0) 1 && (dt 3 lnA LA 0 1 != -1)) = true
    rw [dtA]
    decide) dtA
  exact h
def pF (i : Nat) : Int := if i = 0 then 0 else 1
theorem cyFA (j : Nat) (hj : j < 2) : cyF 3 lnA LA 0 1 j = pF j := by
  match j, hj with
  | 0, _ => rfl
  | 1, _ => rfl
theorem ri_nil {W : World} {x : Nat} {f : Nat → Int} : Ri W (some ⟨x, 0, none⟩) 0 f := fun h => absurd h (Nat.lt_irrefl _)
set_option maxHeartbeats 2000000 in
theorem another_any (w : World) : Calls Try.prog 14 #[] w fun x w' => ∃ B, x = .returned (.slice (some ⟨B, 0, none⟩) 3 3) ∧ Rr w' (some ⟨B, 0, none⟩) 3 lnA LA ∧ Below w.heap.size w w' := by
  go_enter Try.func14, Try.ntmps14
  go_wp2
  go_ret
  refine ⟨_, rfl, ?_, ?_⟩
  · have b1 := heap_new w (.cells #[.int .i64 1] 3)
    have b2 := heap_new (w.alloc (.cells #[.int .i64 1] 3)) (.cells #[.int .i64 0, .int .i64 2] 3)
    have b3 := heap_new ((w.alloc (.cells #[.int .i64 1] 3)).alloc (.cells #[.int .i64 0, .int .i64 2] 3)) (.cells #[] 3)
    have b4 := heap_new (((w.alloc (.cells #[.int .i64 1] 3)).alloc (.cells #[.int .i64 0, .int .i64 2] 3)).alloc (.cells #[] 3)) (.cells #[.slice (some ⟨w.heap.size, 0, none⟩) 1 1, .slice (some ⟨w.heap.size + 1, 0, none⟩) 2 2, .slice (some ⟨w.heap.size + 1 + 1, 0, none⟩) 0 0] 23)
    simp only [World.size_alloc] at b2 b3 b4
    refine ⟨fun k => match k with | 0 => some ⟨w.heap.size, 0, none⟩ | 1 => some ⟨w.heap.size + 1, 0, none⟩ | _ => some ⟨w.heap.size + 1 + 1, 0, none⟩, fun k => match k with | 0 => 1 | 1 => 2 | _ => 0, fun _ => ⟨_, 0, rfl, blk_lt b4, fun i hi => ?_⟩, fun k hk => ?_⟩
    · rw [Nat.zero_add, (cell_blk b4 i).1]
      match i, hi with
      | 0, _ => rfl
      | 1, _ => rfl
      | 2, _ => rfl
    · match k, hk with
      | 0, _ => exact Ri.later (Ri.later (Ri.later (ri_one (z := 1) b1) (al _ _)) (al _ _)) (al _ _)
      | 1, _ =>
        have h2 := Rv.congr (ri_two b2) (G := iv (LA 1)) fun j hj => by
          match j, hj with
          | 0, _ => rfl
          | 1, _ => rfl
        exact Rv.later (Rv.later h2 (al _ _)) (al _ _)
      | 2, _ => exact ri_nil
  · exact bl_t (bl_t (bl_t (al _ _) (al _ _)) (al _ _)) (al _ _)
theorem rt_three {W : World} {x : Nat} (h : W.heap[x]? = some (.cells #[.bool false, .bool false, .bool true] 4 (0, 0))) : Rt W (some ⟨x, 0, none⟩) 3 oF := fun _ => ⟨x, 0, rfl, blk_lt h, fun i hi => by
  rw [Nat.zero_add, (cell_blk h i).1]
  match i, hi with
  | 0, _ => rfl
  | 1, _ => rfl
  | 2, _ => rfl⟩
/-- What Reach and Cycle answer of it. -/
theorem ReachA {na : Option Addr} {nc : Nat} {w : World} {x : Nat} (hR : Rr w na 3 lnA LA) (hx : w.heap[x]? = some (.cells #[.int .i64 2] 3 (0, 0))) :
    Calls Try.prog 13 #[.slice na 3 nc, .slice (some ⟨x, 0, none⟩) 1 1] w fun x w' => ∃ ga g, x = .returned (.tuple #[.slice ga 3 3, .int .i64 0]) ∧ An w.heap.size ga g 3 4 (bv oF) w' ∧ Below w.heap.size w w' := by
  have h := Reach_any (nc := nc) (pc := 1) (N := 3) (ln := lnA) (L := LA) (q := 1) (fs := fun _ => 2) (by omega) (fun k hk => by
    match k, hk with
    | 0, _ => decide
    | 1, _ => decide
    | 2, _ => decide) (by omega) hR (ri_one hx)
  rw [reA.1, reA.2] at h
  refine h.mono fun y w' hy => ?_
  obtain ⟨ga, g, e, ha, hb⟩ := hy
  refine ⟨ga, g, e, ?_, hb⟩
  rcases ha with ha | ⟨h1, h2, h3⟩
  · exact .inl ha
  · exact .inr ⟨h1, h2, h3.congr fun k hk => by unfold bv; rw [rbA k hk]⟩
theorem CycleA {na : Option Addr} {nc : Nat} {w : World} (hR : Rr w na 3 lnA LA) :
    Calls Try.prog 16 #[.slice na 3 nc, .int .i64 0, .int .i64 1] w fun x w' => ∃ la lc, x = .returned (.tuple #[.slice la 2 lc, .int .i64 0]) ∧ w'.ownsRow w.heap.size 3 1 (.slice la 2 lc) 2 (vl 2 (iv pF)) ∧ Below w.heap.size w w' := by
  have h := Cycle_any (nc := nc) (N := 3) (ln := lnA) (L := LA) (u := 0) (v := 1) (by omega) (fun k hk => by
    match k, hk with
    | 0, _ => decide
    | 1, _ => decide
    | 2, _ => decide) hR
  rw [cyA.1, cyA.2] at h
  refine h.mono fun y w' hy => ?_
  obtain ⟨la, lc, e, ho, hb⟩ := hy
  refine ⟨la, lc, e, ?_, hb⟩
  rw [vl_congr (G := iv pF) fun j hj => by unfold iv; rw [cyFA j hj]] at ho
  exact ho
end Go.Proofs.Ytdflllaahjahcaa
