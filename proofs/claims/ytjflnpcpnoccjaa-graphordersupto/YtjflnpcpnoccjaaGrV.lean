import Derived.Test.YtjflnpcpnoccjaaGrG
namespace Go.Proofs.Ytjflnpcpnoccjaa
open Go.RowKit

/-- No way is longer than there are nodes. -/
theorem pig {N : Nat} {D : Nat → Int} : ∀ m : Nat, (∀ j : Nat, j < m → ∃ x, x < N ∧ D x = (j : Int)) → ∃ f : Nat → Int, cnt f N + m = N ∧ ∀ x, f x ≠ -1 → ∃ j : Nat, j < m ∧ D x = (j : Int)
  | 0, _ => by
    have h : ∀ N, cnt (fun _ => (-1 : Int)) N = N := by
      intro N
      induction N with
      | zero => rfl
      | succ N ih => rw [cnt_succ, ih, if_pos rfl]
    exact ⟨fun _ => -1, by rw [h]; rfl, fun x hx => absurd rfl hx⟩
  | m + 1, h => by
    obtain ⟨f, h1, h2⟩ := pig m fun j hj => h j (by omega)
    obtain ⟨x, hx, e⟩ := h m (by omega)
    have hf : f x = -1 := by
      apply Classical.byContradiction
      intro q
      obtain ⟨j, hj, ej⟩ := h2 x q
      omega
    have h3 := cnt_put (x := 0) (by decide) hf hx
    refine ⟨put f x 0, by omega, fun y hy => ?_⟩
    by_cases q : y = x
    · exact ⟨m, by omega, by rw [q]; exact e⟩
    · have : put f x 0 y = f y := if_neg q
      rw [this] at hy
      obtain ⟨j, hj, ej⟩ := h2 y hy
      exact ⟨j, by omega, ej⟩
theorem ds_lt {E : Nat → Nat → Prop} {S : Nat → Prop} {N v k : Nat} (hE : ∀ u v, E u v → u < N) (hv : v < N) (h : ds E S v = (k : Int)) : k < N := by
  have hall : ∀ m, m ≤ k → ∃ x, x < N ∧ ds E S x = ((k - m : Nat) : Int) := by
    intro m
    induction m with
    | zero => exact fun _ => ⟨v, hv, h⟩
    | succ m ih =>
      intro hm
      obtain ⟨x, _, ex⟩ := ih (by omega)
      rw [show k - m = (k - (m + 1)) + 1 by omega] at ex
      obtain ⟨u, hu, eu⟩ := ds_back ex
      exact ⟨u, hE u x hu, eu⟩
  obtain ⟨f, h1, _⟩ := pig (N := N) (D := ds E S) (k + 1) fun j hj => by
    obtain ⟨x, hx, e⟩ := hall (k - j) (by omega)
    rw [show k - (k - j) = j by omega] at e
    exact ⟨x, hx, e⟩
  omega
/-- HOW FAR IT IS TO A NODE. -/
noncomputable def dt (N : Nat) (ln : Nat → Nat) (L : Nat → Nat → Int) (u : Nat) : Nat → Int := ds (Ge N ln L) fun x => x = u
theorem dt_zero {N : Nat} {ln : Nat → Nat} {L : Nat → Nat → Int} {u v : Nat} : dt N ln L u v = 0 ↔ v = u := by
  constructor
  · intro h
    exact (ds_wk (k := 0) h).1
  · rintro rfl
    obtain ⟨j, hj, e⟩ := ds_of (E := Ge N ln L) (S := fun x => x = v) (k := 0) (v := v) rfl
    obtain rfl : j = 0 := by omega
    exact e
/-- THE NEXT NODE OF A SHORTEST WAY, THE LEAST ONE. -/
def Nx (N : Nat) (ln : Nat → Nat) (L : Nat → Nat → Int) (u a b : Nat) : Prop := Eg N ln L a b ∧ dt N ln L u b = dt N ln L u a - 1 ∧ ∀ c, Eg N ln L a c → dt N ln L u c = dt N ln L u a - 1 → b ≤ c
theorem Nx.ex {N : Nat} {ln : Nat → Nat} {L : Nat → Nat → Int} {u a k : Nat} (h : dt N ln L u a = ((k + 1 : Nat) : Int)) : ∃ b, Nx N ln L u a b := by
  obtain ⟨b, hb, eb⟩ := ds_back (E := Ge N ln L) (S := fun x => x = u) h
  obtain ⟨c, ⟨c1, c2⟩, c3⟩ := least (p := fun b => Eg N ln L a b ∧ dt N ln L u b = dt N ln L u a - 1) b ⟨hb, by rw [h]; show ds _ _ _ = _; rw [eb]; omega⟩
  refine ⟨c, c1, c2, fun d d1 d2 => ?_⟩
  apply Classical.byContradiction
  intro q
  exact c3 d (by omega) ⟨d1, d2⟩
noncomputable def nx (N : Nat) (ln : Nat → Nat) (L : Nat → Nat → Int) (u a : Nat) : Nat := open Classical in if h : ∃ b, Nx N ln L u a b then Classical.choose h else 0
theorem nx_is {N : Nat} {ln : Nat → Nat} {L : Nat → Nat → Int} {u a k : Nat} (h : dt N ln L u a = ((k + 1 : Nat) : Int)) : Nx N ln L u a (nx N ln L u a) := by
  have := Nx.ex h
  unfold nx
  rw [dif_pos this]
  exact Classical.choose_spec this
noncomputable def pth (N : Nat) (ln : Nat → Nat) (L : Nat → Nat → Int) (u v : Nat) : Nat → Nat
  | 0 => v
  | j + 1 => nx N ln L u (pth N ln L u v j)
theorem pth_is {N : Nat} {ln : Nat → Nat} {L : Nat → Nat → Int} (hr : rgt N ln L = true) {u v k : Nat} (hv : v < N) (h : dt N ln L u v = (k : Int)) : ∀ j, j ≤ k → pth N ln L u v j < N ∧ dt N ln L u (pth N ln L u v j) = ((k - j : Nat) : Int)
  | 0, _ => ⟨hv, h⟩
  | j + 1, hj => by
    obtain ⟨_, h2⟩ := pth_is hr hv h j (by omega)
    rw [show k - j = (k - (j + 1)) + 1 by omega] at h2
    obtain ⟨n1, n2, _⟩ := nx_is h2
    refine ⟨Eg.lt hr n1, ?_⟩
    show dt N ln L u (nx N ln L u (pth N ln L u v j)) = _
    rw [n2, h2]
    omega
/-- THE ANSWER OF Cycle. -/
def cyO (N : Nat) (ln : Nat → Nat) (L : Nat → Nat → Int) (u v : Int) : Bool := rgt N ln L && (nd N u && nd N v)
noncomputable def cyW (N : Nat) (ln : Nat → Nat) (L : Nat → Nat → Int) (u v : Int) : Bool := ebB (ln u.toNat) (L u.toNat) v && (dt N ln L u.toNat v.toNat != -1)
noncomputable def cyE (N : Nat) (ln : Nat → Nat) (L : Nat → Nat → Int) (u v : Int) : Int := if cyO N ln L u v = true then (if cyW N ln L u v = true then 0 else 122) else 120
noncomputable def cyN (N : Nat) (ln : Nat → Nat) (L : Nat → Nat → Int) (u v : Int) : Nat := if cyO N ln L u v = true ∧ cyW N ln L u v = true then (dt N ln L u.toNat v.toNat).toNat + 1 else 0
noncomputable def cyF (N : Nat) (ln : Nat → Nat) (L : Nat → Nat → Int) (u v : Int) (j : Nat) : Int := if j = 0 then u else ((pth N ln L u.toNat v.toNat (j - 1) : Nat) : Int)
noncomputable def cyL (N : Nat) (ln : Nat → Nat) (L : Nat → Nat → Int) (u v : Nat) (j : Nat) : List Int := (u : Int) :: (List.range j).map fun i => ((pth N ln L u v i : Nat) : Int)
theorem cyL_len (N : Nat) (ln : Nat → Nat) (L : Nat → Nat → Int) (u v j : Nat) : (cyL N ln L u v j).length = j + 1 := by simp [cyL]
theorem cyL_next (N : Nat) (ln : Nat → Nat) (L : Nat → Nat → Int) (u v j : Nat) : cyL N ln L u v (j + 1) = cyL N ln L u v j ++ [((pth N ln L u v j : Nat) : Int)] := by
  unfold cyL
  rw [List.range_succ]
  simp
theorem cyL_vl (N : Nat) (ln : Nat → Nat) (L : Nat → Nat → Int) (u v j : Nat) : tV (cyL N ln L u v j) = vl (j + 1) (iv (cyF N ln L (u : Int) (v : Int))) := by
  rw [tV_vl, cyL_len]
  apply vl_congr
  intro k hk
  unfold iv cyF
  congr 1
  by_cases e : k = 0
  · subst e; rfl
  · obtain ⟨k', rfl⟩ : ∃ k', k = k' + 1 := ⟨k - 1, by omega⟩
    rw [if_neg (by omega)]
    unfold cyL
    have : k' < j := by omega
    simp [this]
theorem cy_bad {N : Nat} {ln : Nat → Nat} {L : Nat → Nat → Int} {u v : Int} (h : cyO N ln L u v = false) : cyE N ln L u v = 120 ∧ cyN N ln L u v = 0 := by
  unfold cyE cyN
  rw [h]
  simp
theorem cy_no {N : Nat} {ln : Nat → Nat} {L : Nat → Nat → Int} {u v : Int} (h : cyO N ln L u v = true) (h2 : cyW N ln L u v = false) : cyE N ln L u v = 122 ∧ cyN N ln L u v = 0 := by
  unfold cyE cyN
  rw [h, h2]
  simp
theorem cy_yes {N : Nat} {ln : Nat → Nat} {L : Nat → Nat → Int} {u v k : Nat} (h : cyO N ln L (u : Int) (v : Int) = true) (h2 : cyW N ln L (u : Int) (v : Int) = true) (hk : dt N ln L u v = (k : Int)) : cyE N ln L (u : Int) (v : Int) = 0 ∧ cyN N ln L (u : Int) (v : Int) = k + 1 := by
  unfold cyE cyN
  rw [h, h2]
  simp [hk]
theorem cyN_le (N : Nat) (ln : Nat → Nat) (L : Nat → Nat → Int) (u v : Int) : cyN N ln L u v ≤ N + 1 := by
  unfold cyN
  split
  · rename_i h
    have h1 := h.1
    unfold cyO at h1
    simp only [Bool.and_eq_true, nd_iff] at h1
    obtain ⟨_, _, hv0, hv1⟩ := h1
    have hv : v.toNat < N := by omega
    have h2 := h.2
    unfold cyW at h2
    rw [Bool.and_eq_true] at h2
    rcases ds_is (Ge N ln L) (fun x => x = u.toNat) v.toNat with ⟨e, _⟩ | ⟨k, e, _⟩
    · have : dt N ln L u.toNat v.toNat = -1 := e
      rw [this] at h2
      simp at h2
    · have e2 : dt N ln L u.toNat v.toNat = (k : Int) := e
      rw [e2, Int.toNat_natCast]
      apply Classical.byContradiction
      intro q
      by_cases hb : v.toNat = u.toNat
      · have := (dt_zero (N := N) (ln := ln) (L := L)).2 hb
        omega
      · -- the first node ahead is one of the graph's
        have hall : ∀ x y, Ge N ln L x y → y < N := fun x y h => h.1
        have hall2 : ∀ m, m ≤ k → ∃ x, x < N + 1 ∧ ds (Ge N ln L) (fun x => x = u.toNat) x = ((k - m : Nat) : Int) := by
          intro m
          induction m with
          | zero => exact fun _ => ⟨v.toNat, by omega, e⟩
          | succ m ih =>
            intro hm
            obtain ⟨x, _, ex⟩ := ih (by omega)
            rw [show k - m = (k - (m + 1)) + 1 by omega] at ex
            obtain ⟨y, hy, ey⟩ := ds_back ex
            by_cases z : k - (m + 1) = 0
            · have : y = u.toNat := dt_zero.1 (by show ds _ _ _ = 0; rw [ey, z]; rfl)
              exact ⟨y, by omega, ey⟩
            · obtain ⟨z', hz'⟩ : ∃ z', k - (m + 1) = z' + 1 := ⟨k - (m + 1) - 1, by omega⟩
              rw [hz'] at ey
              obtain ⟨y2, hy2, _⟩ := ds_back ey
              exact ⟨y, by have := hall _ _ hy2; omega, by rw [ey, hz']⟩
        obtain ⟨f, h1, _⟩ := pig (N := N + 1) (D := ds (Ge N ln L) fun x => x = u.toNat) (k + 1) fun j hj => by
          obtain ⟨x, hx, ex⟩ := hall2 (k - j) (by omega)
          rw [show k - (k - j) = j by omega] at ex
          exact ⟨x, hx, ex⟩
        omega
  · omega
end Go.Proofs.Ytjflnpcpnoccjaa
