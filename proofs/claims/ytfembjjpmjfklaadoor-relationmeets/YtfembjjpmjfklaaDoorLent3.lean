import Derived.Test.YtfembjjpmjfklaaDoorLent2
namespace Go.Proofs.YtfembjjpmjfklaaDoor
open Go.RowKit

theorem size_setCells (b : Nat) : ∀ (vs : List Value) (o : Nat) (u : World), (u.setCells b o vs).heap.size = u.heap.size
  | [], _, _ => rfl
  | v :: r, o, u => by rw [World.setCells, size_setCells b r]; simp
theorem below_setCells {w : World} {base : Nat} (b : Nat) (hb : base ≤ b) : ∀ (vs : List Value) (o : Nat) (u : World), Below base w u → Below base w (u.setCells b o vs)
  | [], _, _, h => h
  | v :: r, o, u, h => by
    rw [World.setCells]
    exact below_setCells b hb r (o + 1) _ (h.setCell (p := ⟨b, o, none⟩) hb v)

theorem made_some (z : Array Value) (n j : Nat) (h : j < n) : ((madeCells z n)[j]?).isSome = true := by
  rw [Array.getElem?_eq_getElem (by rw [size_madeCells]; exact h)]; rfl

theorem lentA_of (w : World) (al : List At) :
    LentA w (((w.alloc (.cells (madeCells #[.slice none 0 0] 2) 52)).alloc (.cells (madeCells #[.string ⟨#[]⟩, .int .i64 0, .string ⟨#[]⟩] ((al.length + 1) * 3)) 34)).setCells (w.heap.size + 1) 0 (flat al)) w.heap.size (w.heap.size + 1) al := by
  have hs1 : (w.alloc (.cells (madeCells #[.slice none 0 0] 2) 52)).heap.size = w.heap.size + 1 := by simp
  have hc : ∀ j, j < (al.length + 1) * 3 → (((w.alloc (.cells (madeCells #[.slice none 0 0] 2) 52)).alloc (.cells (madeCells #[.string ⟨#[]⟩, .int .i64 0, .string ⟨#[]⟩] ((al.length + 1) * 3)) 34)).cell? ⟨w.heap.size + 1, j, none⟩).isSome = true := fun j hj => by
    rw [World.cell?_alloc_at _ _ _ _ hs1.symm]
    exact made_some _ _ _ hj
  refine ⟨fun i hi => ?_, fun j hj => ?_, fun j hj => ?_, fun j => ?_, fun j => ?_, ?_, ?_, Nat.le_refl _, Nat.lt_succ_self _, ?_⟩
  · have hin := World.cell?_setCells_in (w.heap.size + 1) (flat al) 0 _ (fun j hj => by rw [Nat.zero_add]; exact hc j (by rw [flat_len] at hj; omega))
    obtain ⟨e0, e1, e2⟩ := flat_at al i hi
    have k0 := hin (i * 3) (by rw [flat_len]; omega)
    have k1 := hin (i * 3 + 1) (by rw [flat_len]; omega)
    have k2 := hin (i * 3 + 2) (by rw [flat_len]; omega)
    rw [Nat.zero_add] at k0 k1 k2
    rw [List.getElem?_eq_getElem (by rw [flat_len]; omega)] at e0 e1 e2
    exact ⟨k0.trans e0, k1.trans e1, k2.trans e2⟩
  · rw [World.cell?_setCells_out _ _ _ _ _ (fun _ _ => Or.inr (by rw [flat_len]; simp))]
    exact hc _ (by omega)
  · rw [World.cell?_setCells_out _ _ _ _ _ (fun e _ => by simp at e), World.cell?_alloc_past _ _ _ (by rw [hs1]; omega), World.cell?_alloc_at _ _ _ _ rfl]
    exact made_some _ _ _ hj
  · rw [World.frozen?_setCells, World.frozen?_alloc_at _ _ _ _ hs1.symm]
  · rw [World.frozen?_setCells, World.frozen?_alloc_past _ _ _ (by rw [hs1]; omega), World.frozen?_alloc_at _ _ _ _ rfl]
  · rw [size_setCells]; simp <;> omega
  · rw [size_setCells]; simp <;> omega
  · exact below_setCells _ (Nat.le_succ _) _ _ _ (((Below.refl w.heap.size w).alloc (Nat.le_refl _) _).alloc (by simp) _)

theorem LentA.later {w W W' : World} {M C : Nat} {al : List At} (h : LentA w W M C al) (hb : Below W.heap.size W W') : LentA w W' M C al :=
  ⟨fun i hi => ⟨(hb.cell (p := ⟨C, _, none⟩) h.ltC).trans (h.elem i hi).1, (hb.cell (p := ⟨C, _, none⟩) h.ltC).trans (h.elem i hi).2.1, (hb.cell (p := ⟨C, _, none⟩) h.ltC).trans (h.elem i hi).2.2⟩,
    fun j hj => by rw [hb.cell (p := ⟨C, _, none⟩) h.ltC]; exact h.last j hj, fun j hj => by rw [hb.cell (p := ⟨M, _, none⟩) h.ltM]; exact h.two j hj,
    fun j => (hb.frozen (p := ⟨C, j, none⟩) h.ltC).trans (h.frC j), fun j => (hb.frozen (p := ⟨M, j, none⟩) h.ltM).trans (h.frM j),
    Nat.lt_of_lt_of_le h.ltM hb.size, Nat.lt_of_lt_of_le h.ltC hb.size, h.loM, h.ne, h.bel.trans (hb.mono h.bel.size)⟩

/-- WHAT lentField HANDS OUT. -/
structure Lent (w W : World) (M C K : Nat) (al : List At) : Prop where
  elem : ∀ i (h : i < al.length), W.cell? ⟨C, i * 3, none⟩ = some (.string al[i].n) ∧ W.cell? ⟨C, i * 3 + 1, none⟩ = some (.int .i64 al[i].op) ∧ W.cell? ⟨C, i * 3 + 2, none⟩ = some (.string al[i].v)
  l0 : W.cell? ⟨C, al.length * 3, none⟩ = some (.string ⟨#[77, 65, 82, 75]⟩)
  l1 : W.cell? ⟨C, al.length * 3 + 1, none⟩ = some (.int .i64 77)
  l2 : W.cell? ⟨C, al.length * 3 + 2, none⟩ = some (.string ⟨#[]⟩)
  m0 : W.cell? ⟨M, 0, none⟩ = some (.slice (some ⟨C, 0, none⟩) al.length (al.length + 1))
  m1 : W.cell? ⟨M, 1, none⟩ = some (.slice (some ⟨K, 0, none⟩) 1 1)
  k0 : W.cell? ⟨K, 0, none⟩ = some (.string ⟨#[77, 65, 82, 75]⟩)
  k1 : W.cell? ⟨K, 1, none⟩ = some (.int .i64 78)
  k2 : W.cell? ⟨K, 2, none⟩ = some (.string ⟨#[]⟩)
  frC : ∀ j, W.frozen? ⟨C, j, none⟩ = false
  ltM : M < W.heap.size
  ltC : C < W.heap.size
  ltK : K < W.heap.size
  loM : w.heap.size ≤ M
  ne : M < C
  ne2 : C < K
  bel : Below w.heap.size w W

end Go.Proofs.YtfembjjpmjfklaaDoor
