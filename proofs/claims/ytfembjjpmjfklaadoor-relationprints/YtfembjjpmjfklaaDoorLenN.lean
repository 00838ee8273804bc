import Derived.Test.YtfembjjpmjfklaaDoorAgn
namespace Go.Proofs.YtfembjjpmjfklaaDoor
open Go.RowKit

theorem LE.mono {lo lo' : Nat} {W : World} {x : Value} {al : List Am} (h : LE lo' W x al) (hl : lo ≤ lo') : LE lo W x al := by
  obtain ⟨C, e, h⟩ := h
  exact ⟨C, e, h.mono hl⟩
theorem LF.mono {lo lo' : Nat} {W : World} {M : Nat} {ms : List Value} {cl : List (List Am)} {k : Nat} (h : LF lo' W M ms cl k) (hl : lo ≤ lo') : LF lo W M ms cl k :=
  { h with row := ownsRow_mono h.row hl, el := fun i hi hk => by obtain ⟨x, h1, h2⟩ := h.el i hi hk; exact ⟨x, h1, h2.mono hl⟩ }

theorem makeS (n : Nat) (hn : n ≤ 8796093022206) (u : World) : (Instr.makeSlice 44 (.int .i64 ((n : Int) + 1)) (.int .i64 ((n : Int) + 1))).run Tryd.prog u =
    .ok (.slice (some ⟨u.heap.size, 0, none⟩) (n + 1) (n + 1)) (u.alloc (.cells (madeCells #[.string ⟨#[]⟩] (n + 1)) 9)) := by
  obtain ⟨i0, hi, hz0, hz1, hz2⟩ := info_parts info9c
  have h := run_make (P := Tryd.prog) u 44 9 i0 (.string ⟨#[]⟩) Tryd.underlying44 hi hz0 .i64 .i64 ((n : Int) + 1) ((n : Int) + 1) (by omega) (Int.le_refl _) (by rw [hz2]; omega) (by omega)
  have e : ((n : Int) + 1).toNat = n + 1 := by omega
  rw [e] at h
  simpa [hz1, Value.cells] using h
theorem Sts.cellsF {w : World} {b o c : Nat} {n : Nat} {nl : List ByteArray} (h : Sts w (.slice (some ⟨b, o, none⟩) n c) nl) : ∀ (j : Nat) (v : Value), (nl.map Value.string)[j]? = some v → w.cell? ⟨b, o + j, none⟩ = some v := by
  intro j v hj
  have hl : j < nl.length := by have := (List.getElem?_eq_some_iff.1 hj).1; rw [List.length_map] at this; exact this
  obtain ⟨b', o', e, -, e0⟩ := h.elem j hl
  cases e
  rw [List.getElem?_map, List.getElem?_eq_getElem hl] at hj
  rw [e0]; exact hj
/-- THE copy INTO NAMES JUST MADE. -/
theorem copyS (nl : List ByteArray) (xa : Option Addr) (xc : Nat) (ty : TypeId) (wr : World) (lo : Nat) (hlo : lo ≤ wr.heap.size) (hL : nl.length ≤ 8796093022206) (h : Sts wr (.slice xa nl.length xc) nl) :
    ∃ v' W3 y, (Builtin.copy_ #[44, 44] ty #[.slice (some ⟨wr.heap.size, 0, none⟩) (nl.length + 1) (nl.length + 1), .slice xa nl.length xc]).run Tryd.prog (wr.alloc (.cells (madeCells #[.string ⟨#[]⟩] (nl.length + 1)) 9)) = .ok v' W3
      ∧ W3.ownsRow lo 9 1 (.slice (some ⟨wr.heap.size, 0, none⟩) (nl.length + 1) (nl.length + 1)) (nl.length + 1) (nl.map Value.string ++ [y]) ∧ Below wr.heap.size wr W3 := by
  have hsz : (Tryd.prog.info? 9).map (·.size) = some 1 := by kernel_rfl
  have hb : Below wr.heap.size wr (wr.alloc (.cells (madeCells #[.string ⟨#[]⟩] (nl.length + 1)) 9)) := (Below.refl _ wr).alloc (Nat.le_refl _) _
  have ho := made_own wr #[.string ⟨#[]⟩] (nl.length + 1) 1 9 lo hlo (by unfold maxLen; omega)
  rw [Nat.mul_one] at ho
  have hA := h.later hb
  obtain ⟨xs, hxs⟩ : ∃ xs, (madeCells #[Value.string ⟨#[]⟩] (nl.length + 1)).toList = xs := ⟨_, rfl⟩
  have hxl : xs.length = nl.length + 1 := by rw [← hxs]; simp [size_madeCells]
  rw [hxs] at ho
  generalize wr.alloc (.cells (madeCells #[.string ⟨#[]⟩] (nl.length + 1)) 9) = u at *
  have hone : ∀ l : List Value, l.length = 1 → ∃ y, l = [y] := fun l hl => by
    match l, hl with
    | [y], _ => exact ⟨y, rfl⟩
  cases nl with
  | nil =>
    obtain ⟨y, rfl⟩ := hone xs hxl
    exact ⟨goInt 0, u, y, copy_nothing (P := Tryd.prog) u 44 44 ty 9 (some ⟨wr.heap.size, 0, none⟩) xa 1 _ _ xc Tryd.underlying44 hsz, ho, hb⟩
  | cons y l =>
    obtain ⟨b, o, rfl, -, -⟩ := hA.elem 0 (by simp)
    have hr := run_copy_many (P := Tryd.prog) u 44 44 ty 9 1 wr.heap.size 0 ((y :: l).length + 1) ((y :: l).length + 1) ⟨b, o, none⟩ (y :: l).length xc ((y :: l).map Value.string) Tryd.underlying44 hsz
      (by have e : Nat.min (y :: l).length ((y :: l).length + 1) = (y :: l).length := Nat.min_eq_left (Nat.le_succ _)
          rw [List.length_map, e, Nat.mul_one])
      (fun j v hj => by rw [Addr.add_mid]; exact hA.cellsF j v hj)
      (fun j hj => by
        rw [Nat.zero_add]
        have hjx : j < xs.length := by rw [List.length_map] at hj; omega
        have := World.ownsRow.cells (g := wr.heap.size) ho rfl j _ (List.getElem?_eq_getElem hjx)
        rw [Go.WideShapes.add_plain, Nat.zero_add] at this
        rw [this]; rfl)
      (fun j _ => ownsRow_free ho _) (fun v hv => by obtain ⟨a, -, rfl⟩ := List.mem_map.1 hv; rfl)
    have hs := ownsRow_setCells ((y :: l).map Value.string) 0 xs u (by rw [List.length_map]; omega) ho
    rw [List.take_zero, List.nil_append] at hs
    obtain ⟨z, hz⟩ := hone (xs.drop (0 + ((y :: l).map Value.string).length)) (by rw [List.length_drop, List.length_map]; omega)
    rw [hz] at hs
    exact ⟨_, _, z, hr, hs, below_setCells _ (Nat.le_refl _) _ _ _ hb⟩
/-- NAMES LENT, A MARK BEHIND THEM. -/
def LS (lo : Nat) (W : World) (Q : Nat) (nl : List ByteArray) : Prop := W.ownsRow lo 9 1 (.slice (some ⟨Q, 0, none⟩) (nl.length + 1) (nl.length + 1)) (nl.length + 1) (nl.map Value.string ++ [.string ⟨#[77, 65, 82, 75]⟩])
theorem LS.later {lo : Nat} {W W' : World} {Q : Nat} {nl : List ByteArray} (h : LS lo W Q nl) (hb : Below W.heap.size W W') : LS lo W' Q nl := ownsRow_below h hb
theorem LS.mark {lo : Nat} {W : World} {Q : Nat} {nl : List ByteArray} {y : Value} (h : W.ownsRow lo 9 1 (.slice (some ⟨Q, 0, none⟩) (nl.length + 1) (nl.length + 1)) (nl.length + 1) (nl.map Value.string ++ [y])) :
    LS lo (W.setCell ⟨Q, nl.length, none⟩ (.string ⟨#[77, 65, 82, 75]⟩)) Q nl := by
  have h2 := ownsRow_set h nl.length (.string ⟨#[77, 65, 82, 75]⟩)
  rw [List.set_append_right _ _ (by simp)] at h2
  simpa [LS] using h2
theorem LS.own {lo : Nat} {W : World} {Q : Nat} {nl : List ByteArray} (h : LS lo W Q nl) : OwnS lo W (.slice (some ⟨Q, 0, none⟩) nl.length (nl.length + 1)) nl := by
  obtain ⟨h1, h2⟩ := h
  refine ⟨by simp, .inr ?_⟩
  rcases h2 with ⟨e, _⟩ | ⟨g, cap, cur, e, e2, e3, e4, e5, e6, e7⟩
  · cases e
  · cases e
    refine ⟨Q, _, cur, rfl, e2, e3, by omega, e5, e6, ?_⟩
    have h3 := congrArg (List.take (nl.length * 1)) e7
    rw [List.take_take, Nat.min_eq_left (by omega)] at h3
    rw [h3]
    exact List.take_left' (by simp)
theorem LS.last {lo : Nat} {W : World} {Q : Nat} {nl : List ByteArray} (h : LS lo W Q nl) : W.cell? ⟨Q, nl.length, none⟩ = some (.string ⟨#[77, 65, 82, 75]⟩) ∧ Q < W.heap.size ∧ lo ≤ Q := by
  have h0 := World.ownsRow.cells (g := Q) h rfl nl.length (.string ⟨#[77, 65, 82, 75]⟩) (by rw [List.getElem?_append_right (by simp)]; simp)
  rw [Go.WideShapes.add_plain, Nat.zero_add] at h0
  exact ⟨h0, (World.ownsRow.lt h Q rfl).2, (World.ownsRow.lt h Q rfl).1⟩
/-- ONE CLAUSE IN A LIST JUST LAID. -/
theorem Cls.lit {W : World} {v : Value} {al : List Am} (h : Ams W v al) : Cls (W.alloc (.cells #[v] 52)) (.slice (some ⟨W.heap.size, 0, none⟩) 1 1) [al] := by
  have hb : Below W.heap.size W (W.alloc (.cells #[v] 52)) := (Below.refl _ W).alloc (Nat.le_refl _) _
  refine ⟨_, _, rfl, by simp, fun i hi => ?_⟩
  obtain rfl : i = 0 := by simp at hi; exact hi
  refine ⟨W.heap.size, 0, v, rfl, by simp, ?_, h.later hb⟩
  rw [World.cell?_alloc_at _ _ _ _ rfl]
  rfl

end Go.Proofs.YtfembjjpmjfklaaDoor
