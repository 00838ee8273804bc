import Derived.Test.YtfembjjpmjfklaaDoorLenP
import Derived.Handy
import Derived.Laws.IdiomCopy
namespace Go.Proofs.YtfembjjpmjfklaaDoor
open Go.RowKit

theorem makeA (n : Nat) (hn : n ≤ 3518437208883) (u : World) : (Instr.makeSlice 52 (.int .i64 ((n : Int) + 1)) (.int .i64 ((n : Int) + 1))).run Tryd.prog u =
    .ok (.slice (some ⟨u.heap.size, 0, none⟩) (n + 1) (n + 1)) (u.alloc (.cells (madeCells #[.string ⟨#[]⟩, .int .i64 0, .string ⟨#[]⟩] ((n + 1) * 3)) 34)) := by
  obtain ⟨i0, hi, hz0, hz1, hz2⟩ := info_parts infoA
  have h := run_make (P := Tryd.prog) u 52 34 i0 (.agg #[.string ⟨#[]⟩, .int .i64 0, .string ⟨#[]⟩]) Tryd.underlying52 hi hz0 .i64 .i64 ((n : Int) + 1) ((n : Int) + 1) (by omega) (Int.le_refl _) (by rw [hz2]; omega) (by omega)
  have e : ((n : Int) + 1).toNat = n + 1 := by omega
  rw [e] at h
  simpa [hz1, Value.cells] using h
theorem makeL (n : Nat) (hn : n ≤ 5864062014804) (u : World) : (Instr.makeSlice 22 (.int .i64 ((n : Int) + 1)) (.int .i64 ((n : Int) + 1))).run Tryd.prog u =
    .ok (.slice (some ⟨u.heap.size, 0, none⟩) (n + 1) (n + 1)) (u.alloc (.cells (madeCells #[.slice none 0 0] (n + 1)) 52)) := by
  obtain ⟨i0, hi, hz0, hz1, hz2⟩ := info_parts infoC
  have h := run_make (P := Tryd.prog) u 22 52 i0 (.slice none 0 0) Tryd.underlying22 hi hz0 .i64 .i64 ((n : Int) + 1) ((n : Int) + 1) (by omega) (Int.le_refl _) (by rw [hz2]; omega) (by omega)
  have e : ((n : Int) + 1).toNat = n + 1 := by omega
  rw [e] at h
  simpa [hz1, Value.cells] using h
/-- A ROW JUST MADE IS THE CALL'S OWN. -/
theorem made_own (u : World) (z : Array Value) (n size : Nat) (e : TypeId) (lo : Nat) (hlo : lo ≤ u.heap.size) (hn : n ≤ maxLen) : (u.alloc (.cells (madeCells z (n * size)) e)).ownsRow lo e size (.slice (some ⟨u.heap.size, 0, none⟩) n n) n (madeCells z (n * size)).toList := by
  refine ⟨by simp [size_madeCells], .inr ⟨u.heap.size, n, madeCells z (n * size), rfl, hlo, ?_, Nat.le_refl _, hn, by rw [size_madeCells], ?_⟩⟩
  · show (u.heap.push (.cells (madeCells z (n * size)) e))[u.heap.size]? = some (.cells (madeCells z (n * size)) e (0, 0))
    simp
  · rw [List.take_of_length_le (by simp [size_madeCells])]

theorem run_copy_many {P : Program} (w : World) (dT sT ty elem : TypeId) (k b o dLen dCap : Nat) (a : Addr) (sLen sCap : Nat) (cs : List Value)
    (hu : P.underlying dT = some (.slice elem)) (hs : (P.info? elem).map (·.size) = some k) (hn : cs.length = Nat.min sLen dLen * k)
    (hsrc : ∀ j v, cs[j]? = some v → w.cell? (a.add j) = some v) (hc : ∀ j, j < cs.length → (w.cell? ⟨b, o + j, none⟩).isSome = true) (hf : ∀ j, j < cs.length → w.frozen? ⟨b, o + j, none⟩ = false) (h1 : ∀ v ∈ cs, v.oneCell' = true) :
    (Builtin.copy_ #[dT, sT] ty #[.slice (some ⟨b, o, none⟩) dLen dCap, .slice (some a) sLen sCap]).run P w = .ok (goInt (Nat.min sLen dLen)) (w.setCells b o cs) := by
  have hl := run_loadCells_list (P := P) w a cs hsrc
  have hst := run_storeCells_cells (P := P) b o cs 0 w (by simpa using hc) (by simpa using hf) h1
  cases hq : P.info? elem with
  | none => simp [hq] at hs
  | some i =>
    have hi : i.size = k := by simpa [hq] using hs
    simp [Builtin.copy_, run_underlying hu, Builtin.lenOf, Builtin.firstCells, sizeOf, typeInfo, hq, hi, ← hn, hl, hst]
theorem copy_nothing {P : Program} (w : World) (dT sT ty elem : TypeId) (d a : Option Addr) (k dLen dCap sCap : Nat) (hu : P.underlying dT = some (.slice elem)) (hs : (P.info? elem).map (·.size) = some k) :
    (Builtin.copy_ #[dT, sT] ty #[.slice d dLen dCap, .slice a 0 sCap]).run P w = .ok (goInt 0) w := by
  cases hq : P.info? elem with
  | none => simp [hq] at hs
  | some i =>
    have hl : ∀ (x : Addr), (loadCells x 0).run P w = .ok #[] w := fun x => by simpa using run_loadCells_list (P := P) w x [] (by simp)
    cases d <;> cases a <;> simp [Builtin.copy_, run_underlying hu, Builtin.lenOf, Builtin.firstCells, sizeOf, typeInfo, hq, storeCells, hl]
theorem amCells_one (al : List Am) : ∀ v ∈ al.flatMap amCells, v.oneCell' = true := by
  intro v hv
  obtain ⟨a, -, ha⟩ := List.mem_flatMap.1 hv
  simp only [amCells, List.mem_cons, List.not_mem_nil, or_false] at ha
  rcases ha with rfl | rfl | rfl <;> rfl
theorem Ams.cellsF {w : World} {b o c : Nat} {n : Nat} {al : List Am} (h : Ams w (.slice (some ⟨b, o, none⟩) n c) al) : ∀ (j : Nat) (v : Value), (al.flatMap amCells)[j]? = some v → w.cell? ⟨b, o + j, none⟩ = some v := by
  intro j v hj
  have hl : j < al.length * 3 := by rw [← flatA_len]; exact (List.getElem?_eq_some_iff.1 hj).1
  have hi : j / 3 < al.length := by omega
  obtain ⟨b', o', e, -, e0, e1, e2⟩ := h.elem (j / 3) hi
  cases e
  have f0 := flat_at 3 amCells (fun _ => rfl) al (j / 3) 0 hi (by omega)
  have f1 := flat_at 3 amCells (fun _ => rfl) al (j / 3) 1 hi (by omega)
  have f2 := flat_at 3 amCells (fun _ => rfl) al (j / 3) 2 hi (by omega)
  have : j = j / 3 * 3 + 0 ∨ j = j / 3 * 3 + 1 ∨ j = j / 3 * 3 + 2 := by omega
  rcases this with e | e | e
  · rw [e] at hj ⊢; rw [f0] at hj; rw [Nat.add_zero, e0]; exact hj
  · rw [e] at hj ⊢; rw [f1] at hj; rw [← Nat.add_assoc, e1]; exact hj
  · rw [e] at hj ⊢; rw [f2] at hj; rw [← Nat.add_assoc, e2]; exact hj

theorem size_setCells (b : Nat) : ∀ (vs : List Value) (o : Nat) (u : World), (u.setCells b o vs).heap.size = u.heap.size
  | [], _, _ => rfl
  | v :: r, o, u => by rw [World.setCells, size_setCells b r]; simp
theorem below_setCells {w : World} {base : Nat} (b : Nat) (hb : base ≤ b) : ∀ (vs : List Value) (o : Nat) (u : World), Below base w u → Below base w (u.setCells b o vs)
  | [], _, _, h => h
  | v :: r, o, u, h => by
    rw [World.setCells]
    exact below_setCells b hb r (o + 1) _ (h.setCell (p := ⟨b, o, none⟩) hb v)

/-- THE copy INTO A CLAUSE JUST MADE. -/
theorem copyA (al : List Am) (xa : Option Addr) (xc : Nat) (ty : TypeId) (wr : World) (lo : Nat) (hlo : lo ≤ wr.heap.size) (hL : al.length ≤ 3518437208883) (h : Ams wr (.slice xa al.length xc) al) :
    ∃ v' W3 ys, (Builtin.copy_ #[52, 52] ty #[.slice (some ⟨wr.heap.size, 0, none⟩) (al.length + 1) (al.length + 1), .slice xa al.length xc]).run Tryd.prog (wr.alloc (.cells (madeCells #[.string ⟨#[]⟩, .int .i64 0, .string ⟨#[]⟩] ((al.length + 1) * 3)) 34)) = .ok v' W3
      ∧ W3.ownsRow lo 34 3 (.slice (some ⟨wr.heap.size, 0, none⟩) (al.length + 1) (al.length + 1)) (al.length + 1) (al.flatMap amCells ++ ys) ∧ ys.length = 3 ∧ Below wr.heap.size wr W3 := by
  have hsz : (Tryd.prog.info? 34).map (·.size) = some 3 := by kernel_rfl
  have hb : Below wr.heap.size wr (wr.alloc (.cells (madeCells #[.string ⟨#[]⟩, .int .i64 0, .string ⟨#[]⟩] ((al.length + 1) * 3)) 34)) := (Below.refl _ wr).alloc (Nat.le_refl _) _
  have ho := made_own wr #[.string ⟨#[]⟩, .int .i64 0, .string ⟨#[]⟩] (al.length + 1) 3 34 lo hlo (by unfold maxLen; omega)
  have hA := h.later hb
  obtain ⟨xs, hxs⟩ : ∃ xs, (madeCells #[Value.string ⟨#[]⟩, .int .i64 0, .string ⟨#[]⟩] ((al.length + 1) * 3)).toList = xs := ⟨_, rfl⟩
  have hxl : xs.length = (al.length + 1) * 3 := by rw [← hxs]; simp [size_madeCells]
  rw [hxs] at ho
  generalize wr.alloc (.cells (madeCells #[.string ⟨#[]⟩, .int .i64 0, .string ⟨#[]⟩] ((al.length + 1) * 3)) 34) = u at *
  cases al with
  | nil => exact ⟨goInt 0, u, xs, copy_nothing (P := Tryd.prog) u 52 52 ty 34 (some ⟨wr.heap.size, 0, none⟩) xa 3 _ _ xc Tryd.underlying52 hsz, ho, by simpa using hxl, hb⟩
  | cons y l =>
    obtain ⟨b, o, rfl, -, -⟩ := hA.elem 0 (by simp)
    have hr := run_copy_many (P := Tryd.prog) u 52 52 ty 34 3 wr.heap.size 0 ((y :: l).length + 1) ((y :: l).length + 1) ⟨b, o, none⟩ (y :: l).length xc ((y :: l).flatMap amCells) Tryd.underlying52 hsz
      (by have e : Nat.min (y :: l).length ((y :: l).length + 1) = (y :: l).length := Nat.min_eq_left (Nat.le_succ _)
          rw [flatA_len, e])
      (fun j v hj => by rw [Addr.add_mid]; exact hA.cellsF j v hj)
      (fun j hj => by
        rw [Nat.zero_add]
        have hjx : j < xs.length := by rw [flatA_len] at hj; omega
        have := World.ownsRow.cells (g := wr.heap.size) ho rfl j _ (List.getElem?_eq_getElem hjx)
        rw [Go.WideShapes.add_plain, Nat.zero_add] at this
        rw [this]; rfl)
      (fun j _ => ownsRow_free ho _) (amCells_one _)
    have hs := ownsRow_setCells ((y :: l).flatMap amCells) 0 xs u (by rw [flatA_len]; omega) ho
    rw [List.take_zero, List.nil_append] at hs
    refine ⟨_, _, _, hr, hs, ?_, below_setCells _ (Nat.le_refl _) _ _ _ hb⟩
    rw [List.length_drop, flatA_len]
    omega

theorem set_tail (xs ys : List Value) (a b c : Value) (n : Nat) (hn : xs.length = n) (hy : ys.length = 3) : (((xs ++ ys).set n a).set (n + 1) b).set (n + 2) c = xs ++ [a, b, c] := by
  subst hn
  match ys, hy with
  | [y0, y1, y2], _ =>
    rw [List.set_append_right _ _ (Nat.le_refl _), List.set_append_right _ _ (Nat.le_add_right _ _), List.set_append_right _ _ (Nat.le_add_right _ _)]
    simp
/-- .. AND THE MARK BEHIND IT. -/
theorem LE.mark {lo : Nat} {W : World} {C : Nat} {al : List Am} {ys : List Value} (h : W.ownsRow lo 34 3 (.slice (some ⟨C, 0, none⟩) (al.length + 1) (al.length + 1)) (al.length + 1) (al.flatMap amCells ++ ys)) (hy : ys.length = 3) :
    LE lo (((W.setCell ⟨C, al.length * 3, none⟩ (.string ⟨#[77, 65, 82, 75]⟩)).setCell ⟨C, al.length * 3 + 1, none⟩ (.int .i64 77)).setCell ⟨C, al.length * 3 + 2, none⟩ (.string ⟨#[]⟩)) (.slice (some ⟨C, 0, none⟩) al.length (al.length + 1)) al := by
  have h3 := ownsRow_set (ownsRow_set (ownsRow_set h (al.length * 3) (.string ⟨#[77, 65, 82, 75]⟩)) (al.length * 3 + 1) (.int .i64 77)) (al.length * 3 + 2) (.string ⟨#[]⟩)
  rw [set_tail _ _ _ _ _ _ (flatA_len al) hy] at h3
  refine ⟨C, rfl, ?_⟩
  unfold OwnA
  rw [List.flatMap_append, show (al ++ [mk1 77]).length = al.length + 1 by simp]
  exact h3

end Go.Proofs.YtfembjjpmjfklaaDoor
