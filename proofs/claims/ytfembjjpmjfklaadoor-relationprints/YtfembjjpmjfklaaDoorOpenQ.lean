import Derived.Test.YtfembjjpmjfklaaDoorAtomV
import Derived.Test.YtfembjjpmjfklaaDoorLawQ
import Derived.SizedLaws
import Derived.Deep.Strs
namespace Go.Proofs.YtfembjjpmjfklaaDoor
open Go.ChangeShapes Go.WideShapes Go.ChangeAt Go.RowKit

theorem plain_a {w : World} {a : Addr} {v : Value} (h : w.cell? a = some v) : a = ⟨a.block, a.off, none⟩ ∧ a.block < w.heap.size := by
  have hs := World.cell?_spot h
  have hb := World.block_lt_of_cell? _ _ h
  obtain ⟨b, o, sp⟩ := a
  have e : sp = none := hs
  subst e
  exact ⟨rfl, hb⟩
theorem add_zero' (a : Addr) : a.add 0 = a := by unfold Addr.add; simp
theorem plain_i {w : World} {a : Addr} {i : Nat} {v : Value} (ha : a = ⟨a.block, a.off, none⟩) (h : w.cell? (a.add i) = some v) : w.cell? ⟨a.block, a.off + i, none⟩ = some v := by
  rw [ha, add_plain] at h
  exact h

theorem maxLen_eq : maxLen = 9223372036854775807 := by decide

/-- TEXTS THAT CAME IN. -/
theorem open_texts {H : Type} {enc : TypeId × Value → H} {w : World} {base : Nat} {spare : Nat → Bool} {held : Bool} {fuel : Nat} {v : Value} {x : DataW H × List MemPlace}
    (h : DataW.trod enc Tryd.prog w base spare held fuel 44 [v] = some x) :
    ∃ pl : List ByteArray, Sts w v pl ∧ (∀ j (hj : j < pl.length), pl[j].size ≤ maxLen) ∧ ((x.1 = .nil ∧ pl = []) ∨ ∃ e s, x.1 = .slice e s ∧ e.length = pl.length) := by
  rcases Go.Deep.open_strs Tryd.underlying44 Tryd.underlying9 cells9 h with ⟨h1, rfl⟩ | ⟨a, len, cap, m, Sx, h1, hb, hl, hm, hmm, rfl, hx⟩
  · obtain rfl : v = .slice none 0 0 := by simpa using h1
    exact ⟨[], ⟨none, 0, rfl, by simp, fun i hi => absurd hi (Nat.not_lt_zero _)⟩, fun i hi => absurd hi (Nat.not_lt_zero _), .inl ⟨rfl, rfl⟩⟩
  · obtain rfl : v = .slice (some a) len cap := by simpa using h1
    have hlm : len ≤ m := by rw [hmm]; split <;> omega
    have hmx := maxLen_eq
    refine ⟨(List.range len).map Sx, ⟨some a, cap, by simp, by simp; omega, fun i hi => ?_⟩, fun i hi => ?_, .inr ⟨_, _, rfl, by simp⟩⟩
    · have hi' : i < len := by simpa using hi
      obtain ⟨h2, h3⟩ := hx i (by omega)
      obtain ⟨h4, h5⟩ := hx 0 (by omega)
      rw [add_zero'] at h4
      obtain ⟨e1, e2⟩ := plain_a h4
      refine ⟨a.block, a.off, by rw [← e1], e2, ?_⟩
      rw [plain_i e1 h2]
      simp
    · have hi' : i < len := by simpa using hi
      simpa using (hx i (by omega)).2

set_option maxRecDepth 100000 in
/-- ATOMS THAT CAME IN (of a slice type whose elements are atoms). -/
theorem open_atoms {H : Type} {enc : TypeId × Value → H} {w : World} {base : Nat} {spare : Nat → Bool} {held : Bool} {fuel : Nat} {v : Value} {x : DataW H × List MemPlace} {t : TypeId} (ht : Tryd.prog.underlying t = some (.slice 34))
    (h : DataW.trod enc Tryd.prog w base spare held fuel t [v] = some x) : ∃ al : List Am, Ams w v al ∧ Szs al ∧ ((x.1 = .nil ∧ al = []) ∨ ∃ e s, x.1 = .slice e s ∧ e.length = al.length) := by
  rcases Go.Deep.open_slice ht h with ⟨h1, rfl⟩ | ⟨a, len, cap, m, n, D, Pl, h1, hb, hl, hm, hmm, rfl, hx⟩
  · obtain rfl : v = .slice none 0 0 := by simpa using h1
    exact ⟨[], ⟨none, 0, rfl, by simp, fun i hi => absurd hi (Nat.not_lt_zero _)⟩, fun i hi => absurd hi (Nat.not_lt_zero _), .inl ⟨rfl, rfl⟩⟩
  · obtain rfl : v = .slice (some a) len cap := by simpa using h1
    have hlm : len ≤ m := by rw [hmm]; split <;> omega
    have hmx := maxLen_eq
    have each0 : 0 < len → a = ⟨a.block, a.off, none⟩ ∧ a.block < w.heap.size := fun hi => by
      obtain ⟨cs', h2, h3⟩ := hx 0 (by omega)
      rw [cellsAtom] at h2
      obtain ⟨_, hlen, hcell⟩ := World.cells?_some h2
      have k0 := hcell 0 (by omega)
      rw [Nat.zero_mul, add_zero', add_zero', List.getElem?_eq_getElem (by omega)] at k0
      exact plain_a k0
    have each : ∀ i, i < len → ∃ q : Am, a = ⟨a.block, a.off, none⟩ ∧ a.block < w.heap.size ∧ w.cell? ⟨a.block, a.off + i * 3, none⟩ = some (.string q.n) ∧ w.cell? ⟨a.block, a.off + i * 3 + 1, none⟩ = some (.int .i64 q.op) ∧ w.cell? ⟨a.block, a.off + i * 3 + 2, none⟩ = some (.string q.v) ∧ q.n.size ≤ maxLen ∧ q.v.size ≤ maxLen := fun i hi => by
      obtain ⟨cs', h2, h3⟩ := hx i (by omega)
      rw [cellsAtom] at h2
      obtain ⟨_, hlen, hcell⟩ := World.cells?_some h2
      match cs', hlen with
      | [c0, c1, c2], _ =>
        obtain ⟨xs, n', _, hx', hl', hlen', hfs⟩ := DataW.trod_struct Tryd.underlying34 h3
        match xs, hlen' with
        | [y0, y1, y2], _ =>
          have g0 := hfs 0 _ rfl
          have g1 := hfs 1 _ rfl
          have g2 := hfs 2 _ rfl
          simp [cells9, cells3] at g0 g1 g2
          obtain ⟨e, e0, rfl, z0⟩ := DataW.trod_string Tryd.underlying9 g0
          obtain ⟨o, e1, rfl, z1⟩ := DataW.trod_int Tryd.underlying3 g1
          obtain ⟨r, e2, rfl, z2⟩ := DataW.trod_string Tryd.underlying9 g2
          simp at e0 e1 e2
          subst e0 e1 e2
          have k0 := hcell 0 (by omega)
          have k1 := hcell 1 (by omega)
          have k2 := hcell 2 (by omega)
          rw [Go.Deep.add_add] at k0 k1 k2
          simp only [List.getElem?_cons_zero, List.getElem?_cons_succ] at k0 k1 k2
          obtain ⟨p1, p2⟩ := each0 (by omega)
          exact ⟨⟨e, o, r⟩, p1, p2, plain_i p1 k0, plain_i p1 k1, plain_i p1 k2, z0, z2⟩
    have : Inhabited Am := ⟨⟨.empty, 0, .empty⟩⟩
    obtain ⟨q, hq⟩ := Go.Deep.choose_lt each
    refine ⟨(List.range len).map q, ⟨some a, cap, by simp, by simp; omega, fun i hi => ?_⟩, fun i hi => ?_, .inr ⟨_, _, rfl, by simp⟩⟩
    · have hi' : i < len := by simpa using hi
      obtain ⟨p1, p2, p3, p4, p5, p6⟩ := hq i hi'
      refine ⟨a.block, a.off, by rw [← p1], p2, ?_, ?_, ?_⟩
      · rw [p3]; simp
      · rw [p4]; simp
      · rw [p5]; simp
    · have hi' : i < len := by simpa using hi
      simpa using (hq i hi').2.2.2.2.2

theorem cellsC : Tryd.prog.cellsOf 52 = 1 := by kernel_rfl

/-- CLAUSES THAT CAME IN. -/
theorem open_clauses {H : Type} {enc : TypeId × Value → H} {w : World} {base : Nat} {spare : Nat → Bool} {held : Bool} {fuel : Nat} {v : Value} {x : DataW H × List MemPlace}
    (h : DataW.trod enc Tryd.prog w base spare held fuel 22 [v] = some x) : ∃ cl : List (List Am), Cls w v cl ∧ (∀ j (hj : j < cl.length), Szs cl[j]) ∧ ((x.1 = .nil ∧ cl = []) ∨ ∃ e s, x.1 = .slice e s ∧ e.length = cl.length ∧ ∀ i (h : i < cl.length), ∃ d, e[i]? = some d ∧ ((d = .nil ∧ cl[i] = []) ∨ ∃ e2 s2, d = .slice e2 s2 ∧ e2.length = cl[i].length)) := by
  rcases Go.Deep.open_slice1 Tryd.underlying22 cellsC h with ⟨h1, rfl⟩ | ⟨a, len, cap, m, n, V, D, Pl, h1, hb, hl, hm, hmm, rfl, hx⟩
  · obtain rfl : v = .slice none 0 0 := by simpa using h1
    exact ⟨[], ⟨none, 0, rfl, by simp, fun i hi => absurd hi (Nat.not_lt_zero _)⟩, fun i hi => absurd hi (Nat.not_lt_zero _), .inl ⟨rfl, rfl⟩⟩
  · obtain rfl : v = .slice (some a) len cap := by simpa using h1
    have hlm : len ≤ m := by rw [hmm]; split <;> omega
    have hmx := maxLen_eq
    have each : ∀ i, i < len → ∃ al : List Am, Ams w (V i) al ∧ Szs al ∧ ((D i = .nil ∧ al = []) ∨ ∃ e s, D i = .slice e s ∧ e.length = al.length) := fun i hi => open_atoms Tryd.underlying52 (hx i (by omega)).2
    obtain ⟨q, hq⟩ := Go.Deep.choose_lt each
    refine ⟨(List.range len).map q, ⟨some a, cap, by simp, by simp; omega, fun i hi => ?_⟩, fun i hi => ?_, .inr ⟨_, _, rfl, by simp, fun i hi => ?_⟩⟩
    · have hi' : i < len := by simpa using hi
      have h4 := (hx 0 (by omega)).1
      rw [add_zero'] at h4
      obtain ⟨e1, e2⟩ := plain_a h4
      refine ⟨a.block, a.off, V i, by rw [← e1], e2, plain_i e1 (hx i (by omega)).1, ?_⟩
      have := (hq i hi').1
      simpa using this
    · have hi' : i < len := by simpa using hi
      have := (hq i hi').2.1
      simpa using this
    · have hi' : i < len := by simpa using hi
      refine ⟨D i, by simp [hi'], ?_⟩
      have := (hq i hi').2.2
      simpa using this

theorem weightsAll_mem {H : Type} {P : Program} {t : TypeId} : ∀ {e : List (DataW H)} {i : Nat} {d : DataW H}, e[i]? = some d → ∀ n ∈ d.weights P t, n ∈ DataW.weightsAll P t e
  | [], i, d, h => by simp at h
  | a :: r, 0, d, h => by
    simp at h
    subst h
    intro n hn
    simp only [DataW.weightsAll]
    exact List.mem_append_left _ hn
  | a :: r, i + 1, d, h => by
    intro n hn
    simp only [DataW.weightsAll]
    exact List.mem_append_right _ (weightsAll_mem (by simpa using h) n hn)
theorem bytesA : Tryd.prog.bytesOf 34 = 40 := by kernel_rfl
theorem bytesC : Tryd.prog.bytesOf 52 = 24 := by kernel_rfl
theorem bytes9 : Tryd.prog.bytesOf 9 = 16 := by kernel_rfl
theorem sized_clause {H : Type} {ts : List TypeId} {ds : List (DataW H)} (h : (DataW.weightsEach Tryd.prog ts ds).all (· ≤ reachBytes) = true) {j : Nat} {e s e2 s2 : List (DataW H)} {i : Nat} (ht : ts[j]? = some 22) (hd : ds[j]? = some (.slice e s)) (h6 : e[i]? = some (.slice e2 s2)) :
    e2.length * 40 ≤ reachBytes := by
  have hw : ∀ n, n ∈ DataW.weights Tryd.prog 22 (DataW.slice (H := H) e s) → n ≤ reachBytes := fun n hn => by
    have := List.all_eq_true.1 h _ (DataW.weights_mem_each ht hd n hn)
    simpa using this
  have hm : (e2.length + s2.length) * Tryd.prog.bytesOf 34 ∈ DataW.weights Tryd.prog 22 (DataW.slice (H := H) e s) := by
    simp only [DataW.weights, Tryd.underlying22]
    refine List.mem_cons_of_mem _ (List.mem_append_left _ (weightsAll_mem h6 _ ?_))
    simp [DataW.weights, Tryd.underlying52]
  have := hw _ hm
  rw [bytesA] at this
  omega

end Go.Proofs.YtfembjjpmjfklaaDoor
