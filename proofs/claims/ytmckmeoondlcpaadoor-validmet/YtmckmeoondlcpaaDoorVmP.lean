import Derived.Test.YtmckmeoondlcpaaDoorVmO
import Derived.Test.YtmckmeoondlcpaaDoorRows
import Derived.Deep.Strs
import Derived.MapViews
import Derived.DeepKeys2
import Derived.ProofKit
import Derived.OpenShut
import Derived.ShutString
import Derived.ChangeOld
import Derived.SizedLaws
import Derived.ChangeSlices
import Derived.WideShapes
namespace Go.Proofs.YtmckmeoondlcpaaDoor
open Go.ChangeShapes Go.WideShapes Go.ChangeAt Go.RowKit

theorem plain_a {w : World} {a : Addr} {v : Value} (h : w.cell? a = some v) : a = ⟨a.block, a.off, none⟩ ∧ a.block < w.heap.size := by
  have hs := World.cell?_spot h
  have hb := World.block_lt_of_cell? _ _ h
  obtain ⟨b, o, sp⟩ := a
  have e : sp = none := hs
  subst e
  exact ⟨rfl, hb⟩
theorem add_zero' (a : Addr) : a.add 0 = a := by unfold Addr.add; simp
theorem add_plain' (b o i : Nat) : (⟨b, o, none⟩ : Addr).add i = ⟨b, o + i, none⟩ := by unfold Addr.add; split <;> simp_all
theorem plain_i {w : World} {a : Addr} {i : Nat} {v : Value} (ha : a = ⟨a.block, a.off, none⟩) (h : w.cell? (a.add i) = some v) : w.cell? ⟨a.block, a.off + i, none⟩ = some v := by
  rw [ha, add_plain'] at h
  exact h
theorem maxLen_eq : maxLen = 9223372036854775807 := by decide
theorem cell_oneCell {P : Program} {w : World} {r : Reach} {b : Nat} {t : TypeId} {v : Value} (h : Cell.okWide P w r b t v) : v.oneCell' = true := by
  cases v with
  | agg a =>
    rcases hu : P.underlying t with _ | u
    · simp [Cell.okWide, Cell.ok, hu] at h
    · cases u <;> simp [Cell.okWide, Cell.ok, hu] at h
  | tuple a =>
    rcases hu : P.underlying t with _ | u
    · simp [Cell.okWide, Cell.ok, hu] at h
    · cases u <;> simp [Cell.okWide, Cell.ok, hu] at h
  | _ => rfl
theorem row_one {P : Program} {w : World} {r : Reach} {b : Nat} {t : TypeId} {cs : Array Value} (h : Row.okWide P w r b t cs) : ∀ v ∈ cs.toList, v.oneCell' = true := by
  obtain ⟨ts, _, _, h3⟩ := h
  intro v hv
  obtain ⟨i, hi, rfl⟩ := List.getElem_of_mem hv
  obtain ⟨u, _, h4⟩ := h3 i (cs.toList[i]) (by rw [← Array.getElem?_toList]; exact List.getElem?_eq_getElem hi)
  exact cell_oneCell h4

/-- WEIGHTS. -/
theorem bulkAll {H : Type} : ∀ L : List (DataW H), Rows.uptoBulkAll L = (L.map Rows.uptoBulk).sum
  | [] => by simp [Rows.uptoBulkAll]
  | d :: r => by rw [Rows.uptoBulkAll, bulkAll r, List.map_cons, List.sum_cons]
theorem le_sum {f : Nat → Nat} : ∀ n i, i < n → f i ≤ ((List.range n).map f).sum
  | 0, i, h => by omega
  | n + 1, i, h => by
    simp only [List.range_succ, List.map_append, List.map_cons, List.map_nil, List.sum_append, List.sum_cons, List.sum_nil]
    by_cases e : i < n
    · have := le_sum (f := f) n i e; omega
    · obtain rfl : i = n := by omega
      omega
theorem len_sum {f : Nat → Nat} : ∀ n, (∀ i, 1 ≤ f i) → n ≤ ((List.range n).map f).sum
  | 0, _ => by simp
  | n + 1, h => by
    have := len_sum (f := f) n h
    have h1 := h n
    simp only [List.range_succ, List.map_append, List.map_cons, List.map_nil, List.sum_append, List.sum_cons, List.sum_nil]
    omega
theorem bulk_pos {H : Type} (d : DataW H) : 1 ≤ Rows.uptoBulk d := by
  cases d with
  | lit l => cases l <;> simp [Rows.uptoBulk]
  | _ => simp [Rows.uptoBulk]
theorem bulk_slice {H : Type} (D : Nat → DataW H) (n : Nat) (r : List (DataW H)) : n ≤ Rows.uptoBulk (.slice ((List.range n).map D) r) ∧ ∀ i, i < n → Rows.uptoBulk (D i) ≤ Rows.uptoBulk (.slice ((List.range n).map D) r) := by
  rw [Rows.uptoBulk, bulkAll, List.map_map]
  have h1 := len_sum (f := fun i => Rows.uptoBulk (D i)) n (fun i => bulk_pos _)
  refine ⟨Nat.le_trans h1 (Nat.le_trans (Nat.le_add_right _ _) (Nat.le_add_right _ _)), fun i hi => ?_⟩
  have h2 := le_sum (f := fun i => Rows.uptoBulk (D i)) n i hi
  exact Nat.le_trans h2 (Nat.le_trans (Nat.le_add_right _ _) (Nat.le_add_right _ _))
theorem mem_bulk {H : Type} : ∀ (L : List (DataW H)) (d : DataW H), d ∈ L → Rows.uptoBulk d ≤ Rows.uptoBulkAll L
  | [], _, h => by cases h
  | b :: r, a, h => by
    rw [Rows.uptoBulkAll]
    rcases List.mem_cons.1 h with rfl | h
    · omega
    · have := mem_bulk r a h; omega

/-- LITERALS OF TEXTS AND NUMBERS. -/
def flatL : Lit → Bool
  | .string _ => true
  | .int _ _ => true
  | _ => false
/-- A TYPE OF TEXTS AND NUMBERS ALONE. -/
def nbT (P : Program) : Nat → TypeId → Bool
  | 0, _ => false
  | d + 1, t => match P.underlying t with
    | some (.int _) => true
    | some .string => true
    | some (.array _ e) => nbT P d e
    | some (.struct fs) => fs.toList.all fun f => nbT P d f.type
    | _ => false
theorem mapM_mem {α β : Type} (f : α → Option β) : ∀ (L : List α) (ys : List β), L.mapM f = some ys → ∀ y ∈ ys, ∃ x ∈ L, f x = some y
  | [], ys, h, y, hy => by simp at h; subst h; cases hy
  | a :: L, ys, h, y, hy => by
    rw [List.mapM_cons] at h
    simp only [bind, Option.bind_eq_some_iff, pure, Option.some.injEq] at h
    obtain ⟨b, hb, bs, hbs, rfl⟩ := h
    rcases List.mem_cons.1 hy with rfl | hy
    · exact ⟨a, List.mem_cons_self, hb⟩
    · obtain ⟨x, hx, hfx⟩ := mapM_mem f L bs hbs y hy
      exact ⟨x, List.mem_cons_of_mem _ hx, hfx⟩
theorem nb_flat {P : Program} : ∀ (d : Nat) (t : TypeId) (cs : List Value) (l : List Lit), nbT P d t = true → P.keyLits d t cs = some l → ∀ c ∈ l, flatL c = true
  | 0, _, _, _, h, _ => by simp [nbT] at h
  | d + 1, t, cs, l, hn, h => by
    unfold nbT at hn
    intro c hc
    cases hu : P.underlying t with
    | none => rw [hu] at hn; cases hn
    | some u =>
      rw [hu] at hn
      cases u with
      | int q =>
        obtain ⟨n, hl⟩ := keyLits_int hu h
        rcases hl with rfl | ⟨rfl, _⟩
        all_goals (simp at hc; subst hc; rfl)
      | string =>
        obtain ⟨n, hl⟩ := keyLits_string hu h
        rcases hl with rfl | ⟨rfl, _⟩
        all_goals (simp at hc; subst hc; rfl)
      | array n e =>
        unfold Program.keyLits at h
        rw [hu] at h
        simp only at hn h
        split at h
        · obtain ⟨ls, h1, rfl⟩ := Option.map_eq_some_iff.1 h
          obtain ⟨m, hm, hcm⟩ := List.mem_flatten.1 hc
          obtain ⟨i, _, hi⟩ := mapM_mem _ _ _ h1 m hm
          exact nb_flat d e _ _ hn hi c hcm
        · cases h
      | struct fs =>
        unfold Program.keyLits at h
        rw [hu] at h
        simp only at hn h
        split at h
        · obtain ⟨ls, h1, rfl⟩ := Option.map_eq_some_iff.1 h
          obtain ⟨m, hm, hcm⟩ := List.mem_flatten.1 hc
          obtain ⟨f, hf, hi⟩ := mapM_mem _ _ _ h1 m hm
          exact nb_flat d f.type _ _ (List.all_eq_true.1 hn f hf) hi c hcm
        · cases h
      | _ => simp at hn

theorem all_mem {H : Type} {P : Program} {e : TypeId} {n : Nat} {d : DataW H} (hn : n ∈ d.weights P e) : ∀ L : List (DataW H), d ∈ L → n ∈ DataW.weightsAll P e L
  | [], h => by cases h
  | a :: r, h => by
    rw [DataW.weightsAll]
    rcases List.mem_cons.1 h with rfl | h
    · exact List.mem_append_left _ hn
    · exact List.mem_append_right _ (all_mem hn r h)
theorem slice_w {H : Type} {P : Program} {t e : TypeId} {D : Nat → DataW H} {len : Nat} {sp : List (DataW H)} {B : Nat} (ht : P.underlying t = some (.slice e)) (hB : ∀ n ∈ (DataW.slice ((List.range len).map D) sp).weights P t, n ≤ B) : len * P.bytesOf e ≤ B ∧ ∀ i, i < len → ∀ n ∈ (D i).weights P e, n ≤ B := by
  rw [DataW.weights, ht] at hB
  refine ⟨?_, fun i hi n hn => hB n (List.mem_cons_of_mem _ (List.mem_append_left _ (all_mem hn _ (List.mem_map.2 ⟨i, List.mem_range.2 hi, rfl⟩))))⟩
  have := hB _ List.mem_cons_self
  rw [List.length_map, List.length_range] at this
  exact Nat.le_trans (Nat.mul_le_mul_right _ (Nat.le_add_right _ _)) this
theorem field_w {H : Type} {P : Program} {t : TypeId} {fs : Array Field} {xs : List (DataW H × List MemPlace)} {B : Nat} (ht : P.underlying t = some (.struct fs)) (hB : ∀ n ∈ (DataW.agg (xs.map (·.1))).weights P t, n ≤ B) {i : Nat} {f : Field} (hf : fs.toList[i]? = some f) (hi : i < xs.length) : ∀ n ∈ (xs[i]).1.weights P f.type, n ≤ B := fun n hn => by
  refine hB n ?_
  rw [DataW.weights, ht]
  exact DataW.weights_mem_each (j := i) (t := f.type) (d := (xs[i]).1) (by rw [List.getElem?_map, hf]; rfl) (by rw [List.getElem?_map, List.getElem?_eq_getElem hi]; rfl) n hn
section
variable {H : Type} {enc : TypeId × Value → H} {w : World} {base : Nat} {spare : Nat → Bool} {held : Bool} {fuel : Nat} {v : Value} {x : DataW H × List MemPlace}

theorem open_texts (h : DataW.trod enc Tryd.prog w base spare held fuel 34 [v] = some x) (hB : ∀ n ∈ x.1.weights Tryd.prog 34, n ≤ 140737488351232) : ∃ pl : List ByteArray, Strs w v pl ∧ pl.length ≤ 8796093021952 := by
  rcases Go.Deep.open_strs Tryd.underlying34 Tryd.underlying9 (by kernel_rfl) h with ⟨h1, rfl⟩ | ⟨a, len, cap, m, Sx, h1, hb, hl, hm, hmm, rfl, hx⟩
  · obtain rfl : v = .slice none 0 0 := by simpa using h1
    exact ⟨[], ⟨none, 0, rfl, by simp, fun i hi => absurd hi (Nat.not_lt_zero _)⟩, by simp⟩
  · obtain rfl : v = .slice (some a) len cap := by simpa using h1
    have hlm : len ≤ m := by rw [hmm]; split <;> omega
    have hmx := maxLen_eq
    refine ⟨(List.range len).map Sx, ⟨some a, cap, by simp, by simp; omega, fun i hi => ?_⟩, ?_⟩
    · have hi' : i < len := by simpa using hi
      have h4 := (hx 0 (by omega)).1
      rw [add_zero'] at h4
      obtain ⟨e1, e2⟩ := plain_a h4
      refine ⟨a.block, a.off, by rw [← e1], e2, ?_⟩
      rw [plain_i e1 (hx i (by omega)).1]
      simp
    · have hS := (slice_w Tryd.underlying34 hB).1
      rw [show Tryd.prog.bytesOf 9 = 16 by kernel_rfl] at hS
      have hl16 : len ≤ 8796093021952 := by omega
      simpa using hl16

set_option maxRecDepth 100000 in
theorem open_atoms {t : TypeId} (ht : Tryd.prog.underlying t = some (.slice 33)) (h : DataW.trod enc Tryd.prog w base spare held fuel t [v] = some x) (hB : ∀ n ∈ x.1.weights Tryd.prog t, n ≤ 140737488351232) : ∃ al : List At, Ats w v al ∧ al.length ≤ 3518437208780 ∧ ∀ i (h : i < al.length), al[i].v.size ≤ maxLen := by
  rcases Go.Deep.open_slice ht h with ⟨h1, rfl⟩ | ⟨a, len, cap, m, n, D, Pl, h1, hb, hl, hm, hmm, rfl, hx⟩
  · obtain rfl : v = .slice none 0 0 := by simpa using h1
    exact ⟨[], ⟨none, 0, rfl, by simp, fun i hi => absurd hi (Nat.not_lt_zero _)⟩, by simp, fun i hi => absurd hi (Nat.not_lt_zero _)⟩
  · obtain rfl : v = .slice (some a) len cap := by simpa using h1
    have hlm : len ≤ m := by rw [hmm]; split <;> omega
    have hmx := maxLen_eq
    have cA : Tryd.prog.cellsOf 33 = 3 := by kernel_rfl
    have each0 : 0 < len → a = ⟨a.block, a.off, none⟩ ∧ a.block < w.heap.size := fun hi => by
      obtain ⟨cs', h2, h3⟩ := hx 0 (by omega)
      rw [cA] at h2
      obtain ⟨_, hlen, hcell⟩ := World.cells?_some h2
      have k0 := hcell 0 (by omega)
      rw [Nat.zero_mul, add_zero', add_zero', List.getElem?_eq_getElem (by omega)] at k0
      exact plain_a k0
    have each : ∀ i, i < len → ∃ q : At, w.cell? ⟨a.block, a.off + i * 3, none⟩ = some (.string q.n) ∧ w.cell? ⟨a.block, a.off + i * 3 + 1, none⟩ = some (.int .i64 q.op) ∧ w.cell? ⟨a.block, a.off + i * 3 + 2, none⟩ = some (.string q.v) ∧ q.v.size ≤ maxLen := fun i hi => by
      obtain ⟨cs', h2, h3⟩ := hx i (by omega)
      rw [cA] at h2
      obtain ⟨_, hlen, hcell⟩ := World.cells?_some h2
      match cs', hlen with
      | [c0, c1, c2], _ =>
        obtain ⟨xs, n', _, hx', hl', hlen', hfs⟩ := DataW.trod_struct Tryd.underlying33 h3
        match xs, hlen' with
        | [y0, y1, y2], _ =>
          have g0 := hfs 0 _ rfl
          have g1 := hfs 1 _ rfl
          have g2 := hfs 2 _ rfl
          simp [show Tryd.prog.cellsOf 9 = 1 by kernel_rfl, show Tryd.prog.cellsOf 3 = 1 by kernel_rfl] at g0 g1 g2
          obtain ⟨e, e0, rfl, z0⟩ := DataW.trod_string Tryd.underlying9 g0
          obtain ⟨o, e1, rfl, z1⟩ := DataW.trod_int Tryd.underlying3 g1
          obtain ⟨r, e2, rfl, z2⟩ := DataW.trod_string Tryd.underlying9 g2
          simp at e0 e1 e2
          subst e0 e1 e2
          have k0 := hcell 0 (by omega)
          have k1 := hcell 1 (by omega)
          have k2 := hcell 2 (by omega)
          rw [Go.Deep.add_add] at k0 k1 k2
          simp only [List.getElem?_cons_zero, List.getElem?_cons_succ] at k0 k1 k2
          obtain ⟨p1, p2⟩ := each0 (by omega)
          exact ⟨⟨e, o, r⟩, plain_i p1 k0, plain_i p1 k1, plain_i p1 k2, z2⟩
    have : Inhabited At := ⟨⟨.empty, 0, .empty⟩⟩
    obtain ⟨q, hq⟩ := Go.Deep.choose_lt each
    have hS := (slice_w ht hB).1
    rw [show Tryd.prog.bytesOf 33 = 40 by kernel_rfl] at hS
    have hbl : len ≤ 3518437208780 := by omega
    refine ⟨(List.range len).map q, ⟨some a, cap, by simp, by simp; omega, fun i hi => ?_⟩, by simpa using hbl, fun i hi => ?_⟩
    · have hi' : i < len := by simpa using hi
      obtain ⟨p1, p2⟩ := each0 (by omega)
      obtain ⟨p3, p4, p5, _⟩ := hq i hi'
      refine ⟨a.block, a.off, by rw [← p1], p2, ?_, ?_, ?_⟩
      · rw [p3]; simp
      · rw [p4]; simp
      · rw [p5]; simp
    · have hi' : i < len := by simpa using hi
      have := (hq i hi').2.2.2
      simpa using this

theorem open_clauses (h : DataW.trod enc Tryd.prog w base spare held fuel 26 [v] = some x) (hB : ∀ n ∈ x.1.weights Tryd.prog 26, n ≤ 140737488351232) : ∃ cl : List (List At), Cls w v cl ∧ cl.length ≤ 5864062014634 ∧ ∀ al ∈ cl, al.length ≤ 3518437208780 := by
  rcases Go.Deep.open_slice1 Tryd.underlying26 (by kernel_rfl) h with ⟨h1, rfl⟩ | ⟨a, len, cap, m, n, V, D, Pl, h1, hb, hl, hm, hmm, rfl, hx⟩
  · obtain rfl : v = .slice none 0 0 := by simpa using h1
    exact ⟨[], ⟨none, 0, rfl, fun h => absurd h (Nat.not_lt_zero _)⟩, by simp, fun al h => by cases h⟩
  · obtain rfl : v = .slice (some a) len cap := by simpa using h1
    have hlm : len ≤ m := by rw [hmm]; split <;> omega
    have hS := slice_w Tryd.underlying26 hB
    rw [show Tryd.prog.bytesOf 24 = 24 by kernel_rfl] at hS
    have hbl : len ≤ 5864062014634 := by have := hS.1; omega
    have each : ∀ i, i < len → ∃ al : List At, Ats w (V i) al ∧ al.length ≤ 3518437208780 ∧ ∀ k (h : k < al.length), al[k].v.size ≤ maxLen := fun i hi => open_atoms Tryd.underlying24 (hx i (by omega)).2 (hS.2 i hi)
    obtain ⟨q, hq⟩ := Go.Deep.choose_lt each
    refine ⟨(List.range len).map q, ⟨some a, cap, by simp, fun h0 => ?_⟩, by simpa using hbl, fun al ha => ?_⟩
    · have h0' : 0 < len := by simpa using h0
      have h4 := (hx 0 (by omega)).1
      rw [add_zero'] at h4
      obtain ⟨e1, e2⟩ := plain_a h4
      refine ⟨a.block, a.off, by rw [← e1], e2, fun i al hi => ?_⟩
      rw [List.getElem?_map] at hi
      obtain ⟨k, hk, rfl⟩ := Option.map_eq_some_iff.1 hi
      obtain ⟨hk', hk2⟩ := List.getElem?_eq_some_iff.1 hk
      have hi' : i < len := by simpa using hk'
      obtain rfl : i = k := by simpa using hk2
      have := (hq i hi').1
      obtain ⟨xa, xc, e, z⟩ := this
      refine ⟨xa, xc, ?_, ⟨xa, xc, rfl, z⟩⟩
      rw [← e]
      exact plain_i e1 (hx i (by omega)).1
    · obtain ⟨i, hi, rfl⟩ := List.mem_map.1 ha
      have hi' : i < len := by simpa using hi
      exact (hq i hi').2.1

set_option maxRecDepth 100000 in
theorem open_files (h : DataW.trod enc Tryd.prog w base spare held fuel 35 [v] = some x) (hB : ∀ n ∈ x.1.weights Tryd.prog 35, n ≤ 140737488351232) : ∃ fl : List (List Value), Fls w v fl ∧ fl.length ≤ 2513169434843 := by
  rcases Go.Deep.open_slice Tryd.underlying35 h with ⟨h1, rfl⟩ | ⟨a, len, cap, m, n, D, Pl, h1, hb, hl, hm, hmm, rfl, hx⟩
  · obtain rfl : v = .slice none 0 0 := by simpa using h1
    exact ⟨[], ⟨none, 0, rfl, by simp, fun i hi => absurd hi (Nat.not_lt_zero _)⟩, by simp⟩
  · obtain rfl : v = .slice (some a) len cap := by simpa using h1
    have hlm : len ≤ m := by rw [hmm]; split <;> omega
    have hmx := maxLen_eq
    have cF : Tryd.prog.cellsOf 40 = 34 := by kernel_rfl
    have each0 : 0 < len → a = ⟨a.block, a.off, none⟩ ∧ a.block < w.heap.size := fun hi => by
      obtain ⟨cs', h2, h3⟩ := hx 0 (by omega)
      rw [cF] at h2
      obtain ⟨_, hlen, hcell⟩ := World.cells?_some h2
      have k0 := hcell 0 (by omega)
      rw [Nat.zero_mul, add_zero', add_zero', List.getElem?_eq_getElem (by omega)] at k0
      exact plain_a k0
    have each : ∀ i, i < len → ∃ q : List Value, isF q ∧ w.rangeAt a.block (a.off + i * 34) q := fun i hi => by
      obtain ⟨cs', h2, h3⟩ := hx i (by omega)
      rw [cF] at h2
      obtain ⟨_, hlen, hcell⟩ := World.cells?_some h2
      obtain ⟨k1, _⟩ := keyLits_of_trod 6 40 (by kernel_rfl) _ _ _ h3
      obtain ⟨p1, p2⟩ := each0 (by omega)
      refine ⟨cs', ⟨hlen, ⟨_, k1⟩, fun u hu => ?_⟩, fun j u hj => ?_⟩
      rotate_left
      · have hj' : j < 34 := by have h := (List.getElem?_eq_some_iff.1 hj).1; rw [← hlen]; exact h
        have k0 := hcell j (by omega)
        rw [Go.Deep.add_add, hj] at k0
        have := plain_i p1 k0
        rw [show a.off + i * 34 + j = a.off + (i * 34 + j) by omega]
        exact this
      · have e := cells_of_lits 6 40 (by kernel_rfl) 6 _ _ k1
        have hu' : u ∈ (D i).flat.map Lit.toCell := by rw [← e]; exact hu
        obtain ⟨l, hl2, rfl⟩ := List.mem_map.1 hu'
        have hf := nb_flat 6 40 _ _ (by kernel_rfl) k1 l hl2
        cases l <;> first | rfl | cases hf
    obtain ⟨q, hq⟩ := Go.Deep.choose_lt each
    refine ⟨(List.range len).map q, ⟨some a, cap, by simp, by simp; omega, fun i hi => ?_⟩, ?_⟩
    · have hi' : i < len := by simpa using hi
      obtain ⟨p1, p2⟩ := each0 (by omega)
      obtain ⟨p3, p4⟩ := hq i hi'
      refine ⟨by simpa using p3, a.block, a.off, by rw [← p1], p2, ?_⟩
      simpa using p4
    · have hS := (slice_w Tryd.underlying35 hB).1
      rw [show Tryd.prog.bytesOf 40 = 56 by kernel_rfl] at hS
      have hl56 : len ≤ 2513169434843 := by omega
      simpa using hl56

theorem cellsPkg : Tryd.prog.cellsOf 38 = 43 := by kernel_rfl

set_option maxRecDepth 100000 in
theorem open_pkg {cs : List Value} {d : DataW H} {pl : List MemPlace} (hlen0 : cs.length = 43) (hf : DataW.trod enc Tryd.prog w base spare held fuel 38 cs = some (d, pl)) (hB : ∀ n ∈ d.weights Tryd.prog 38, n ≤ 140737488351232) :
    ∃ (p : Pk) (v3 v4 v5 v6 v7 : Value), PkC cs p v3 v4 v5 v6 v7 ∧ PkL w p v3 v4 v5 v6 v7 ∧ PkZ p ∧ p.vr.size ≤ maxLen := by
  obtain ⟨xs, n, _, hx, hl, hlen, hfs⟩ := DataW.trod_struct Tryd.underlying38 hf
  have hxl : xs.length = 12 := hlen
  have hd : d = .agg (xs.map (·.1)) := (Prod.mk.inj hx).1
  have hBd : ∀ n ∈ (DataW.agg (xs.map (·.1))).weights Tryd.prog 38, n ≤ 140737488351232 := fun n hn => hB n (by rw [hd]; exact hn)
  have hw3 := field_w (i := 3) Tryd.underlying38 hBd rfl (by omega)
  have hw4 := field_w (i := 4) Tryd.underlying38 hBd rfl (by omega)
  have hw5 := field_w (i := 5) Tryd.underlying38 hBd rfl (by omega)
  have hw6 := field_w (i := 6) Tryd.underlying38 hBd rfl (by omega)
  have hw7 := field_w (i := 7) Tryd.underlying38 hBd rfl (by omega)
  have t0 : ∀ k, k < 43 → (cs.drop k).take 1 = [cs.getD k (.bool false)] := fun k hk => by
    rw [List.drop_eq_getElem_cons (show k < cs.length by omega), List.getD_eq_getElem?_getD, List.getElem?_eq_getElem (show k < cs.length by omega)]
    rfl
  have gk : ∀ k, k < 43 → cs[k]? = some (cs.getD k (.bool false)) := fun k hk => by
    simp only [List.getD, List.getElem?_eq_getElem (show k < cs.length by omega)]
    rfl
  have g0 := hfs 0 _ rfl
  have g1 := hfs 1 _ rfl
  have g2 := hfs 2 _ rfl
  have g3 := hfs 3 _ rfl
  have g4 := hfs 4 _ rfl
  have g5 := hfs 5 _ rfl
  have g6 := hfs 6 _ rfl
  have g7 := hfs 7 _ rfl
  have g8 := hfs 8 _ rfl
  have g9 := hfs 9 _ rfl
  have ga := hfs 10 _ rfl
  have gb := hfs 11 _ rfl
  change DataW.trod enc Tryd.prog w base spare held n 9 ((cs.drop 0).take (Tryd.prog.cellsOf 9)) = xs[0]? at g0
  change DataW.trod enc Tryd.prog w base spare held n 9 ((cs.drop 1).take (Tryd.prog.cellsOf 9)) = xs[1]? at g1
  change DataW.trod enc Tryd.prog w base spare held n 4 ((cs.drop 2).take (Tryd.prog.cellsOf 4)) = xs[2]? at g2
  change DataW.trod enc Tryd.prog w base spare held n 26 ((cs.drop 3).take (Tryd.prog.cellsOf 26)) = xs[3]? at g3
  change DataW.trod enc Tryd.prog w base spare held n 26 ((cs.drop 4).take (Tryd.prog.cellsOf 26)) = xs[4]? at g4
  change DataW.trod enc Tryd.prog w base spare held n 23 ((cs.drop 5).take (Tryd.prog.cellsOf 23)) = xs[5]? at g5
  change DataW.trod enc Tryd.prog w base spare held n 34 ((cs.drop 6).take (Tryd.prog.cellsOf 34)) = xs[6]? at g6
  change DataW.trod enc Tryd.prog w base spare held n 35 ((cs.drop 7).take (Tryd.prog.cellsOf 35)) = xs[7]? at g7
  change DataW.trod enc Tryd.prog w base spare held n 9 ((cs.drop 8).take (Tryd.prog.cellsOf 9)) = xs[8]? at g8
  change DataW.trod enc Tryd.prog w base spare held n 3 ((cs.drop 9).take (Tryd.prog.cellsOf 3)) = xs[9]? at g9
  change DataW.trod enc Tryd.prog w base spare held n 36 ((cs.drop 10).take (Tryd.prog.cellsOf 36)) = xs[10]? at ga
  change DataW.trod enc Tryd.prog w base spare held n 9 ((cs.drop 42).take (Tryd.prog.cellsOf 9)) = xs[11]? at gb
  rw [show Tryd.prog.cellsOf 9 = 1 by kernel_rfl] at g0 g1 g8 gb
  rw [show Tryd.prog.cellsOf 4 = 1 by kernel_rfl] at g2
  rw [show Tryd.prog.cellsOf 26 = 1 by kernel_rfl] at g3 g4
  rw [show Tryd.prog.cellsOf 23 = 1 by kernel_rfl] at g5
  rw [show Tryd.prog.cellsOf 34 = 1 by kernel_rfl] at g6
  rw [show Tryd.prog.cellsOf 35 = 1 by kernel_rfl] at g7
  rw [show Tryd.prog.cellsOf 3 = 1 by kernel_rfl] at g9
  rw [show Tryd.prog.cellsOf 36 = 32 by kernel_rfl] at ga
  rw [t0 0 (by omega), List.getElem?_eq_getElem (show 0 < xs.length by omega)] at g0
  rw [t0 1 (by omega), List.getElem?_eq_getElem (show 1 < xs.length by omega)] at g1
  rw [t0 2 (by omega), List.getElem?_eq_getElem (show 2 < xs.length by omega)] at g2
  rw [t0 3 (by omega), List.getElem?_eq_getElem (show 3 < xs.length by omega)] at g3
  rw [t0 4 (by omega), List.getElem?_eq_getElem (show 4 < xs.length by omega)] at g4
  rw [t0 5 (by omega), List.getElem?_eq_getElem (show 5 < xs.length by omega)] at g5
  rw [t0 6 (by omega), List.getElem?_eq_getElem (show 6 < xs.length by omega)] at g6
  rw [t0 7 (by omega), List.getElem?_eq_getElem (show 7 < xs.length by omega)] at g7
  rw [t0 8 (by omega), List.getElem?_eq_getElem (show 8 < xs.length by omega)] at g8
  rw [t0 9 (by omega), List.getElem?_eq_getElem (show 9 < xs.length by omega)] at g9
  rw [List.getElem?_eq_getElem (show 10 < xs.length by omega)] at ga
  rw [t0 42 (by omega), List.getElem?_eq_getElem (show 11 < xs.length by omega)] at gb
  obtain ⟨nm, e0, _, _⟩ := DataW.trod_string Tryd.underlying9 g0
  obtain ⟨vr, e1, _, zv⟩ := DataW.trod_string Tryd.underlying9 g1
  obtain ⟨es, e2, _⟩ := DataW.trod_bool Tryd.underlying4 g2
  have b3 := hw3
  have b4 := hw4
  have b5 := hw5
  have b6 := hw6
  have b7 := hw7
  obtain ⟨dp, L3, z3, y3⟩ := open_clauses g3 b3
  obtain ⟨pr, L4, z4, y4⟩ := open_clauses g4 b4
  obtain ⟨cf, L5, z5, _⟩ := open_atoms Tryd.underlying23 g5 b5
  obtain ⟨pv, L6, z6⟩ := open_texts g6 b6
  obtain ⟨fs, L7, z7⟩ := open_files g7 b7
  obtain ⟨ar, e8, _, _⟩ := DataW.trod_string Tryd.underlying9 g8
  obtain ⟨sz, e9, _, _⟩ := DataW.trod_int Tryd.underlying3 g9
  obtain ⟨ka, _⟩ := keyLits_of_trod 6 36 (by kernel_rfl) _ _ _ ga
  obtain ⟨sy, eb, _, _⟩ := DataW.trod_string Tryd.underlying9 gb
  have hl32 : ((cs.drop 10).take 32).length = 32 := by simp only [List.length_take, List.length_drop]; omega
  have ho : ∀ u ∈ (cs.drop 10).take 32, u.oneCell' = true := fun u hu => by
    have e := cells_of_lits 6 36 (by kernel_rfl) 6 _ _ ka
    have hu' : u ∈ xs[10].1.flat.map Lit.toCell := by rw [← e]; exact hu
    obtain ⟨l, hl2, rfl⟩ := List.mem_map.1 hu'
    have hf := nb_flat 6 36 _ _ (by kernel_rfl) ka l hl2
    cases l <;> first | rfl | cases hf
  have c0 : cs[0]? = some (.string nm) := by rw [gk 0 (by omega)]; simpa using e0
  have c1 : cs[1]? = some (.string vr) := by rw [gk 1 (by omega)]; simpa using e1
  have c2 : cs[2]? = some (.bool es) := by rw [gk 2 (by omega)]; simpa using e2
  have c8 : cs[8]? = some (.string ar) := by rw [gk 8 (by omega)]; simpa using e8
  have c9 : cs[9]? = some (.int .i64 sz) := by rw [gk 9 (by omega)]; simpa using e9
  have c42 : cs[42]? = some (.string sy) := by rw [gk 42 (by omega)]; simpa using eb
  have cm : ∀ j x, ((cs.drop 10).take 32)[j]? = some x → cs[10 + j]? = some x := fun j x hj => by
    have hj' : j < 32 := by have h := (List.getElem?_eq_some_iff.1 hj).1; rw [← hl32]; exact h
    rw [List.getElem?_take_of_lt hj', List.getElem?_drop] at hj
    exact hj
  have o3 : (cs.getD 3 (.bool false)).oneCell' = true := by obtain ⟨_, _, e, _⟩ := L3; rw [e]; rfl
  have o4 : (cs.getD 4 (.bool false)).oneCell' = true := by obtain ⟨_, _, e, _⟩ := L4; rw [e]; rfl
  have o5 : (cs.getD 5 (.bool false)).oneCell' = true := by obtain ⟨_, _, e, _⟩ := L5; rw [e]; rfl
  have o6 : (cs.getD 6 (.bool false)).oneCell' = true := by obtain ⟨_, _, e, _⟩ := L6; rw [e]; rfl
  have o7 : (cs.getD 7 (.bool false)).oneCell' = true := by obtain ⟨_, _, e, _⟩ := L7; rw [e]; rfl
  have one : ∀ x ∈ cs, x.oneCell' = true := fun x hx => by
    obtain ⟨j, hj, rfl⟩ := List.mem_iff_getElem.1 hx
    have hg := List.getElem?_eq_getElem hj
    by_cases h10 : 10 ≤ j ∧ j < 42
    · refine ho _ ?_
      refine List.mem_of_getElem? (i := j - 10) ?_
      rw [List.getElem?_take_of_lt (by omega), List.getElem?_drop, show 10 + (j - 10) = j by omega]
      exact hg
    · have hjs : j = 0 ∨ j = 1 ∨ j = 2 ∨ j = 3 ∨ j = 4 ∨ j = 5 ∨ j = 6 ∨ j = 7 ∨ j = 8 ∨ j = 9 ∨ j = 42 := by omega
      rcases hjs with rfl | rfl | rfl | rfl | rfl | rfl | rfl | rfl | rfl | rfl | rfl
      · rw [c0] at hg; rw [← Option.some.inj hg]; rfl
      · rw [c1] at hg; rw [← Option.some.inj hg]; rfl
      · rw [c2] at hg; rw [← Option.some.inj hg]; rfl
      · rw [gk 3 (by omega)] at hg; rw [← Option.some.inj hg]; exact o3
      · rw [gk 4 (by omega)] at hg; rw [← Option.some.inj hg]; exact o4
      · rw [gk 5 (by omega)] at hg; rw [← Option.some.inj hg]; exact o5
      · rw [gk 6 (by omega)] at hg; rw [← Option.some.inj hg]; exact o6
      · rw [gk 7 (by omega)] at hg; rw [← Option.some.inj hg]; exact o7
      · rw [c8] at hg; rw [← Option.some.inj hg]; rfl
      · rw [c9] at hg; rw [← Option.some.inj hg]; rfl
      · rw [c42] at hg; rw [← Option.some.inj hg]; rfl
  refine ⟨⟨nm, vr, es, dp, pr, cf, pv, fs, ar, sz, (cs.drop 10).take 32, sy⟩, _, _, _, _, _, ⟨hlen0, one, c0, c1, c2, gk 3 (by omega), gk 4 (by omega), gk 5 (by omega), gk 6 (by omega), gk 7 (by omega), c8, c9, cm, c42⟩, ⟨L3, L4, L5, L6, L7⟩, ⟨?_, fun al ha => ?_, ?_, fun al ha => ?_, ?_, ?_, ?_, ⟨hl32, ⟨_, ka⟩, ho⟩⟩, zv⟩
  · exact Nat.le_trans z3 (by omega)
  · exact Nat.le_trans (y3 al ha) (by omega)
  · exact Nat.le_trans z4 (by omega)
  · exact Nat.le_trans (y4 al ha) (by omega)
  · exact Nat.le_trans z5 (by omega)
  · exact Nat.le_trans z6 (by omega)
  · exact Nat.le_trans z7 (by omega)

set_option maxRecDepth 100000 in
theorem open_pkgs (h : DataW.trod enc Tryd.prog w base spare held fuel 22 [v] = some x) (hB : ∀ n ∈ x.1.weights Tryd.prog 22, n ≤ 140737488351232) : ∃ ps : List Pk, Pkl w v ps ∧ ps.length ≤ 606627104962 ∧ (∀ p ∈ ps, PkZ p) ∧ ∀ p ∈ ps, p.vr.size ≤ maxLen := by
  rcases Go.Deep.open_slice Tryd.underlying22 h with ⟨h1, rfl⟩ | ⟨a, len, cap, m, n, D, Pl, h1, hb, hl, hm, hmm, rfl, hx⟩
  · obtain rfl : v = .slice none 0 0 := by simpa using h1
    exact ⟨[], ⟨none, 0, rfl, fun h => absurd h (Nat.not_lt_zero _)⟩, by simp, fun p hp => (by cases hp), fun p hp => (by cases hp)⟩
  · obtain rfl : v = .slice (some a) len cap := by simpa using h1
    have hlm : len ≤ m := by rw [hmm]; split <;> omega
    have hS := slice_w Tryd.underlying22 hB
    rw [show Tryd.prog.bytesOf 38 = 232 by kernel_rfl] at hS
    have hbl : len ≤ 606627104962 := by have := hS.1; omega
    have each0 : 0 < len → a = ⟨a.block, a.off, none⟩ ∧ a.block < w.heap.size := fun hi => by
      obtain ⟨cs', h2, h3⟩ := hx 0 (by omega)
      rw [cellsPkg] at h2
      obtain ⟨_, hlen, hcell⟩ := World.cells?_some h2
      have k0 := hcell 0 (by omega)
      rw [Nat.zero_mul, add_zero', add_zero', List.getElem?_eq_getElem (by omega)] at k0
      exact plain_a k0
    have each : ∀ i, i < len → ∃ p : Pk, (∃ cs d r c v f, w.rangeAt a.block (a.off + i * 43) cs ∧ PkC cs p d r c v f ∧ PkL w p d r c v f) ∧ PkZ p ∧ p.vr.size ≤ maxLen := fun i hi => by
      obtain ⟨cs', h2, h3⟩ := hx i (by omega)
      rw [cellsPkg] at h2
      obtain ⟨_, hlen, hcell⟩ := World.cells?_some h2
      obtain ⟨p1, p2⟩ := each0 (by omega)
      obtain ⟨p, v3, v4, v5, v6, v7, q1, q2, q3, q4⟩ := open_pkg hlen h3 (hS.2 i hi)
      refine ⟨p, ⟨cs', _, _, _, _, _, fun j u hj => ?_, q1, q2⟩, q3, q4⟩
      have hj' : j < 43 := by have h := (List.getElem?_eq_some_iff.1 hj).1; rw [← hlen]; exact h
      have k0 := hcell j (by omega)
      rw [Go.Deep.add_add, hj] at k0
      have := plain_i p1 k0
      rw [show a.off + i * 43 + j = a.off + (i * 43 + j) by omega]
      exact this
    have : Inhabited Pk := ⟨⟨.empty, .empty, false, [], [], [], [], [], .empty, 0, [], .empty⟩⟩
    obtain ⟨q, hq⟩ := Go.Deep.choose_lt each
    refine ⟨(List.range len).map q, ⟨some a, cap, by simp, fun h0 => ?_⟩, by simpa using hbl, fun p hp => ?_, fun p hp => ?_⟩
    · have h0' : 0 < len := by simpa using h0
      obtain ⟨p1, p2⟩ := each0 h0'
      refine ⟨a.block, a.off, by rw [← p1], p2, fun i p hi => ?_⟩
      rw [List.getElem?_map] at hi
      obtain ⟨k, hk, rfl⟩ := Option.map_eq_some_iff.1 hi
      obtain ⟨hk', hk2⟩ := List.getElem?_eq_some_iff.1 hk
      have hi' : i < len := by simpa using hk'
      obtain rfl : i = k := by simpa using hk2
      exact (hq i hi').1
    · obtain ⟨i, hi, rfl⟩ := List.mem_map.1 hp
      exact (hq i (by simpa using hi)).2.1
    · obtain ⟨i, hi, rfl⟩ := List.mem_map.1 hp
      exact (hq i (by simpa using hi)).2.2
end

end Go.Proofs.YtmckmeoondlcpaaDoor
