import Derived.Test.YtpakhjbaniapnaaKsY
import Derived.Test.YtpakhjbaniapnaaRows
import Derived.Deep.Strs
import Derived.MapViews
import Derived.DeepKeys2
import Derived.ProofKit
import Derived.OpenShut
import Derived.ShutString
import Derived.ChangeOld
import Derived.SizedLaws
import Derived.ChangeSlices
import Derived.WideShapes
namespace Go.Proofs.Ytpakhjbaniapnaa
open Go.ChangeShapes Go.WideShapes Go.ChangeAt Go.RowKit

theorem plain_a {w : World} {a : Addr} {v : Value} (h : w.cell? a = some v) : a = ⟨a.block, a.off, none⟩ ∧ a.block < w.heap.size := by
  have hs := World.cell?_spot h
  have hb := World.block_lt_of_cell? _ _ h
  obtain ⟨b, o, sp⟩ := a
  have e : sp = none := hs
  subst e
  exact ⟨rfl, hb⟩
theorem add_zero' (a : Addr) : a.add 0 = a := by unfold Addr.add; simp
theorem add_plain' (b o i : Nat) : (⟨b, o, none⟩ : Addr).add i = ⟨b, o + i, none⟩ := by unfold Addr.add; split <;> simp_all
theorem plain_i {w : World} {a : Addr} {i : Nat} {v : Value} (ha : a = ⟨a.block, a.off, none⟩) (h : w.cell? (a.add i) = some v) : w.cell? ⟨a.block, a.off + i, none⟩ = some v := by
  rw [ha, add_plain'] at h
  exact h
theorem maxLen_eq : maxLen = 9223372036854775807 := by decide
theorem cell_oneCell {P : Program} {w : World} {r : Reach} {b : Nat} {t : TypeId} {v : Value} (h : Cell.okWide P w r b t v) : v.oneCell' = true := by
  cases v with
  | agg a =>
    rcases hu : P.underlying t with _ | u
    · simp [Cell.okWide, Cell.ok, hu] at h
    · cases u <;> simp [Cell.okWide, Cell.ok, hu] at h
  | tuple a =>
    rcases hu : P.underlying t with _ | u
    · simp [Cell.okWide, Cell.ok, hu] at h
    · cases u <;> simp [Cell.okWide, Cell.ok, hu] at h
  | _ => rfl
theorem row_one {P : Program} {w : World} {r : Reach} {b : Nat} {t : TypeId} {cs : Array Value} (h : Row.okWide P w r b t cs) : ∀ v ∈ cs.toList, v.oneCell' = true := by
  obtain ⟨ts, _, _, h3⟩ := h
  intro v hv
  obtain ⟨i, hi, rfl⟩ := List.getElem_of_mem hv
  obtain ⟨u, _, h4⟩ := h3 i (cs.toList[i]) (by rw [← Array.getElem?_toList]; exact List.getElem?_eq_getElem hi)
  exact cell_oneCell h4

/-- WEIGHTS. -/
theorem bulkAll {H : Type} : ∀ L : List (DataW H), Rows.uptoBulkAll L = (L.map Rows.uptoBulk).sum
  | [] => by simp [Rows.uptoBulkAll]
  | d :: r => by rw [Rows.uptoBulkAll, bulkAll r, List.map_cons, List.sum_cons]
theorem le_sum {f : Nat → Nat} : ∀ n i, i < n → f i ≤ ((List.range n).map f).sum
  | 0, i, h => by omega
  | n + 1, i, h => by
    simp only [List.range_succ, List.map_append, List.map_cons, List.map_nil, List.sum_append, List.sum_cons, List.sum_nil]
    by_cases e : i < n
    · have := le_sum (f := f) n i e; omega
    · obtain rfl : i = n := by omega
      omega
theorem len_sum {f : Nat → Nat} : ∀ n, (∀ i, 1 ≤ f i) → n ≤ ((List.range n).map f).sum
  | 0, _ => by simp
  | n + 1, h => by
    have := len_sum (f := f) n h
    have h1 := h n
    simp only [List.range_succ, List.map_append, List.map_cons, List.map_nil, List.sum_append, List.sum_cons, List.sum_nil]
    omega
theorem bulk_pos {H : Type} (d : DataW H) : 1 ≤ Rows.uptoBulk d := by
  cases d with
  | lit l => cases l <;> simp [Rows.uptoBulk]
  | _ => simp [Rows.uptoBulk]
theorem bulk_slice {H : Type} (D : Nat → DataW H) (n : Nat) (r : List (DataW H)) : n ≤ Rows.uptoBulk (.slice ((List.range n).map D) r) ∧ ∀ i, i < n → Rows.uptoBulk (D i) ≤ Rows.uptoBulk (.slice ((List.range n).map D) r) := by
  rw [Rows.uptoBulk, bulkAll, List.map_map]
  have h1 := len_sum (f := fun i => Rows.uptoBulk (D i)) n (fun i => bulk_pos _)
  refine ⟨Nat.le_trans h1 (Nat.le_trans (Nat.le_add_right _ _) (Nat.le_add_right _ _)), fun i hi => ?_⟩
  have h2 := le_sum (f := fun i => Rows.uptoBulk (D i)) n i hi
  exact Nat.le_trans h2 (Nat.le_trans (Nat.le_add_right _ _) (Nat.le_add_right _ _))
theorem mem_bulk {H : Type} : ∀ (L : List (DataW H)) (d : DataW H), d ∈ L → Rows.uptoBulk d ≤ Rows.uptoBulkAll L
  | [], _, h => by cases h
  | b :: r, a, h => by
    rw [Rows.uptoBulkAll]
    rcases List.mem_cons.1 h with rfl | h
    · omega
    · have := mem_bulk r a h; omega

/-- A TYPE OF TEXTS AND NUMBERS ALONE. -/
def nbT (P : Program) : Nat → TypeId → Bool
  | 0, _ => false
  | d + 1, t => match P.underlying t with
    | some (.int _) => true
    | some .string => true
    | some (.array _ e) => nbT P d e
    | some (.struct fs) => fs.toList.all fun f => nbT P d f.type
    | _ => false
theorem mapM_mem {α β : Type} (f : α → Option β) : ∀ (L : List α) (ys : List β), L.mapM f = some ys → ∀ y ∈ ys, ∃ x ∈ L, f x = some y
  | [], ys, h, y, hy => by simp at h; subst h; cases hy
  | a :: L, ys, h, y, hy => by
    rw [List.mapM_cons] at h
    simp only [bind, Option.bind_eq_some_iff, pure, Option.some.injEq] at h
    obtain ⟨b, hb, bs, hbs, rfl⟩ := h
    rcases List.mem_cons.1 hy with rfl | hy
    · exact ⟨a, List.mem_cons_self, hb⟩
    · obtain ⟨x, hx, hfx⟩ := mapM_mem f L bs hbs y hy
      exact ⟨x, List.mem_cons_of_mem _ hx, hfx⟩
theorem nb_flat {P : Program} : ∀ (d : Nat) (t : TypeId) (cs : List Value) (l : List Lit), nbT P d t = true → P.keyLits d t cs = some l → ∀ c ∈ l, flatL c = true
  | 0, _, _, _, h, _ => by simp [nbT] at h
  | d + 1, t, cs, l, hn, h => by
    unfold nbT at hn
    intro c hc
    cases hu : P.underlying t with
    | none => rw [hu] at hn; cases hn
    | some u =>
      rw [hu] at hn
      cases u with
      | int q =>
        obtain ⟨n, hl⟩ := keyLits_int hu h
        rcases hl with rfl | ⟨rfl, _⟩
        all_goals (simp at hc; subst hc; rfl)
      | string =>
        obtain ⟨n, hl⟩ := keyLits_string hu h
        rcases hl with rfl | ⟨rfl, _⟩
        all_goals (simp at hc; subst hc; rfl)
      | array n e =>
        unfold Program.keyLits at h
        rw [hu] at h
        simp only at hn h
        split at h
        · obtain ⟨ls, h1, rfl⟩ := Option.map_eq_some_iff.1 h
          obtain ⟨m, hm, hcm⟩ := List.mem_flatten.1 hc
          obtain ⟨i, _, hi⟩ := mapM_mem _ _ _ h1 m hm
          exact nb_flat d e _ _ hn hi c hcm
        · cases h
      | struct fs =>
        unfold Program.keyLits at h
        rw [hu] at h
        simp only at hn h
        split at h
        · obtain ⟨ls, h1, rfl⟩ := Option.map_eq_some_iff.1 h
          obtain ⟨m, hm, hcm⟩ := List.mem_flatten.1 hc
          obtain ⟨f, hf, hi⟩ := mapM_mem _ _ _ h1 m hm
          exact nb_flat d f.type _ _ (List.all_eq_true.1 hn f hf) hi c hcm
        · cases h
      | _ => simp at hn

theorem all_mem {H : Type} {P : Program} {e : TypeId} {n : Nat} {d : DataW H} (hn : n ∈ d.weights P e) : ∀ L : List (DataW H), d ∈ L → n ∈ DataW.weightsAll P e L
  | [], h => by cases h
  | a :: r, h => by
    rw [DataW.weightsAll]
    rcases List.mem_cons.1 h with rfl | h
    · exact List.mem_append_left _ hn
    · exact List.mem_append_right _ (all_mem hn r h)
theorem slice_w {H : Type} {P : Program} {t e : TypeId} {D : Nat → DataW H} {len : Nat} {sp : List (DataW H)} {B : Nat} (ht : P.underlying t = some (.slice e)) (hB : ∀ n ∈ (DataW.slice ((List.range len).map D) sp).weights P t, n ≤ B) : len * P.bytesOf e ≤ B ∧ ∀ i, i < len → ∀ n ∈ (D i).weights P e, n ≤ B := by
  rw [DataW.weights, ht] at hB
  refine ⟨?_, fun i hi n hn => hB n (List.mem_cons_of_mem _ (List.mem_append_left _ (all_mem hn _ (List.mem_map.2 ⟨i, List.mem_range.2 hi, rfl⟩))))⟩
  have := hB _ List.mem_cons_self
  rw [List.length_map, List.length_range] at this
  exact Nat.le_trans (Nat.mul_le_mul_right _ (Nat.le_add_right _ _)) this
theorem field_w {H : Type} {P : Program} {t : TypeId} {fs : Array Field} {xs : List (DataW H × List MemPlace)} {B : Nat} (ht : P.underlying t = some (.struct fs)) (hB : ∀ n ∈ (DataW.agg (xs.map (·.1))).weights P t, n ≤ B) {i : Nat} {f : Field} (hf : fs.toList[i]? = some f) (hi : i < xs.length) : ∀ n ∈ (xs[i]).1.weights P f.type, n ≤ B := fun n hn => by
  refine hB n ?_
  rw [DataW.weights, ht]
  exact DataW.weights_mem_each (j := i) (t := f.type) (d := (xs[i]).1) (by rw [List.getElem?_map, hf]; rfl) (by rw [List.getElem?_map, List.getElem?_eq_getElem hi]; rfl) n hn
section
variable {H : Type} {enc : TypeId × Value → H} {w : World} {base : Nat} {spare : Nat → Bool} {held : Bool} {fuel : Nat} {v : Value} {x : DataW H × List MemPlace}

theorem open_texts (h : DataW.trod enc Try.prog w base spare held fuel 24 [v] = some x) (hB : ∀ n ∈ x.1.weights Try.prog 24, n ≤ 140737488351232) : ∃ pl : List ByteArray, Sts w v pl ∧ pl.length ≤ 8796093021952 := by
  rcases Go.Deep.open_strs Try.underlying24 Try.underlying9 (by kernel_rfl) h with ⟨h1, rfl⟩ | ⟨a, len, cap, m, Sx, h1, hb, hl, hm, hmm, rfl, hx⟩
  · obtain rfl : v = .slice none 0 0 := by simpa using h1
    exact ⟨[], ⟨none, 0, rfl, by simp, fun i hi => absurd hi (Nat.not_lt_zero _)⟩, by simp⟩
  · obtain rfl : v = .slice (some a) len cap := by simpa using h1
    have hlm : len ≤ m := by rw [hmm]; split <;> omega
    have hmx := maxLen_eq
    refine ⟨(List.range len).map Sx, ⟨some a, cap, by simp, by simp; omega, fun i hi => ?_⟩, ?_⟩
    · have hi' : i < len := by simpa using hi
      have h4 := (hx 0 (by omega)).1
      rw [add_zero'] at h4
      obtain ⟨e1, e2⟩ := plain_a h4
      refine ⟨a.block, a.off, by rw [← e1], e2, ?_⟩
      rw [plain_i e1 (hx i (by omega)).1]
      simp
    · have hS := (slice_w Try.underlying24 hB).1
      rw [show Try.prog.bytesOf 9 = 16 by kernel_rfl] at hS
      have hl16 : len ≤ 8796093021952 := by omega
      simpa using hl16

set_option maxRecDepth 100000 in
theorem open_atoms {t : TypeId} (ht : Try.prog.underlying t = some (.slice 33)) (h : DataW.trod enc Try.prog w base spare held fuel t [v] = some x) (hB : ∀ n ∈ x.1.weights Try.prog t, n ≤ 140737488351232) : ∃ al : List Am, Ams w v al ∧ al.length ≤ 3518437208780 := by
  rcases Go.Deep.open_slice ht h with ⟨h1, rfl⟩ | ⟨a, len, cap, m, n, D, Pl, h1, hb, hl, hm, hmm, rfl, hx⟩
  · obtain rfl : v = .slice none 0 0 := by simpa using h1
    exact ⟨[], ⟨none, 0, rfl, by simp, fun i hi => absurd hi (Nat.not_lt_zero _)⟩, by simp⟩
  · obtain rfl : v = .slice (some a) len cap := by simpa using h1
    have hlm : len ≤ m := by rw [hmm]; split <;> omega
    have hmx := maxLen_eq
    have cA : Try.prog.cellsOf 33 = 3 := by kernel_rfl
    have each0 : 0 < len → a = ⟨a.block, a.off, none⟩ ∧ a.block < w.heap.size := fun hi => by
      obtain ⟨cs', h2, h3⟩ := hx 0 (by omega)
      rw [cA] at h2
      obtain ⟨_, hlen, hcell⟩ := World.cells?_some h2
      have k0 := hcell 0 (by omega)
      rw [Nat.zero_mul, add_zero', add_zero', List.getElem?_eq_getElem (by omega)] at k0
      exact plain_a k0
    have each : ∀ i, i < len → ∃ q : Am, w.cell? ⟨a.block, a.off + i * 3, none⟩ = some (.string q.n) ∧ w.cell? ⟨a.block, a.off + i * 3 + 1, none⟩ = some (.int .i64 q.op) ∧ w.cell? ⟨a.block, a.off + i * 3 + 2, none⟩ = some (.string q.v) := fun i hi => by
      obtain ⟨cs', h2, h3⟩ := hx i (by omega)
      rw [cA] at h2
      obtain ⟨_, hlen, hcell⟩ := World.cells?_some h2
      match cs', hlen with
      | [c0, c1, c2], _ =>
        obtain ⟨xs, n', _, hx', hl', hlen', hfs⟩ := DataW.trod_struct Try.underlying33 h3
        match xs, hlen' with
        | [y0, y1, y2], _ =>
          have g0 := hfs 0 _ rfl
          have g1 := hfs 1 _ rfl
          have g2 := hfs 2 _ rfl
          simp [show Try.prog.cellsOf 9 = 1 by kernel_rfl, show Try.prog.cellsOf 3 = 1 by kernel_rfl] at g0 g1 g2
          obtain ⟨e, e0, rfl, z0⟩ := DataW.trod_string Try.underlying9 g0
          obtain ⟨o, e1, rfl, z1⟩ := DataW.trod_int Try.underlying3 g1
          obtain ⟨r, e2, rfl, z2⟩ := DataW.trod_string Try.underlying9 g2
          simp at e0 e1 e2
          subst e0 e1 e2
          have k0 := hcell 0 (by omega)
          have k1 := hcell 1 (by omega)
          have k2 := hcell 2 (by omega)
          rw [Go.Deep.add_add] at k0 k1 k2
          simp only [List.getElem?_cons_zero, List.getElem?_cons_succ] at k0 k1 k2
          obtain ⟨p1, p2⟩ := each0 (by omega)
          exact ⟨⟨e, o, r⟩, plain_i p1 k0, plain_i p1 k1, plain_i p1 k2⟩
    have : Inhabited Am := ⟨⟨.empty, 0, .empty⟩⟩
    obtain ⟨q, hq⟩ := Go.Deep.choose_lt each
    refine ⟨(List.range len).map q, ⟨some a, cap, by simp, by simp; omega, fun i hi => ?_⟩, ?_⟩
    · have hi' : i < len := by simpa using hi
      obtain ⟨p1, p2⟩ := each0 (by omega)
      obtain ⟨p3, p4, p5⟩ := hq i hi'
      refine ⟨a.block, a.off, by rw [← p1], p2, ?_, ?_, ?_⟩
      · rw [p3]; simp
      · rw [p4]; simp
      · rw [p5]; simp
    · have hS := (slice_w ht hB).1
      rw [show Try.prog.bytesOf 33 = 40 by kernel_rfl] at hS
      have hl40 : len ≤ 3518437208780 := by omega
      simpa using hl40

theorem open_clauses (h : DataW.trod enc Try.prog w base spare held fuel 22 [v] = some x) (hB : ∀ n ∈ x.1.weights Try.prog 22, n ≤ 140737488351232) : ∃ cl : List (List Am), Cls w v cl ∧ cl.length ≤ 5864062014634 ∧ ∀ i (hi : i < cl.length), cl[i].length ≤ 3518437208780 := by
  rcases Go.Deep.open_slice1 Try.underlying22 (by kernel_rfl) h with ⟨h1, rfl⟩ | ⟨a, len, cap, m, n, V, D, Pl, h1, hb, hl, hm, hmm, rfl, hx⟩
  · obtain rfl : v = .slice none 0 0 := by simpa using h1
    exact ⟨[], ⟨none, 0, rfl, by simp, fun i hi => absurd hi (Nat.not_lt_zero _)⟩, by simp, fun i hi => absurd hi (Nat.not_lt_zero _)⟩
  · obtain rfl : v = .slice (some a) len cap := by simpa using h1
    have hlm : len ≤ m := by rw [hmm]; split <;> omega
    have hmx := maxLen_eq
    have hS := slice_w Try.underlying22 hB
    rw [show Try.prog.bytesOf 42 = 24 by kernel_rfl] at hS
    have hbl : len ≤ 5864062014634 := by have := hS.1; omega
    have each : ∀ i, i < len → ∃ al : List Am, Ams w (V i) al ∧ al.length ≤ 3518437208780 := fun i hi => open_atoms Try.underlying42 (hx i (by omega)).2 (hS.2 i hi)
    obtain ⟨q, hq⟩ := Go.Deep.choose_lt each
    refine ⟨(List.range len).map q, ⟨some a, cap, by simp, by simp; omega, fun i hi => ?_⟩, by simpa using hbl, fun i hi => ?_⟩
    · have hi' : i < len := by simpa using hi
      have h4 := (hx 0 (by omega)).1
      rw [add_zero'] at h4
      obtain ⟨e1, e2⟩ := plain_a h4
      refine ⟨a.block, a.off, V i, by rw [← e1], e2, plain_i e1 (hx i (by omega)).1, ?_⟩
      have := (hq i hi').1
      simpa using this
    · have hi' : i < len := by simpa using hi
      have h5 := (hq i hi').2
      simpa using h5

set_option maxRecDepth 100000 in
theorem open_files (h : DataW.trod enc Try.prog w base spare held fuel 25 [v] = some x) (hB : ∀ n ∈ x.1.weights Try.prog 25, n ≤ 140737488351232) : ∃ fl : List Fl, Fls w v fl ∧ fl.length ≤ 2513169434843 ∧ ∀ a ∈ fl, ∀ u ∈ a.cs, u.oneCell' = true := by
  rcases Go.Deep.open_slice Try.underlying25 h with ⟨h1, rfl⟩ | ⟨a, len, cap, m, n, D, Pl, h1, hb, hl, hm, hmm, rfl, hx⟩
  · obtain rfl : v = .slice none 0 0 := by simpa using h1
    exact ⟨[], ⟨none, 0, rfl, by simp, fun i hi => absurd hi (Nat.not_lt_zero _)⟩, by simp, fun a ha => by cases ha⟩
  · obtain rfl : v = .slice (some a) len cap := by simpa using h1
    have hlm : len ≤ m := by rw [hmm]; split <;> omega
    have hmx := maxLen_eq
    have cF : Try.prog.cellsOf 35 = 34 := by kernel_rfl
    have each0 : 0 < len → a = ⟨a.block, a.off, none⟩ ∧ a.block < w.heap.size := fun hi => by
      obtain ⟨cs', h2, h3⟩ := hx 0 (by omega)
      rw [cF] at h2
      obtain ⟨_, hlen, hcell⟩ := World.cells?_some h2
      have k0 := hcell 0 (by omega)
      rw [Nat.zero_mul, add_zero', add_zero', List.getElem?_eq_getElem (by omega)] at k0
      exact plain_a k0
    have each : ∀ i, i < len → ∃ q : Fl, isF q ∧ w.rangeAt a.block (a.off + i * 34) q.cs ∧ ∀ u ∈ q.cs, u.oneCell' = true := fun i hi => by
      obtain ⟨cs', h2, h3⟩ := hx i (by omega)
      rw [cF] at h2
      obtain ⟨_, hlen, hcell⟩ := World.cells?_some h2
      obtain ⟨k1, _⟩ := keyLits_of_trod 6 35 (by kernel_rfl) _ _ _ h3
      obtain ⟨p1, p2⟩ := each0 (by omega)
      refine ⟨⟨cs', (D i).flat⟩, ⟨hlen, k1, nb_flat 6 35 _ _ (by kernel_rfl) k1⟩, fun j u hj => ?_, fun u hu => ?_⟩
      · have hj' : j < 34 := by have h := (List.getElem?_eq_some_iff.1 hj).1; rw [← hlen]; exact h
        have k0 := hcell j (by omega)
        rw [Go.Deep.add_add, hj] at k0
        have := plain_i p1 k0
        rw [show a.off + i * 34 + j = a.off + (i * 34 + j) by omega]
        exact this
      · have e := cells_of_lits 6 35 (by kernel_rfl) 6 _ _ k1
        have hu' : u ∈ (D i).flat.map Lit.toCell := by rw [← e]; exact hu
        obtain ⟨l, hl2, rfl⟩ := List.mem_map.1 hu'
        have hf := nb_flat 6 35 _ _ (by kernel_rfl) k1 l hl2
        cases l <;> first | rfl | cases hf
    have : Inhabited Fl := ⟨⟨[], []⟩⟩
    obtain ⟨q, hq⟩ := Go.Deep.choose_lt each
    refine ⟨(List.range len).map q, ⟨some a, cap, by simp, by simp; omega, fun i hi => ?_⟩, ?_, fun f hf => ?_⟩
    · have hi' : i < len := by simpa using hi
      obtain ⟨p1, p2⟩ := each0 (by omega)
      obtain ⟨p3, p4, p5⟩ := hq i hi'
      refine ⟨by simpa using p3, a.block, a.off, by rw [← p1], p2, ?_⟩
      simpa using p4
    · have hS := (slice_w Try.underlying25 hB).1
      rw [show Try.prog.bytesOf 35 = 56 by kernel_rfl] at hS
      have hl56 : len ≤ 2513169434843 := by omega
      simpa using hl56
    · obtain ⟨i, hi, rfl⟩ := List.mem_map.1 hf
      exact (hq i (by simpa using hi)).2.2

theorem cellsPkg : Try.prog.cellsOf 28 = 43 := by kernel_rfl

set_option maxRecDepth 100000 in
theorem open_pkg {r : Reach} {b0 : Nat} {d : DataW H} {pl : List MemPlace} (hv : Value.okWide Try.prog w r b0 28 v) (h : DataW.Trod enc Try.prog w base spare held 28 v d pl) (hB : ∀ n ∈ d.weights Try.prog 28, n ≤ 140737488351232) :
    ∃ (cs : List Value) (p : Pk) (v3 v4 v5 v6 v7 : Value), v = .agg cs.toArray ∧ PkC cs p v3 v4 v5 v6 v7 ∧ PkL w p v3 v4 v5 v6 v7 ∧ Sm p ∧ ∀ x ∈ cs, x.oneCell' = true := by
  have hv' := hv
  simp only [Value.okWide, Try.underlying28] at hv'
  obtain ⟨cs, rfl, hsz, hrow⟩ := hv'
  obtain ⟨fuel, hf⟩ := h
  obtain ⟨xs, n, _, hx, hl, hlen, hfs⟩ := DataW.trod_struct Try.underlying28 hf
  have hlen0 : cs.toList.length = 43 := by simpa [cellsPkg] using hsz
  have hxl : xs.length = 12 := hlen
  have hd : d = .agg (xs.map (·.1)) := (Prod.mk.inj hx).1
  have hBd : ∀ n ∈ (DataW.agg (xs.map (·.1))).weights Try.prog 28, n ≤ 140737488351232 := fun n hn => hB n (by rw [hd]; exact hn)
  have hw3 := field_w (i := 3) Try.underlying28 hBd rfl (by omega)
  have hw4 := field_w (i := 4) Try.underlying28 hBd rfl (by omega)
  have hw5 := field_w (i := 5) Try.underlying28 hBd rfl (by omega)
  have hw6 := field_w (i := 6) Try.underlying28 hBd rfl (by omega)
  have hw7 := field_w (i := 7) Try.underlying28 hBd rfl (by omega)
  have t0 : ∀ k, k < 43 → (cs.toList.drop k).take 1 = [cs.toList.getD k (.bool false)] := fun k hk => by
    rw [List.drop_eq_getElem_cons (by omega)]
    simp [List.getD, List.getElem?_eq_getElem (show k < cs.toList.length by omega)]
  have gk : ∀ k, k < 43 → cs.toList[k]? = some (cs.toList.getD k (.bool false)) := fun k hk => by
    simp only [List.getD, List.getElem?_eq_getElem (show k < cs.toList.length by omega)]
    rfl
  have g0 := hfs 0 _ rfl
  have g1 := hfs 1 _ rfl
  have g2 := hfs 2 _ rfl
  have g3 := hfs 3 _ rfl
  have g4 := hfs 4 _ rfl
  have g5 := hfs 5 _ rfl
  have g6 := hfs 6 _ rfl
  have g7 := hfs 7 _ rfl
  have g8 := hfs 8 _ rfl
  have g9 := hfs 9 _ rfl
  have ga := hfs 10 _ rfl
  have gb := hfs 11 _ rfl
  change DataW.trod enc Try.prog w base spare held n 9 ((cs.toList.drop 0).take (Try.prog.cellsOf 9)) = xs[0]? at g0
  change DataW.trod enc Try.prog w base spare held n 9 ((cs.toList.drop 1).take (Try.prog.cellsOf 9)) = xs[1]? at g1
  change DataW.trod enc Try.prog w base spare held n 4 ((cs.toList.drop 2).take (Try.prog.cellsOf 4)) = xs[2]? at g2
  change DataW.trod enc Try.prog w base spare held n 22 ((cs.toList.drop 3).take (Try.prog.cellsOf 22)) = xs[3]? at g3
  change DataW.trod enc Try.prog w base spare held n 22 ((cs.toList.drop 4).take (Try.prog.cellsOf 22)) = xs[4]? at g4
  change DataW.trod enc Try.prog w base spare held n 23 ((cs.toList.drop 5).take (Try.prog.cellsOf 23)) = xs[5]? at g5
  change DataW.trod enc Try.prog w base spare held n 24 ((cs.toList.drop 6).take (Try.prog.cellsOf 24)) = xs[6]? at g6
  change DataW.trod enc Try.prog w base spare held n 25 ((cs.toList.drop 7).take (Try.prog.cellsOf 25)) = xs[7]? at g7
  change DataW.trod enc Try.prog w base spare held n 9 ((cs.toList.drop 8).take (Try.prog.cellsOf 9)) = xs[8]? at g8
  change DataW.trod enc Try.prog w base spare held n 3 ((cs.toList.drop 9).take (Try.prog.cellsOf 3)) = xs[9]? at g9
  change DataW.trod enc Try.prog w base spare held n 26 ((cs.toList.drop 10).take (Try.prog.cellsOf 26)) = xs[10]? at ga
  change DataW.trod enc Try.prog w base spare held n 9 ((cs.toList.drop 42).take (Try.prog.cellsOf 9)) = xs[11]? at gb
  rw [show Try.prog.cellsOf 9 = 1 by kernel_rfl] at g0 g1 g8 gb
  rw [show Try.prog.cellsOf 4 = 1 by kernel_rfl] at g2
  rw [show Try.prog.cellsOf 22 = 1 by kernel_rfl] at g3 g4
  rw [show Try.prog.cellsOf 23 = 1 by kernel_rfl] at g5
  rw [show Try.prog.cellsOf 24 = 1 by kernel_rfl] at g6
  rw [show Try.prog.cellsOf 25 = 1 by kernel_rfl] at g7
  rw [show Try.prog.cellsOf 3 = 1 by kernel_rfl] at g9
  rw [show Try.prog.cellsOf 26 = 32 by kernel_rfl] at ga
  rw [t0 0 (by omega), List.getElem?_eq_getElem (show 0 < xs.length by omega)] at g0
  rw [t0 1 (by omega), List.getElem?_eq_getElem (show 1 < xs.length by omega)] at g1
  rw [t0 2 (by omega), List.getElem?_eq_getElem (show 2 < xs.length by omega)] at g2
  rw [t0 3 (by omega), List.getElem?_eq_getElem (show 3 < xs.length by omega)] at g3
  rw [t0 4 (by omega), List.getElem?_eq_getElem (show 4 < xs.length by omega)] at g4
  rw [t0 5 (by omega), List.getElem?_eq_getElem (show 5 < xs.length by omega)] at g5
  rw [t0 6 (by omega), List.getElem?_eq_getElem (show 6 < xs.length by omega)] at g6
  rw [t0 7 (by omega), List.getElem?_eq_getElem (show 7 < xs.length by omega)] at g7
  rw [t0 8 (by omega), List.getElem?_eq_getElem (show 8 < xs.length by omega)] at g8
  rw [t0 9 (by omega), List.getElem?_eq_getElem (show 9 < xs.length by omega)] at g9
  rw [List.getElem?_eq_getElem (show 10 < xs.length by omega)] at ga
  rw [t0 42 (by omega), List.getElem?_eq_getElem (show 11 < xs.length by omega)] at gb
  obtain ⟨nm, e0, _, _⟩ := DataW.trod_string Try.underlying9 g0
  obtain ⟨vr, e1, _, _⟩ := DataW.trod_string Try.underlying9 g1
  obtain ⟨es, e2, _⟩ := DataW.trod_bool Try.underlying4 g2
  obtain ⟨dp, L3, z3, y3⟩ := open_clauses g3 hw3
  obtain ⟨pr, L4, z4, y4⟩ := open_clauses g4 hw4
  obtain ⟨cf, L5, z5⟩ := open_atoms Try.underlying23 g5 hw5
  obtain ⟨pv, L6, z6⟩ := open_texts g6 hw6
  obtain ⟨fs, L7, z7, o7⟩ := open_files g7 hw7
  obtain ⟨ar, e8, _, _⟩ := DataW.trod_string Try.underlying9 g8
  obtain ⟨sz, e9, _, _⟩ := DataW.trod_int Try.underlying3 g9
  obtain ⟨ka, _⟩ := keyLits_of_trod 6 26 (by kernel_rfl) _ _ _ ga
  obtain ⟨sy, eb, _, _⟩ := DataW.trod_string Try.underlying9 gb
  have hl32 : ((cs.toList.drop 10).take 32).length = 32 := by simp only [List.length_take, List.length_drop]; omega
  refine ⟨cs.toList, ⟨nm, vr, es, dp, pr, cf, pv, fs, ar, sz, ⟨(cs.toList.drop 10).take 32, xs[10].1.flat⟩, sy⟩, _, _, _, _, _, by simp, ⟨hlen0, ?_, ?_, ?_, gk 3 (by omega), gk 4 (by omega), gk 5 (by omega), gk 6 (by omega), gk 7 (by omega), ?_, ?_, fun j x hj => ?_, ?_⟩, ⟨L3, L4, L5, L6, L7, hl32, ka, nb_flat 6 26 _ _ (by kernel_rfl) ka⟩, ⟨⟨by simp only; omega, y3⟩, ⟨by simp only; omega, y4⟩, by simp only; omega, by simp only; omega, by simp only; omega, o7⟩, row_one hrow⟩
  · rw [gk 0 (by omega)]; simpa using e0
  · rw [gk 1 (by omega)]; simpa using e1
  · rw [gk 2 (by omega)]; simpa using e2
  · rw [gk 8 (by omega)]; simpa using e8
  · rw [gk 9 (by omega)]; simpa using e9
  · have hj' : j < 32 := by have h := (List.getElem?_eq_some_iff.1 hj).1; rw [← hl32]; exact h
    rw [List.getElem?_take_of_lt hj', List.getElem?_drop] at hj
    exact hj
  · rw [gk 42 (by omega)]; simpa using eb
end

end Go.Proofs.Ytpakhjbaniapnaa
