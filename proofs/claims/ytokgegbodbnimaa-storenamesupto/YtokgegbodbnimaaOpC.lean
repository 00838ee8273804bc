import Derived.Test.YtokgegbodbnimaaSvP
import Derived.Test.YtokgegbodbnimaaPoE
namespace Go.Proofs.Ytokgegbodbnimaa
open Go.ChangeShapes Go.WideShapes Go.ChangeAt Go.RowKit

theorem plain_i {w : World} {a : Addr} {i : Nat} {v : Value} (ha : a = ⟨a.block, a.off, none⟩) (h : w.cell? (a.add i) = some v) : w.cell? ⟨a.block, a.off + i, none⟩ = some v := by
  rw [ha, add_plain'] at h
  exact h
theorem maxLen_eq : maxLen = 9223372036854775807 := by decide
theorem bulkAll {H : Type} : ∀ L : List (DataW H), Rows.uptoBulkAll L = (L.map Rows.uptoBulk).sum
  | [] => by simp [Rows.uptoBulkAll]
  | d :: r => by rw [Rows.uptoBulkAll, bulkAll r, List.map_cons, List.sum_cons]
theorem len_sum {f : Nat → Nat} : ∀ n, (∀ i, 1 ≤ f i) → n ≤ ((List.range n).map f).sum
  | 0, _ => by simp
  | n + 1, h => by
    have := len_sum (f := f) n h
    have h1 := h n
    simp only [List.range_succ, List.map_append, List.map_cons, List.map_nil, List.sum_append, List.sum_cons, List.sum_nil]
    omega
theorem bulk_pos {H : Type} (d : DataW H) : 1 ≤ Rows.uptoBulk d := by
  cases d with
  | lit l => cases l <;> simp [Rows.uptoBulk]
  | _ => simp [Rows.uptoBulk]
theorem bulk_slice {H : Type} (D : Nat → DataW H) (n : Nat) (r : List (DataW H)) : ((List.range n).map fun i => Rows.uptoBulk (D i)).sum ≤ Rows.uptoBulk (.slice ((List.range n).map D) r) := by
  rw [Rows.uptoBulk, bulkAll, List.map_map]
  exact Nat.le_trans (Nat.le_add_right _ _) (Nat.le_add_right _ _)
theorem mem_bulk {H : Type} : ∀ (L : List (DataW H)) (d : DataW H), d ∈ L → Rows.uptoBulk d ≤ Rows.uptoBulkAll L
  | [], _, h => by cases h
  | b :: r, a, h => by
    rw [Rows.uptoBulkAll]
    rcases List.mem_cons.1 h with rfl | h
    · omega
    · have := mem_bulk r a h; omega
section
variable {H : Type} {enc : TypeId × Value → H} {w : World} {base : Nat} {spare : Nat → Bool} {held : Bool} {fuel : Nat} {v : Value} {x : DataW H × List MemPlace}
set_option maxRecDepth 100000 in
/-- BYTES THAT CAME IN, BY BULK. -/
theorem upto_b (h : DataW.trod enc Try.prog w base spare held fuel 22 [v] = some x) : ∃ (bs : List Int) (pa : Option Addr) (c : Nat), v = .slice pa bs.length c ∧ Rb w pa bs ∧ (pa = none → bs = []) ∧ bs.length ≤ Rows.uptoBulk x.1 := by
  rcases Go.Deep.open_slice1 Try.underlying22 (by kernel_rfl) h with ⟨h1, rfl⟩ | ⟨a, len, cap, m, n, V, D, Pl, h1, hb, hl, hm, hmm, rfl, hx⟩
  · obtain rfl : v = .slice none 0 0 := by simpa using h1
    exact ⟨[], none, 0, rfl, .inl rfl, fun _ => rfl, by simp⟩
  · obtain rfl : v = .slice (some a) len cap := by simpa using h1
    have hlm : len ≤ m := by rw [hmm]; split <;> omega
    have each : ∀ i, i < len → ∃ z : Int, V i = .int .u8 z := fun i hi => by
      obtain ⟨o, e1, _, _⟩ := DataW.trod_int Try.underlying5 (hx i (by omega)).2
      exact ⟨o, by simpa using e1⟩
    obtain ⟨q, hq⟩ := Go.Deep.choose_lt each
    refine ⟨(List.range len).map q, some a, cap, by simp, ?_, fun e => (by cases e), ?_⟩
    · by_cases h0 : len = 0
      · exact .inl (by rw [h0]; rfl)
      · have h4 := (hx 0 (by omega)).1
        rw [add_zero'] at h4
        obtain ⟨e1, e2⟩ := plain_a h4
        refine .inr ⟨a.block, a.off, by rw [← e1], e2, fun j u hj => ?_⟩
        have hjl : j < len := by
          have := (List.getElem?_eq_some_iff.1 hj).1
          simpa [u8] using this
        rw [plain_i e1 (hx j (by omega)).1, hq j hjl]
        have e3 := u8_at ((List.range len).map q) j (by simpa using hjl)
        rw [hj] at e3
        rw [e3]
        simp
    · have h9 := bulk_slice (H := H) D len ((List.range (m - len)).map fun j => D (len + j))
      have h8 := len_sum (f := fun i => Rows.uptoBulk (D i)) len (fun i => bulk_pos _)
      have : len ≤ Rows.uptoBulk (DataW.slice ((List.range len).map D) ((List.range (m - len)).map fun j => D (len + j))) := Nat.le_trans h8 h9
      simpa using this
set_option maxRecDepth 100000 in
/-- NUMBERS THAT CAME IN, BY BULK. -/
theorem upto_k (h : DataW.trod enc Try.prog w base spare held fuel 32 [v] = some x) : ∃ (ks : List Int) (pa : Option Addr) (c : Nat), v = .slice pa ks.length c ∧ Rz w pa ks ∧ (∀ k ∈ ks, k ≤ 9223372036854775807) ∧ ks.length ≤ Rows.uptoBulk x.1 := by
  rcases Go.Deep.open_slice1 Try.underlying32 (by kernel_rfl) h with ⟨h1, rfl⟩ | ⟨a, len, cap, m, n, V, D, Pl, h1, hb, hl, hm, hmm, rfl, hx⟩
  · obtain rfl : v = .slice none 0 0 := by simpa using h1
    exact ⟨[], none, 0, rfl, .inl rfl, (fun k hk => (by cases hk)), by simp⟩
  · obtain rfl : v = .slice (some a) len cap := by simpa using h1
    have hlm : len ≤ m := by rw [hmm]; split <;> omega
    have each : ∀ i, i < len → ∃ z : Int, V i = .int .i64 z ∧ z ≤ 9223372036854775807 := fun i hi => by
      obtain ⟨o, e1, _, z1⟩ := DataW.trod_int Try.underlying3 (hx i (by omega)).2
      refine ⟨o, by simpa using e1, ?_⟩
      have h2 : IntKind.i64.max = 9223372036854775807 := rfl
      simp only [Lit.wf, Bool.and_eq_true, decide_eq_true_eq] at z1
      omega
    obtain ⟨q, hq⟩ := Go.Deep.choose_lt each
    refine ⟨(List.range len).map q, some a, cap, by simp, ?_, fun k hk => ?_, ?_⟩
    · by_cases h0 : len = 0
      · exact .inl (by rw [h0]; rfl)
      · have h4 := (hx 0 (by omega)).1
        rw [add_zero'] at h4
        obtain ⟨e1, e2⟩ := plain_a h4
        refine .inr ⟨a.block, a.off, by rw [← e1], e2, fun j hj => ?_⟩
        have hjl : j < len := by simpa using hj
        rw [plain_i e1 (hx j (by omega)).1, (hq j hjl).1]
        simp
    · obtain ⟨i, hi, rfl⟩ := List.mem_map.1 hk
      exact (hq i (by simpa using hi)).2
    · have h9 := bulk_slice (H := H) D len ((List.range (m - len)).map fun j => D (len + j))
      have h8 := len_sum (f := fun i => Rows.uptoBulk (D i)) len (fun i => bulk_pos _)
      have : len ≤ Rows.uptoBulk (DataW.slice ((List.range len).map D) ((List.range (m - len)).map fun j => D (len + j))) := Nat.le_trans h8 h9
      simpa using this
set_option maxRecDepth 100000 in
/-- ONE CALL OF A SCRIPT. -/
theorem upto_op {cs : List Value} {d : DataW H} {pl : List MemPlace} (hl : cs.length = 6) (h : DataW.trod enc Try.prog w base spare held fuel 57 cs = some (d, pl)) : ∃ p : Sp, cs = p.cs ∧ Rb w p.da p.ds ∧ (p.da = none → p.ds = []) ∧ p.nm.size ≤ maxLen ∧ p.to.size ≤ maxLen ∧ p.ds.length + 2 ≤ Rows.uptoBulk d := by
  obtain ⟨xs, n', _, hx', hl', hlen', hfs⟩ := DataW.trod_struct Try.underlying57 h
  match cs, hl with
  | [c0, c1, c2, c3, c4, c5], _ =>
    match xs, hlen' with
    | [y0, y1, y2, y3, y4, y5], _ =>
      have g0 := hfs 0 _ rfl
      have g1 := hfs 1 _ rfl
      have g2 := hfs 2 _ rfl
      have g3 := hfs 3 _ rfl
      have g4 := hfs 4 _ rfl
      have g5 := hfs 5 _ rfl
      simp [show Try.prog.cellsOf 9 = 1 by kernel_rfl, show Try.prog.cellsOf 3 = 1 by kernel_rfl, show Try.prog.cellsOf 22 = 1 by kernel_rfl, show Try.prog.cellsOf 32 = 1 by kernel_rfl] at g0 g1 g2 g3 g4 g5
      obtain ⟨kd, e0, rfl, z0⟩ := DataW.trod_int Try.underlying3 g0
      obtain ⟨nm, e1, rfl, z1⟩ := DataW.trod_string Try.underlying9 g1
      obtain ⟨to, e2, rfl, z2⟩ := DataW.trod_string Try.underlying9 g2
      obtain ⟨nn, e4, rfl, z4⟩ := DataW.trod_int Try.underlying3 g4
      obtain ⟨bs, pa, dc, e3, r1, r2, r3⟩ := upto_b g3
      obtain ⟨ks, ka, kc, e5, q1, q2, q3⟩ := upto_k g5
      simp at e0 e1 e2 e4
      subst e0 e1 e2 e3 e4 e5
      refine ⟨⟨kd, nm, to, bs, pa, dc, nn, ka, ks.length, kc⟩, rfl, r1, r2, z1, z2, ?_⟩
      have hd : d = _ := (Prod.mk.inj hx').1
      rw [hd, Rows.uptoBulk]
      simp only [List.map_cons, List.map_nil, Rows.uptoBulkAll, Rows.uptoBulk]
      show bs.length + 2 ≤ _
      omega
set_option maxRecDepth 100000 in
/-- A SCRIPT THAT CAME IN. -/
theorem upto_ops (h : DataW.trod enc Try.prog w base spare held fuel 39 [v] = some x) : ∃ (sc : List Sp) (pa : Option Addr) (c : Nat), v = .slice pa sc.length c ∧ Rs w pa sc ∧ Ks sc sc.length ≤ Rows.uptoBulk x.1 ∧ sc.length ≤ Rows.uptoBulk x.1 := by
  rcases Go.Deep.open_slice Try.underlying39 h with ⟨h1, rfl⟩ | ⟨a, len, cap, m, n, D, Pl, h1, hb, hl, hm, hmm, rfl, hx⟩
  · obtain rfl : v = .slice none 0 0 := by simpa using h1
    exact ⟨[], none, 0, rfl, .inl rfl, by simp [Ks], by simp⟩
  · obtain rfl : v = .slice (some a) len cap := by simpa using h1
    have hlm : len ≤ m := by rw [hmm]; split <;> omega
    have cA : Try.prog.cellsOf 57 = 6 := by kernel_rfl
    have each0 : 0 < len → a = ⟨a.block, a.off, none⟩ ∧ a.block < w.heap.size := fun hi => by
      obtain ⟨cs', h2, h3⟩ := hx 0 (by omega)
      rw [cA] at h2
      obtain ⟨_, hlen, hcell⟩ := World.cells?_some h2
      have k0 := hcell 0 (by omega)
      rw [Nat.zero_mul, add_zero', add_zero', List.getElem?_eq_getElem (by omega)] at k0
      exact plain_a k0
    have each : ∀ i, i < len → ∃ p : Sp, ((∀ (j : Nat) u, p.cs[j]? = some u → w.cell? ⟨a.block, a.off + i * 6 + j, none⟩ = some u) ∧ Rb w p.da p.ds ∧ (p.da = none → p.ds = []) ∧ p.nm.size ≤ maxLen ∧ p.to.size ≤ maxLen) ∧ p.ds.length + 2 ≤ Rows.uptoBulk (D i) := fun i hi => by
      obtain ⟨cs', h2, h3⟩ := hx i (by omega)
      rw [cA] at h2
      obtain ⟨_, hlen, hcell⟩ := World.cells?_some h2
      obtain ⟨p, e, r1, r2, r3, r4, r5⟩ := upto_op hlen h3
      obtain ⟨p1, p2⟩ := each0 (by omega)
      refine ⟨p, ⟨fun j u hj => ?_, r1, r2, r3, r4⟩, r5⟩
      have hj' : j < 6 := by
        have := (List.getElem?_eq_some_iff.1 hj).1
        exact this
      have k0 := hcell j (by omega)
      rw [Go.Deep.add_add, e, hj] at k0
      have := plain_i p1 k0
      rw [show a.off + i * 6 + j = a.off + (i * 6 + j) by omega]
      exact this
    have : Inhabited Sp := ⟨⟨0, .empty, .empty, [], none, 0, 0, none, 0, 0⟩⟩
    obtain ⟨q, hq⟩ := Go.Deep.choose_lt each
    have h9 := bulk_slice (H := H) D len ((List.range (m - len)).map fun j => D (len + j))
    have h8 := len_sum (f := fun i => Rows.uptoBulk (D i)) len (fun i => bulk_pos _)
    have h7 : len ≤ Rows.uptoBulk (DataW.slice ((List.range len).map D) ((List.range (m - len)).map fun j => D (len + j))) := Nat.le_trans h8 h9
    have hks : ∀ k, k ≤ len → Ks ((List.range len).map q) k ≤ ((List.range k).map fun i => Rows.uptoBulk (D i)).sum := fun k => by
      induction k with
      | zero => intro _; simp [Ks]
      | succ k ih =>
        intro hk
        have h1 := ih (by omega)
        have h2 := (hq k (by omega)).2
        rw [List.range_succ, List.map_append, List.sum_append]
        show (match ((List.range len).map q)[k]? with | some p => Ks ((List.range len).map q) k + p.ds.length + 2 | none => Ks ((List.range len).map q) k) ≤ _
        rw [List.getElem?_eq_getElem (by simp; omega)]
        simp only [List.getElem_map, List.getElem_range, List.map_cons, List.map_nil, List.sum_cons, List.sum_nil]
        omega
    refine ⟨(List.range len).map q, some a, cap, by simp, ?_, ?_, by simpa using h7⟩
    · by_cases h0 : len = 0
      · exact .inl (by rw [h0]; rfl)
      · obtain ⟨p1, p2⟩ := each0 (by omega)
        refine .inr ⟨a.block, a.off, by rw [← p1], p2, fun i hi => ?_⟩
        have hi' : i < len := by simpa using hi
        have := (hq i hi').1
        simpa using this
    · have := hks len (Nat.le_refl _)
      simp only [List.length_map, List.length_range]
      exact Nat.le_trans this h9
end
end Go.Proofs.Ytokgegbodbnimaa
