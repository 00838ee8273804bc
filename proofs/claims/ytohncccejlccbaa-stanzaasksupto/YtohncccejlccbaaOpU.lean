import Derived.Test.YtohncccejlccbaaAnF
import Derived.Test.YtohncccejlccbaaRows
import Derived.Deep.Strs
import Derived.WalkKit
import Derived.ProofKit
import Derived.OpenShut
import Derived.ChangeOld
import Derived.SizedLaws
import Derived.ChangeSlices
import Derived.WideShapes
import Derived.ChangeMaps5
namespace Go.Proofs.Ytohncccejlccbaa
open Go.ChangeShapes Go.WideShapes Go.ChangeAt Go.RowKit

theorem own : ownKnob Try.prog.godebug = none := by kernel_rfl
theorem laidOut : laidOutB Try.prog = true := by kernel_rfl
theorem jn_sum : ∀ ls : List Bs, ls.length ≤ (ls.map fun l => l.length + 1).sum ∧ (Lib.join ls [10]).length ≤ (ls.map fun l => l.length + 1).sum ∧ ∀ l ∈ ls, l.length ≤ (ls.map fun l => l.length + 1).sum := by
  have tail : ∀ ls : List Bs, (Lib.joinTail [10] ls).length ≤ (ls.map fun l => l.length + 1).sum := fun ls => by
    induction ls with
    | nil => simp [Lib.joinTail]
    | cons a r ih =>
      unfold Lib.joinTail at ih ⊢
      simp only [List.map_cons, List.flatten_cons, List.length_append, List.length_cons, List.length_nil, List.sum_cons] at ih ⊢
      omega
  intro ls
  refine ⟨?_, ?_, fun l hl => ?_⟩
  · induction ls with
    | nil => simp
    | cons a r ih => simp only [List.length_cons, List.map_cons, List.sum_cons]; omega
  · cases ls with
    | nil => simp [Lib.join_nil]
    | cons a r =>
      have := tail r
      rw [Lib.join_cons]
      simp only [List.length_append, List.map_cons, List.sum_cons]
      omega
  · induction ls with
    | nil => cases hl
    | cons a r ih =>
      simp only [List.map_cons, List.sum_cons]
      rcases List.mem_cons.1 hl with rfl | hl
      · omega
      · have := ih hl; omega
theorem cells49 : Try.prog.cellsOf 30 = 3 := by kernel_rfl
theorem plain_a {w : World} {a : Addr} {v : Value} (h : w.cell? a = some v) : a = ⟨a.block, a.off, none⟩ ∧ a.block < w.heap.size := by
  have hs := World.cell?_spot h
  have hb := World.block_lt_of_cell? _ _ h
  obtain ⟨b, o, sp⟩ := a
  have e : sp = none := hs
  subst e
  exact ⟨rfl, hb⟩
theorem add_zero' (a : Addr) : a.add 0 = a := by unfold Addr.add; simp
theorem plain_i {w : World} {a : Addr} {i : Nat} {v : Value} (ha : a = ⟨a.block, a.off, none⟩) (h : w.cell? (a.add i) = some v) : w.cell? ⟨a.block, a.off + i, none⟩ = some v := by
  rw [ha, add_plain] at h
  exact h

theorem bulkAll {H : Type} : ∀ L : List (DataW H), Rows.uptoBulkAll L = (L.map Rows.uptoBulk).sum
  | [] => by simp [Rows.uptoBulkAll]
  | d :: r => by rw [Rows.uptoBulkAll, bulkAll r, List.map_cons, List.sum_cons]
theorem sum_le {f g : Nat → Nat} : ∀ n, (∀ i, i < n → f i ≤ g i) → ((List.range n).map f).sum ≤ ((List.range n).map g).sum
  | 0, _ => by simp
  | n + 1, h => by
    have := sum_le n (fun i hi => h i (by omega))
    have h1 := h n (by omega)
    simp only [List.range_succ, List.map_append, List.map_cons, List.map_nil, List.sum_append, List.sum_cons, List.sum_nil]
    omega
theorem le_sum {f : Nat → Nat} : ∀ n i, i < n → f i ≤ ((List.range n).map f).sum
  | 0, i, h => by omega
  | n + 1, i, h => by
    simp only [List.range_succ, List.map_append, List.map_cons, List.map_nil, List.sum_append, List.sum_cons, List.sum_nil]
    by_cases e : i < n
    · have := le_sum (f := f) n i e; omega
    · obtain rfl : i = n := by omega
      omega
theorem len_sum {f : Nat → Nat} : ∀ n, (∀ i, 1 ≤ f i) → n ≤ ((List.range n).map f).sum
  | 0, _ => by simp
  | n + 1, h => by
    have := len_sum (f := f) n h
    have h1 := h n
    simp only [List.range_succ, List.map_append, List.map_cons, List.map_nil, List.sum_append, List.sum_cons, List.sum_nil]
    omega
theorem bulk_slice {H : Type} (D : Nat → DataW H) (n : Nat) (r : List (DataW H)) : ((List.range n).map fun i => Rows.uptoBulk (D i)).sum + 1 ≤ Rows.uptoBulk (.slice ((List.range n).map D) r) := by
  rw [Rows.uptoBulk, bulkAll, List.map_map]
  show ((List.range n).map fun i => Rows.uptoBulk (D i)).sum + 1 ≤ ((List.range n).map fun i => Rows.uptoBulk (D i)).sum + _ + 1
  omega
theorem bulk_pos {H : Type} (d : DataW H) : 1 ≤ Rows.uptoBulk d := by
  cases d with
  | lit l => cases l <;> simp [Rows.uptoBulk]
  | _ => simp [Rows.uptoBulk]

theorem ba_data (s : ByteArray) : ba s.data.toList = s := rfl

section
variable {H : Type} {enc : TypeId × Value → H} {w : World} {base : Nat} {spare : Nat → Bool} {held : Bool} {fuel : Nat} {v : Value} {x : DataW H × List MemPlace}

theorem open_lines (h : DataW.trod enc Try.prog w base spare held fuel 27 [v] = some x) :
    ∃ (ls : List Bs) (pa : Option Addr) (c : Nat), v = .slice pa ls.length c ∧ ls.length ≤ c ∧ Cl w pa (strs ls) ∧ (ls.map fun l => l.length + 1).sum ≤ Rows.uptoBulk x.1 := by
  rcases Go.Deep.open_strs Try.underlying27 Try.underlying9 (by kernel_rfl) h with ⟨h1, rfl⟩ | ⟨a, len, cap, m, Sx, h1, hb, hl, hm, hmm, rfl, hx⟩
  · obtain rfl : v = .slice none 0 0 := by simpa using h1
    exact ⟨[], none, 0, rfl, Nat.le_refl _, fun h0 => absurd h0 (by simp [strs]), by simp⟩
  · obtain rfl : v = .slice (some a) len cap := by simpa using h1
    have hlm : len ≤ m := by rw [hmm]; split <;> omega
    refine ⟨(List.range len).map fun i => (Sx i).data.toList, some a, cap, by simp, by simp; exact hl, fun h0 => ?_, ?_⟩
    · have h0' : 0 < len := by simpa [strs] using h0
      have h4 := (hx 0 (by omega)).1
      rw [add_zero'] at h4
      obtain ⟨e1, e2⟩ := plain_a h4
      refine ⟨a.block, a.off, by rw [← e1], fun i u hi => ?_⟩
      have hi' : i < len := by have := (List.getElem?_eq_some_iff.1 hi).1; simpa [strs] using this
      rw [plain_i e1 (hx i (by omega)).1, ← hi]
      simp [strs, hi', ba_data]
    · have hB := bulk_slice (H := H) (fun i => .lit (.string (Sx i).data.toList)) len ((List.range (m - len)).map fun j => .lit (.string (Sx (len + j)).data.toList))
      refine Nat.le_trans ?_ (Nat.le_trans (Nat.le_succ _) hB)
      rw [List.map_map]
      exact sum_le len fun i _ => by simp [Rows.uptoBulk]

theorem open_atsZ (h : DataW.trod enc Try.prog w base spare held fuel 28 [v] = some x) :
    ∃ (ns : List Int) (pa : Option Addr) (c : Nat), v = .slice pa ns.length c ∧ Cl w pa (intz ns) ∧ ns.length ≤ Rows.uptoBulk x.1 := by
  rcases open_ints Try.underlying28 Try.underlying3 (by kernel_rfl) h with ⟨h1, rfl⟩ | ⟨a, len, cap, zs, h1, hb, hl, hm, hz, rfl, hcell, hwz⟩
  · obtain rfl : v = .slice none 0 0 := by simpa using h1
    exact ⟨[], none, 0, rfl, fun h0 => absurd h0 (by simp [intz]), by simp⟩
  · obtain rfl : v = .slice (some a) len cap := by simpa using h1
    have hlz : len ≤ zs.length := by rw [hz]; split <;> omega
    have hlen : (zs.take len).length = len := by simp; omega
    refine ⟨zs.take len, some a, cap, by rw [hlen], fun h0 => ?_, ?_⟩
    · have h00 : 0 < len := by simp [intz] at h0; omega
      have h4 := hcell 0 (by omega)
      rw [add_zero'] at h4
      obtain ⟨e1, e2⟩ := plain_a h4
      refine ⟨a.block, a.off, by rw [← e1], fun i u hi => ?_⟩
      have hi' : i < len := by have := (List.getElem?_eq_some_iff.1 hi).1; simp [intz] at this; omega
      rw [plain_i e1 (hcell i (by omega)), ← hi]
      have h5 : i < zs.length := by omega
      simp [intz, hi', h5]
    · rw [hlen, Rows.uptoBulk, bulkAll]
      have : len ≤ ((lits (H := H) .i64 (zs.take len)).map Rows.uptoBulk).sum := by
        have h6 : (lits (H := H) .i64 (zs.take len)).map Rows.uptoBulk = (zs.take len).map fun _ => 1 := by
          simp [lits, Rows.uptoBulk, Function.comp_def]
        rw [h6, List.map_const', List.sum_replicate_nat, List.length_take]
        omega
      omega

set_option maxRecDepth 100000 in
theorem open_parZ (h : DataW.trod enc Try.prog w base spare held fuel 22 [v] = some x) (hB : Rows.uptoBulk x.1 ≤ 1048576) :
    ∃ p : List Gd, ParZ w v p ∧ p.length ≤ 1048576 ∧ ∀ f ∈ p, B0 f := by
  rcases Go.Deep.open_slice Try.underlying22 h with ⟨h1, rfl⟩ | ⟨a, len, cap, m, n, D, Pl, h1, hb, hl, hm, hmm, rfl, hx⟩
  · obtain rfl : v = .slice none 0 0 := by simpa using h1
    exact ⟨[], ⟨none, 0, rfl, Nat.le_refl _, fun h0 => absurd h0 (by simp)⟩, by simp, fun f hf => by cases hf⟩
  · obtain rfl : v = .slice (some a) len cap := by simpa using h1
    have hlm : len ≤ m := by rw [hmm]; split <;> omega
    have hS := bulk_slice (H := H) D len ((List.range (m - len)).map fun j => D (len + j))
    have each0 : 0 < len → a = ⟨a.block, a.off, none⟩ ∧ a.block < w.heap.size := fun hi => by
      obtain ⟨cs', h2, h3⟩ := hx 0 (by omega)
      rw [cells49] at h2
      obtain ⟨_, hlen, hcell⟩ := World.cells?_some h2
      have k0 := hcell 0 (by omega)
      rw [Nat.zero_mul, add_zero', add_zero', List.getElem?_eq_getElem (by omega)] at k0
      exact plain_a k0
    have each : ∀ i, i < len → ∃ f : Gd, FdZ w a.block (a.off + i * 3) f ∧ B0 f := fun i hi => by
      obtain ⟨cs', h2, h3⟩ := hx i (by omega)
      rw [cells49] at h2
      obtain ⟨_, hlen, hcell⟩ := World.cells?_some h2
      match cs', hlen with
      | [c0, c1, c2], _ =>
        obtain ⟨xs, n', _, hx', hl', hlen', hfs⟩ := DataW.trod_struct Try.underlying30 h3
        match xs, hlen' with
        | [y0, y1, y2], _ =>
          have g0 := hfs 0 _ rfl
          have g1 := hfs 1 _ rfl
          have g2 := hfs 2 _ rfl
          simp [show Try.prog.cellsOf 9 = 1 by kernel_rfl, show Try.prog.cellsOf 27 = 1 by kernel_rfl, show Try.prog.cellsOf 28 = 1 by kernel_rfl] at g0 g1 g2
          obtain ⟨e, e0, rfl, z0⟩ := DataW.trod_string Try.underlying9 g0
          simp at e0
          subst e0
          obtain ⟨ls, la, lc, rfl, l2, l3, l4⟩ := open_lines g1
          obtain ⟨az, na, nc, rfl, n2, n4⟩ := open_atsZ g2
          have k0 := hcell 0 (by omega)
          have k1 := hcell 1 (by omega)
          have k2 := hcell 2 (by omega)
          rw [Go.Deep.add_add] at k0 k1 k2
          simp only [List.getElem?_cons_zero, List.getElem?_cons_succ] at k0 k1 k2
          obtain ⟨p1, p2⟩ := each0 (by omega)
          simp only [Prod.mk.injEq] at hx'
          have hDi : D i = .agg [.lit (.string e.data.toList), y1.1, y2.1] := hx'.1
          have hbulk : Rows.uptoBulk (D i) = (e.data.toList.length + 1) + (Rows.uptoBulk y1.1 + (Rows.uptoBulk y2.1 + 0)) + 1 := by
            rw [hDi]
            simp [Rows.uptoBulk, Rows.uptoBulkAll]
          have hle := le_sum (f := fun i => Rows.uptoBulk (D i)) len i hi
          refine ⟨⟨e.data.toList, ls, az⟩, ⟨by have := plain_i p1 k0; simpa [ba_data] using this, ⟨la, lc, plain_i p1 k1, l2, l3⟩, ⟨na, nc, plain_i p1 k2, n2⟩⟩, ?_⟩
          have hB2 := hB
          simp only at hB2 hle hS
          obtain ⟨j1, j2, j3⟩ := jn_sum ls
          refine ⟨?_, ?_, ?_, ?_, fun l hl => ?_⟩
          · show e.data.toList.length ≤ _; omega
          · show ls.length ≤ _; omega
          · show az.length ≤ _; omega
          · show (Lib.join ls [10]).length ≤ _; omega
          · have := j3 l hl; omega
    have : Inhabited Gd := ⟨⟨[], [], []⟩⟩
    obtain ⟨q, hq⟩ := Go.Deep.choose_lt each
    refine ⟨(List.range len).map q, ⟨some a, cap, by simp, by simpa using hl, fun h0 => ?_⟩, ?_, fun f hf => ?_⟩
    · have h0' : 0 < len := by simpa using h0
      obtain ⟨p1, _⟩ := each0 h0'
      refine ⟨a.block, a.off, by rw [← p1], fun i f hi => ?_⟩
      have hi' : i < len := by have := (List.getElem?_eq_some_iff.1 hi).1; simpa using this
      have e : q i = f := by simpa [hi'] using hi
      rw [← e]
      exact (hq i hi').1
    · have h1 := len_sum (f := fun i => Rows.uptoBulk (D i)) len fun i => bulk_pos _
      have hB2 := hB
      simp only at hB2 hS
      rw [List.length_map, List.length_range]
      omega
    · obtain ⟨i, hi, rfl⟩ := List.mem_map.1 hf
      exact (hq i (List.mem_range.1 hi)).2
end

end Go.Proofs.Ytohncccejlccbaa
