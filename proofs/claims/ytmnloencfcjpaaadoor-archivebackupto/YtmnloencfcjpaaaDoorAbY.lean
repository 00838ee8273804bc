import Derived.Test.YtmnloencfcjpaaaDoorAbX
import Derived.Test.YtmnloencfcjpaaaDoorRows
import Derived.Deep.Strs
import Derived.MapViews
import Derived.DeepKeys2
import Derived.ProofKit
import Derived.OpenShut
import Derived.ShutString
import Derived.ChangeOld
import Derived.SizedLaws
import Derived.ChangeSlices
import Derived.WideShapes
namespace Go.Proofs.YtmnloencfcjpaaaDoor
open Go.ChangeShapes Go.WideShapes Go.ChangeAt Go.RowKit

theorem plain_a {w : World} {a : Addr} {v : Value} (h : w.cell? a = some v) : a = ⟨a.block, a.off, none⟩ ∧ a.block < w.heap.size := by
  have hs := World.cell?_spot h
  have hb := World.block_lt_of_cell? _ _ h
  obtain ⟨b, o, sp⟩ := a
  have e : sp = none := hs
  subst e
  exact ⟨rfl, hb⟩
theorem add_zero' (a : Addr) : a.add 0 = a := by unfold Addr.add; simp
theorem add_plain' (b o i : Nat) : (⟨b, o, none⟩ : Addr).add i = ⟨b, o + i, none⟩ := by unfold Addr.add; split <;> simp_all
theorem plain_i {w : World} {a : Addr} {i : Nat} {v : Value} (ha : a = ⟨a.block, a.off, none⟩) (h : w.cell? (a.add i) = some v) : w.cell? ⟨a.block, a.off + i, none⟩ = some v := by
  rw [ha, add_plain'] at h
  exact h
/-- WEIGHTS. -/
theorem bulkAll {H : Type} : ∀ L : List (DataW H), Rows.uptoBulkAll L = (L.map Rows.uptoBulk).sum
  | [] => by simp [Rows.uptoBulkAll]
  | d :: r => by rw [Rows.uptoBulkAll, bulkAll r, List.map_cons, List.sum_cons]
theorem leSum {f : Nat → Nat} : ∀ n i, i < n → f i ≤ ((List.range n).map f).sum
  | 0, i, h => by omega
  | n + 1, i, h => by
    simp only [List.range_succ, List.map_append, List.map_cons, List.map_nil, List.sum_append, List.sum_cons, List.sum_nil]
    by_cases e : i < n
    · have := leSum (f := f) n i e; omega
    · obtain rfl : i = n := by omega
      omega
theorem len_sum {f : Nat → Nat} : ∀ n, (∀ i, 1 ≤ f i) → n ≤ ((List.range n).map f).sum
  | 0, _ => by simp
  | n + 1, h => by
    have := len_sum (f := f) n h
    have h1 := h n
    simp only [List.range_succ, List.map_append, List.map_cons, List.map_nil, List.sum_append, List.sum_cons, List.sum_nil]
    omega
theorem bulk_pos {H : Type} (d : DataW H) : 1 ≤ Rows.uptoBulk d := by
  cases d with
  | lit l => cases l <;> simp [Rows.uptoBulk]
  | _ => simp [Rows.uptoBulk]
theorem bulk_slice {H : Type} (D : Nat → DataW H) (n : Nat) (r : List (DataW H)) : n ≤ Rows.uptoBulk (.slice ((List.range n).map D) r) ∧ ∀ i, i < n → Rows.uptoBulk (D i) ≤ Rows.uptoBulk (.slice ((List.range n).map D) r) := by
  rw [Rows.uptoBulk, bulkAll, List.map_map]
  have h1 := len_sum (f := fun i => Rows.uptoBulk (D i)) n (fun i => bulk_pos _)
  refine ⟨Nat.le_trans h1 (Nat.le_trans (Nat.le_add_right _ _) (Nat.le_add_right _ _)), fun i hi => ?_⟩
  have h2 := leSum (f := fun i => Rows.uptoBulk (D i)) n i hi
  exact Nat.le_trans h2 (Nat.le_trans (Nat.le_add_right _ _) (Nat.le_add_right _ _))
theorem mem_bulk {H : Type} : ∀ (L : List (DataW H)) (d : DataW H), d ∈ L → Rows.uptoBulk d ≤ Rows.uptoBulkAll L
  | [], _, h => by cases h
  | b :: r, a, h => by
    rw [Rows.uptoBulkAll]
    rcases List.mem_cons.1 h with rfl | h
    · omega
    · have := mem_bulk r a h; omega

variable {H : Type} {enc : TypeId × Value → H} {w : World} {base : Nat} {spare : Nat → Bool} {held : Bool} {fuel : Nat} {v : Value} {x : DataW H × List MemPlace}
theorem cellsY : Tryd.prog.cellsOf 5 = 1 := by kernel_rfl
theorem cellsBl : Tryd.prog.cellsOf 40 = 2 := by kernel_rfl
theorem cells9 : Tryd.prog.cellsOf 9 = 1 := by kernel_rfl
theorem cellsYs : Tryd.prog.cellsOf 23 = 1 := by kernel_rfl
set_option maxRecDepth 100000 in
theorem open_bytes (h : DataW.trod enc Tryd.prog w base spare held fuel 23 [v] = some x) : ∃ l : Bs, Rb w v l ∧ l.length ≤ Rows.uptoBulk x.1 := by
  rcases Go.Deep.open_slice Tryd.underlying23 h with ⟨h1, rfl⟩ | ⟨a, len, cap, m, n, D, Pl, h1, hb, hl, hm, hmm, rfl, hx⟩
  · obtain rfl : v = .slice none 0 0 := by simpa using h1
    exact ⟨[], Rb.nil' _ _ _, Nat.zero_le _⟩
  · obtain rfl : v = .slice (some a) len cap := by simpa using h1
    have hlm : len ≤ m := by rw [hmm]; split <;> omega
    have hS := bulk_slice (H := H) D len ((List.range (m - len)).map fun j => D (len + j))
    have each : ∀ i, i < len → ∃ y : UInt8, a = ⟨a.block, a.off, none⟩ ∧ a.block < w.heap.size ∧ w.cell? ⟨a.block, a.off + i, none⟩ = some (cb y) := fun i hi => by
      obtain ⟨cs0, z2, z3⟩ := hx 0 (by omega)
      rw [cellsY] at z2
      obtain ⟨_, hlen0, hcell0⟩ := World.cells?_some z2
      have k0 := hcell0 0 (by omega)
      rw [Nat.zero_mul, add_zero', add_zero', List.getElem?_eq_getElem (by omega)] at k0
      obtain ⟨p1, p2⟩ := plain_a k0
      obtain ⟨cs', h2, h3⟩ := hx i (by omega)
      rw [cellsY] at h2
      obtain ⟨_, hlen, hcell⟩ := World.cells?_some h2
      obtain ⟨q, rfl⟩ : ∃ q, cs' = [q] := by
        match cs', hlen with
        | [q], _ => exact ⟨q, rfl⟩
      obtain ⟨z, hqz, _, hz⟩ := DataW.trod_int Tryd.underlying5 h3
      obtain rfl : q = .int .u8 z := by simpa using hqz
      have k1 := hcell 0 (by omega)
      rw [add_zero', Nat.mul_one] at k1
      have k2 := plain_i p1 k1
      have hz2 : 0 ≤ z ∧ z ≤ 255 := by
        have q := hz
        simp only [Lit.wf, Bool.and_eq_true, decide_eq_true_eq] at q
        have h1 : IntKind.u8.min = 0 := rfl
        have h2 : IntKind.u8.max = 255 := rfl
        rw [h1, h2] at q
        exact q
      have e : (UInt8.ofNat z.toNat).toNat = z.toNat := UInt8.toNat_ofNat_of_lt (by show z.toNat < 256; omega)
      have e2 : ((z.toNat : Nat) : Int) = z := Int.toNat_of_nonneg hz2.1
      have e3 : cb (UInt8.ofNat z.toNat) = .int .u8 z := by unfold cb; rw [e, e2]
      exact ⟨UInt8.ofNat z.toNat, p1, p2, by rw [e3]; exact k2⟩
    haveI : Inhabited UInt8 := ⟨0⟩
    obtain ⟨q, hq⟩ := Go.Deep.choose_lt each
    refine ⟨(List.range len).map q, ⟨some a, cap, by simp, by simpa using hl, fun h0 => ?_⟩, by simpa using hS.1⟩
    have h0' : 0 < len := by simpa using h0
    obtain ⟨p1, p2, _⟩ := hq 0 h0'
    refine ⟨a.block, a.off, by rw [← p1], p2, fun i y hi => ?_⟩
    have hi' : i < len := by have := (List.getElem?_eq_some_iff.1 hi).1; simpa using this
    rw [List.getElem?_map, List.getElem?_range hi'] at hi
    cases hi
    exact (hq i hi').2.2
set_option maxRecDepth 100000 in
theorem open_blobs (h : DataW.trod enc Tryd.prog w base spare held fuel 22 [v] = some x) : ∃ fs : List Fl, Fb w v fs ∧ fs.length ≤ Rows.uptoBulk x.1 ∧ ∀ f ∈ fs, f.1.size ≤ maxLen ∧ f.2.length ≤ Rows.uptoBulk x.1 := by
  rcases Go.Deep.open_slice Tryd.underlying22 h with ⟨h1, rfl⟩ | ⟨a, len, cap, m, n, D, Pl, h1, hb, hl, hm, hmm, rfl, hx⟩
  · obtain rfl : v = .slice none 0 0 := by simpa using h1
    exact ⟨[], ⟨none, 0, rfl, Nat.le_refl _, fun i f hi => by cases hi⟩, Nat.zero_le _, fun f hf => by cases hf⟩
  · obtain rfl : v = .slice (some a) len cap := by simpa using h1
    have hlm : len ≤ m := by rw [hmm]; split <;> omega
    have hS := bulk_slice (H := H) D len ((List.range (m - len)).map fun j => D (len + j))
    have each : ∀ i, i < len → ∃ f : Fl, a = ⟨a.block, a.off, none⟩ ∧ a.block < w.heap.size ∧ (f.1.size ≤ maxLen ∧ f.2.length ≤ Rows.uptoBulk (D i)) ∧ ∃ y, w.rangeAt a.block (a.off + i * 2) [.string f.1, y] ∧ Rb w y f.2 := fun i hi => by
      obtain ⟨cs0, z2, z3⟩ := hx 0 (by omega)
      rw [cellsBl] at z2
      obtain ⟨_, hlen0, hcell0⟩ := World.cells?_some z2
      have k0 := hcell0 0 (by omega)
      rw [Nat.zero_mul, add_zero', add_zero', List.getElem?_eq_getElem (by omega)] at k0
      obtain ⟨p1, p2⟩ := plain_a k0
      obtain ⟨cs', h2, h3⟩ := hx i (by omega)
      rw [cellsBl] at h2
      obtain ⟨_, hlen, hcell⟩ := World.cells?_some h2
      obtain ⟨c1, c2, rfl⟩ : ∃ c1 c2, cs' = [c1, c2] := by
        match cs', hlen with
        | [c1, c2], _ => exact ⟨c1, c2, rfl⟩
      obtain ⟨xs, n2, _, hx2, hl2, hlen2, hfs⟩ := DataW.trod_struct Tryd.underlying40 h3
      have hxl : xs.length = 2 := hlen2
      have hd : D i = .agg (xs.map (·.1)) := (Prod.mk.inj hx2).1
      have g0 := hfs 0 _ rfl
      have g1 := hfs 1 _ rfl
      change DataW.trod enc Tryd.prog w base spare held n2 9 (([c1, c2].drop 0).take (Tryd.prog.cellsOf 9)) = xs[0]? at g0
      change DataW.trod enc Tryd.prog w base spare held n2 23 (([c1, c2].drop 1).take (Tryd.prog.cellsOf 23)) = xs[1]? at g1
      rw [cells9, List.getElem?_eq_getElem (show 0 < xs.length by omega)] at g0
      rw [cellsYs, List.getElem?_eq_getElem (show 1 < xs.length by omega)] at g1
      obtain ⟨s, e0, _, zs⟩ := DataW.trod_string Tryd.underlying9 g0
      obtain ⟨l, hR, hlb⟩ := open_bytes (v := c2) g1
      obtain rfl : c1 = .string s := by simpa using e0
      have hbk := mem_bulk (xs.map (·.1)) xs[1].1 (List.mem_map.2 ⟨_, List.getElem_mem _, rfl⟩)
      refine ⟨(s, l), p1, p2, ⟨zs, Nat.le_trans hlb (Nat.le_trans hbk (by rw [hd, Rows.uptoBulk]; exact Nat.le_add_right _ _))⟩, c2, fun j u hj => ?_, hR⟩
      have hj' : j < 2 := (List.getElem?_eq_some_iff.1 hj).1
      have k1 := hcell j (by omega)
      rw [Go.Deep.add_add, hj] at k1
      have := plain_i p1 k1
      rw [show a.off + i * 2 + j = a.off + (i * 2 + j) by omega]
      exact this
    haveI : Inhabited Fl := ⟨(⟨#[]⟩, [])⟩
    obtain ⟨q, hq⟩ := Go.Deep.choose_lt each
    refine ⟨(List.range len).map q, ⟨some a, cap, by simp, by simpa using hl, fun i f hi => ?_⟩, by simpa using hS.1, fun f hf => ?_⟩
    · have hi' : i < len := by have := (List.getElem?_eq_some_iff.1 hi).1; simpa using this
      rw [List.getElem?_map, List.getElem?_range hi'] at hi
      cases hi
      obtain ⟨p1, p2, _, y, hr, hR⟩ := hq i hi'
      exact ⟨a.block, a.off, y, by rw [← p1], p2, hr, hR⟩
    · obtain ⟨i, hi, rfl⟩ := List.mem_map.1 hf
      obtain ⟨_, _, ⟨q1, q2⟩, _⟩ := hq i (List.mem_range.1 hi)
      exact ⟨q1, Nat.le_trans q2 (hS.2 i (List.mem_range.1 hi))⟩
end Go.Proofs.YtmnloencfcjpaaaDoor
