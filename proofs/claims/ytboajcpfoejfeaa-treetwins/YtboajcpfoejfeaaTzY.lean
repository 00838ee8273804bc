import Derived.Test.YtboajcpfoejfeaaTzF
import Derived.Test.YtboajcpfoejfeaaRows
import Derived.Deep.Strs
import Derived.MapViews
import Derived.DeepKeys2
import Derived.ProofKit
import Derived.OpenShut
import Derived.ShutString
import Derived.ChangeOld
import Derived.SizedLaws
import Derived.ChangeSlices
import Derived.WideShapes
namespace Go.Proofs.Ytboajcpfoejfeaa
open Go.ChangeShapes Go.WideShapes Go.ChangeAt Go.RowKit

theorem plain_a {w : World} {a : Addr} {v : Value} (h : w.cell? a = some v) : a = ⟨a.block, a.off, none⟩ ∧ a.block < w.heap.size := by
  have hs := World.cell?_spot h
  have hb := World.block_lt_of_cell? _ _ h
  obtain ⟨b, o, sp⟩ := a
  have e : sp = none := hs
  subst e
  exact ⟨rfl, hb⟩
theorem add_zero' (a : Addr) : a.add 0 = a := by unfold Addr.add; simp
theorem add_plain' (b o i : Nat) : (⟨b, o, none⟩ : Addr).add i = ⟨b, o + i, none⟩ := by unfold Addr.add; split <;> simp_all
theorem plain_i {w : World} {a : Addr} {i : Nat} {v : Value} (ha : a = ⟨a.block, a.off, none⟩) (h : w.cell? (a.add i) = some v) : w.cell? ⟨a.block, a.off + i, none⟩ = some v := by
  rw [ha, add_plain'] at h
  exact h

variable {H : Type} {enc : TypeId × Value → H} {w : World} {base : Nat} {spare : Nat → Bool} {held : Bool} {fuel : Nat} {v : Value} {x : DataW H × List MemPlace}

theorem bytesF : Try.prog.bytesOf 32 = 56 := by kernel_rfl
theorem drop_one {cs : List Value} {k : Nat} {u : Value} (h : (cs.drop k).take 1 = [u]) : cs[k]? = some u := by
  have e : ((cs.drop k).take 1)[0]? = some u := by rw [h]; rfl
  rw [List.getElem?_take_of_lt (by decide), List.getElem?_drop, Nat.add_zero] at e
  exact e

set_option maxRecDepth 100000 in
theorem open_file {cs : List Value} {d : DataW H} {pl : List MemPlace} (hlen0 : cs.length = 34) (hf : DataW.trod enc Try.prog w base spare held fuel 32 cs = some (d, pl)) :
    ∃ f : Fi, f.cs = cs ∧ f.ok := by
  obtain ⟨y0, y1, y2, n, hx, _, g0, g1, g2⟩ := Go.Deep.trod_struct3 Try.underlying32 hf
  change DataW.trod enc Try.prog w base spare held n 9 ((cs.drop 0).take (Try.prog.cellsOf 9)) = some y0 at g0
  change DataW.trod enc Try.prog w base spare held n 3 ((cs.drop 1).take (Try.prog.cellsOf 3)) = some y1 at g1
  change DataW.trod enc Try.prog w base spare held n 30 ((cs.drop 2).take (Try.prog.cellsOf 30)) = some y2 at g2
  rw [cells9] at g0
  rw [cells3] at g1
  rw [cellsU] at g2
  obtain ⟨nm, e0, _, hm⟩ := DataW.trod_string Try.underlying9 g0
  obtain ⟨z, e1, _, hz⟩ := DataW.trod_int Try.underlying3 g1
  obtain ⟨xs, m, _, _, _, hxl, hel⟩ := DataW.trod_array Try.underlying30 g2
  have c0 := drop_one e0
  have c1 := drop_one e1
  have each : ∀ i, i < 32 → ∃ k : Int, cs[2 + i]? = some (.int .u8 k) ∧ (Lit.int .u8 k).wf = true := fun i hi => by
    have h := hel i hi
    rw [cells5, Nat.mul_one, List.getElem?_eq_getElem (show i < xs.length by omega)] at h
    obtain ⟨k, e, _, hw⟩ := DataW.trod_int Try.underlying5 h
    have := drop_one e
    rw [List.getElem?_take_of_lt hi, List.getElem?_drop] at this
    exact ⟨k, this, hw⟩
  obtain ⟨q, hq⟩ := Go.Deep.choose_lt each
  refine ⟨⟨nm, z, (List.range 32).map q⟩, List.ext_getElem? fun i => ?_, ⟨?_, hz, by simp, fun k hk => ?_⟩⟩
  · match i with
    | 0 => exact c0.symm
    | 1 => exact c1.symm
    | i + 2 =>
      show (sC ((List.range 32).map q))[i]? = _
      rw [sC_at, List.getElem?_map]
      by_cases hi : i < 32
      · rw [List.getElem?_range hi, show i + 2 = 2 + i by omega, (hq i hi).1]
        rfl
      · rw [List.getElem?_eq_none (by rw [List.length_range]; omega), List.getElem?_eq_none (by omega)]
        rfl
  · exact Nat.le_trans hm (by decide)
  · obtain ⟨i, hi, rfl⟩ := List.mem_map.1 hk
    exact (hq i (List.mem_range.1 hi)).2

set_option maxRecDepth 100000 in
theorem open_fis (h : DataW.trod enc Try.prog w base spare held fuel 22 [v] = some x) (hB : ∀ n ∈ x.1.weights Try.prog 22, n ≤ 140737488351232) : ∃ fs : List Fi, Fis w v fs ∧ fs.length ≤ 2513169434843 := by
  rcases Go.Deep.open_slice Try.underlying22 h with ⟨h1, rfl⟩ | ⟨a, len, cap, m, n, D, Pl, h1, hb, hl, hm, hmm, rfl, hx⟩
  · obtain rfl : v = .slice none 0 0 := by simpa using h1
    exact ⟨[], ⟨none, 0, rfl, fun f hf => (by cases hf), fun h0 => absurd h0 (Nat.not_lt_zero _)⟩, by simp⟩
  · obtain rfl : v = .slice (some a) len cap := by simpa using h1
    have hlm : len ≤ m := by rw [hmm]; split <;> omega
    have hlen : len ≤ 2513169434843 := by
      have := hB ((((List.range len).map D).length + ((List.range (m - len)).map fun j => D (len + j)).length) * Try.prog.bytesOf 32) (by
        unfold DataW.weights
        rw [Try.underlying22]
        exact List.mem_cons_self)
      rw [bytesF, List.length_map, List.length_range] at this
      omega
    have each0 : 0 < len → a = ⟨a.block, a.off, none⟩ ∧ a.block < w.heap.size := fun hi => by
      obtain ⟨cs', h2, h3⟩ := hx 0 (by omega)
      rw [cellsF] at h2
      obtain ⟨_, hlen, hcell⟩ := World.cells?_some h2
      have k0 := hcell 0 (by omega)
      rw [Nat.zero_mul, add_zero', add_zero', List.getElem?_eq_getElem (by omega)] at k0
      exact plain_a k0
    have each : ∀ i, i < len → ∃ f : Fi, f.ok ∧ w.rangeAt a.block (a.off + i * 34) f.cs := fun i hi => by
      obtain ⟨cs', h2, h3⟩ := hx i (by omega)
      rw [cellsF] at h2
      obtain ⟨_, hlen, hcell⟩ := World.cells?_some h2
      obtain ⟨f, rfl, hok⟩ := open_file hlen h3
      obtain ⟨p1, p2⟩ := each0 (by omega)
      refine ⟨f, hok, fun j u hj => ?_⟩
      have hj' : j < 34 := by have h := (List.getElem?_eq_some_iff.1 hj).1; rw [← hlen]; exact h
      have k0 := hcell j (by omega)
      rw [Go.Deep.add_add, hj] at k0
      have := plain_i p1 k0
      rw [show a.off + i * 34 + j = a.off + (i * 34 + j) by omega]
      exact this
    haveI : Inhabited Fi := ⟨⟨.empty, 0, []⟩⟩
    obtain ⟨q, hq⟩ := Go.Deep.choose_lt each
    refine ⟨(List.range len).map q, ⟨some a, cap, by simp, fun f hf => ?_, fun h0 => ?_⟩, by simpa using hlen⟩
    · obtain ⟨i, hi, rfl⟩ := List.mem_map.1 hf
      exact (hq i (List.mem_range.1 hi)).1
    · have h0' : 0 < len := by simpa using h0
      obtain ⟨p1, p2⟩ := each0 h0'
      refine ⟨a.block, a.off, by rw [← p1], p2, fun i f hi => ?_⟩
      have hi' : i < len := by have := (List.getElem?_eq_some_iff.1 hi).1; simpa using this
      rw [List.getElem?_map, List.getElem?_range hi'] at hi
      cases hi
      exact (hq i hi').2
end Go.Proofs.Ytboajcpfoejfeaa
