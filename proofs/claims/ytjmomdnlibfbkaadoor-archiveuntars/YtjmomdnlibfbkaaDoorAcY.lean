import Derived.Test.YtjmomdnlibfbkaaDoorAcW
import Derived.Test.YtjmomdnlibfbkaaDoorRows
import Derived.Deep.Strs
import Derived.MapViews
import Derived.DeepKeys2
import Derived.ProofKit
import Derived.OpenShut
import Derived.ShutString
import Derived.ChangeOld
import Derived.SizedLaws
import Derived.ChangeSlices
import Derived.WideShapes
namespace Go.Proofs.YtjmomdnlibfbkaaDoor
open Go.ChangeShapes Go.WideShapes Go.ChangeAt Go.RowKit

theorem plain_a {w : World} {a : Addr} {v : Value} (h : w.cell? a = some v) : a = ⟨a.block, a.off, none⟩ ∧ a.block < w.heap.size := by
  have hs := World.cell?_spot h
  have hb := World.block_lt_of_cell? _ _ h
  obtain ⟨b, o, sp⟩ := a
  have e : sp = none := hs
  subst e
  exact ⟨rfl, hb⟩
theorem add_zero' (a : Addr) : a.add 0 = a := by unfold Addr.add; simp
theorem add_plain' (b o i : Nat) : (⟨b, o, none⟩ : Addr).add i = ⟨b, o + i, none⟩ := by unfold Addr.add; split <;> simp_all
theorem plain_i {w : World} {a : Addr} {i : Nat} {v : Value} (ha : a = ⟨a.block, a.off, none⟩) (h : w.cell? (a.add i) = some v) : w.cell? ⟨a.block, a.off + i, none⟩ = some v := by
  rw [ha, add_plain'] at h
  exact h
variable {H : Type} {enc : TypeId × Value → H} {w : World} {base : Nat} {spare : Nat → Bool} {held : Bool} {fuel : Nat} {v : Value} {x : DataW H × List MemPlace}
theorem cellsY : Tryd.prog.cellsOf 5 = 1 := by kernel_rfl
theorem bytesY : Tryd.prog.bytesOf 5 = 1 := by kernel_rfl
set_option maxRecDepth 100000 in
/-- BYTES THAT CAME IN, by the memory that they take. -/
theorem open_bytesW (h : DataW.trod enc Tryd.prog w base spare held fuel 23 [v] = some x) (hW : ∀ n ∈ x.1.weights Tryd.prog 23, n ≤ 140737488351232) : ∃ l : Bs, Rb w v l ∧ l.length ≤ 140737488351232 := by
  rcases Go.Deep.open_slice Tryd.underlying23 h with ⟨h1, rfl⟩ | ⟨a, len, cap, m, n, D, Pl, h1, hb, hl, hm, hmm, rfl, hx⟩
  · obtain rfl : v = .slice none 0 0 := by simpa using h1
    exact ⟨[], Rb.nil' _ _ _, Nat.zero_le _⟩
  · obtain rfl : v = .slice (some a) len cap := by simpa using h1
    have hlm : len ≤ m := by rw [hmm]; split <;> omega
    have hlen0 : len ≤ 140737488351232 := by
      have := hW _ (by unfold DataW.weights; rw [Tryd.underlying23]; exact List.mem_cons_self)
      rw [bytesY] at this
      simp at this
      omega
    have each : ∀ i, i < len → ∃ y : UInt8, a = ⟨a.block, a.off, none⟩ ∧ a.block < w.heap.size ∧ w.cell? ⟨a.block, a.off + i, none⟩ = some (cb y) := fun i hi => by
      obtain ⟨cs0, z2, z3⟩ := hx 0 (by omega)
      rw [cellsY] at z2
      obtain ⟨_, hlen0, hcell0⟩ := World.cells?_some z2
      have k0 := hcell0 0 (by omega)
      rw [Nat.zero_mul, add_zero', add_zero', List.getElem?_eq_getElem (by omega)] at k0
      obtain ⟨p1, p2⟩ := plain_a k0
      obtain ⟨cs', h2, h3⟩ := hx i (by omega)
      rw [cellsY] at h2
      obtain ⟨_, hlen, hcell⟩ := World.cells?_some h2
      obtain ⟨q, rfl⟩ : ∃ q, cs' = [q] := by
        match cs', hlen with
        | [q], _ => exact ⟨q, rfl⟩
      obtain ⟨z, hqz, _, hz⟩ := DataW.trod_int Tryd.underlying5 h3
      obtain rfl : q = .int .u8 z := by simpa using hqz
      have k1 := hcell 0 (by omega)
      rw [add_zero', Nat.mul_one] at k1
      have k2 := plain_i p1 k1
      have hz2 : 0 ≤ z ∧ z ≤ 255 := by
        have q := hz
        simp only [Lit.wf, Bool.and_eq_true, decide_eq_true_eq] at q
        have h1 : IntKind.u8.min = 0 := rfl
        have h2 : IntKind.u8.max = 255 := rfl
        rw [h1, h2] at q
        exact q
      have e : (UInt8.ofNat z.toNat).toNat = z.toNat := UInt8.toNat_ofNat_of_lt (by show z.toNat < 256; omega)
      have e2 : ((z.toNat : Nat) : Int) = z := Int.toNat_of_nonneg hz2.1
      have e3 : cb (UInt8.ofNat z.toNat) = .int .u8 z := by unfold cb; rw [e, e2]
      exact ⟨UInt8.ofNat z.toNat, p1, p2, by rw [e3]; exact k2⟩
    haveI : Inhabited UInt8 := ⟨0⟩
    obtain ⟨q, hq⟩ := Go.Deep.choose_lt each
    have hR : Rb w (.slice (some a) len cap) ((List.range len).map q) := by
      refine ⟨some a, cap, by simp, by simpa using hl, fun h0 => ?_⟩
      have h0' : 0 < len := by simpa using h0
      obtain ⟨p1, p2, _⟩ := hq 0 h0'
      refine ⟨a.block, a.off, by rw [← p1], p2, fun i y hi => ?_⟩
      have hi' : i < len := by have := (List.getElem?_eq_some_iff.1 hi).1; simpa using this
      rw [List.getElem?_map, List.getElem?_range hi'] at hi
      cases hi
      exact (hq i hi').2.2
    exact ⟨(List.range len).map q, hR, by simpa using hlen0⟩
end Go.Proofs.YtjmomdnlibfbkaaDoor
