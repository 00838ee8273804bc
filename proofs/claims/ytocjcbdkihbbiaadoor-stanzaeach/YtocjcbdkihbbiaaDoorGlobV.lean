import Derived.Test.YtocjcbdkihbbiaaDoorStV
import Derived.Test.YtocjcbdkihbbiaaDoorCards
import Derived.Test.YtocjcbdkihbbiaaDoorTie
import Derived.MakeChecks
import Derived.Lib.LaidU8
import Derived.Lib.LaidTab
import Derived.Shelf.LaysM
import Derived.ChangeSlices
import Derived.WideShapes
import Derived.SizedLaws
namespace Go.Proofs.YtocjcbdkihbbiaaDoor
open Go.ChangeShapes Go.WideShapes Go.RowKit

theorem last_lt {W : World} (h : Lib.VarReads Tryd.prog W "unicode/utf8.acceptRanges" Rows.laid_unicode_utf8_acceptRanges) : 2 < W.heap.size := by
  obtain ⟨g, t, cs, fuel, p, h1, h2, h3, h4⟩ := h
  have hg : Tryd.prog.globalNamed "unicode/utf8.acceptRanges" = some 2 := by kernel_rfl
  unfold World.var? at h3
  rw [hg] at h3
  simp only [Option.bind_some] at h3
  by_cases hl : 2 < W.heap.size
  · exact hl
  · rw [Array.getElem?_eq_none (by omega)] at h3
    cases h3

theorem glob_of {W : World} (hl : laidMetH Tryd.prog Rows.stanzaAheadUptoRow.laid W) (hs : W.ShapedOpen Tryd.prog) : Glob W := by
  rw [Go.MakeChecks.laidMetH_plain _ _ _ (by kernel_rfl)] at hl
  refine ⟨last_lt (Lib.laidMet.reads hl List.mem_cons_self), ?_⟩
  exact Go.Proofs.cell_of_shapedOpen_int (zero := #[.int .i64 0]) (t := 3) hs (of_decide_eq_true (by kernel_rfl)) (by kernel_rfl) rfl (by kernel_rfl) (by kernel_rfl) Tryd.underlying3

theorem bulk_lits {H : Type} (k : IntKind) : ∀ zs : List Int, Rows.uptoBulkAll (ChangeShapes.lits (H := H) k zs) = zs.length
  | [] => rfl
  | z :: r => by
    have ih := bulk_lits (H := H) k r
    show Rows.uptoBulkAll (DataW.lit (.int k z) :: ChangeShapes.lits (H := H) k r) = _
    rw [Rows.uptoBulkAll, ih, Rows.uptoBulk, List.length_cons]
    · omega
    · intro b hb; cases hb
set_option maxRecDepth 100000 in
/-- A []byte THAT CAME IN, OPENED. -/
theorem open_bs {H : Type} {enc : TypeId × Value → H} {W : World} {base : Nat} {v : Value} {d : DataW H} {p : List MemPlace} (hv : Value.okWide Tryd.prog W .any base 22 v)
    (h : DataW.Trod enc Tryd.prog W 0 (fun _ => true) true 22 v d p) : ∃ (t : Bs) (pa : Option Addr) (c : Nat), v = .slice pa t.length c ∧ Rb W pa t ∧ t.length ≤ Rows.uptoBulk d := by
  obtain ⟨a0, len, cap, rfl⟩ := okWide_slice Tryd.underlying22 hv
  obtain ⟨fuel, hf⟩ := h
  rcases open_ints Tryd.underlying22 Tryd.underlying5 (by kernel_rfl) hf with ⟨hcs, hx⟩ | ⟨a, len', cap', zs, hcs, _, hl, hm, hz, hx, hcell, hwz⟩
  · simp [Value.cells] at hcs
    obtain ⟨rfl, rfl, rfl⟩ := hcs
    exact ⟨[], none, 0, rfl, fun h => absurd h (by simp), Nat.zero_le _⟩
  · simp [Value.cells] at hcs
    obtain ⟨rfl, rfl, rfl⟩ := hcs
    simp only [Prod.mk.injEq] at hx
    obtain ⟨rfl, rfl⟩ := hx
    simp only [if_true] at hz
    have hlen : (((zs.take len).map fun n => UInt8.ofNat n.toNat) : Bs).length = len := by simp; omega
    refine ⟨(zs.take len).map fun n => UInt8.ofNat n.toNat, some a, cap, by rw [hlen], fun h0 => ?_, ?_⟩
    · have hc0 := hcell 0 (by omega)
      obtain ⟨b, o, u⟩ := a
      have hu : u = none := by
        cases u with
        | none => rfl
        | some y =>
          simp [World.cell?, Addr.add] at hc0
          split at hc0 <;> cases hc0
      subst hu
      refine ⟨b, o, rfl, fun i hi => ?_⟩
      have hi2 : i < len := by rw [hlen] at hi; exact hi
      have hci := hcell i (by omega)
      rw [add_plain] at hci
      have hwi := hwz (zs.getD i 0) (by rw [List.getD_eq_getElem?_getD, List.getElem?_eq_getElem (by omega)]; simp)
      have hz2 : zs.getD i 0 = zs[i]'(by omega) := by rw [List.getD_eq_getElem?_getD, List.getElem?_eq_getElem (by omega)]; rfl
      rw [hz2] at hci hwi
      have hwf : 0 ≤ zs[i]'(by omega) ∧ zs[i]'(by omega) < 256 := by
        have h1 : IntKind.u8.min = 0 := rfl
        have h2 : IntKind.u8.max = 255 := rfl
        simp only [Lit.wf, Bool.and_eq_true, decide_eq_true_eq] at hwi
        omega
      refine hci.trans ?_
      simp only [List.getElem_map, List.getElem_take]
      congr 2
      rw [UInt8.toNat_ofNat']
      omega
    · rw [hlen, Rows.uptoBulk, bulk_lits, bulk_lits, List.length_take]
      omega

end Go.Proofs.YtocjcbdkihbbiaaDoor

namespace Go.Proofs.YtocjcbdkihbbiaaDoor
open Go.ChangeShapes Go.WideShapes Go.RowKit

theorem glob_ofW {W : World} (hl : laidMetH Tryd.prog Rows.stanzaAheadRow.laid W) (hs : W.ShapedOpen Tryd.prog) : Glob W := glob_of hl hs

set_option maxRecDepth 100000 in
/-- A []byte THAT CAME IN, OPENED. -/
theorem open_bsW {H : Type} {enc : TypeId × Value → H} {W : World} {base : Nat} {v : Value} {d : DataW H} {p : List MemPlace} (hv : Value.okWide Tryd.prog W .any base 22 v)
    (h : DataW.Trod enc Tryd.prog W 0 (fun _ => true) true 22 v d p) : ∃ (t : Bs) (pa : Option Addr) (c : Nat), v = .slice pa t.length c ∧ Rb W pa t ∧ (0 < t.length → ∃ n ∈ d.weights Tryd.prog 22, t.length ≤ n) := by
  obtain ⟨a0, len, cap, rfl⟩ := okWide_slice Tryd.underlying22 hv
  obtain ⟨fuel, hf⟩ := h
  rcases open_ints Tryd.underlying22 Tryd.underlying5 (by kernel_rfl) hf with ⟨hcs, hx⟩ | ⟨a, len', cap', zs, hcs, _, hl, hm, hz, hx, hcell, hwz⟩
  · simp [Value.cells] at hcs
    obtain ⟨rfl, rfl, rfl⟩ := hcs
    exact ⟨[], none, 0, rfl, fun h => absurd h (by simp), fun h => absurd h (by simp)⟩
  · simp [Value.cells] at hcs
    obtain ⟨rfl, rfl, rfl⟩ := hcs
    simp only [Prod.mk.injEq] at hx
    obtain ⟨rfl, rfl⟩ := hx
    simp only [if_true] at hz
    have hlen : (((zs.take len).map fun n => UInt8.ofNat n.toNat) : Bs).length = len := by simp; omega
    refine ⟨(zs.take len).map fun n => UInt8.ofNat n.toNat, some a, cap, by rw [hlen], fun h0 => ?_, ?_⟩
    · have hc0 := hcell 0 (by omega)
      obtain ⟨b, o, u⟩ := a
      have hu : u = none := by
        cases u with
        | none => rfl
        | some y =>
          simp [World.cell?, Addr.add] at hc0
          split at hc0 <;> cases hc0
      subst hu
      refine ⟨b, o, rfl, fun i hi => ?_⟩
      have hi2 : i < len := by rw [hlen] at hi; exact hi
      have hci := hcell i (by omega)
      rw [add_plain] at hci
      have hwi := hwz (zs.getD i 0) (by rw [List.getD_eq_getElem?_getD, List.getElem?_eq_getElem (by omega)]; simp)
      have hz2 : zs.getD i 0 = zs[i]'(by omega) := by rw [List.getD_eq_getElem?_getD, List.getElem?_eq_getElem (by omega)]; rfl
      rw [hz2] at hci hwi
      have hwf : 0 ≤ zs[i]'(by omega) ∧ zs[i]'(by omega) < 256 := by
        have h1 : IntKind.u8.min = 0 := rfl
        have h2 : IntKind.u8.max = 255 := rfl
        simp only [Lit.wf, Bool.and_eq_true, decide_eq_true_eq] at hwi
        omega
      refine hci.trans ?_
      simp only [List.getElem_map, List.getElem_take]
      congr 2
      rw [UInt8.toNat_ofNat']
      omega
    · intro _
      have hb5 : Tryd.prog.bytesOf 5 = 1 := by kernel_rfl
      refine ⟨((ChangeShapes.lits (H := H) .u8 (zs.take len)).length + (ChangeShapes.lits (H := H) .u8 (zs.drop len)).length) * Tryd.prog.bytesOf 5, ?_, ?_⟩
      · unfold DataW.weights
        rw [Tryd.underlying22]
        exact List.mem_cons_self
      · rw [hlen, hb5]
        simp [ChangeShapes.lits]
        omega

end Go.Proofs.YtocjcbdkihbbiaaDoor

