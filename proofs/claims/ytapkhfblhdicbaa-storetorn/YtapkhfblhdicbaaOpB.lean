import Derived.Test.YtapkhfblhdicbaaSvP
import Derived.Test.YtapkhfblhdicbaaTnC
namespace Go.Proofs.Ytapkhfblhdicbaa
open Go.ChangeShapes Go.WideShapes Go.ChangeAt Go.RowKit

set_option maxRecDepth 100000 in
/-- A []byte THAT CAME IN, OPENED. -/
theorem open_b {H : Type} {enc : TypeId × Value → H} {W : World} {base : Nat} {v : Value} {d : DataW H} {p : List MemPlace} (hv : Value.okWide Try.prog W .any base 22 v)
    (h : DataW.Trod enc Try.prog W 0 (fun _ => true) true 22 v d p) : ∃ (bs : List Int) (pa : Option Addr) (c : Nat), v = .slice pa bs.length c ∧ Rb W pa bs ∧ (pa = none → bs = []) ∧ bs.length ≤ c ∧ (0 < bs.length → ∃ n ∈ d.weights Try.prog 22, bs.length ≤ n) := by
  obtain ⟨a0, len, cap, rfl⟩ := okWide_slice Try.underlying22 hv
  obtain ⟨fuel, hf⟩ := h
  rcases open_ints Try.underlying22 Try.underlying5 (by kernel_rfl) hf with ⟨hcs, hx⟩ | ⟨a, len', cap', zs, hcs, _, hl, hm, hz, hx, hcell, hwz⟩
  · simp [Value.cells] at hcs
    obtain ⟨rfl, rfl, rfl⟩ := hcs
    exact ⟨[], none, 0, rfl, .inl rfl, fun _ => rfl, Nat.le_refl _, fun h => absurd h (by simp)⟩
  · simp [Value.cells] at hcs
    obtain ⟨rfl, rfl, rfl⟩ := hcs
    simp only [Prod.mk.injEq] at hx
    obtain ⟨rfl, rfl⟩ := hx
    simp only [if_true] at hz
    have hlen : (zs.take len).length = len := by simp; omega
    refine ⟨zs.take len, some a, cap, by rw [hlen], ?_, fun e => (by cases e), by rw [hlen]; exact hl, ?_⟩
    · by_cases h0 : len = 0
      · exact .inl (List.length_eq_zero_iff.1 (by rw [hlen]; exact h0))
      · have hc0 := hcell 0 (by omega)
        rw [add_zero'] at hc0
        obtain ⟨ea, hb⟩ := plain_a hc0
        refine .inr ⟨a.block, a.off, by rw [← ea], hb, fun j u hj => ?_⟩
        have hjl : j < len := by
          have := (List.getElem?_eq_some_iff.1 hj).1
          rw [u8_len, hlen] at this
          exact this
        have hcj := hcell j (by omega)
        rw [ea, add_plain'] at hcj
        rw [hcj]
        have e2 := u8_at (zs.take len) j (by rw [hlen]; exact hjl)
        rw [hj] at e2
        rw [e2]
        congr 2
        simp only [List.getElem_take]
        rw [List.getD_eq_getElem?_getD, List.getElem?_eq_getElem (by omega)]
        rfl
    · intro _
      have hb5 : Try.prog.bytesOf 5 = 1 := by kernel_rfl
      refine ⟨((ChangeShapes.lits (H := H) .u8 (zs.take len)).length + (ChangeShapes.lits (H := H) .u8 (zs.drop len)).length) * Try.prog.bytesOf 5, ?_, ?_⟩
      · unfold DataW.weights
        rw [Try.underlying22]
        exact List.mem_cons_self
      · rw [hlen, hb5]
        simp [ChangeShapes.lits]
        omega
end Go.Proofs.Ytapkhfblhdicbaa
