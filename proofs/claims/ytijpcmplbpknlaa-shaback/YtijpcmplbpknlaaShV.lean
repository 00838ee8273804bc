import Derived.Test.YtijpcmplbpknlaaRows
import Derived.Test.YtijpcmplbpknlaaShB
import Derived.WalkKit
import Derived.ProofKit
import Derived.OpenShut
import Derived.ShutString
import Derived.ChangeOld
import Derived.Below
import Derived.SizedLaws
namespace Go.Proofs.Ytijpcmplbpknlaa
open Go.ChangeShapes Go.WideShapes Go.ChangeAt Go.RowKit
open Go.ChangeMaps (open_string shut_string)

theorem own : ownKnob Try.prog.godebug = none := by kernel_rfl
theorem laidOut : laidOutB Try.prog = true := by kernel_rfl
theorem cells22 : Try.prog.cellsOf 22 = 32 := by kernel_rfl
theorem cells5 : Try.prog.cellsOf 5 = 1 := by kernel_rfl

theorem list_of : ∀ L : List Value, (∀ v ∈ L, ∃ b : UInt8, v = .int .u8 (b.toNat : Int)) → ∃ bs : Bs, L = encB bs
  | [], _ => ⟨[], rfl⟩
  | v :: L, h => by
    obtain ⟨b, rfl⟩ := h v (List.mem_cons_self ..)
    obtain ⟨bs, rfl⟩ := list_of L (fun x hx => h x (List.mem_cons_of_mem _ hx))
    exact ⟨b :: bs, rfl⟩

theorem drop_one {α : Type} (L : List α) (i : Nat) (v : α) (h : L[i]? = some v) : (L.drop i).take 1 = [v] := by
  obtain ⟨hi, rfl⟩ := List.getElem?_eq_some_iff.1 h
  rw [List.drop_eq_getElem_cons hi]
  rfl

/-- 32 BYTES THAT CAME IN, BY VALUE, OPENED. -/
theorem open_sum {H : Type} {enc : TypeId × Value → H} {w : World} {base : Nat} {spare : Nat → Bool} {held : Bool} {r : Reach} {b0 : Nat} {v : Value} {d : DataW H} {p : List MemPlace}
    (hv : Value.okWide Try.prog w r b0 22 v) (h : DataW.Trod enc Try.prog w base spare held 22 v d p) :
    ∃ l : Bs, v = agB l ∧ l.length = 32 := by
  obtain ⟨cs, rfl, hsz, _⟩ : ∃ cs, v = .agg cs ∧ cs.size = Try.prog.cellsOf 22 ∧ Row.okWide Try.prog w r b0 22 cs := by
    simpa [Value.okWide, Try.underlying22] using hv
  obtain ⟨fuel, hf⟩ := h
  obtain ⟨xs, n, _, _, _, hlen, hfs⟩ := DataW.trod_array Try.underlying22 hf
  rw [cells22] at hsz
  obtain ⟨L⟩ := cs
  have hL : L.length = 32 := by simpa using hsz
  obtain ⟨bs, hb⟩ := list_of L (fun v hv => by
    obtain ⟨i, hi⟩ := List.mem_iff_getElem?.1 hv
    have hi32 : i < 32 := by have := (List.getElem?_eq_some_iff.1 hi).1; omega
    have g := hfs i hi32
    rw [cells5, Nat.mul_one] at g
    have e : (Value.cells (.agg ⟨L⟩)).toList = L := rfl
    rw [e, drop_one L i v hi, List.getElem?_eq_getElem (by omega)] at g
    obtain ⟨n, e2, _, hw⟩ := DataW.trod_int Try.underlying5 g
    have hbd := bounds_u8 hw
    refine ⟨UInt8.ofNat n.toNat, ?_⟩
    have : v = .int .u8 n := by simpa using e2
    rw [this]
    congr 1
    have h2 : (UInt8.ofNat n.toNat).toNat = n.toNat := by
      rw [UInt8.toNat_ofNat']
      omega
    rw [h2]
    omega)
  subst hb
  exact ⟨bs, rfl, by rw [encB_len] at hL; exact hL⟩

end Go.Proofs.Ytijpcmplbpknlaa
