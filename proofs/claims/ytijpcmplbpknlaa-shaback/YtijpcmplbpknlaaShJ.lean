import Derived.Test.YtijpcmplbpknlaaShI
namespace Go.Proofs.Ytijpcmplbpknlaa
open Go.RowKit

theorem Parse_txt (l : Bs) (hl : l.length = 32) (w : World) :
    Calls Try.prog 6 #[.string (ba (txt l))] w fun e w' => e = .returned (.tuple #[agB l, .int .i64 0]) ∧ Below w.heap.size w w' := by
  refine (Parse_any (txt l) w).mono ?_
  rintro e w' ⟨rfl, hb⟩
  refine ⟨?_, hb⟩
  unfold prs prn
  rw [okS_txt l hl, rd_txt l hl]
  rfl
theorem Parse_ok (s : Bs) (h : okS s = true) (w : World) :
    Calls Try.prog 6 #[.string (ba s)] w fun e w' => e = .returned (.tuple #[agB (rd s 32), .int .i64 0]) ∧ Below w.heap.size w w' := by
  refine (Parse_any s w).mono ?_
  rintro e w' ⟨rfl, hb⟩
  refine ⟨?_, hb⟩
  unfold prs prn
  rw [h]
  rfl
theorem Parse_no (s : Bs) (h : okS s = false) (w : World) :
    Calls Try.prog 6 #[.string (ba s)] w fun e w' => e = .returned (.tuple #[agB zr, .int .i64 60]) ∧ Below w.heap.size w w' := by
  refine (Parse_any s w).mono ?_
  rintro e w' ⟨rfl, hb⟩
  refine ⟨?_, hb⟩
  unfold prs prn
  rw [h]
  rfl

theorem str_ix (t : Bs) (k : Nat) (hk : k < t.length) (w : World) : (Instr.index 9 (.string (ba t)) (.int .i64 (k : Int))).run Try.prog w = .ok (.int .u8 ((cd t k : Nat) : Int)) w := by
  have hs : (ba t).size = t.length := by simp [ba, ByteArray.size]
  have h : (0 : Int) ≤ (k : Int) ∧ (k : Int) < (ba t).size := ⟨by omega, by omega⟩
  rw [run_index_string w 9 (ba t) .i64 k Try.underlying9, dif_pos h]
  have e : ((ba t)[k]'(by omega)).toNat = cd t k := by unfold cd; rw [List.getElem?_eq_getElem hk]; rfl
  exact congrArg (fun x : Nat => Result.ok (Value.int .u8 (x : Int)) w) e

end Go.Proofs.Ytijpcmplbpknlaa
