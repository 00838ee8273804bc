import Derived.Test.YtfnbclehlikbkaaSame
namespace Go.Proofs.Ytfnbclehlikbkaa
open Go.RowKit

/-- THE MARK OF A NUMBER BELOW 26. -/
def mk (i : Nat) : ByteArray := ⟨#[UInt8.ofNat (97 + i)]⟩

theorem mk_byte (i : Nat) (hi : i < 26) : ((UInt8.ofNat (97 + i)).toNat : Int) = 97 + (i : Int) := by
  rw [UInt8.toNat_ofNat']
  omega

set_option maxHeartbeats 1000000 in
theorem mark_any (i : Nat) (hi : i < 26) (w : World) :
    Calls Try.prog 18 #[.int .i64 i] w fun e w' => e = .returned (.string (mk i)) ∧ Below w.heap.size w w' := by
  have h1 : (i : Int) % 26 = i := by omega
  have hcv : Sem.run Try.prog (convert 52 9 (.slice (some ⟨w.heap.size, 0, none⟩) 1 1)) (w.alloc (.cells #[.int .u8 (97 + (i : Int))] 5)) = .ok (.string (mk i)) (w.alloc (.cells #[.int .u8 (97 + (i : Int))] 5)) :=
    run_convert_bytes_back (P := Try.prog) (w.alloc (.cells #[.int .u8 (97 + (i : Int))] 5)) 52 9 5 ⟨w.heap.size, 0, none⟩ 1 [UInt8.ofNat (97 + i)] Try.underlying52 Try.underlying5 Try.underlying9 (fun j hj => cell_one_new w (.int .u8 (97 + (i : Int))) 5 j _ (by
      have e : j = 0 := by simpa using hj
      subst e
      show some _ = some _
      rw [← mk_byte i hi]
      rfl))
  go_enter Try.func18, Try.ntmps18
  go_wp2
  go_ret
  exact ⟨rfl, (Below.refl _ _).alloc (Nat.le_refl _) _⟩

end Go.Proofs.Ytfnbclehlikbkaa
