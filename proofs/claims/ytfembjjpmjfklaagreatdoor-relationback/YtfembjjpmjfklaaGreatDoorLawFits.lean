import Derived.Test.YtfembjjpmjfklaaGreatDoorRef8
import Derived.Test.YtfembjjpmjfklaaGreatDoorFits
namespace Go.Proofs.YtfembjjpmjfklaaGreatDoor
open Go.RowKit

theorem ret_bi {a b : Bool} {n : Int} (h : a = b) : Ending.returned (.tuple #[.bool a, .int .i64 n]) = .returned (.tuple #[.bool b, .int .i64 n]) := by rw [h]

theorem parse_small (s : ByteArray) : (parse s).1.e.size ≤ 256 := by
  unfold parse
  split
  · exact Nat.zero_le _
  · split
    · exact Nat.le_trans (cut_size s).1 (by omega)
    · exact Nat.zero_le _

end Go.Proofs.YtfembjjpmjfklaaGreatDoor
