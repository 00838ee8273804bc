import Derived.Test.YtfembjjpmjfklaaGreatDoorParse
namespace Go.Proofs.YtfembjjpmjfklaaGreatDoor
open Go.RowKit

theorem isEmpty_size (s : ByteArray) : s.toList.isEmpty = decide (s.size = 0) := by
  have h : s.data.toList.length = s.size := by simp
  rw [Lib.toList_data, Bool.eq_iff_iff, List.isEmpty_iff, ← List.length_eq_zero_iff, h, decide_eq_true_eq]

def upR (c d : Bool) (n : Int) : Bool := isRev n || (n == 45 && d) || (n == 58 && c)

/-- ref's first error of parts. -/
def wrong (e u r : ByteArray) (c d : Bool) : Int :=
  if u.toList.isEmpty = true then 11
  else if (c && !(allB isDig e && !e.toList.isEmpty)) = true then 12
  else if (d && r.toList.isEmpty) = true then 13
  else if isDig (b0 u) = false then 14
  else if allB (upR c d) u = false then 15
  else if allB isRev r = false then 15 else 0

end Go.Proofs.YtfembjjpmjfklaaGreatDoor
