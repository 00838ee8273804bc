import Derived.Test.YtfembjjpmjfklaaGreatDoorRef
import Derived.Test.YtfembjjpmjfklaaGreatDoorParse
namespace Go.Proofs.YtfembjjpmjfklaaGreatDoor
open Go.RowKit

theorem bne_of_ne {s : ByteArray} {j : Nat} {c : Int} (hj : j < s.size) (h : ((s.data[j]!).toNat : Int) ≠ c) : ((s[j].toNat : Int) == c) = false := by
  rw [byteBang s j hj] at h; simpa using h
theorem beq_of_eq {s : ByteArray} {j : Nat} {c : Int} (hj : j < s.size) (h : ((s.data[j]!).toNat : Int) = c) : ((s[j].toNat : Int) == c) = true := by
  rw [byteBang s j hj] at h; simpa using h
theorem colon_ne {s : ByteArray} {j : Nat} (hj : j < s.size) (h : s.data.toList[j]'(by simpa using hj) ≠ 58) : ((s[j].toNat : Int) == 58) = false := by
  rw [beq_eq_false_iff_ne]
  intro hh
  apply h
  show s[j] = 58
  apply UInt8.toNat_inj.1
  show s[j].toNat = 58
  omega
theorem colon_eq {s : ByteArray} {j : Nat} (hj : j < s.size) (h : s.data.toList[j]'(by simpa using hj) = 58) : ((s[j].toNat : Int) == 58) = true := by
  have h' : s[j] = 58 := h
  rw [h']; rfl

theorem cut_eq (s r : ByteArray) (h : r = rest s) : cut s = ⟨if Lib.indexByte s.data.toList 58 = -1 then nob else s.extract 0 (Lib.indexByte s.data.toList 58).toNat, if Lib.lastIndexByte r 45 = -1 then r else r.extract 0 (Lib.lastIndexByte r 45).toNat,
    if Lib.lastIndexByte r 45 = -1 then nob else r.extract ((Lib.lastIndexByte r 45).toNat + 1) r.size, decide (Lib.indexByte s.data.toList 58 ≠ -1), decide (Lib.lastIndexByte r 45 ≠ -1)⟩ := by
  subst h; rfl

end Go.Proofs.YtfembjjpmjfklaaGreatDoor
