import Derived.Test.YtmckmeoondlcpaaDoorOrder
namespace Go.Proofs.YtmckmeoondlcpaaDoor
open Go.RowKit

theorem isEmpty_sz (s : ByteArray) : s.toList.isEmpty = decide (s.size = 0) := by
  have h : s.data.toList.length = s.size := by simp
  rw [Lib.toList_data, Bool.eq_iff_iff, List.isEmpty_iff, ← List.length_eq_zero_iff, h, decide_eq_true_eq]

theorem allB_nob (p : Int → Bool) : allB p nob = true := rfl

theorem parse_dig (s : ByteArray) : allB (kind 41) (parse s).1.e = true := by
  unfold parse
  split
  · exact allB_nob _
  · split
    · rename_i h
      show allB _ (cut s).e = true
      cases hc : (cut s).c
      · have hi : Lib.indexByte s.data.toList 58 = -1 := by
          have h' : decide (Lib.indexByte s.data.toList 58 ≠ -1) = false := hc
          simpa using h'
        have he : (cut s).e = nob := by
          show (if _ then _ else _) = _
          rw [if_pos hi]
        rw [he]; exact allB_nob _
      · unfold chkV chk at h
        rw [hc] at h
        split at h
        · cases h
        · split at h
          · cases h
          · rename_i h2
            simp at h2
            exact h2.2
    · exact allB_nob _

theorem parse_size (s : ByteArray) (hs : s.size ≤ maxLen) : (parse s).1.e.size ≤ maxLen ∧ (parse s).1.u.size ≤ maxLen ∧ (parse s).1.r.size ≤ maxLen := by
  have h := cut_size s
  unfold parse
  split
  · exact ⟨Nat.zero_le _, Nat.zero_le _, Nat.zero_le _⟩
  · split
    · exact ⟨Nat.le_trans h.1 hs, Nat.le_trans h.2.1 hs, Nat.le_trans h.2.2 hs⟩
    · exact ⟨Nat.zero_le _, Nat.zero_le _, Nat.zero_le _⟩

/-- WHAT Compare ANSWERS. -/
def cmpT (a b : ByteArray) : Int × Int :=
  if (parse a).2 = 0 then (if (parse b).2 = 0 then (ordV (parse a).1 (parse b).1, 0) else (0, (parse b).2)) else (0, (parse a).2)

/-- THE PARTS OF A TEXT, AS THE WALKS TAKE THEM. -/
theorem order_parsed (a b : ByteArray) (ha : a.size ≤ maxLen) (hb : b.size ≤ maxLen) (e u r : ByteArray) (c d : Bool) (n : Int) (E U R : ByteArray) (C D : Bool) (m : Int)
    (h1 : parse a = (⟨e, u, r, c, d⟩, n)) (h2 : parse b = (⟨E, U, R, C, D⟩, m)) (w : World) :
    Calls Tryd.prog 26 #[.agg #[.string e, .string u, .string r, .bool c, .bool d], .agg #[.string E, .string U, .string R, .bool C, .bool D]] w fun x w' =>
      x = .returned (.int .i64 (ordV ⟨e, u, r, c, d⟩ ⟨E, U, R, C, D⟩)) ∧ Below w.heap.size w w' := by
  have z1 := parse_size a ha
  have z2 := parse_size b hb
  have d1 := parse_dig a
  have d2 := parse_dig b
  rw [h1] at z1 d1
  rw [h2] at z2 d2
  exact Order_dig e u r c d E U R C D z1.1 z1.2.1 z1.2.2 z2.1 z2.2.1 z2.2.2 d1 d2 w

end Go.Proofs.YtmckmeoondlcpaaDoor
