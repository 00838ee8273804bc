import Derived.Test.YtmckmeoondlcpaaDoorLeaf
import Derived.Lib.TrimByte
namespace Go.Proofs.YtmckmeoondlcpaaDoor
open Go.RowKit

def ci (x y : Int) : Int := if x < y then -1 else if y < x then 1 else 0
def cs (a b : ByteArray) : Int := if Op.bytesLess a.toList b.toList = true then -1 else if (a.toList == b.toList) = true then 0 else 1

theorem ret_int64 {a b : Int} (h : a = b) : Ending.returned (.int .i64 a) = .returned (.int .i64 b) := by rw [h]
theorem ret_str' {a b : ByteArray} (h : a = b) : Ending.returned (.string a) = .returned (.string b) := by rw [h]

set_option maxHeartbeats 400000 in
theorem cmpInt_any (x y : Int) (w : World) :
    Calls Tryd.prog 45 #[.int .i64 x, .int .i64 y] w fun e w' => e = .returned (.int .i64 (ci x y)) ∧ w' = w := by
  go_enter Tryd.func45, Tryd.ntmps45
  go_wp2
  all_goals go_ret
  all_goals exact ⟨ret_int64 (by unfold ci; first | rw [if_pos (by assumption)] | rw [if_neg (by omega), if_pos (by assumption)] | rw [if_neg (by omega), if_neg (by omega)]), rfl⟩

set_option maxHeartbeats 400000 in
theorem cmpStr_any (x y : ByteArray) (w : World) :
    Calls Tryd.prog 46 #[.string x, .string y] w fun e w' => e = .returned (.int .i64 (cs x y)) ∧ w' = w := by
  cases h1 : Op.bytesLess x.toList y.toList <;> cases h2 : (x.toList == y.toList)
  all_goals
    go_enter Tryd.func46, Tryd.ntmps46
    go_wp2
    go_ret
    exact ⟨ret_int64 (by simp only [cs, h1, h2]; rfl), rfl⟩

def trim (s : ByteArray) : List UInt8 := s.data.toList.dropWhile (fun c => c == 48)
def stripB (s : ByteArray) : ByteArray := ⟨(trim s).toArray⟩

theorem eq_stripB {t s : ByteArray} (h : t.data.toList = trim s) : t = stripB s := by
  unfold stripB; rw [← h]

theorem trim_tail (t : ByteArray) (h : 0 < t.size) (h0 : ((t[0].toNat : Int) == 48) = true) : trim (t.extract 1 t.size) = trim t := by
  unfold trim
  have hl : t.data.toList = t[0] :: t.data.toList.drop 1 := by
    have h' : 0 < t.data.toList.length := by simpa using h
    have h2 := List.drop_eq_getElem_cons h'
    rw [List.drop_zero] at h2
    exact h2
  have h48 : (t[0] == 48) = true := by
    have : t[0].toNat = 48 := by have := beq_iff_eq.1 h0; omega
    rw [beq_iff_eq]
    exact UInt8.toNat_inj.1 this
  have he : (t.extract 1 t.size).data.toList = t.data.toList.drop 1 := by
    rw [ByteArray.data_extract, Array.toList_extract]
    show List.take _ _ = _
    rw [List.take_of_length_le]
    simp
  rw [he]
  conv => rhs; rw [hl]
  rw [List.dropWhile_cons, if_pos h48]

theorem trim_stop (t : ByteArray) (h : ¬ (0 < t.size ∧ ∀ h : 0 < t.size, ((t[0].toNat : Int) == 48) = true)) : t.data.toList = trim t := by
  unfold trim
  by_cases hs : 0 < t.size
  · have hb : ((t[0].toNat : Int) == 48) = false := by
      cases hb : ((t[0].toNat : Int) == 48)
      · rfl
      · exact absurd ⟨hs, fun _ => hb⟩ h
    have hl : t.data.toList = t[0] :: t.data.toList.drop 1 := by
      have h' : 0 < t.data.toList.length := by simpa using hs
      have h2 := List.drop_eq_getElem_cons h'
      rw [List.drop_zero] at h2
      exact h2
    have h48 : ¬ (t[0] == 48) = true := by
      intro e
      rw [beq_iff_eq] at e
      rw [e] at hb
      exact absurd hb (by decide)
    conv => rhs; rw [hl]
    rw [List.dropWhile_cons, if_neg h48]
    exact hl
  · have : t.data.toList = [] := by
      apply List.eq_nil_of_length_eq_zero
      have : t.data.toList.length = t.size := by simp
      omega
    rw [this]; rfl

set_option maxHeartbeats 1000000 in
theorem trimLeftByte_any (s : ByteArray) (hs : s.size ≤ maxLen) (w : World) :
    Calls Tryd.prog 59 #[.string s, .int .u8 48] w fun e w' => e = .returned (.string (stripB s)) ∧ w' = w := by
  unfold maxLen at hs
  go_enter Tryd.func59, Tryd.ntmps59
  go_wp2
  go_loop [0] (fun v => ∃ t : ByteArray, v = .string t ∧ t.size ≤ s.size ∧ Hid (trim t = trim s)) (fun v => Lib.strSize v)
  case atStart => exact ⟨s, rfl, Nat.le_refl _, rfl⟩
  case round =>
    obtain ⟨t, rfl, hts, ht⟩ := hrel
    by_cases h0 : 0 < t.size
    · cases hb : ((t[0].toNat : Int) == 48)
      · have HT := hide (trim_stop t (fun ⟨_, h⟩ => by rw [h h0] at hb; cases hb))
        go_wp2
        go_ret
        exact ⟨ret_str' (eq_stripB ((unhide HT).trans (unhide ht))), rfl⟩
      · have HT := hide (trim_tail t h0 hb)
        have hz := hide (size_le_of_extract t 1 t.size)
        have hz2 : Hid ((t.extract 1 t.size).size < t.size) := hide (by rw [ByteArray.size_extract]; omega)
        go_wp2
        go_round
        case rel => exact ⟨_, rfl, Nat.le_trans (unhide hz) hts, hide ((unhide HT).trans (unhide ht))⟩
        case measure => exact unhide hz2
    · have HT := hide (trim_stop t (fun ⟨h, _⟩ => h0 h))
      go_wp2
      go_ret
      exact ⟨ret_str' (eq_stripB ((unhide HT).trans (unhide ht))), rfl⟩

theorem stripB_empty (s : ByteArray) (h : s.toList.isEmpty = true) : stripB s = s := by
  have h' : s.data.toList = [] := by rw [← Lib.toList_data]; simpa using h
  refine (eq_stripB ?_).symm
  unfold trim
  rw [h']; rfl

set_option maxHeartbeats 1000000 in
set_option maxRecDepth 100000 in
theorem trimLeft_any (s : ByteArray) (hs : s.size ≤ maxLen) (w : World) :
    Calls Tryd.prog 44 #[.string s, .string ⟨#[48]⟩] w fun e w' => e = .returned (.string (stripB s)) ∧ w' = w := by
  cases h : s.toList.isEmpty
  · go_enter Tryd.func44, Tryd.ntmps44
    go_wp2_with (go_at_call 59; refine (trimLeftByte_any s hs _).mono ?_; rintro e w' ⟨rfl, rfl⟩)
    go_ret
    exact ⟨rfl, rfl⟩
  · have HE := hide (stripB_empty s h)
    go_enter Tryd.func44, Tryd.ntmps44
    go_wp2
    go_ret
    exact ⟨ret_str' (unhide HE).symm, rfl⟩

def ordNum (a b : ByteArray) : Int := if ci (stripB a).size (stripB b).size = 0 then cs (stripB a) (stripB b) else ci (stripB a).size (stripB b).size

theorem stripB_size (s : ByteArray) : (stripB s).size ≤ s.size := by
  show (trim s).toArray.size ≤ _
  unfold trim
  have := (List.dropWhile_sublist (fun c : UInt8 => c == 48) (l := s.data.toList)).length_le
  simpa using this

set_option maxHeartbeats 1000000 in
theorem orderNumbers_any (a b : ByteArray) (ha : a.size ≤ maxLen) (hb : b.size ≤ maxLen) (w : World) :
    Calls Tryd.prog 31 #[.string a, .string b] w fun e w' => e = .returned (.int .i64 (ordNum a b)) ∧ w' = w := by
  have c1 := hide (fun w => trimLeft_any a ha w)
  have c2 := hide (fun w => trimLeft_any b hb w)
  have HF := hide (show ordNum a b = if ci (stripB a).size (stripB b).size = 0 then cs (stripB a) (stripB b) else ci (stripB a).size (stripB b).size from rfl)
  generalize stripB a = x at *
  generalize stripB b = y at *
  by_cases h : ci x.size y.size = 0
  · have h1 : (ci x.size y.size != 0) = false := by simp [h]
    go_enter Tryd.func31, Tryd.ntmps31
    go_wp2_with fail
    refine (unhide c1 _).mono ?_
    rintro e w' ⟨rfl, rfl⟩
    go_wp2_with fail
    refine (unhide c2 _).mono ?_
    rintro e w' ⟨rfl, rfl⟩
    go_wp2_with (first | (go_at_call 45; refine (cmpInt_any _ _ _).mono ?_; rintro e w' ⟨rfl, rfl⟩) | (go_at_call 46; refine (cmpStr_any _ _ _).mono ?_; rintro e w' ⟨rfl, rfl⟩))
    go_ret
    exact ⟨ret_int64 (by rw [unhide HF, if_pos h]), rfl⟩
  · have h1 : (ci x.size y.size != 0) = true := by simpa using h
    go_enter Tryd.func31, Tryd.ntmps31
    go_wp2_with fail
    refine (unhide c1 _).mono ?_
    rintro e w' ⟨rfl, rfl⟩
    go_wp2_with fail
    refine (unhide c2 _).mono ?_
    rintro e w' ⟨rfl, rfl⟩
    go_wp2_with (first | (go_at_call 45; refine (cmpInt_any _ _ _).mono ?_; rintro e w' ⟨rfl, rfl⟩) | (go_at_call 46; refine (cmpStr_any _ _ _).mono ?_; rintro e w' ⟨rfl, rfl⟩))
    go_ret
    exact ⟨ret_int64 (by rw [unhide HF, if_neg h]), rfl⟩

end Go.Proofs.YtmckmeoondlcpaaDoor
