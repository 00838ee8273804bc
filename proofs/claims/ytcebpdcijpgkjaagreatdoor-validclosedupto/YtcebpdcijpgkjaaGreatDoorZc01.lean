import Derived.Below
import Derived.Lib.Strings
import Derived.Lib.Bytealg
import Derived.Lib.LastIndexByte
import Derived.Test.YtcebpdcijpgkjaaGreatDoorProg
import Derived.WalkKit
import Derived.WalkSpells
import Derived.WalkLawsBesides
import Derived.Lib.TrimByte
namespace Go.Proofs.YtcebpdcijpgkjaaGreatDoor
open Go.RowKit
theorem hide {p : Prop} (h : p) : Hid p := h
theorem unhide {p : Prop} (h : Hid p) : p := h.out

def oi : Option Nat → Int
  | none => -1
  | some k => k

def isDig (n : Int) : Bool := decide (48 ≤ n) && decide (n ≤ 57)
def isLet (n : Int) : Bool := (decide (65 ≤ n) && decide (n ≤ 90)) || (decide (97 ≤ n) && decide (n ≤ 122))
def isRev (n : Int) : Bool := isLet n || isDig n || (n == 46) || (n == 43) || (n == 126)
def isUp (n : Int) : Bool := isRev n || (n == 45) || (n == 58)

/-- ARE ALL BYTES OF A KIND, FROM PLACE k ON? -/
def allB (p : Int → Bool) (s : ByteArray) : Bool := s.data.toList.all fun c => p c.toNat

theorem take_snoc (s : ByteArray) (k : Nat) (h : k < s.size) : s.data.toList.take (k + 1) = s.data.toList.take k ++ [s[k]] := by
  rw [List.take_succ_eq_append_getElem (by simpa using h)]; rfl

theorem allB_no (p : Int → Bool) (s : ByteArray) (k : Nat) (h : k < s.size) (hp : p (s[k].toNat : Int) = false) : allB p s = false := by
  unfold allB
  rw [List.all_eq_false]
  exact ⟨s[k], List.getElem_mem (l := s.data.toList) (n := k) (by simpa using h), by simp [hp]⟩

theorem allB_yes (p : Int → Bool) (s : ByteArray) (h : ∀ j (hj : j < s.size), p (s[j].toNat : Int) = true) : allB p s = true := by
  unfold allB
  rw [List.all_eq_true]
  intro c hc
  obtain ⟨j, hj, rfl⟩ := List.getElem_of_mem hc
  exact h j (by simpa using hj)

def kind (g : Nat) : Int → Bool := if g = 152 then isDig else if g = 153 then isUp else isRev

def b0 (u : ByteArray) : Int := (u.data.toList.headD 0).toNat
theorem b0_eq (u : ByteArray) (h : 0 < u.size) : b0 u = (u[0].toNat : Int) := by
  unfold b0
  rw [List.headD_eq_head?_getD, List.head?_eq_getElem?, List.getElem?_eq_getElem (by simpa using h)]
  rfl

/-- THE FIRST ERROR OF PARTS. -/
def chk (e u r : ByteArray) (c d : Bool) : Int :=
  if u.toList.isEmpty = true then 11
  else if (c && (e.toList.isEmpty || !allB (kind 152) e)) = true then 12
  else if (d && r.toList.isEmpty) = true then 13
  else if isDig (b0 u) = false then 14
  else if (!allB (kind 153) u || !allB (kind 154) r) = true then 15 else 0

def pre (e u : ByteArray) (c : Bool) : ByteArray := if c = true then e ++ ⟨#[58]⟩ ++ u else u
structure Ver where
  e : ByteArray
  u : ByteArray
  r : ByteArray
  c : Bool
  d : Bool

def nob : ByteArray := ⟨#[]⟩

/-- A TEXT, CUT AT ITS FIRST COLON, WHAT FOLLOWS AT ITS LAST HYPHEN. -/
def rest (s : ByteArray) : ByteArray := if Lib.indexByte s.data.toList 58 = -1 then s else s.extract ((Lib.indexByte s.data.toList 58).toNat + 1) s.size
def cut (s : ByteArray) : Ver :=
  { e := if Lib.indexByte s.data.toList 58 = -1 then nob else s.extract 0 (Lib.indexByte s.data.toList 58).toNat
    u := if Lib.lastIndexByte (rest s) 45 = -1 then rest s else (rest s).extract 0 (Lib.lastIndexByte (rest s) 45).toNat
    r := if Lib.lastIndexByte (rest s) 45 = -1 then nob else (rest s).extract ((Lib.lastIndexByte (rest s) 45).toNat + 1) (rest s).size
    c := decide (Lib.indexByte s.data.toList 58 ≠ -1)
    d := decide (Lib.lastIndexByte (rest s) 45 ≠ -1) }

def zeroVer : Ver := { e := nob, u := nob, r := nob, c := false, d := false }

def chkV (v : Ver) : Int := chk v.e v.u v.r v.c v.d
def parse (s : ByteArray) : Ver × Int :=
  if 256 < s.size then (zeroVer, 10) else if chkV (cut s) = 0 then (cut s, 0) else (zeroVer, chkV (cut s))

theorem indexByte_spec (l : List UInt8) (c : UInt8) : (Lib.indexByte l c = -1 ∧ ∀ (j : Nat) (hj : j < l.length), l[j] ≠ c) ∨
    (∃ i : Nat, ∃ hi : i < l.length, Lib.indexByte l c = i ∧ l[i] = c ∧ ∀ (j : Nat) (hj : j < i), l[j] ≠ c) := by
  induction l with
  | nil => exact .inl ⟨rfl, fun j hj => by simp at hj⟩
  | cons b l ih =>
    unfold Lib.indexByte
    by_cases hb : b = c
    · refine .inr ⟨0, by simp, by simp [hb], by simpa using hb, fun j hj => by omega⟩
    · have hb' : (b == c) = false := by simpa using hb
      rcases ih with ⟨h1, h2⟩ | ⟨i, hi, h1, h2, h3⟩
      · refine .inl ⟨by simp [hb', h1], fun j hj => ?_⟩
        cases j with
        | zero => simpa using hb
        | succ j => simpa using h2 j (by simpa using hj)
      · refine .inr ⟨i + 1, by simpa using hi, ?_, by simpa using h2, fun j hj => ?_⟩
        · rw [hb', h1]
          have : ¬ ((i : Int) == -1) = true := by simp <;> omega
          simp only [Bool.false_eq_true, if_false]
          rw [if_neg this]
          omega
        · cases j with
          | zero => simpa using hb
          | succ j => simpa using h3 j (by omega)

theorem size_le_of_extract (s : ByteArray) (a b : Nat) : (s.extract a b).size ≤ s.size := by
  rw [ByteArray.size_extract]; omega

theorem rest_size (s : ByteArray) : (rest s).size ≤ s.size := by
  unfold rest; split
  · exact Nat.le_refl _
  · exact size_le_of_extract _ _ _

theorem cut_size (s : ByteArray) : (cut s).e.size ≤ s.size ∧ (cut s).u.size ≤ s.size ∧ (cut s).r.size ≤ s.size := by
  have hr := rest_size s
  refine ⟨?_, ?_, ?_⟩
  · show (if _ then _ else _ : ByteArray).size ≤ _
    split
    · exact Nat.zero_le _
    · exact size_le_of_extract _ _ _
  · show (if _ then _ else _ : ByteArray).size ≤ _
    split
    · exact hr
    · exact Nat.le_trans (size_le_of_extract _ _ _) hr
  · show (if _ then _ else _ : ByteArray).size ≤ _
    split
    · exact Nat.zero_le _
    · exact Nat.le_trans (size_le_of_extract _ _ _) hr

end Go.Proofs.YtcebpdcijpgkjaaGreatDoor

namespace Go.Proofs.YtcebpdcijpgkjaaGreatDoor
open Go.RowKit

theorem ret_bool {a b : Bool} (h : a = b) : Ending.returned (.bool a) = .returned (.bool b) := by rw [h]

set_option maxHeartbeats 400000 in
theorem isDigit_any (b : Int) (w : World) :
    Calls Tryz.prog 152 #[.int .u8 b] w fun e w' => e = .returned (.bool (isDig b)) ∧ w' = w := by
  go_enter Tryz.func152, Tryz.ntmps152
  go_wp2
  all_goals go_ret
  all_goals exact ⟨ret_bool (by simp [isDig, *] <;> omega), rfl⟩

set_option maxHeartbeats 400000 in
theorem isLetter_any (b : Int) (w : World) :
    Calls Tryz.prog 162 #[.int .u8 b] w fun e w' => e = .returned (.bool (isLet b)) ∧ w' = w := by
  go_enter Tryz.func162, Tryz.ntmps162
  go_wp2
  all_goals go_ret
  all_goals exact ⟨ret_bool (by simp [isLet, *] <;> omega), rfl⟩

set_option maxHeartbeats 400000 in
theorem mayBeRevision_any (b : Int) (w : World) :
    Calls Tryz.prog 154 #[.int .u8 b] w fun e w' => e = .returned (.bool (isRev b)) ∧ w' = w := by
  cases h1 : isLet b <;> cases h2 : isDig b <;> cases h3 : (b == 46) <;> cases h4 : (b == 43) <;> cases h5 : (b == 126)
  all_goals
    go_enter Tryz.func154, Tryz.ntmps154
    go_wp2_with (first | (go_at_call 162; refine (isLetter_any _ _).mono ?_; rintro e w' ⟨rfl, rfl⟩) | (go_at_call 152; refine (isDigit_any _ _).mono ?_; rintro e w' ⟨rfl, rfl⟩))
    go_ret
    exact ⟨ret_bool (by simp [isRev, h1, h2, h3, h4, h5]), rfl⟩

set_option maxHeartbeats 400000 in
theorem mayBeUpstream_any (b : Int) (w : World) :
    Calls Tryz.prog 153 #[.int .u8 b] w fun e w' => e = .returned (.bool (isUp b)) ∧ w' = w := by
  cases h1 : isRev b <;> cases h2 : (b == 45) <;> cases h3 : (b == 58)
  all_goals
    go_enter Tryz.func153, Tryz.ntmps153
    go_wp2_with (go_at_call 154; refine (mayBeRevision_any _ _).mono ?_; rintro e w' ⟨rfl, rfl⟩)
    go_ret
    exact ⟨ret_bool (by simp [isUp, h1, h2, h3]), rfl⟩

set_option maxHeartbeats 400000 in
theorem consists_dig (s : ByteArray) (w : World) (hs : s.size ≤ maxLen) :
    Calls Tryz.prog 151 #[.string s, .func (.func 152) #[] #[]] w fun e w' => e = .returned (.bool (allB isDig s)) ∧ w' = w := by
  unfold maxLen at hs
  go_enter Tryz.func151, Tryz.ntmps151
  go_wp2
  go_loop [5, 8] (fun _ i => ∃ k : Nat, k ≤ s.size ∧ i = .int .i64 k ∧ ∀ j (hj : j < s.size), j < k → isDig (s[j].toNat : Int) = true) (fun _ i => s.size - (intOf i).toNat)
  case atStart => exact ⟨0, Nat.zero_le _, rfl, fun j hj h => absurd h (Nat.not_lt_zero _)⟩
  case round =>
    obtain ⟨k, hk, rfl, hall⟩ := hrel
    have HA : Hid (∀ j (hj : j < s.size), j < k → isDig (s[j].toNat : Int) = true) := hall
    clear hall
    by_cases hlt : k < s.size
    · cases hp : isDig (s[k].toNat : Int)
      · have HP : Hid (isDig (s[k].toNat : Int) = false) := hp
        go_wp2_with (go_at_call 152; refine (isDigit_any _ _).mono ?_; rintro e w' ⟨rfl, rfl⟩)
        go_ret
        exact ⟨ret_bool (allB_no _ s k hlt HP.out).symm, rfl⟩
      · have HP : Hid (isDig (s[k].toNat : Int) = true) := hp
        go_wp2_with (go_at_call 152; refine (isDigit_any _ _).mono ?_; rintro e w' ⟨rfl, rfl⟩)
        go_round
        case rel =>
          refine ⟨k + 1, by omega, by go_num, fun j hj h => ?_⟩
          by_cases e : j = k
          · subst e; exact HP.out
          · exact HA.out j hj (by omega)
        case measure => simp [intOf]; omega
    · go_wp2
      go_ret
      exact ⟨ret_bool (allB_yes _ s fun j hj => HA.out j hj (by omega)).symm, rfl⟩

set_option maxHeartbeats 400000 in
theorem consists_up (s : ByteArray) (w : World) (hs : s.size ≤ maxLen) :
    Calls Tryz.prog 151 #[.string s, .func (.func 153) #[] #[]] w fun e w' => e = .returned (.bool (allB isUp s)) ∧ w' = w := by
  unfold maxLen at hs
  go_enter Tryz.func151, Tryz.ntmps151
  go_wp2
  go_loop [5, 8] (fun _ i => ∃ k : Nat, k ≤ s.size ∧ i = .int .i64 k ∧ ∀ j (hj : j < s.size), j < k → isUp (s[j].toNat : Int) = true) (fun _ i => s.size - (intOf i).toNat)
  case atStart => exact ⟨0, Nat.zero_le _, rfl, fun j hj h => absurd h (Nat.not_lt_zero _)⟩
  case round =>
    obtain ⟨k, hk, rfl, hall⟩ := hrel
    have HA : Hid (∀ j (hj : j < s.size), j < k → isUp (s[j].toNat : Int) = true) := hall
    clear hall
    by_cases hlt : k < s.size
    · cases hp : isUp (s[k].toNat : Int)
      · have HP : Hid (isUp (s[k].toNat : Int) = false) := hp
        go_wp2_with (go_at_call 153; refine (mayBeUpstream_any _ _).mono ?_; rintro e w' ⟨rfl, rfl⟩)
        go_ret
        exact ⟨ret_bool (allB_no _ s k hlt HP.out).symm, rfl⟩
      · have HP : Hid (isUp (s[k].toNat : Int) = true) := hp
        go_wp2_with (go_at_call 153; refine (mayBeUpstream_any _ _).mono ?_; rintro e w' ⟨rfl, rfl⟩)
        go_round
        case rel =>
          refine ⟨k + 1, by omega, by go_num, fun j hj h => ?_⟩
          by_cases e : j = k
          · subst e; exact HP.out
          · exact HA.out j hj (by omega)
        case measure => simp [intOf]; omega
    · go_wp2
      go_ret
      exact ⟨ret_bool (allB_yes _ s fun j hj => HA.out j hj (by omega)).symm, rfl⟩

set_option maxHeartbeats 400000 in
theorem consists_rev (s : ByteArray) (w : World) (hs : s.size ≤ maxLen) :
    Calls Tryz.prog 151 #[.string s, .func (.func 154) #[] #[]] w fun e w' => e = .returned (.bool (allB isRev s)) ∧ w' = w := by
  unfold maxLen at hs
  go_enter Tryz.func151, Tryz.ntmps151
  go_wp2
  go_loop [5, 8] (fun _ i => ∃ k : Nat, k ≤ s.size ∧ i = .int .i64 k ∧ ∀ j (hj : j < s.size), j < k → isRev (s[j].toNat : Int) = true) (fun _ i => s.size - (intOf i).toNat)
  case atStart => exact ⟨0, Nat.zero_le _, rfl, fun j hj h => absurd h (Nat.not_lt_zero _)⟩
  case round =>
    obtain ⟨k, hk, rfl, hall⟩ := hrel
    have HA : Hid (∀ j (hj : j < s.size), j < k → isRev (s[j].toNat : Int) = true) := hall
    clear hall
    by_cases hlt : k < s.size
    · cases hp : isRev (s[k].toNat : Int)
      · have HP : Hid (isRev (s[k].toNat : Int) = false) := hp
        go_wp2_with (go_at_call 154; refine (mayBeRevision_any _ _).mono ?_; rintro e w' ⟨rfl, rfl⟩)
        go_ret
        exact ⟨ret_bool (allB_no _ s k hlt HP.out).symm, rfl⟩
      · have HP : Hid (isRev (s[k].toNat : Int) = true) := hp
        go_wp2_with (go_at_call 154; refine (mayBeRevision_any _ _).mono ?_; rintro e w' ⟨rfl, rfl⟩)
        go_round
        case rel =>
          refine ⟨k + 1, by omega, by go_num, fun j hj h => ?_⟩
          by_cases e : j = k
          · subst e; exact HP.out
          · exact HA.out j hj (by omega)
        case measure => simp [intOf]; omega
    · go_wp2
      go_ret
      exact ⟨ret_bool (allB_yes _ s fun j hj => HA.out j hj (by omega)).symm, rfl⟩

theorem consists_any (s : ByteArray) (g : Nat) (hg : g = 152 ∨ g = 153 ∨ g = 154) (w : World) (hs : s.size ≤ maxLen) :
    Calls Tryz.prog 151 #[.string s, .func (.func g) #[] #[]] w fun e w' => e = .returned (.bool (allB (kind g) s)) ∧ w' = w := by
  rcases hg with rfl | rfl | rfl
  · exact consists_dig s w hs
  · exact consists_up s w hs
  · exact consists_rev s w hs

end Go.Proofs.YtcebpdcijpgkjaaGreatDoor

namespace Go.Proofs.YtcebpdcijpgkjaaGreatDoor
open Go.RowKit

def ci (x y : Int) : Int := if x < y then -1 else if y < x then 1 else 0
def cs (a b : ByteArray) : Int := if Op.bytesLess a.toList b.toList = true then -1 else if (a.toList == b.toList) = true then 0 else 1

theorem ret_int64 {a b : Int} (h : a = b) : Ending.returned (.int .i64 a) = .returned (.int .i64 b) := by rw [h]
theorem ret_str' {a b : ByteArray} (h : a = b) : Ending.returned (.string a) = .returned (.string b) := by rw [h]

set_option maxHeartbeats 400000 in
theorem cmpInt_any (x y : Int) (w : World) :
    Calls Tryz.prog 156 #[.int .i64 x, .int .i64 y] w fun e w' => e = .returned (.int .i64 (ci x y)) ∧ w' = w := by
  go_enter Tryz.func156, Tryz.ntmps156
  go_wp2
  all_goals go_ret
  all_goals exact ⟨ret_int64 (by unfold ci; first | rw [if_pos (by assumption)] | rw [if_neg (by omega), if_pos (by assumption)] | rw [if_neg (by omega), if_neg (by omega)]), rfl⟩

set_option maxHeartbeats 400000 in
theorem cmpStr_any (x y : ByteArray) (w : World) :
    Calls Tryz.prog 75 #[.string x, .string y] w fun e w' => e = .returned (.int .i64 (cs x y)) ∧ w' = w := by
  cases h1 : Op.bytesLess x.toList y.toList <;> cases h2 : (x.toList == y.toList)
  all_goals
    go_enter Tryz.func75, Tryz.ntmps75
    go_wp2
    go_ret
    exact ⟨ret_int64 (by simp only [cs, h1, h2]; rfl), rfl⟩

def trim (s : ByteArray) : List UInt8 := s.data.toList.dropWhile (fun c => c == 48)
def stripB (s : ByteArray) : ByteArray := ⟨(trim s).toArray⟩

theorem eq_stripB {t s : ByteArray} (h : t.data.toList = trim s) : t = stripB s := by
  unfold stripB; rw [← h]

theorem trim_tail (t : ByteArray) (h : 0 < t.size) (h0 : ((t[0].toNat : Int) == 48) = true) : trim (t.extract 1 t.size) = trim t := by
  unfold trim
  have hl : t.data.toList = t[0] :: t.data.toList.drop 1 := by
    have h' : 0 < t.data.toList.length := by simpa using h
    have h2 := List.drop_eq_getElem_cons h'
    rw [List.drop_zero] at h2
    exact h2
  have h48 : (t[0] == 48) = true := by
    have : t[0].toNat = 48 := by have := beq_iff_eq.1 h0; omega
    rw [beq_iff_eq]
    exact UInt8.toNat_inj.1 this
  have he : (t.extract 1 t.size).data.toList = t.data.toList.drop 1 := by
    rw [ByteArray.data_extract, Array.toList_extract]
    show List.take _ _ = _
    rw [List.take_of_length_le]
    simp
  rw [he]
  conv => rhs; rw [hl]
  rw [List.dropWhile_cons, if_pos h48]

theorem trim_stop (t : ByteArray) (h : ¬ (0 < t.size ∧ ∀ h : 0 < t.size, ((t[0].toNat : Int) == 48) = true)) : t.data.toList = trim t := by
  unfold trim
  by_cases hs : 0 < t.size
  · have hb : ((t[0].toNat : Int) == 48) = false := by
      cases hb : ((t[0].toNat : Int) == 48)
      · rfl
      · exact absurd ⟨hs, fun _ => hb⟩ h
    have hl : t.data.toList = t[0] :: t.data.toList.drop 1 := by
      have h' : 0 < t.data.toList.length := by simpa using hs
      have h2 := List.drop_eq_getElem_cons h'
      rw [List.drop_zero] at h2
      exact h2
    have h48 : ¬ (t[0] == 48) = true := by
      intro e
      rw [beq_iff_eq] at e
      rw [e] at hb
      exact absurd hb (by decide)
    conv => rhs; rw [hl]
    rw [List.dropWhile_cons, if_neg h48]
    exact hl
  · have : t.data.toList = [] := by
      apply List.eq_nil_of_length_eq_zero
      have : t.data.toList.length = t.size := by simp
      omega
    rw [this]; rfl

set_option maxHeartbeats 1000000 in
theorem trimLeftByte_any (s : ByteArray) (hs : s.size ≤ maxLen) (w : World) :
    Calls Tryz.prog 163 #[.string s, .int .u8 48] w fun e w' => e = .returned (.string (stripB s)) ∧ w' = w := by
  unfold maxLen at hs
  go_enter Tryz.func163, Tryz.ntmps163
  go_wp2
  go_loop [0] (fun v => ∃ t : ByteArray, v = .string t ∧ t.size ≤ s.size ∧ Hid (trim t = trim s)) (fun v => Lib.strSize v)
  case atStart => exact ⟨s, rfl, Nat.le_refl _, rfl⟩
  case round =>
    obtain ⟨t, rfl, hts, ht⟩ := hrel
    by_cases h0 : 0 < t.size
    · cases hb : ((t[0].toNat : Int) == 48)
      · have HT := hide (trim_stop t (fun ⟨_, h⟩ => by rw [h h0] at hb; cases hb))
        go_wp2
        go_ret
        exact ⟨ret_str' (eq_stripB ((unhide HT).trans (unhide ht))), rfl⟩
      · have HT := hide (trim_tail t h0 hb)
        have hz := hide (size_le_of_extract t 1 t.size)
        have hz2 : Hid ((t.extract 1 t.size).size < t.size) := hide (by rw [ByteArray.size_extract]; omega)
        go_wp2
        go_round
        case rel => exact ⟨_, rfl, Nat.le_trans (unhide hz) hts, hide ((unhide HT).trans (unhide ht))⟩
        case measure => exact unhide hz2
    · have HT := hide (trim_stop t (fun ⟨h, _⟩ => h0 h))
      go_wp2
      go_ret
      exact ⟨ret_str' (eq_stripB ((unhide HT).trans (unhide ht))), rfl⟩

theorem stripB_empty (s : ByteArray) (h : s.toList.isEmpty = true) : stripB s = s := by
  have h' : s.data.toList = [] := by rw [← Lib.toList_data]; simpa using h
  refine (eq_stripB ?_).symm
  unfold trim
  rw [h']; rfl

set_option maxHeartbeats 1000000 in
set_option maxRecDepth 100000 in
theorem trimLeft_any (s : ByteArray) (hs : s.size ≤ maxLen) (w : World) :
    Calls Tryz.prog 155 #[.string s, .string ⟨#[48]⟩] w fun e w' => e = .returned (.string (stripB s)) ∧ w' = w := by
  cases h : s.toList.isEmpty
  · go_enter Tryz.func155, Tryz.ntmps155
    go_wp2_with (go_at_call 163; refine (trimLeftByte_any s hs _).mono ?_; rintro e w' ⟨rfl, rfl⟩)
    go_ret
    exact ⟨rfl, rfl⟩
  · have HE := hide (stripB_empty s h)
    go_enter Tryz.func155, Tryz.ntmps155
    go_wp2
    go_ret
    exact ⟨ret_str' (unhide HE).symm, rfl⟩

def ordNum (a b : ByteArray) : Int := if ci (stripB a).size (stripB b).size = 0 then cs (stripB a) (stripB b) else ci (stripB a).size (stripB b).size

set_option maxHeartbeats 1000000 in
theorem orderNumbers_any (a b : ByteArray) (ha : a.size ≤ maxLen) (hb : b.size ≤ maxLen) (w : World) :
    Calls Tryz.prog 138 #[.string a, .string b] w fun e w' => e = .returned (.int .i64 (ordNum a b)) ∧ w' = w := by
  have c1 := hide (fun w => trimLeft_any a ha w)
  have c2 := hide (fun w => trimLeft_any b hb w)
  have HF := hide (show ordNum a b = if ci (stripB a).size (stripB b).size = 0 then cs (stripB a) (stripB b) else ci (stripB a).size (stripB b).size from rfl)
  generalize stripB a = x at *
  generalize stripB b = y at *
  by_cases h : ci x.size y.size = 0
  · have h1 : (ci x.size y.size != 0) = false := by simp [h]
    go_enter Tryz.func138, Tryz.ntmps138
    go_wp2_with fail
    refine (unhide c1 _).mono ?_
    rintro e w' ⟨rfl, rfl⟩
    go_wp2_with fail
    refine (unhide c2 _).mono ?_
    rintro e w' ⟨rfl, rfl⟩
    go_wp2_with (first | (go_at_call 156; refine (cmpInt_any _ _ _).mono ?_; rintro e w' ⟨rfl, rfl⟩) | (go_at_call 75; refine (cmpStr_any _ _ _).mono ?_; rintro e w' ⟨rfl, rfl⟩))
    go_ret
    exact ⟨ret_int64 (by rw [unhide HF, if_pos h]), rfl⟩
  · have h1 : (ci x.size y.size != 0) = true := by simpa using h
    go_enter Tryz.func138, Tryz.ntmps138
    go_wp2_with fail
    refine (unhide c1 _).mono ?_
    rintro e w' ⟨rfl, rfl⟩
    go_wp2_with fail
    refine (unhide c2 _).mono ?_
    rintro e w' ⟨rfl, rfl⟩
    go_wp2_with (first | (go_at_call 156; refine (cmpInt_any _ _ _).mono ?_; rintro e w' ⟨rfl, rfl⟩) | (go_at_call 75; refine (cmpStr_any _ _ _).mono ?_; rintro e w' ⟨rfl, rfl⟩))
    go_ret
    exact ⟨ret_int64 (by rw [unhide HF, if_neg h]), rfl⟩

end Go.Proofs.YtcebpdcijpgkjaaGreatDoor

namespace Go.Proofs.YtcebpdcijpgkjaaGreatDoor
open Go.RowKit

/-- THE FIRST OF c 0 .. c (n - 1) THAT IS NOT 0; ELSE 0. -/
def sq (c : Nat → Int) : Nat → Int
  | 0 => 0
  | n + 1 => if sq c n = 0 then c n else sq c n

theorem sq_stays (c : Nat → Int) (k : Nat) (h : sq c k ≠ 0) : ∀ n, k ≤ n → sq c n = sq c k := by
  intro n hn
  induction n with
  | zero => have : k = 0 := by omega
            rw [this]
  | succ n ih =>
    by_cases e : k = n + 1
    · rw [e]
    · have := ih (by omega)
      show (if sq c n = 0 then c n else sq c n) = _
      rw [this, if_neg h]

theorem sq_hit (c : Nat → Int) (k n : Nat) (h0 : sq c k = 0) (h : c k ≠ 0) (hk : k < n) : sq c n = c k := by
  have h1 : sq c (k + 1) = c k := by show (if sq c k = 0 then c k else sq c k) = _; rw [if_pos h0]
  rw [sq_stays c (k + 1) (by rw [h1]; exact h) n hk, h1]

theorem sq_miss (c : Nat → Int) (k : Nat) (h0 : sq c k = 0) (h : c k = 0) : sq c (k + 1) = 0 := by
  show (if sq c k = 0 then c k else sq c k) = _
  rw [if_pos h0, h]

def rk (n : Int) : Int := if (n == 126) = true then 0 else if isLet n = true then 2 + n else 300 + n
def rkAt (s : ByteArray) (i : Nat) : Int := if h : i < s.size then rk (s[i].toNat : Int) else 1

set_option maxHeartbeats 400000 in
theorem rank_any (b : Int) (h0 : 0 ≤ b) (h1 : b ≤ 255) (w : World) :
    Calls Tryz.prog 174 #[.int .u8 b] w fun e w' => e = .returned (.int .i64 (rk b)) ∧ w' = w := by
  cases h2 : (b == 126) <;> cases h3 : isLet b
  all_goals
    go_enter Tryz.func174, Tryz.ntmps174
    go_wp2_with (go_at_call 162; refine (isLetter_any _ _).mono ?_; rintro e w' ⟨rfl, rfl⟩)
    go_ret
    exact ⟨ret_int64 (by simp only [rk, h2, h3]; rfl), rfl⟩

set_option maxHeartbeats 400000 in
theorem rankAt_any (s : ByteArray) (_hs : s.size ≤ maxLen) (i : Nat) (w : World) :
    Calls Tryz.prog 169 #[.string s, .int .i64 i] w fun e w' => e = .returned (.int .i64 (rkAt s i)) ∧ w' = w := by
  by_cases h : i < s.size
  · have HF := hide (show rkAt s i = rk (s[i].toNat : Int) by unfold rkAt; rw [dif_pos h])
    have hb : (s[i].toNat : Int) ≤ 255 := by have := s[i].toNat_lt; omega
    go_enter Tryz.func169, Tryz.ntmps169
    go_wp2_with (go_at_call 174; refine (rank_any _ (by omega) (by omega) _).mono ?_; rintro e w' ⟨rfl, rfl⟩)
    go_ret
    exact ⟨ret_int64 (unhide HF).symm, rfl⟩
  · have HF := hide (show rkAt s i = 1 by unfold rkAt; rw [dif_neg h])
    go_enter Tryz.func169, Tryz.ntmps169
    go_wp2
    go_ret
    exact ⟨ret_int64 (unhide HF).symm, rfl⟩

def cw (a b : ByteArray) (i : Nat) : Int := ci (rkAt a i) (rkAt b i)
def ordWord (a b : ByteArray) : Int := sq (cw a b) (max a.size b.size)

set_option maxHeartbeats 1000000 in
theorem orderWords_any (a b : ByteArray) (ha : a.size ≤ maxLen) (hb : b.size ≤ maxLen) (w : World) :
    Calls Tryz.prog 158 #[.string a, .string b] w fun e w' => e = .returned (.int .i64 (ordWord a b)) ∧ w' = w := by
  have ha' := ha
  have hb' := hb
  unfold maxLen at ha' hb'
  have c1 := hide (fun i w => rankAt_any a ha i w)
  have c2 := hide (fun i w => rankAt_any b hb i w)
  by_cases h : a.size < b.size
  · have HF := hide (show ordWord a b = sq (cw a b) b.size by unfold ordWord; rw [show max a.size b.size = b.size by omega])
    go_enter Tryz.func158, Tryz.ntmps158
    go_wp2
    go_loop [5, 6, 12] (fun _ _ i => ∃ k : Nat, k ≤ b.size ∧ i = .int .i64 k ∧ Hid (sq (cw a b) k = 0)) (fun _ _ i => b.size - (intOf i).toNat)
    case atStart => exact ⟨0, Nat.zero_le _, rfl, rfl⟩
    case round =>
      obtain ⟨k, hk, rfl, hz⟩ := hrel
      by_cases hlt : k < b.size
      · by_cases hc : cw a b k = 0
        · have HC := hide hc
          have h1 : (ci (rkAt a k) (rkAt b k) != 0) = false := by simpa [cw] using hc
          clear hc
          go_wp2_with fail
          refine (unhide c1 k _).mono ?_
          rintro e w' ⟨rfl, rfl⟩
          go_wp2_with fail
          refine (unhide c2 k _).mono ?_
          rintro e w' ⟨rfl, rfl⟩
          go_wp2_with (go_at_call 156; refine (cmpInt_any _ _ _).mono ?_; rintro e w' ⟨rfl, rfl⟩)
          go_round
          case rel => exact ⟨k + 1, by omega, by go_num, hide (sq_miss _ k (unhide hz) (unhide HC))⟩
          case measure => simp [intOf]; omega
        · have HC := hide hc
          have h1 : (ci (rkAt a k) (rkAt b k) != 0) = true := by simpa [cw] using hc
          clear hc
          go_wp2_with fail
          refine (unhide c1 k _).mono ?_
          rintro e w' ⟨rfl, rfl⟩
          go_wp2_with fail
          refine (unhide c2 k _).mono ?_
          rintro e w' ⟨rfl, rfl⟩
          go_wp2_with (go_at_call 156; refine (cmpInt_any _ _ _).mono ?_; rintro e w' ⟨rfl, rfl⟩)
          go_ret
          exact ⟨ret_int64 (by rw [unhide HF, sq_hit _ k _ (unhide hz) (unhide HC) hlt]; rfl), rfl⟩
      · have hk' : k = b.size := by omega
        have HZ := hide (hk' ▸ unhide hz)
        clear hk'
        go_wp2
        go_ret
        exact ⟨ret_int64 (by rw [unhide HF]; exact (unhide HZ).symm), rfl⟩
  · have HF := hide (show ordWord a b = sq (cw a b) a.size by unfold ordWord; rw [show max a.size b.size = a.size by omega])
    go_enter Tryz.func158, Tryz.ntmps158
    go_wp2
    go_loop [5, 6, 12] (fun _ _ i => ∃ k : Nat, k ≤ a.size ∧ i = .int .i64 k ∧ Hid (sq (cw a b) k = 0)) (fun _ _ i => a.size - (intOf i).toNat)
    case atStart => exact ⟨0, Nat.zero_le _, rfl, rfl⟩
    case round =>
      obtain ⟨k, hk, rfl, hz⟩ := hrel
      by_cases hlt : k < a.size
      · by_cases hc : cw a b k = 0
        · have HC := hide hc
          have h1 : (ci (rkAt a k) (rkAt b k) != 0) = false := by simpa [cw] using hc
          clear hc
          go_wp2_with fail
          refine (unhide c1 k _).mono ?_
          rintro e w' ⟨rfl, rfl⟩
          go_wp2_with fail
          refine (unhide c2 k _).mono ?_
          rintro e w' ⟨rfl, rfl⟩
          go_wp2_with (go_at_call 156; refine (cmpInt_any _ _ _).mono ?_; rintro e w' ⟨rfl, rfl⟩)
          go_round
          case rel => exact ⟨k + 1, by omega, by go_num, hide (sq_miss _ k (unhide hz) (unhide HC))⟩
          case measure => simp [intOf]; omega
        · have HC := hide hc
          have h1 : (ci (rkAt a k) (rkAt b k) != 0) = true := by simpa [cw] using hc
          clear hc
          go_wp2_with fail
          refine (unhide c1 k _).mono ?_
          rintro e w' ⟨rfl, rfl⟩
          go_wp2_with fail
          refine (unhide c2 k _).mono ?_
          rintro e w' ⟨rfl, rfl⟩
          go_wp2_with (go_at_call 156; refine (cmpInt_any _ _ _).mono ?_; rintro e w' ⟨rfl, rfl⟩)
          go_ret
          exact ⟨ret_int64 (by rw [unhide HF, sq_hit _ k _ (unhide hz) (unhide HC) hlt]; rfl), rfl⟩
      · have hk' : k = a.size := by omega
        have HZ := hide (hk' ▸ unhide hz)
        clear hk'
        go_wp2
        go_ret
        exact ⟨ret_int64 (by rw [unhide HF]; exact (unhide HZ).symm), rfl⟩

end Go.Proofs.YtcebpdcijpgkjaaGreatDoor

namespace Go.Proofs.YtcebpdcijpgkjaaGreatDoor
open Go.RowKit

theorem ret_nat {a b : Nat} (h : a = b) : Ending.returned (.int .i64 a) = .returned (.int .i64 b) := by rw [h]

/-- WHERE THE RUN THAT BEGINS AT A PLACE ENDS. -/
def endAt (s : ByteArray) (i : Nat) (dg : Bool) : Nat := i + ((s.data.toList.drop i).takeWhile (fun c => isDig (c.toNat : Int) == dg)).length

theorem drop_at (s : ByteArray) (k : Nat) (h : k < s.size) : s.data.toList.drop k = s[k] :: s.data.toList.drop (k + 1) := by
  have h' : k < s.data.toList.length := by simpa using h
  exact List.drop_eq_getElem_cons h'

theorem endAt_step (s : ByteArray) (k : Nat) (dg : Bool) (h : k < s.size) (hd : (isDig (s[k].toNat : Int) == dg) = true) : endAt s (k + 1) dg = endAt s k dg := by
  unfold endAt
  rw [drop_at s k h, List.takeWhile_cons, if_pos hd]
  simp only [List.length_cons]
  omega

theorem endAt_stop (s : ByteArray) (k : Nat) (dg : Bool) (h : k < s.size) (hd : (isDig (s[k].toNat : Int) == dg) = false) : endAt s k dg = k := by
  unfold endAt
  rw [drop_at s k h, List.takeWhile_cons, if_neg (by rw [hd]; decide)]
  rfl

theorem endAt_end (s : ByteArray) (k : Nat) (dg : Bool) (h : s.size ≤ k) : endAt s k dg = k := by
  unfold endAt
  rw [List.drop_eq_nil_of_le (by simpa using h)]
  rfl

theorem endAt_ge (s : ByteArray) (k : Nat) (dg : Bool) : k ≤ endAt s k dg := Nat.le_add_right _ _

theorem endAt_le (s : ByteArray) (k : Nat) (dg : Bool) (h : k ≤ s.size) : endAt s k dg ≤ s.size := by
  unfold endAt
  have h1 := (List.takeWhile_sublist (fun c : UInt8 => isDig (c.toNat : Int) == dg) (l := s.data.toList.drop k)).length_le
  have h2 : (s.data.toList.drop k).length = s.size - k := by simp
  omega

set_option maxHeartbeats 1000000 in
theorem runEnd_any (s : ByteArray) (hs : s.size ≤ maxLen) (i : Nat) (dg : Bool) (w : World) (hi : i ≤ s.size) :
    Calls Tryz.prog 168 #[.string s, .int .i64 i, .bool dg] w fun e w' => e = .returned (.int .i64 (endAt s i dg)) ∧ w' = w := by
  unfold maxLen at hs
  go_enter Tryz.func168, Tryz.ntmps168
  go_wp2
  go_loop [1] (fun v => ∃ k : Nat, k ≤ s.size ∧ v = .int .i64 k ∧ Hid (endAt s k dg = endAt s i dg)) (fun v => s.size - (intOf v).toNat)
  case atStart => exact ⟨i, hi, rfl, rfl⟩
  case round =>
    obtain ⟨k, hk, rfl, hz⟩ := hrel
    by_cases hlt : k < s.size
    · cases hd : (isDig (s[k].toNat : Int) == dg)
      · have HE := hide (endAt_stop s k dg hlt hd)
        go_wp2_with (go_at_call 152; refine (isDigit_any _ _).mono ?_; rintro e w' ⟨rfl, rfl⟩)
        go_ret
        exact ⟨ret_nat (by rw [← unhide hz, unhide HE]), rfl⟩
      · have HE := hide (endAt_step s k dg hlt hd)
        go_wp2_with (go_at_call 152; refine (isDigit_any _ _).mono ?_; rintro e w' ⟨rfl, rfl⟩)
        go_round
        case rel => exact ⟨k + 1, by omega, by go_num, hide ((unhide HE).trans (unhide hz))⟩
        case measure => simp [intOf]; omega
    · have HE := hide (endAt_end s k dg (by omega))
      go_wp2
      go_ret
      exact ⟨ret_nat (by rw [← unhide hz, unhide HE]), rfl⟩

/-- IS A NUMBER ODD? -/
def odd : Nat → Bool
  | 0 => false
  | n + 1 => !odd n

/-- WHERE THE RUN NUMBER n BEGINS. -/
def ia (s : ByteArray) : Nat → Nat
  | 0 => 0
  | n + 1 => endAt s (ia s n) (odd n)

theorem ia_le (s : ByteArray) : ∀ n, ia s n ≤ s.size
  | 0 => Nat.zero_le _
  | n + 1 => endAt_le s _ _ (ia_le s n)

theorem ia_mono (s : ByteArray) (n : Nat) : ia s n ≤ ia s (n + 1) := endAt_ge s _ _

theorem endAt_char (s : ByteArray) (dg : Bool) : ∀ (m i j : Nat), s.size - i ≤ m → endAt s i dg = j → ∀ h : j < s.size, (isDig (s[j].toNat : Int) == dg) = false
  | 0, i, j, hm, e, h => by
    have := endAt_end s i dg (by omega)
    omega
  | m + 1, i, j, hm, e, h => by
    by_cases hi : i < s.size
    · cases hd : (isDig (s[i].toNat : Int) == dg)
      · have e' := endAt_stop s i dg hi hd
        have : i = j := by omega
        subst this
        exact hd
      · exact endAt_char s dg m (i + 1) j (by omega) (by rw [endAt_step s i dg hi hd]; exact e) h
    · have := endAt_end s i dg (by omega)
      omega

theorem ia_odd (s : ByteArray) (n : Nat) (ho : odd n = true) (h : ia s n < s.size) : ia s n < ia s (n + 1) := by
  cases n with
  | zero => cases ho
  | succ m =>
    have hm : odd m = false := by
      have h' : (!odd m) = true := ho
      simpa using h'
    have hc := endAt_char s false (s.size - ia s m) (ia s m) (ia s (m + 1)) (Nat.le_refl _) (by show endAt s (ia s m) false = endAt s (ia s m) (odd m); rw [hm]) h
    have hd : (isDig (s[ia s (m + 1)].toNat : Int) == odd (m + 1)) = true := by
      rw [ho]
      revert hc
      cases isDig (s[ia s (m + 1)].toNat : Int) <;> decide
    have e : ia s (m + 2) = endAt s (ia s (m + 1)) (odd (m + 1)) := rfl
    rw [← endAt_step s _ _ h hd] at e
    have := endAt_ge s (ia s (m + 1) + 1) (odd (m + 1))
    show ia s (m + 1) < ia s (m + 2)
    omega

theorem ia_two (s : ByteArray) (n : Nat) (h : ia s n < s.size) : ia s n < ia s (n + 2) := by
  have h1 := ia_mono s n
  by_cases e : ia s (n + 1) = ia s n
  · cases hd : (isDig (s[ia s n].toNat : Int) == odd n)
    · have hd2 : (isDig (s[ia s n].toNat : Int) == odd (n + 1)) = true := by
        show (isDig (s[ia s n].toNat : Int) == !odd n) = true
        revert hd
        cases isDig (s[ia s n].toNat : Int) <;> cases odd n <;> decide
      have : ia s (n + 2) = endAt s (ia s n) (odd (n + 1)) := by show endAt s (ia s (n + 1)) _ = _; rw [e]
      rw [this, ← endAt_step s (ia s n) _ h hd2]
      exact Nat.lt_of_lt_of_le (Nat.lt_succ_self _) (endAt_ge s _ _)
    · have : ia s (n + 1) = endAt s (ia s n) (odd n) := rfl
      rw [← endAt_step s (ia s n) _ h hd] at this
      have := endAt_ge s (ia s n + 1) (odd n)
      omega
  · have : ia s (n + 1) ≤ ia s (n + 2) := ia_mono s (n + 1)
    omega

theorem ia_progress (s : ByteArray) : ∀ m, m ≤ s.size → m ≤ ia s (2 * m)
  | 0, _ => Nat.zero_le _
  | m + 1, h => by
    have ih := ia_progress s m (by omega)
    have h2 : ia s (2 * m) ≤ ia s (2 * m + 2) := Nat.le_trans (ia_mono s _) (ia_mono s _)
    by_cases e : ia s (2 * m) < s.size
    · have := ia_two s (2 * m) e
      show m + 1 ≤ ia s (2 * m + 2)
      omega
    · have := ia_le s (2 * m)
      show m + 1 ≤ ia s (2 * m + 2)
      omega

theorem ia_done (s : ByteArray) (n : Nat) (h : 2 * s.size ≤ n) : ia s n = s.size := by
  induction n with
  | zero =>
    have := ia_le s 0
    have h0 : s.size = 0 := by omega
    have : ia s 0 = 0 := rfl
    omega
  | succ n ih =>
    by_cases e : 2 * s.size = n + 1
    · have := ia_progress s s.size (Nat.le_refl _)
      rw [e] at this
      have := ia_le s (n + 1)
      omega
    · have h1 := ih (by omega)
      have h2 := ia_mono s n
      have h3 := ia_le s (n + 1)
      omega

/-- THE RUN NUMBER n. -/
def runOf (s : ByteArray) (n : Nat) : ByteArray := s.extract (ia s n) (ia s (n + 1))

theorem runOf_size (s : ByteArray) (n : Nat) : (runOf s n).size ≤ s.size := size_le_of_extract _ _ _

/-- A PAIR OF RUNS. -/
abbrev Run2 := { x : ByteArray × ByteArray // x.1.size ≤ maxLen ∧ x.2.size ≤ maxLen }

def pairOf (a b : ByteArray) (ha : a.size ≤ maxLen) (hb : b.size ≤ maxLen) (n : Nat) : Run2 := ⟨(runOf a n, runOf b n), Nat.le_trans (runOf_size a n) ha, Nat.le_trans (runOf_size b n) hb⟩

def upto (a b : ByteArray) (ha : a.size ≤ maxLen) (hb : b.size ≤ maxLen) (n : Nat) : List Run2 := (List.range n).map (pairOf a b ha hb)

theorem upto_succ (a b : ByteArray) (ha : a.size ≤ maxLen) (hb : b.size ≤ maxLen) (n : Nat) : upto a b ha hb (n + 1) = upto a b ha hb n ++ [pairOf a b ha hb n] := by
  unfold upto; rw [List.range_succ, List.map_append]; rfl

theorem upto_length (a b : ByteArray) (ha : a.size ≤ maxLen) (hb : b.size ≤ maxLen) (n : Nat) : (upto a b ha hb n).length = n := by
  unfold upto; simp

end Go.Proofs.YtcebpdcijpgkjaaGreatDoor

