import Derived.Deep.RegionHeld3
import Derived.Below
import Derived.Lib.Strings
import Derived.Lib.Bytealg
import Derived.Lib.LastIndexByte
import Derived.Test.YtdkpglmdncjnbaaGreatDoorProg
import Derived.WalkKit
import Derived.WalkSpells
import Derived.WalkLawsBesides
import Derived.ArgAppend
import Derived.Laws.OwnMore
import Derived.OwnWalk
import Derived.Deep.AppendLies
import Derived.LoopIn
import Derived.Maps.OwnSet
import Derived.Maps.OwnOps
import Derived.Maps.AppendAt
import Derived.Lib.SliceRun
import Derived.Lib.TrimByte
namespace Go.Proofs.YtdkpglmdncjnbaaGreatDoor
theorem tkH {P : Program} {ops : Array Oper} {Q : Exit → Act → World → Prop} {md : Region.Mode} {S : World → Prop} (i : Nat) (oi : Oper) {v : Value} {fuel : Nat} {listed : Array Bool} {a : Act} {w : World} (hy : YieldsIf P ops S oi v a) (h : wpAnyH P md ops Q S fuel (listed.setIfInBounds i true) (a.put oi.dst v) w)
    (hi : ops[i]? = some oi := by rfl) (hs : Region.noSelect ops = true := by kernel_rfl) (hf : Region.free md ops listed i = true := by kernel_rfl) (hr : (Region.ready md ops listed).contains i = true := by kernel_rfl) (hQ : ∀ c a w, Q (.panic c) (a.put oi.dst v) w → Q (.panic c) a w := by exact fun _ _ _ h => h) (hS : S w := by assumption) : wpAnyH P md ops Q S (fuel + 1) listed a w := wpAnyH_take hi hs hf hr hQ hy hS h
theorem sqB {α : Type} (l : List α) (i : Nat) (a : α) : l.toArray.setIfInBounds i a = (l.set i a).toArray := List.setIfInBounds_toArray l i a
theorem sq0 {α : Type} (a b : α) (l : List α) : (a :: l).set 0 b = b :: l := rfl
theorem sq1 {α : Type} (a b : α) (l : List α) (n : Nat) : (a :: l).set (n + 1) b = a :: l.set n b := rfl
theorem tk2 {P : Program} {ops : Array Oper} {Q : Exit → Act → World → Prop} {md : Region.Mode} {S : World → Prop} (i : Nat) (oi : Oper) {v : Value} {fuel : Nat} {listed : Array Bool} {a b : Act} {w : World} (h : wpAnyH P md ops Q S fuel (listed.setIfInBounds i true) b w)
    (hy : ∀ w, S w → (execOp a.eval oi).run P w = .ok (.value v) w := by intro w hSw; (try dsimp only at hSw); go_simp; (try with_reducible rfl)) (hw : Region.wanted oi (yielded ops a.tmps) = true := by rfl) (hb : a.put oi.dst v = b := by (try simp only [Act.put, sqB, sq0, sq1]); rfl) (hi : ops[i]? = some oi := by rfl) (hs : Region.noSelect ops = true := by kernel_rfl) (hf : Region.free md ops listed i = true := by kernel_rfl) (hr : (Region.ready md ops listed).contains i = true := by kernel_rfl) (hQ : ∀ c a w, Q (.panic c) (a.put oi.dst v) w → Q (.panic c) a w := by exact fun _ _ _ h => h) (hS : S w := by assumption) : wpAnyH P md ops Q S (fuel + 1) listed a w := wpAnyH_take hi hs hf hr hQ (Or.inl ⟨hw, hy⟩) hS (hb ▸ h)
end Go.Proofs.YtdkpglmdncjnbaaGreatDoor
namespace Go.Proofs.YtdkpglmdncjnbaaGreatDoor
section
open Go.RowKit
theorem hide {p : Prop} (h : p) : Hid p := h
theorem unhide {p : Prop} (h : Hid p) : p := h.out
def oi : Option Nat → Int
 | none => -1
 | some k => k
def isDig (n : Int) : Bool := decide (48 ≤ n) && decide (n ≤ 57)
def isLet (n : Int) : Bool := (decide (65 ≤ n) && decide (n ≤ 90)) || (decide (97 ≤ n) && decide (n ≤ 122))
def isRev (n : Int) : Bool := isLet n || isDig n || (n == 46) || (n == 43) || (n == 126)
def isUp (n : Int) : Bool := isRev n || (n == 45) || (n == 58)
def allB (p : Int → Bool) (s : ByteArray) : Bool := s.data.toList.all fun c => p c.toNat
theorem take_snoc (s : ByteArray) (k : Nat) (h : k < s.size) : s.data.toList.take (k + 1) = s.data.toList.take k ++ [s[k]] := by
 rw [List.take_succ_eq_append_getElem (by simpa using h)]; rfl
theorem allB_no (p : Int → Bool) (s : ByteArray) (k : Nat) (h : k < s.size) (hp : p (s[k].toNat : Int) = false) : allB p s = false := by
 unfold allB
 rw [List.all_eq_false]
 exact ⟨s[k], List.getElem_mem (l := s.data.toList) (n := k) (by simpa using h), by simp [hp]⟩
theorem allB_yes (p : Int → Bool) (s : ByteArray) (h : ∀ j (hj : j < s.size), p (s[j].toNat : Int) = true) : allB p s = true := by
 unfold allB
 rw [List.all_eq_true]
 intro c hc
 obtain ⟨j, hj, rfl⟩ := List.getElem_of_mem hc
 exact h j (by simpa using hj)
def kind (g : Nat) : Int → Bool := if g = 152 then isDig else if g = 153 then isUp else isRev
def b0 (u : ByteArray) : Int := (u.data.toList.headD 0).toNat
theorem b0_eq (u : ByteArray) (h : 0 < u.size) : b0 u = (u[0].toNat : Int) := by
 unfold b0
 rw [List.headD_eq_head?_getD, List.head?_eq_getElem?, List.getElem?_eq_getElem (by simpa using h)]
 rfl
def chk (e u r : ByteArray) (c d : Bool) : Int :=
 if u.toList.isEmpty = true then 11
 else if (c && (e.toList.isEmpty || !allB (kind 152) e)) = true then 12
 else if (d && r.toList.isEmpty) = true then 13
 else if isDig (b0 u) = false then 14
 else if (!allB (kind 153) u || !allB (kind 154) r) = true then 15 else 0
def pre (e u : ByteArray) (c : Bool) : ByteArray := if c = true then e ++ ⟨#[58]⟩ ++ u else u
structure Ver where
 e : ByteArray
 u : ByteArray
 r : ByteArray
 c : Bool
 d : Bool
def nob : ByteArray := ⟨#[]⟩
def rest (s : ByteArray) : ByteArray := if Lib.indexByte s.data.toList 58 = -1 then s else s.extract ((Lib.indexByte s.data.toList 58).toNat + 1) s.size
def cut (s : ByteArray) : Ver :=
 { e := if Lib.indexByte s.data.toList 58 = -1 then nob else s.extract 0 (Lib.indexByte s.data.toList 58).toNat
   u := if Lib.lastIndexByte (rest s) 45 = -1 then rest s else (rest s).extract 0 (Lib.lastIndexByte (rest s) 45).toNat
   r := if Lib.lastIndexByte (rest s) 45 = -1 then nob else (rest s).extract ((Lib.lastIndexByte (rest s) 45).toNat + 1) (rest s).size
   c := decide (Lib.indexByte s.data.toList 58 ≠ -1)
   d := decide (Lib.lastIndexByte (rest s) 45 ≠ -1) }
def zeroVer : Ver := { e := nob, u := nob, r := nob, c := false, d := false }
def chkV (v : Ver) : Int := chk v.e v.u v.r v.c v.d
def parse (s : ByteArray) : Ver × Int :=
 if 256 < s.size then (zeroVer, 10) else if chkV (cut s) = 0 then (cut s, 0) else (zeroVer, chkV (cut s))
theorem indexByte_spec (l : List UInt8) (c : UInt8) : (Lib.indexByte l c = -1 ∧ ∀ (j : Nat) (hj : j < l.length), l[j] ≠ c) ∨
 (∃ i : Nat, ∃ hi : i < l.length, Lib.indexByte l c = i ∧ l[i] = c ∧ ∀ (j : Nat) (hj : j < i), l[j] ≠ c) := by
 induction l with
 | nil => exact .inl ⟨rfl, fun j hj => by simp at hj⟩
 | cons b l ih =>
   unfold Lib.indexByte
   by_cases hb : b = c
   ·refine .inr ⟨0, by simp, by simp [hb], by simpa using hb, fun j hj => by omega⟩
   ·have hb' : (b == c) = false := by simpa using hb
    rcases ih with ⟨h1, h2⟩ | ⟨i, hi, h1, h2, h3⟩
    ·refine .inl ⟨by simp [hb', h1], fun j hj => ?_⟩
     cases j with
     | zero => simpa using hb
     | succ j => simpa using h2 j (by simpa using hj)
    ·refine .inr ⟨i + 1, by simpa using hi, ?_, by simpa using h2, fun j hj => ?_⟩
     ·rw [hb', h1]
      have : ¬ ((i : Int) == -1) = true := by simp <;> omega
      simp only [Bool.false_eq_true, if_false]
      rw [if_neg this]
      omega
     ·cases j with
      | zero => simpa using hb
      | succ j => simpa using h3 j (by omega)
theorem size_le_of_extract (s : ByteArray) (a b : Nat) : (s.extract a b).size ≤ s.size := by
 rw [ByteArray.size_extract]; omega
theorem rest_size (s : ByteArray) : (rest s).size ≤ s.size := by
 unfold rest; split
 ·exact Nat.le_refl _
 ·exact size_le_of_extract _ _ _
theorem cut_size (s : ByteArray) : (cut s).e.size ≤ s.size ∧ (cut s).u.size ≤ s.size ∧ (cut s).r.size ≤ s.size := by
 have hr := rest_size s
 refine ⟨?_, ?_, ?_⟩
 ·show (if _ then _ else _ : ByteArray).size ≤ _
  split
  ·exact Nat.zero_le _
  ·exact size_le_of_extract _ _ _
 ·show (if _ then _ else _ : ByteArray).size ≤ _
  split
  ·exact hr
  ·exact Nat.le_trans (size_le_of_extract _ _ _) hr
 ·show (if _ then _ else _ : ByteArray).size ≤ _
  split
  ·exact Nat.zero_le _
  ·exact Nat.le_trans (size_le_of_extract _ _ _) hr
end
section
open Go.RowKit
theorem ret_bool {a b : Bool} (h : a = b) : Ending.returned (.bool a) = .returned (.bool b) := by rw [h]
set_option maxHeartbeats 400000 in
theorem isDigit_any (b : Int) (w : World) :
 Calls Tryz.prog 152 #[.int .u8 b] w fun e w' => e = .returned (.bool (isDig b)) ∧ w' = w := by
 go_enter Tryz.func152, Tryz.ntmps152
 go_wp2
 all_goals go_ret
 all_goals exact ⟨ret_bool (by simp [isDig, *] <;> omega), rfl⟩
set_option maxHeartbeats 400000 in
theorem isLetter_any (b : Int) (w : World) :
 Calls Tryz.prog 162 #[.int .u8 b] w fun e w' => e = .returned (.bool (isLet b)) ∧ w' = w := by
 go_enter Tryz.func162, Tryz.ntmps162
 go_wp2
 all_goals go_ret
 all_goals exact ⟨ret_bool (by simp [isLet, *] <;> omega), rfl⟩
set_option maxHeartbeats 400000 in
theorem mayBeRevision_any (b : Int) (w : World) :
 Calls Tryz.prog 154 #[.int .u8 b] w fun e w' => e = .returned (.bool (isRev b)) ∧ w' = w := by
 cases h1 : isLet b <;> cases h2 : isDig b <;> cases h3 : (b == 46) <;> cases h4 : (b == 43) <;> cases h5 : (b == 126)
 all_goals
  go_enter Tryz.func154, Tryz.ntmps154
  go_wp2_with (first | (go_at_call 162; refine (isLetter_any _ _).mono ?_; rintro e w' ⟨rfl, rfl⟩) | (go_at_call 152; refine (isDigit_any _ _).mono ?_; rintro e w' ⟨rfl, rfl⟩))
  go_ret
  exact ⟨ret_bool (by simp [isRev, h1, h2, h3, h4, h5]), rfl⟩
set_option maxHeartbeats 400000 in
theorem mayBeUpstream_any (b : Int) (w : World) :
 Calls Tryz.prog 153 #[.int .u8 b] w fun e w' => e = .returned (.bool (isUp b)) ∧ w' = w := by
 cases h1 : isRev b <;> cases h2 : (b == 45) <;> cases h3 : (b == 58)
 all_goals
  go_enter Tryz.func153, Tryz.ntmps153
  go_wp2_with (go_at_call 154; refine (mayBeRevision_any _ _).mono ?_; rintro e w' ⟨rfl, rfl⟩)
  go_ret
  exact ⟨ret_bool (by simp [isUp, h1, h2, h3]), rfl⟩
set_option maxHeartbeats 400000 in
theorem consists_dig (s : ByteArray) (w : World) (hs : s.size ≤ maxLen) :
 Calls Tryz.prog 151 #[.string s, .func (.func 152) #[] #[]] w fun e w' => e = .returned (.bool (allB isDig s)) ∧ w' = w := by
 unfold maxLen at hs
 go_enter Tryz.func151, Tryz.ntmps151
 go_wp2
 go_loop [5, 8] (fun _ i => ∃ k : Nat, k ≤ s.size ∧ i = .int .i64 k ∧ ∀ j (hj : j < s.size), j < k → isDig (s[j].toNat : Int) = true) (fun _ i => s.size - (intOf i).toNat)
 case atStart => exact ⟨0, Nat.zero_le _, rfl, fun j hj h => absurd h (Nat.not_lt_zero _)⟩
 case round =>
  obtain ⟨k, hk, rfl, hall⟩ := hrel
  have HA : Hid (∀ j (hj : j < s.size), j < k → isDig (s[j].toNat : Int) = true) := hall
  clear hall
  by_cases hlt : k < s.size
  ·cases hp : isDig (s[k].toNat : Int)
   ·have HP : Hid (isDig (s[k].toNat : Int) = false) := hp
    go_wp2_with (go_at_call 152; refine (isDigit_any _ _).mono ?_; rintro e w' ⟨rfl, rfl⟩)
    go_ret
    exact ⟨ret_bool (allB_no _ s k hlt HP.out).symm, rfl⟩
   ·have HP : Hid (isDig (s[k].toNat : Int) = true) := hp
    go_wp2_with (go_at_call 152; refine (isDigit_any _ _).mono ?_; rintro e w' ⟨rfl, rfl⟩)
    go_round
    case rel =>
     refine ⟨k + 1, by omega, by go_num, fun j hj h => ?_⟩
     by_cases e : j = k
     ·subst e; exact HP.out
     ·exact HA.out j hj (by omega)
    case measure => simp [intOf]; omega
  ·go_wp2
   go_ret
   exact ⟨ret_bool (allB_yes _ s fun j hj => HA.out j hj (by omega)).symm, rfl⟩
set_option maxHeartbeats 400000 in
theorem consists_up (s : ByteArray) (w : World) (hs : s.size ≤ maxLen) :
 Calls Tryz.prog 151 #[.string s, .func (.func 153) #[] #[]] w fun e w' => e = .returned (.bool (allB isUp s)) ∧ w' = w := by
 unfold maxLen at hs
 go_enter Tryz.func151, Tryz.ntmps151
 go_wp2
 go_loop [5, 8] (fun _ i => ∃ k : Nat, k ≤ s.size ∧ i = .int .i64 k ∧ ∀ j (hj : j < s.size), j < k → isUp (s[j].toNat : Int) = true) (fun _ i => s.size - (intOf i).toNat)
 case atStart => exact ⟨0, Nat.zero_le _, rfl, fun j hj h => absurd h (Nat.not_lt_zero _)⟩
 case round =>
  obtain ⟨k, hk, rfl, hall⟩ := hrel
  have HA : Hid (∀ j (hj : j < s.size), j < k → isUp (s[j].toNat : Int) = true) := hall
  clear hall
  by_cases hlt : k < s.size
  ·cases hp : isUp (s[k].toNat : Int)
   ·have HP : Hid (isUp (s[k].toNat : Int) = false) := hp
    go_wp2_with (go_at_call 153; refine (mayBeUpstream_any _ _).mono ?_; rintro e w' ⟨rfl, rfl⟩)
    go_ret
    exact ⟨ret_bool (allB_no _ s k hlt HP.out).symm, rfl⟩
   ·have HP : Hid (isUp (s[k].toNat : Int) = true) := hp
    go_wp2_with (go_at_call 153; refine (mayBeUpstream_any _ _).mono ?_; rintro e w' ⟨rfl, rfl⟩)
    go_round
    case rel =>
     refine ⟨k + 1, by omega, by go_num, fun j hj h => ?_⟩
     by_cases e : j = k
     ·subst e; exact HP.out
     ·exact HA.out j hj (by omega)
    case measure => simp [intOf]; omega
  ·go_wp2
   go_ret
   exact ⟨ret_bool (allB_yes _ s fun j hj => HA.out j hj (by omega)).symm, rfl⟩
set_option maxHeartbeats 400000 in
theorem consists_rev (s : ByteArray) (w : World) (hs : s.size ≤ maxLen) :
 Calls Tryz.prog 151 #[.string s, .func (.func 154) #[] #[]] w fun e w' => e = .returned (.bool (allB isRev s)) ∧ w' = w := by
 unfold maxLen at hs
 go_enter Tryz.func151, Tryz.ntmps151
 go_wp2
 go_loop [5, 8] (fun _ i => ∃ k : Nat, k ≤ s.size ∧ i = .int .i64 k ∧ ∀ j (hj : j < s.size), j < k → isRev (s[j].toNat : Int) = true) (fun _ i => s.size - (intOf i).toNat)
 case atStart => exact ⟨0, Nat.zero_le _, rfl, fun j hj h => absurd h (Nat.not_lt_zero _)⟩
 case round =>
  obtain ⟨k, hk, rfl, hall⟩ := hrel
  have HA : Hid (∀ j (hj : j < s.size), j < k → isRev (s[j].toNat : Int) = true) := hall
  clear hall
  by_cases hlt : k < s.size
  ·cases hp : isRev (s[k].toNat : Int)
   ·have HP : Hid (isRev (s[k].toNat : Int) = false) := hp
    go_wp2_with (go_at_call 154; refine (mayBeRevision_any _ _).mono ?_; rintro e w' ⟨rfl, rfl⟩)
    go_ret
    exact ⟨ret_bool (allB_no _ s k hlt HP.out).symm, rfl⟩
   ·have HP : Hid (isRev (s[k].toNat : Int) = true) := hp
    go_wp2_with (go_at_call 154; refine (mayBeRevision_any _ _).mono ?_; rintro e w' ⟨rfl, rfl⟩)
    go_round
    case rel =>
     refine ⟨k + 1, by omega, by go_num, fun j hj h => ?_⟩
     by_cases e : j = k
     ·subst e; exact HP.out
     ·exact HA.out j hj (by omega)
    case measure => simp [intOf]; omega
  ·go_wp2
   go_ret
   exact ⟨ret_bool (allB_yes _ s fun j hj => HA.out j hj (by omega)).symm, rfl⟩
theorem consists_any (s : ByteArray) (g : Nat) (hg : g = 152 ∨ g = 153 ∨ g = 154) (w : World) (hs : s.size ≤ maxLen) :
 Calls Tryz.prog 151 #[.string s, .func (.func g) #[] #[]] w fun e w' => e = .returned (.bool (allB (kind g) s)) ∧ w' = w := by
 rcases hg with rfl | rfl | rfl
 ·exact consists_dig s w hs
 ·exact consists_up s w hs
 ·exact consists_rev s w hs
end
section
open Go.RowKit Go.Maps
abbrev Nm := ByteArray
structure Hd where
 a : Option Addr
 n : Nat
 c : Nat
def hv (h : Hd) : Value := .slice h.a h.n h.c
def hv0 : Option Hd → Value
 | none => .slice none 0 0
 | some h => hv h
def kl (x : Nm) : Lit := .string x.data.toList
theorem kl_inj {x y : Nm} (h : kl x = kl y) : x = y := by
 unfold kl at h
 injection h with h
 have : x.data = y.data := by simpa using h
 cases x; cases y; simp_all
def raw (v : Value) : Option (DataW Value × List MemPlace) := some (.held v, [])
theorem law9 : Keyed Tryz.prog 9 := string_keyed Tryz.underlying9
theorem zero22 (w : World) : (zeroValue 34).run Tryz.prog w = .ok (.slice none 0 0) w := by kernel_rfl
def up {α : Type} (H : Nm → Option α) (x : Nm) (v : Option α) : Nm → Option α := fun y => if y = x then v else H y
theorem up_same {α : Type} (H : Nm → Option α) (x : Nm) (v : Option α) : up H x v x = v := if_pos rfl
theorem up_other {α : Type} (H : Nm → Option α) {x y : Nm} (v : Option α) (h : y ≠ x) : up H x v y = H y := if_neg h
structure Rep (D : DataW Value) (H : Nm → Option Hd) : Prop where
 has : ∀ x : Nm, x.size ≤ maxLen → Maps.has D (kl x) = (H x).isSome
 at_ : ∀ x : Nm, x.size ≤ maxLen → ∀ z, D.atKey (kl x) z = match H x with | some h => .held (hv h) | none => z
 lim : ∀ x, H x ≠ none → x.size ≤ maxLen
theorem Rep.start : Rep (.map []) (fun _ => none) := ⟨fun _ _ => rfl, fun _ _ _ => rfl, fun _ h => absurd rfl h⟩
theorem Rep.put {D : DataW Value} {H : Nm → Option Hd} (r : Rep D H) (hD : IsMap D) {x : Nm} (hx : x.size ≤ maxLen) (h : Hd) : Rep (D.put (kl x) (.held (hv h))) (up H x (some h)) := by
 refine ⟨fun y hy => ?_, fun y hy z => ?_, fun y hy => ?_⟩
 ·by_cases e : y = x
  ·subst e
   rw [has_put_same hD (show WideAt.IsKeyLit (kl y) from trivial), up_same]
   rfl
  ·rw [has_put_other (fun q => e (kl_inj q)), up_other _ _ e, r.has y hy]
 ·by_cases e : y = x
  ·subst e
   rw [atKey_put_same hD (show WideAt.IsKeyLit (kl y) from trivial), up_same]
  ·rw [atKey_put_other (fun q => e (kl_inj q)), up_other _ _ e, r.at_ y hy]
 ·by_cases e : y = x
  ·subst e; exact hx
  ·rw [up_other _ _ e] at hy; exact r.lim y hy
def Dm (W : World) (d : Value) (H : Nm → Option Hd) (k : Nat) : Prop :=
 (d = .map none ∧ ∀ x, H x = none) ∨ ∃ b D, d = .map (some b) ∧ W.ownsMap Tryz.prog 9 raw b k D ∧ Rep D H
def mb : Value → Option Nat
 | .map b => b
 | _ => none
theorem Dm.lt {W : World} {d : Value} {H : Nm → Option Hd} {k : Nat} (h : Dm W d H k) {b : Nat} (e : mb d = some b) : b < W.heap.size := by
 rcases h with ⟨rfl, _⟩ | ⟨b2, D, rfl, ho, r⟩
 ·cases e
 ·cases e; exact ho.lt
theorem Dm.mono {W : World} {d : Value} {H : Nm → Option Hd} {k k2 : Nat} (h : Dm W d H k) (hk : k ≤ k2) : Dm W d H k2 := by
 rcases h with h | ⟨b, D, e, ho, r⟩
 ·exact .inl h
 ·exact .inr ⟨b, D, e, ho.mono hk, r⟩
theorem Dm.same {W W2 : World} {d : Value} {H : Nm → Option Hd} {k : Nat} (h : Dm W d H k) (hb : ∀ b, mb d = some b → W2.heap[b]? = W.heap[b]?) : Dm W2 d H k := by
 rcases h with h | ⟨b, D, rfl, ho, r⟩
 ·exact .inl h
 ·obtain ⟨es, clock, h1, h2⟩ := ho
  exact .inr ⟨b, D, rfl, ⟨es, clock, (hb b rfl).trans h1, h2⟩, r⟩
theorem Dm.later {W W2 : World} {d : Value} {H : Nm → Option Hd} {k : Nat} (h : Dm W d H k) (hb : Below W.heap.size W W2) : Dm W2 d H k := h.same fun b e => hb.block b (h.lt e)
theorem key9 {x : Nm} (hx : x.size ≤ maxLen) : keyOf Tryz.prog 9 (.string x) = some (kl x) := WideMaps.keyOf_string_mk Tryz.underlying9 hx
theorem raw_inv {v : Value} {d : DataW Value} {ps : List MemPlace} (h : raw v = some (d, ps)) : d = .held v := by
 unfold raw at h
 injection h with h
 injection h with h _
 exact h.symm
theorem look1 {W : World} {d : Value} {H : Nm → Option Hd} {k : Nat} (h : Dm W d H k) {x : Nm} (hx : x.size ≤ maxLen) : (Instr.lookup 60 d (.string x) false).run Tryz.prog W = .ok (hv0 (H x)) W := by
 rcases h with ⟨rfl, h⟩ | ⟨b, D, rfl, ho, r⟩
 ·rw [h x]
  exact Maps.look_nil false law9 Tryz.underlying60 (zero22 W) (key9 hx)
 ·obtain ⟨v, ps, hr, hv2⟩ := ho.lookup law9 Tryz.underlying60 (zero22 W) (zd := .held (.slice none 0 0)) (zp := []) rfl (key9 hx)
  rw [hr]
  have e := raw_inv hv2
  rw [r.at_ x hx] at e
  cases hH : H x with
  | none =>
    simp only [hH] at e
    cases e
    rfl
  | some h =>
    simp only [hH] at e
    cases e
    rfl
structure Fx (P : Nat → Prop) (W W2 : World) : Prop where
 bel : Below 0 W W2
 blk : ∀ b, b < W.heap.size → ¬ P b → W2.heap[b]? = W.heap[b]?
theorem Fx.of {P : Nat → Prop} {W W2 : World} (h : Below W.heap.size W W2) : Fx P W W2 := ⟨h.mono (Nat.zero_le _), fun b hb _ => h.block b hb⟩
theorem Fx.size {P : Nat → Prop} {W W2 : World} (h : Fx P W W2) : W.heap.size ≤ W2.heap.size := h.bel.size
theorem Fx.trans {P : Nat → Prop} {A B C : World} (h : Fx P A B) (k : Fx P B C) : Fx P A C := ⟨h.bel.trans k.bel, fun b hb hp => (k.blk b (Nat.lt_of_lt_of_le hb h.size) hp).trans (h.blk b hb hp)⟩
theorem Fx.next {P Q : Nat → Prop} {A B C : World} (h : Fx P A B) (k : Fx Q B C) (q : ∀ b, b < A.heap.size → Q b → P b) : Fx P A C := ⟨h.bel.trans k.bel, fun b hb hp => (k.blk b (Nat.lt_of_lt_of_le hb h.size) (fun z => hp (q b hb z))).trans (h.blk b hb hp)⟩
theorem Fx.refl (P : Nat → Prop) (W : World) : Fx P W W := Fx.of (Below.refl _ _)
theorem Fx.mono {P Q : Nat → Prop} {W W2 : World} (h : Fx P W W2) (hp : ∀ b, b < W.heap.size → P b → Q b) : Fx Q W W2 := ⟨h.bel, fun b hb hn => h.blk b hb fun q => hn (hp b hb q)⟩
theorem blk_lt {W : World} {g : Nat} {o : Obj} (h : W.heap[g]? = some o) : g < W.heap.size := (Array.getElem?_eq_some_iff.1 h).1
theorem set_blk {W : World} {g : Nat} {cur : Array Value} {t : TypeId} (h : W.heap[g]? = some (.cells cur t (0, 0))) (j : Nat) (u : Value) : (W.setCell ⟨g, j, none⟩ u).heap[g]? = some (.cells (cur.setIfInBounds j u) t (0, 0)) := by
 obtain ⟨hlt, hk⟩ := Array.getElem?_eq_some_iff.1 h
 show (W.heap.modify g _)[g]? = _
 rw [Array.getElem?_eq_getElem (by rw [Array.size_modify]; exact hlt), Array.getElem_modify_self, hk]
 rfl
theorem set_other (W : World) (g j : Nat) (u : Value) (k : Nat) (hk : k ≠ g) : (W.setCell ⟨g, j, none⟩ u).heap[k]? = W.heap[k]? := Below.heap_setCell W ⟨g, j, none⟩ u k hk
theorem set_size (W : World) (g j : Nat) (u : Value) : (W.setCell ⟨g, j, none⟩ u).heap.size = W.heap.size := by
 show (W.heap.modify g _).size = _
 rw [Array.size_modify]
theorem cell_blk {W : World} {g : Nat} {cur : Array Value} {t : TypeId} (h : W.heap[g]? = some (.cells cur t (0, 0))) (i : Nat) : W.cell? ⟨g, i, none⟩ = cur[i]? ∧ W.frozen? ⟨g, i, none⟩ = false := by
 refine ⟨?_, by simp [World.frozen?, h]⟩
 simp [World.cell?, h]
theorem Fx.set {P : Nat → Prop} {W W2 : World} (h : Fx P W W2) {g : Nat} (hp : P g) (j : Nat) (u : Value) : Fx P W (W2.setCell ⟨g, j, none⟩ u) :=
 ⟨h.bel.setCell (p := ⟨g, j, none⟩) (Nat.zero_le _) u, fun b hb hn => (set_other _ _ _ _ _ (fun e => hn (by rw [e]; exact hp))).trans (h.blk b hb hn)⟩
theorem Dm.fx {P : Nat → Prop} {W W2 : World} {d : Value} {H : Nm → Option Hd} {k : Nat} (h : Dm W d H k) (f : Fx P W W2) (hp : ∀ b, mb d = some b → ¬ P b) : Dm W2 d H k := h.same fun b e => f.blk b (h.lt e) (hp b e)
theorem put_map {W : World} {b k : Nat} {H : Nm → Option Hd} (h : Dm W (.map (some b)) H k) (hk : k < maxLen) {x : Nm} (hx : x.size ≤ maxLen) (f : Hd) :
 ∃ W2, (Instr.mapUpdate 60 (.map (some b)) (.string x) (hv f)).run Tryz.prog W = .ok () W2 ∧ Dm W2 (.map (some b)) (up H x (some f)) (k + 1) ∧ Fx (fun c => c = b) W W2 := by
 rcases h with ⟨e, _⟩ | ⟨b2, D, e, ho, r⟩
 ·cases e
 ·cases e
  obtain ⟨W2, hr, ho2, ht⟩ := ho.store law9 Tryz.underlying60 hk (key9 (x := x) hx) (val := hv f) (d := .held (hv f)) (ps := []) rfl
  have hg := ht.grown
  exact ⟨W2, hr, .inr ⟨b, _, rfl, ho2, r.put ho.isMap hx f⟩, ⟨hg.1, hg.2, hg.3, hg.size, fun _ h => absurd h (Nat.not_lt_zero _)⟩, fun c hc hn => hg.block c hc (by intro q; cases q; exact hn rfl)⟩
def bk (h : Hd) : Option Nat := h.a.map (·.block)
theorem bk_own (h : Hd) : (hv h).ownBlock = bk h := by
 obtain ⟨a, n, c⟩ := h
 cases a <;> rfl
def ints (l : List Nat) : List Value := l.map fun (p : Nat) => Value.int .i64 (p : Int)
theorem ints_len (l : List Nat) : (ints l).length = l.length := by simp [ints]
theorem own_same {W W2 : World} {base e size n : Nat} {v : Value} {xs : List Value} (h : W.ownsRow base e size v n xs) (q : ∀ b, v.ownBlock = some b → W2.heap[b]? = W.heap[b]?) : W2.ownsRow base e size v n xs := by
 refine ⟨h.1, ?_⟩
 rcases h.2 with z | ⟨g, cap, cur, h1, h2, h3, h4⟩
 ·exact .inl z
 ·exact .inr ⟨g, cap, cur, h1, h2, (q g (by rw [h1]; rfl)).trans h3, h4⟩
structure Mi (W : World) (base : Nat) (d : Value) (H : Nm → Option Hd) (F : Nm → List Nat) (k : Nat) : Prop where
 dm : Dm W d H k
 non : ∀ x, H x = none → F x = []
 con : ∀ x h, H x = some h → W.ownsRow base 3 1 (hv h) (F x).length (ints (F x))
 inj : ∀ x y h g b, H x = some h → H y = some g → bk h = some b → bk g = some b → x = y
theorem Mi.own {W : World} {base : Nat} {d : Value} {H : Nm → Option Hd} {F : Nm → List Nat} {k : Nat} (m : Mi W base d H F k) (x : Nm) : W.ownsRow base 3 1 (hv0 (H x)) (F x).length (ints (F x)) := by
 cases h : H x with
 | none => rw [m.non x h]; exact World.ownsRow_nil _ _ _ _
 | some f => exact m.con x f h
theorem Mi.same {W W2 : World} {base : Nat} {d : Value} {H : Nm → Option Hd} {F : Nm → List Nat} {k : Nat} (m : Mi W base d H F k) (q1 : ∀ b, mb d = some b → W2.heap[b]? = W.heap[b]?) (q2 : ∀ x h b, H x = some h → bk h = some b → W2.heap[b]? = W.heap[b]?) : Mi W2 base d H F k :=
 ⟨m.dm.same q1, m.non, fun x h e => own_same (m.con x h e) fun b eb => q2 x h b e (by rw [← bk_own]; exact eb), m.inj⟩
theorem Mi.lt {W : World} {base : Nat} {d : Value} {H : Nm → Option Hd} {F : Nm → List Nat} {k : Nat} (m : Mi W base d H F k) {x : Nm} {h : Hd} {b : Nat} (e : H x = some h) (eb : bk h = some b) : base ≤ b ∧ b < W.heap.size := World.ownsRow.lt (m.con x h e) b (by rw [bk_own]; exact eb)
theorem Mi.later {W W2 : World} {base : Nat} {d : Value} {H : Nm → Option Hd} {F : Nm → List Nat} {k : Nat} (m : Mi W base d H F k) (hb : RowKit.Below W.heap.size W W2) : Mi W2 base d H F k := m.same (fun b e => hb.block b (m.dm.lt e)) fun _ _ b e eb => hb.block b (m.lt e eb).2
theorem Mi.ne {W : World} {base : Nat} {d : Value} {H : Nm → Option Hd} {F : Nm → List Nat} {k : Nat} (m : Mi W base d H F k) {x : Nm} {h : Hd} {b : Nat} (e : H x = some h) (eb : bk h = some b) {d2 : Value} {H2 : Nm → Option Hd} {k2 : Nat} (hd : Dm W d2 H2 k2) : mb d2 ≠ some b := fun q => by
 rcases (m.con x h e).2 with ⟨q1, _⟩ | ⟨g, cap, cur, q1, _, q3, _⟩
 ·have := bk_own h; rw [q1] at this; rw [← this] at eb; cases eb
 ·have e2 : bk h = some g := by rw [← bk_own, q1]; rfl
  rw [eb] at e2
  cases e2
  rcases hd with ⟨rfl, _⟩ | ⟨b2, D, rfl, ho, _⟩
  ·cases q
  ·cases q
   obtain ⟨es, clock, h1, _⟩ := ho
   rw [q3] at h1
   cases h1
def upF (F : Nm → List Nat) (x : Nm) (l : List Nat) : Nm → List Nat := fun y => if y = x then l else F y
theorem upF_same (F : Nm → List Nat) (x : Nm) (l : List Nat) : upF F x l x = l := if_pos rfl
theorem upF_other (F : Nm → List Nat) {x y : Nm} (l : List Nat) (h : y ≠ x) : upF F x l y = F y := if_neg h
theorem infoI : (Tryz.prog.info? 3).map (fun i => (i.zero, i.size, i.bytes)) = some (some (.int .i64 0), 1, 8) := by kernel_rfl
theorem info_parts2 {P : Program} {e : TypeId} {z : Value} {s b : Nat} (h : (P.info? e).map (fun i => (i.zero, i.size, i.bytes)) = some (some z, s, b)) : ∃ i, P.info? e = some i ∧ i.zero = some z ∧ i.size = s ∧ i.bytes = b := by
 obtain ⟨i, h1, h2⟩ := Option.map_eq_some_iff.1 h
 simp only [Prod.mk.injEq] at h2
 exact ⟨i, h1, h2.1, h2.2.1, h2.2.2⟩
theorem slice_hd {W : World} {base e size n : Nat} {v : Value} {xs : List Value} (h : W.ownsRow base e size v n xs) : ∃ f : Hd, v = hv f ∧ f.n = n := by
 rcases h.2 with ⟨h1, h2⟩ | ⟨g, cap, cur, h1, _⟩
 ·exact ⟨⟨none, 0, 0⟩, h1, h2.symm⟩
 ·exact ⟨⟨_, n, cap⟩, h1, rfl⟩
theorem Mi.add {W : World} {base b k : Nat} {H : Nm → Option Hd} {F : Nm → List Nat} (m : Mi W base (.map (some b)) H F k) (hk : k < maxLen) (hbase : base ≤ W.heap.size) {x : Nm} (hx : x.size ≤ maxLen) (p : Nat) (hl : (F x).length ≤ 1099511627776) (ty : TypeId) :
 ∃ h' W2 W3, (Builtin.append_ #[34, 34] ty #[hv0 (H x), .slice (some ⟨W.heap.size, 0, none⟩) 1 1]).run Tryz.prog (W.alloc (.cells #[.int .i64 (p : Int)] 3)) = .ok (hv h') W2 ∧ (Instr.mapUpdate 60 (.map (some b)) (.string x) (hv h')).run Tryz.prog W2 = .ok () W3 ∧
  Mi W3 base (.map (some b)) (up H x (some h')) (upF F x (F x ++ [p])) (k + 1) ∧ (∀ c, c < W.heap.size → c ≠ b → (∀ h, H x = some h → bk h ≠ some c) → W3.heap[c]? = W.heap[c]? ∧ W2.heap[c]? = W.heap[c]?) ∧ W2.heap[b]? = W.heap[b]? ∧ ((∃ h, H x = some h ∧ bk h' = bk h) ∨ ∀ c, bk h' = some c → W.heap.size ≤ c) ∧ RowKit.Below 0 W W3 := by
 obtain ⟨i0, hi, hz0, hz1, hz2⟩ := info_parts2 infoI
 have b1 : RowKit.Below W.heap.size W (W.alloc (.cells #[.int .i64 (p : Int)] 3)) := (Below.refl _ W).alloc (Nat.le_refl _) _
 have m1 := m.later b1
 obtain ⟨v', W2, hr, ho, hg, _, hat⟩ := run_append_own_at (P := Tryz.prog) (W.alloc (.cells #[.int .i64 (p : Int)] 3)) base 34 ty 3 i0 (.int .i64 0) 1 8 Tryz.underlying34 hi hz0 hz1 hz2 rfl (by decide) (hv0 (H x)) (F x).length (ints (F x)) (m1.own x) ⟨W.heap.size, 0, none⟩ 1 1 [.int .i64 (p : Int)] rfl (cell_one_new _ _ _) (by simp [Value.oneCell']) (Nat.le_trans (Nat.add_le_add_right hl 1) (by decide)) (by omega) (by rw [World.size_alloc]; omega)
 obtain ⟨h', rfl, hn'⟩ := slice_hd ho
 have hob : ∀ c, (hv0 (H x)).ownBlock = some c → ∃ h, H x = some h ∧ bk h = some c := fun c e => by
  cases hh : H x with
  | none => rw [hh] at e; cases e
  | some h => rw [hh] at e; exact ⟨h, rfl, by rw [← bk_own]; exact e⟩
 have k2 : ∀ c, c < W.heap.size → (∀ h, H x = some h → bk h ≠ some c) → W2.heap[c]? = W.heap[c]? := fun c hc hn => (hg.block c (by rw [World.size_alloc]; omega) fun e => by
  obtain ⟨h, q1, q2⟩ := hob c e.symm
  exact hn h q1 q2).trans (b1.block c hc)
 have hbl : b < W.heap.size := m.dm.lt rfl
 have hbk2 : W2.heap[b]? = W.heap[b]? := k2 b hbl fun h e eb => m.ne e eb m.dm rfl
 have d2 : Dm W2 (.map (some b)) H k := m.dm.same fun c e => by cases e; exact hbk2
 obtain ⟨W3, hr3, d3, f3⟩ := put_map d2 hk hx h'
 have s2 : W.heap.size ≤ W2.heap.size := by have := hg.size; rw [World.size_alloc] at this; omega
 have ho' : W2.ownsRow base 3 1 (hv h') ((F x).length + 1) (ints (F x ++ [p])) := by
  have : ints (F x ++ [p]) = ints (F x) ++ [.int .i64 (p : Int)] := by simp [ints]
  rw [this]; exact ho
 have hnb : ∀ c, bk h' = some c → c ≠ b := fun c e q => by
  subst q
  rcases ho'.2 with ⟨q1, q2⟩ | ⟨g, cap, cur, q1, _, q3, _⟩
  ·omega
  ·have e2 : bk h' = some g := by rw [← bk_own, q1]; rfl
   rw [e] at e2
   cases e2
   rcases d2 with ⟨q, _⟩ | ⟨b2, D, q, hoo, _⟩
   ·cases q
   ·cases q
    obtain ⟨es, clock, h1, _⟩ := hoo
    rw [q3] at h1
    cases h1
 have hsrc : (∃ h, H x = some h ∧ bk h' = bk h) ∨ ∀ c, bk h' = some c → W.heap.size ≤ c := by
  rcases hat with q | q
  ·rw [bk_own] at q
   cases hh : H x with
   | none => rw [hh] at q; right; intro c e; rw [e] at q; cases q
   | some h => rw [hh] at q; left; exact ⟨h, rfl, by rw [q]; exact bk_own h⟩
  ·right
   intro c e
   rw [bk_own, e] at q
   injection q with q
   rw [World.size_alloc] at q
   omega
 refine ⟨h', W2, W3, hr, hr3, ⟨d3, fun y e => ?_, fun y h e => ?_, fun y z h g c e1 e2 c1 c2 => ?_⟩, fun c hc hcb hn => ⟨(f3.blk c (by omega) hcb).trans (k2 c hc hn), k2 c hc hn⟩, hbk2, hsrc, ?_⟩
 ·by_cases q : y = x
  ·subst q; rw [up_same] at e; cases e
  ·rw [up_other _ _ q] at e; rw [upF_other _ _ q]; exact m.non y e
 ·by_cases q : y = x
  ·subst q
   rw [up_same] at e
   cases e
   rw [upF_same, List.length_append]
   exact own_same ho' fun c ec => f3.blk c (World.ownsRow.lt ho' c ec).2 (hnb c (by rw [← bk_own]; exact ec))
  ·rw [up_other _ _ q] at e
   rw [upF_other _ _ q]
   refine own_same (m.con y h e) fun c ec => ?_
   have ec' : bk h = some c := by rw [← bk_own]; exact ec
   have hc := (m.lt e ec').2
   exact (f3.blk c (by omega) (fun z => m.ne e ec' m.dm (by rw [z]; rfl))).trans (k2 c hc fun g e3 e4 => q (m.inj y x h g c e e3 ec' e4))
 ·by_cases qy : y = x
  ·by_cases qz : z = x
   ·rw [qy, qz]
   ·exfalso
    subst qy
    rw [up_same] at e1
    rw [up_other _ _ qz] at e2
    cases e1
    rcases hsrc with ⟨h0, q1, q2⟩ | q
    ·exact qz (m.inj z y g h0 c e2 q1 c2 (by rw [← q2]; exact c1))
    ·have := (m.lt e2 c2).2
     have := q c c1
     omega
  ·by_cases qz : z = x
   ·exfalso
    subst qz
    rw [up_same] at e2
    rw [up_other _ _ qy] at e1
    cases e2
    rcases hsrc with ⟨h0, q1, q2⟩ | q
    ·exact qy (m.inj y z h h0 c e1 q1 c1 (by rw [← q2]; exact c2))
    ·have := (m.lt e1 c1).2
     have := q c c2
     omega
   ·rw [up_other _ _ qy] at e1
    rw [up_other _ _ qz] at e2
    exact m.inj y z h g c e1 e2 c1 c2
 ·have b2 : RowKit.Below 0 W W2 := (b1.mono (Nat.zero_le _)).grown hg (Nat.zero_le _) (fun _ _ => Nat.zero_le _)
  exact b2.trans f3.bel
end
section
open Go.RowKit
def ci (x y : Int) : Int := if x < y then -1 else if y < x then 1 else 0
def cs (a b : ByteArray) : Int := if Op.bytesLess a.toList b.toList = true then -1 else if (a.toList == b.toList) = true then 0 else 1
theorem ret_int64 {a b : Int} (h : a = b) : Ending.returned (.int .i64 a) = .returned (.int .i64 b) := by rw [h]
theorem ret_str' {a b : ByteArray} (h : a = b) : Ending.returned (.string a) = .returned (.string b) := by rw [h]
set_option maxHeartbeats 400000 in
theorem cmpInt_any (x y : Int) (w : World) :
 Calls Tryz.prog 156 #[.int .i64 x, .int .i64 y] w fun e w' => e = .returned (.int .i64 (ci x y)) ∧ w' = w := by
 go_enter Tryz.func156, Tryz.ntmps156
 go_wp2
 all_goals go_ret
 all_goals exact ⟨ret_int64 (by unfold ci; first | rw [if_pos (by assumption)] | rw [if_neg (by omega), if_pos (by assumption)] | rw [if_neg (by omega), if_neg (by omega)]), rfl⟩
set_option maxHeartbeats 400000 in
theorem cmpStr_any (x y : ByteArray) (w : World) :
 Calls Tryz.prog 75 #[.string x, .string y] w fun e w' => e = .returned (.int .i64 (cs x y)) ∧ w' = w := by
 cases h1 : Op.bytesLess x.toList y.toList <;> cases h2 : (x.toList == y.toList)
 all_goals
  go_enter Tryz.func75, Tryz.ntmps75
  go_wp2
  go_ret
  exact ⟨ret_int64 (by simp only [cs, h1, h2]; rfl), rfl⟩
def trim (s : ByteArray) : List UInt8 := s.data.toList.dropWhile (fun c => c == 48)
def stripB (s : ByteArray) : ByteArray := ⟨(trim s).toArray⟩
theorem eq_stripB {t s : ByteArray} (h : t.data.toList = trim s) : t = stripB s := by
 unfold stripB; rw [← h]
theorem trim_tail (t : ByteArray) (h : 0 < t.size) (h0 : ((t[0].toNat : Int) == 48) = true) : trim (t.extract 1 t.size) = trim t := by
 unfold trim
 have hl : t.data.toList = t[0] :: t.data.toList.drop 1 := by
  have h' : 0 < t.data.toList.length := by simpa using h
  have h2 := List.drop_eq_getElem_cons h'
  rw [List.drop_zero] at h2
  exact h2
 have h48 : (t[0] == 48) = true := by
  have : t[0].toNat = 48 := by have := beq_iff_eq.1 h0; omega
  rw [beq_iff_eq]
  exact UInt8.toNat_inj.1 this
 have he : (t.extract 1 t.size).data.toList = t.data.toList.drop 1 := by
  rw [ByteArray.data_extract, Array.toList_extract]
  show List.take _ _ = _
  rw [List.take_of_length_le]
  simp
 rw [he]
 conv => rhs; rw [hl]
 rw [List.dropWhile_cons, if_pos h48]
theorem trim_stop (t : ByteArray) (h : ¬ (0 < t.size ∧ ∀ h : 0 < t.size, ((t[0].toNat : Int) == 48) = true)) : t.data.toList = trim t := by
 unfold trim
 by_cases hs : 0 < t.size
 ·have hb : ((t[0].toNat : Int) == 48) = false := by
   cases hb : ((t[0].toNat : Int) == 48)
   ·rfl
   ·exact absurd ⟨hs, fun _ => hb⟩ h
  have hl : t.data.toList = t[0] :: t.data.toList.drop 1 := by
   have h' : 0 < t.data.toList.length := by simpa using hs
   have h2 := List.drop_eq_getElem_cons h'
   rw [List.drop_zero] at h2
   exact h2
  have h48 : ¬ (t[0] == 48) = true := by
   intro e
   rw [beq_iff_eq] at e
   rw [e] at hb
   exact absurd hb (by decide)
  conv => rhs; rw [hl]
  rw [List.dropWhile_cons, if_neg h48]
  exact hl
 ·have : t.data.toList = [] := by
   apply List.eq_nil_of_length_eq_zero
   have : t.data.toList.length = t.size := by simp
   omega
  rw [this]; rfl
set_option maxHeartbeats 1000000 in
theorem trimLeftByte_any (s : ByteArray) (hs : s.size ≤ maxLen) (w : World) :
 Calls Tryz.prog 163 #[.string s, .int .u8 48] w fun e w' => e = .returned (.string (stripB s)) ∧ w' = w := by
 unfold maxLen at hs
 go_enter Tryz.func163, Tryz.ntmps163
 go_wp2
 go_loop [0] (fun v => ∃ t : ByteArray, v = .string t ∧ t.size ≤ s.size ∧ Hid (trim t = trim s)) (fun v => Lib.strSize v)
 case atStart => exact ⟨s, rfl, Nat.le_refl _, rfl⟩
 case round =>
  obtain ⟨t, rfl, hts, ht⟩ := hrel
  by_cases h0 : 0 < t.size
  ·cases hb : ((t[0].toNat : Int) == 48)
   ·have HT := hide (trim_stop t (fun ⟨_, h⟩ => by rw [h h0] at hb; cases hb))
    go_wp2
    go_ret
    exact ⟨ret_str' (eq_stripB ((unhide HT).trans (unhide ht))), rfl⟩
   ·have HT := hide (trim_tail t h0 hb)
    have hz := hide (size_le_of_extract t 1 t.size)
    have hz2 : Hid ((t.extract 1 t.size).size < t.size) := hide (by rw [ByteArray.size_extract]; omega)
    go_wp2
    go_round
    case rel => exact ⟨_, rfl, Nat.le_trans (unhide hz) hts, hide ((unhide HT).trans (unhide ht))⟩
    case measure => exact unhide hz2
  ·have HT := hide (trim_stop t (fun ⟨h, _⟩ => h0 h))
   go_wp2
   go_ret
   exact ⟨ret_str' (eq_stripB ((unhide HT).trans (unhide ht))), rfl⟩
theorem stripB_empty (s : ByteArray) (h : s.toList.isEmpty = true) : stripB s = s := by
 have h' : s.data.toList = [] := by rw [← Lib.toList_data]; simpa using h
 refine (eq_stripB ?_).symm
 unfold trim
 rw [h']; rfl
set_option maxHeartbeats 1000000 in
set_option maxRecDepth 100000 in
theorem trimLeft_any (s : ByteArray) (hs : s.size ≤ maxLen) (w : World) :
 Calls Tryz.prog 155 #[.string s, .string ⟨#[48]⟩] w fun e w' => e = .returned (.string (stripB s)) ∧ w' = w := by
 cases h : s.toList.isEmpty
 ·go_enter Tryz.func155, Tryz.ntmps155
  go_wp2_with (go_at_call 163; refine (trimLeftByte_any s hs _).mono ?_; rintro e w' ⟨rfl, rfl⟩)
  go_ret
  exact ⟨rfl, rfl⟩
 ·have HE := hide (stripB_empty s h)
  go_enter Tryz.func155, Tryz.ntmps155
  go_wp2
  go_ret
  exact ⟨ret_str' (unhide HE).symm, rfl⟩
def ordNum (a b : ByteArray) : Int := if ci (stripB a).size (stripB b).size = 0 then cs (stripB a) (stripB b) else ci (stripB a).size (stripB b).size
set_option maxHeartbeats 1000000 in
theorem orderNumbers_any (a b : ByteArray) (ha : a.size ≤ maxLen) (hb : b.size ≤ maxLen) (w : World) :
 Calls Tryz.prog 138 #[.string a, .string b] w fun e w' => e = .returned (.int .i64 (ordNum a b)) ∧ w' = w := by
 have c1 := hide (fun w => trimLeft_any a ha w)
 have c2 := hide (fun w => trimLeft_any b hb w)
 have HF := hide (show ordNum a b = if ci (stripB a).size (stripB b).size = 0 then cs (stripB a) (stripB b) else ci (stripB a).size (stripB b).size from rfl)
 generalize stripB a = x at *
 generalize stripB b = y at *
 by_cases h : ci x.size y.size = 0
 ·have h1 : (ci x.size y.size != 0) = false := by simp [h]
  go_enter Tryz.func138, Tryz.ntmps138
  go_wp2_with fail
  refine (unhide c1 _).mono ?_
  rintro e w' ⟨rfl, rfl⟩
  go_wp2_with fail
  refine (unhide c2 _).mono ?_
  rintro e w' ⟨rfl, rfl⟩
  go_wp2_with (first | (go_at_call 156; refine (cmpInt_any _ _ _).mono ?_; rintro e w' ⟨rfl, rfl⟩) | (go_at_call 75; refine (cmpStr_any _ _ _).mono ?_; rintro e w' ⟨rfl, rfl⟩))
  go_ret
  exact ⟨ret_int64 (by rw [unhide HF, if_pos h]), rfl⟩
 ·have h1 : (ci x.size y.size != 0) = true := by simpa using h
  go_enter Tryz.func138, Tryz.ntmps138
  go_wp2_with fail
  refine (unhide c1 _).mono ?_
  rintro e w' ⟨rfl, rfl⟩
  go_wp2_with fail
  refine (unhide c2 _).mono ?_
  rintro e w' ⟨rfl, rfl⟩
  go_wp2_with (first | (go_at_call 156; refine (cmpInt_any _ _ _).mono ?_; rintro e w' ⟨rfl, rfl⟩) | (go_at_call 75; refine (cmpStr_any _ _ _).mono ?_; rintro e w' ⟨rfl, rfl⟩))
  go_ret
  exact ⟨ret_int64 (by rw [unhide HF, if_neg h]), rfl⟩
end
end Go.Proofs.YtdkpglmdncjnbaaGreatDoor
