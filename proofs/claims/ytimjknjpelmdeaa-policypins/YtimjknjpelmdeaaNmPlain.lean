import Derived.Test.YtimjknjpelmdeaaParse
namespace Go.Proofs.Ytimjknjpelmdeaa
open Go.RowKit

def isN0 (n : Int) : Bool := (decide (97 ≤ n) && decide (n ≤ 122)) || (decide (48 ≤ n) && decide (n ≤ 57))
def isNF (n : Int) : Bool := isN0 n || (n == 43) || (n == 45) || (n == 46)
/-- MAY A TEXT BE A NAME? -/
def okName (s : ByteArray) : Bool := decide (2 ≤ s.size) && decide (s.size ≤ 128) && isN0 (b0 s) && allB isNF s
def ckName (s : ByteArray) : Int := if okName s = true then 0 else 20
/-- .. AN ATOM? -/
def ckAtom (n : ByteArray) (op : Int) (v : ByteArray) : Int :=
  if okName n = false then 20 else if (decide (op < 0) || decide (5 < op)) = true then 21 else if ((op == 0 && !v.toList.isEmpty) || (!(op == 0) && !((parse v).2 == 0))) = true then 22 else 0

set_option maxHeartbeats 400000 in
theorem mayBegin_any (b : Int) (w : World) :
    Calls Try.prog 14 #[.int .u8 b] w fun e w' => e = .returned (.bool (isN0 b)) ∧ w' = w := by
  go_enter Try.func14, Try.ntmps14
  go_wp2
  all_goals go_ret
  all_goals exact ⟨ret_bool (by simp [isN0, *] <;> omega), rfl⟩

set_option maxHeartbeats 400000 in
theorem mayFollow_any (b : Int) (w : World) :
    Calls Try.prog 15 #[.int .u8 b] w fun e w' => e = .returned (.bool (isNF b)) ∧ w' = w := by
  cases h1 : isN0 b <;> cases h2 : (b == 43) <;> cases h3 : (b == 45) <;> cases h4 : (b == 46)
  all_goals
    go_enter Try.func15, Try.ntmps15
    go_wp2_with (go_at_call 14; refine (mayBegin_any _ _).mono ?_; rintro e w' ⟨rfl, rfl⟩)
    go_ret
    exact ⟨ret_bool (by simp [isNF, h1, h2, h3, h4]), rfl⟩

end Go.Proofs.Ytimjknjpelmdeaa
