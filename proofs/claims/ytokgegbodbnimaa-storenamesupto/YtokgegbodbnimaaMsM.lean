import Derived.Test.YtokgegbodbnimaaMsL
namespace Go.Proofs.Ytokgegbodbnimaa
open Go.RowKit Go.Maps

def okB (x : Nm) (i : Nat) : Prop := ∀ h : i < x.size, 33 ≤ (x[i].toNat : Int) ∧ (x[i].toNat : Int) ≤ 126
noncomputable def isNm (x : Nm) : Bool := @decide (1 ≤ x.size ∧ x.size ≤ 258 ∧ ∀ i, i < x.size → okB x i) (Classical.propDecidable _)
theorem isNm_yes {x : Nm} (h : isNm x = true) : 1 ≤ x.size ∧ x.size ≤ 258 ∧ ∀ i, i < x.size → okB x i := @of_decide_eq_true _ (Classical.propDecidable _) h
theorem isNm_mk {x : Nm} (h : 1 ≤ x.size ∧ x.size ≤ 258 ∧ ∀ i, i < x.size → okB x i) : isNm x = true := @decide_eq_true _ (Classical.propDecidable _) h
theorem isNm_no {x : Nm} (h : ¬ (1 ≤ x.size ∧ x.size ≤ 258 ∧ ∀ i, i < x.size → okB x i)) : isNm x = false := @decide_eq_false _ (Classical.propDecidable _) h
set_option maxRecDepth 100000 in
set_option maxHeartbeats 4000000 in
theorem isName_any (x : Nm) (_hs : x.size ≤ maxLen) (W : World) : Calls Try.prog 50 #[.string x] W fun v W' => v = .returned (.bool (isNm x)) ∧ W' = W := by
  by_cases h1 : x.size < 1
  · rw [isNm_no (fun q => by omega)]
    have h1' : (x.size : Int) < 1 := by omega
    go_enter Try.func50, Try.ntmps50
    go_wp2_with fail
    go_ret
    exact ⟨rfl, rfl⟩
  · have h1' : ¬ ((x.size : Int) < 1) := by omega
    by_cases h2 : x.size > 258
    · rw [isNm_no (fun q => by omega)]
      have h2' : (258 : Int) < (x.size : Int) := by omega
      go_enter Try.func50, Try.ntmps50
      go_wp2_with fail
      go_ret
      exact ⟨rfl, rfl⟩
    · have h2' : ¬ ((258 : Int) < (x.size : Int)) := by omega
      have HX := hide (show isNm x = isNm x from rfl)
      go_enter Try.func50, Try.ntmps50
      go_wp2_with fail
      go_loopg [3, 14] x.size (fun g1 _ vi wr => ∃ i : Nat, vi = .int .i64 i ∧ i ≤ x.size ∧ x.size - i ≤ g1 ∧ wr = W ∧ Hid (∀ j, j < i → okB x j))
      case atStart => exact ⟨0, by go_num, by omega, by omega, rfl, hide fun j hj => absurd hj (Nat.not_lt_zero _)⟩
      case round =>
        obtain ⟨i, rfl, hi, hg, rfl, HO⟩ := hrel
        by_cases hlt : i < x.size
        · have hlt2 : (i : Int) < (x.size : Int) := by omega
          by_cases h33 : (x[i].toNat : Int) < 33
          · have HF := hide (show isNm x = false from isNm_no fun q => by have := (q.2.2 i hlt hlt).1; omega)
            go_wp2_with fail
            go_ret
            exact ⟨by rw [unhide HF]; rfl, rfl⟩
          · by_cases h126 : (126 : Int) < (x[i].toNat : Int)
            · have HF := hide (show isNm x = false from isNm_no fun q => by have := (q.2.2 i hlt hlt).2; omega)
              go_wp2_with fail
              go_ret
              exact ⟨by rw [unhide HF]; rfl, rfl⟩
            · have HN := hide (show ∀ j, j < i + 1 → okB x j from fun j hj => by
                by_cases e : j = i
                · subst e; exact fun _ => ⟨by omega, by omega⟩
                · exact unhide HO j (by omega))
              go_wp2_with fail
              go_roundg (x.size - (i + 1))
              case measure => omega
              case rel => exact ⟨i + 1, by go_num, by omega, by omega, rfl, HN⟩
        · obtain rfl : i = x.size := by omega
          have HF := hide (show isNm x = true from isNm_mk ⟨by omega, by omega, unhide HO⟩)
          clear HO
          go_wp2_with fail
          go_ret
          exact ⟨by rw [unhide HF]; rfl, rfl⟩
set_option maxRecDepth 100000 in
theorem ready_any {B : Nat} {W : World} (h : W.cell? ⟨B, 8, none⟩ = some (.bool false)) : Calls Try.prog 42 #[.pointer (some ⟨B, 0, none⟩)] W fun v W' => v = .returned (.int .i64 0) ∧ W' = W := by
  go_enter Try.func42, Try.ntmps42
  go_wp2_with fail
  go_ret
  exact ⟨rfl, rfl⟩
/-- WHAT A FILE THAT HAS TO BE THERE IS. -/
noncomputable def fnd (H : Nm → Option Hd) (x : Nm) : Value × Int := if isNm x then (match H x with | some f => (hv f, 0) | none => (.slice none 0 0, 141)) else (.slice none 0 0, 140)
set_option maxRecDepth 100000 in
set_option maxHeartbeats 4000000 in
theorem find_any {B k : Nat} {W : World} {cur : Array Value} {d : Value} {H : Nm → Option Hd} (hB : W.heap[B]? = some (.cells cur 75 (0, 0))) (h8 : cur[8]? = some (.bool false)) (hd : cur[0]? = some d) (h : Dm W d H k) (x : Nm) (hx : x.size ≤ maxLen) :
    Calls Try.prog 38 #[.pointer (some ⟨B, 0, none⟩), .string x] W fun v W' => v = .returned (.tuple #[(fnd H x).1, .int .i64 (fnd H x).2]) ∧ W' = W := by
  have cR := ready_any ((cell_blk hB 8).1.trans h8)
  have cN := isName_any x hx W
  have cd := (cell_blk hB 0).1.trans hd
  have lk := look2 h hx
  clear hB h8 hd h
  cases hn : isNm x with
  | false =>
    rw [hn] at cN
    have e : fnd H x = (.slice none 0 0, 140) := by unfold fnd; rw [hn]; rfl
    rw [e]
    go_enter Try.func38, Try.ntmps38
    go_wp2_with (first | (go_at_call 42; refine cR.mono ?_; rintro x1 w1 ⟨rfl, rfl⟩) | (go_at_call 50; refine cN.mono ?_; rintro x1 w1 ⟨rfl, rfl⟩))
    go_ret2
    exact ⟨rfl, rfl⟩
  | true =>
    rw [hn] at cN
    cases hH : H x with
    | none =>
      have e : fnd H x = (.slice none 0 0, 141) := by unfold fnd; rw [hn, hH]; rfl
      rw [e]
      simp only [hH, hv0, Option.isSome_none] at lk
      go_enter Try.func38, Try.ntmps38
      go_wp2_with (first | (go_at_call 42; refine cR.mono ?_; rintro x1 w1 ⟨rfl, rfl⟩) | (go_at_call 50; refine cN.mono ?_; rintro x1 w1 ⟨rfl, rfl⟩))
      go_ret2
      exact ⟨rfl, rfl⟩
    | some f =>
      have e : fnd H x = (.slice f.a f.n f.c, 0) := by unfold fnd; rw [hn, hH]; rfl
      rw [e]
      simp only [hH, hv0, hv, Option.isSome_some] at lk
      go_enter Try.func38, Try.ntmps38
      go_wp2_with (first | (go_at_call 42; refine cR.mono ?_; rintro x1 w1 ⟨rfl, rfl⟩) | (go_at_call 50; refine cN.mono ?_; rintro x1 w1 ⟨rfl, rfl⟩))
      go_ret2
      exact ⟨rfl, rfl⟩
/-- IS THERE NO ROOM? -/
def lks (u cap more : Int) : Bool := decide (0 < more) && decide (cap < wrap64 (u + more))
set_option maxRecDepth 100000 in
set_option maxHeartbeats 4000000 in
theorem lacks_any {B : Nat} {W : World} {u cap : Int} (h1 : W.cell? ⟨B, 1, none⟩ = some (.int .i64 u)) (h5 : W.cell? ⟨B, 5, none⟩ = some (.int .i64 cap)) (more : Int) :
    Calls Try.prog 39 #[.pointer (some ⟨B, 0, none⟩), .int .i64 more] W fun v W' => v = .returned (.bool (lks u cap more)) ∧ ∃ t, W' = W.drewN t := by
  by_cases hm : 0 < more
  · have e : lks u cap more = decide (cap < wrap64 (u + more)) := by unfold lks; rw [decide_eq_true hm]; rfl
    rw [e]
    go_enter Try.func39, Try.ntmps39
    go_upto_region 1 with fail
    go_quiet (fail)
    go_wp2_with fail
    go_ret
    exact ⟨rfl, _, rfl⟩
  · have e : lks u cap more = false := by unfold lks; rw [decide_eq_false hm]; rfl
    rw [e]
    go_enter Try.func39, Try.ntmps39
    go_upto_region 1 with fail
    go_quiet (fail)
    go_wp2_with fail
    go_ret
    exact ⟨rfl, _, rfl⟩
set_option maxRecDepth 100000 in
set_option maxHeartbeats 4000000 in
theorem lasts_any {B : Nat} {W : World} {calls : Int} (h6 : W.cell? ⟨B, 6, none⟩ = some (.int .i64 calls)) (h7 : W.cell? ⟨B, 7, none⟩ = some (.bool false)) (f6 : W.frozen? ⟨B, 6, none⟩ = false) :
    Calls Try.prog 43 #[.pointer (some ⟨B, 0, none⟩)] W fun v W' => v = .returned (.bool true) ∧ ∃ c, W' = W.setCell ⟨B, 6, none⟩ (.int .i64 c) := by
  go_enter Try.func43, Try.ntmps43
  go_wp2_with fail
  go_ret
  exact ⟨rfl, _, rfl⟩
end Go.Proofs.Ytokgegbodbnimaa
