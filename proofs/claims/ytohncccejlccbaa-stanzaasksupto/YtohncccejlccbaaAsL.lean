import Derived.Test.YtohncccejlccbaaAsC
import Derived.Test.YtohncccejlccbaaAsW
import Derived.Test.YtohncccejlccbaaShelfU
import Derived.Test.YtohncccejlccbaaLaX
import Derived.Deep.RegionWith
namespace Go.Proofs.Ytohncccejlccbaa
open Go.RowKit Go.Shelf

def lineZ (ns : List Int) (k : Int) : Int := if 0 ≤ k ∧ k < ns.length then ns.getD k.toNat 0 else 0
theorem blk3 (w : World) (a b c : Value) (t : TypeId) : ∃ W, w.alloc (.cells #[a, b, c] t) = W ∧ W.cell? ⟨w.heap.size, 0, none⟩ = some a ∧ W.cell? ⟨w.heap.size, 1, none⟩ = some b ∧ W.cell? ⟨w.heap.size, 2, none⟩ = some c ∧ Below w.heap.size w W := by
  refine ⟨_, rfl, ?_, ?_, ?_, (Below.refl w.heap.size w).alloc (Nat.le_refl _) _⟩
  all_goals go_simp

theorem ret_i {a b : Int} (h : a = b) : Ending.returned (.int .i64 a) = .returned (.int .i64 b) := by rw [h]

set_option maxHeartbeats 2000000 in
theorem Line_any (nm : ByteArray) (lv : Value) (ns : List Int) (na : Option Addr) (nc : Nat) (k : Int) (w : World) (hl : ns.length ≤ 16777216) (hC : Cl w na (intz ns)) :
    Calls Try.prog 14 #[.agg #[.string nm, lv, .slice na ns.length nc], .int .i64 k] w fun e w' => e = .returned (.int .i64 (lineZ ns k)) ∧ Below w.heap.size w w' := by
  have HC := hide hC
  clear hC
  obtain ⟨R, hR⟩ : ∃ R, lineZ ns k = R := ⟨_, rfl⟩
  rw [hR]
  have HR := hide hR
  clear hR
  have HB := hide ((Below.refl w.heap.size w).alloc (Nat.le_refl _) (.cells #[.string nm, lv, .slice na ns.length nc] 30))
  by_cases h0 : k < 0
  · go_enter Try.func14, Try.ntmps14
    go_wp2
    go_ret
    exact ⟨ret_i (by rw [← unhide HR, lineZ, if_neg (by omega)]), unhide HB⟩
  · by_cases h1 : (ns.length : Int) ≤ k
    · go_enter Try.func14, Try.ntmps14
      go_wp2
      go_ret
      exact ⟨ret_i (by rw [← unhide HR, lineZ, if_neg (by omega)]), unhide HB⟩
    · obtain ⟨j, rfl⟩ : ∃ j : Nat, k = j := ⟨k.toNat, by omega⟩
      have hj : j < ns.length := by omega
      obtain ⟨b, o, rfl, hc⟩ := unhide HC (by simp [intz]; omega)
      have c0 := hc j (.int .i64 ns[j]) (by simp [intz, hj])
      have c1 := cell_later c0 (unhide HB)
      have hjz : (j : Int) < (ns.length : Int) := by omega
      have HR2 := hide (show R = ns[j] by rw [← unhide HR, lineZ, if_pos (by omega)]; simp [hj])
      generalize ns[j] = nj at *
      clear HC hc c0
      go_enter Try.func14, Try.ntmps14
      go_wp2
      go_ret
      exact ⟨ret_i (unhide HR2).symm, unhide HB⟩

set_option maxHeartbeats 2000000 in
theorem rLine_any (nm : ByteArray) (lv : Value) (ns : List Int) (na : Option Addr) (nc : Nat) (k : Int) (w : World) (hl : ns.length ≤ 16777216) (hC : Cl w na (intz ns)) :
    Calls Try.prog 15 #[.agg #[.string nm, lv, .slice na ns.length nc], .int .i64 k] w fun e w' => e = .returned (.int .i64 (lineZ ns k)) ∧ Below w.heap.size w w' := by
  have HC := hide hC
  clear hC
  obtain ⟨R, hR⟩ : ∃ R, lineZ ns k = R := ⟨_, rfl⟩
  rw [hR]
  have HR := hide hR
  clear hR
  have HB := hide ((Below.refl w.heap.size w).alloc (Nat.le_refl _) (.cells #[.string nm, lv, .slice na ns.length nc] 30))
  by_cases h0 : k < 0
  · go_enter Try.func15, Try.ntmps15
    go_wp2
    go_ret
    exact ⟨ret_i (by rw [← unhide HR, lineZ, if_neg (by omega)]), unhide HB⟩
  · by_cases h1 : (ns.length : Int) ≤ k
    · go_enter Try.func15, Try.ntmps15
      go_wp2
      go_ret
      exact ⟨ret_i (by rw [← unhide HR, lineZ, if_neg (by omega)]), unhide HB⟩
    · obtain ⟨j, rfl⟩ : ∃ j : Nat, k = j := ⟨k.toNat, by omega⟩
      have hj : j < ns.length := by omega
      obtain ⟨b, o, rfl, hc⟩ := unhide HC (by simp [intz]; omega)
      have c0 := hc j (.int .i64 ns[j]) (by simp [intz, hj])
      have c1 := cell_later c0 (unhide HB)
      have hjz : (j : Int) < (ns.length : Int) := by omega
      have HR2 := hide (show R = ns[j] by rw [← unhide HR, lineZ, if_pos (by omega)]; simp [hj])
      generalize ns[j] = nj at *
      clear HC hc c0
      go_enter Try.func15, Try.ntmps15
      go_wp2
      go_ret
      exact ⟨ret_i (unhide HR2).symm, unhide HB⟩

theorem jn_take (ls : List Bs) (k : Nat) (hk : k < ls.length) : Lib.join (ls.take (k + 1)) [10] = (if k = 0 then [] else Lib.join (ls.take k) [10] ++ [10]) ++ ls[k] := by
  cases ls with
  | nil => simp at hk
  | cons x r =>
    cases k with
    | zero => simp [Lib.join_one]
    | succ k =>
      rw [if_neg (by omega), List.take_succ_cons, List.take_succ_cons, Lib.join_cons, Lib.join_cons, Lib.joinTail_take_succ [10] r k (r[k]'(by simpa using hk)) (List.getElem?_eq_getElem _)]
      simp
theorem jn_le (ls : List Bs) (k : Nat) : (Lib.join (ls.take k) [10]).length ≤ (Lib.join ls [10]).length := by
  cases ls with
  | nil => simp
  | cons x r =>
    cases k with
    | zero => simp [Lib.join_nil]
    | succ k =>
      rw [List.take_succ_cons, Lib.join_cons, Lib.join_cons]
      have e : Lib.joinTail [10] r = Lib.joinTail [10] (r.take k) ++ Lib.joinTail [10] (r.drop k) := by
        unfold Lib.joinTail
        rw [← List.flatten_append, ← List.map_append, List.take_append_drop]
      rw [e]
      simp only [List.length_append]
      omega
theorem ba_cat (a b : Bs) : ba a ++ ba b = ba (a ++ b) := by
  apply ByteArray.ext
  simp [ba, ByteArray.data_append]

set_option maxHeartbeats 2000000 in
theorem Joined_any (nm : ByteArray) (av : Value) (ls : List Bs) (la : Option Addr) (lc : Nat) (w : World) (hl : ls.length ≤ 16777216) (hcap : ls.length ≤ lc) (hsz : (Lib.join ls [10]).length ≤ 268435456) (hC : Cl w la (strs ls)) :
    Calls Try.prog 11 #[.agg #[.string nm, .slice la ls.length lc, av]] w fun e w' => e = .returned (.string (ba (Lib.join ls [10]))) ∧ Below w.heap.size w w' := by
  have bx := (Below.refl w.heap.size w).alloc (Nat.le_refl _) (.cells #[.string nm, .slice la ls.length lc, av] 30)
  have cJ : Calls Try.prog 29 #[.slice la ls.length lc, .string ⟨#[10]⟩] (w.alloc (.cells #[.string nm, .slice la ls.length lc, av] 30)) fun e w' => e = .returned (.string (ba (Lib.join ls [10]))) ∧ Below (w.alloc (.cells #[.string nm, .slice la ls.length lc, av] 30)).heap.size (w.alloc (.cells #[.string nm, .slice la ls.length lc, av] 30)) w' := by
    cases ls with
    | nil =>
      refine (Try.strings_Join_none la lc ⟨#[10]⟩ _).mono ?_
      rintro e w' ⟨rfl, rfl⟩
      exact ⟨rfl, Below.refl _ _⟩
    | cons a r =>
      obtain ⟨b, o, rfl, hc⟩ := (hC.later bx) (by simp [strs])
      have e1 : ((a :: r).map ba).map (fun x => x.data.toList) = a :: r := by
        rw [List.map_map]
        exact (List.map_congr_left (g := id) fun x _ => rfl).trans (List.map_id _)
      have h := Try.strings_Join b o lc ((a :: r).map ba) ⟨#[10]⟩ (w.alloc (.cells #[.string nm, .slice (some ⟨b, o, none⟩) (a :: r).length lc, av] 30)) (fun j x hx => hc j (.string x) (by
          rw [List.getElem?_map] at hx
          unfold strs
          rw [List.getElem?_map]
          cases hq : (a :: r)[j]? with
          | none => rw [hq] at hx; cases hx
          | some y => rw [hq] at hx; cases hx; rfl)) (World.block_lt_of_cell? _ _ (hc 0 _ rfl)) (by simp; simp at hl; omega) (by simpa using hcap) (by rw [e1]; show (Lib.join (a :: r) [10]).length ≤ _; omega)
      rw [e1, List.length_map] at h
      exact h
  have HJ := hide cJ
  have BX := hide bx
  clear cJ bx hC hl hsz hcap
  go_enter Try.func11, Try.ntmps11
  go_wp2_with (go_at_call 29; refine (unhide HJ).mono ?_; rintro e w1 ⟨rfl, hb⟩; have HB1 := hide (bl_t (unhide BX) hb); clear hb)
  go_ret
  exact ⟨rfl, unhide HB1⟩

set_option maxHeartbeats 2000000 in
theorem rJoined_any (nm : ByteArray) (av : Value) (ls : List Bs) (la : Option Addr) (lc : Nat) (w : World) (hl : ls.length ≤ 16777216) (hsz : (Lib.join ls [10]).length ≤ 268435456) (hC : Cl w la (strs ls)) :
    Calls Try.prog 12 #[.agg #[.string nm, .slice la ls.length lc, av]] w fun e w' => e = .returned (.string (ba (Lib.join ls [10]))) ∧ Below w.heap.size w w' := by
  have bx := (Below.refl w.heap.size w).alloc (Nat.le_refl _) (.cells #[.string nm, .slice la ls.length lc, av] 30)
  have HC := hide (hC.later bx)
  have BX := hide bx
  have HLE := hide (fun (j : Nat) => Nat.le_trans (jn_le ls j) hsz)
  clear hC hsz bx
  go_enter Try.func12, Try.ntmps12
  go_wp2_with fail
  go_loop [3, 4] (fun sv i => ∃ j : Nat, j ≤ ls.length ∧ i = .int .i64 j ∧ sv = .string (ba (Lib.join (ls.take j) [10]))) (fun _ i => ls.length - (intOf i).toNat)
  case atStart => exact ⟨0, Nat.zero_le _, rfl, rfl⟩
  case round =>
    obtain ⟨j, hj, rfl, rfl⟩ := hrel
    by_cases hlt : j < ls.length
    · obtain ⟨b, o, rfl, hc⟩ := unhide HC (by simp [strs]; omega)
      have cj := hc j (.string (ba ls[j])) (by simp [strs, hlt])
      have hjt := jn_take ls j hlt
      have z1 : (ba (Lib.join (ls.take j) [10])).size ≤ 268435456 := by rw [ba_size]; exact unhide HLE j
      have z2 : (ba ls[j]).size ≤ 268435456 := by
        rw [ba_size]
        have := unhide HLE (j + 1)
        rw [hjt, List.length_append] at this
        omega
      by_cases h0 : j = 0
      · subst h0
        have HJT := hide (show (⟨#[]⟩ : ByteArray) ++ ba ls[0] = ba (Lib.join (ls.take (0 + 1)) [10]) by rw [hjt, if_pos rfl, show (⟨#[]⟩ : ByteArray) = ba [] from rfl, ba_cat])
        have HJ2 := hide (show ba ls[0] = ba (Lib.join (ls.take (0 + 1)) [10]) by rw [hjt, if_pos rfl]; rfl)
        rw [show ba (Lib.join (ls.take 0) [10]) = ⟨#[]⟩ from rfl]
        rw [Nat.add_zero] at cj
        generalize ba ls[0] = lj at *
        clear hc z1 hjt
        go_wp2_with fail
        first | rw [unhide HJT] | rw [unhide HJ2]
        go_round
        case rel => exact ⟨0 + 1, by omega, by go_num, rfl⟩
        case measure => simp [intOf]; omega
      · have HJT := hide (show (ba (Lib.join (ls.take j) [10]) ++ ⟨#[10]⟩) ++ ba ls[j] = ba (Lib.join (ls.take (j + 1)) [10]) by rw [hjt, if_neg h0, show (⟨#[10]⟩ : ByteArray) = ba [10] from rfl, ba_cat, ba_cat])
        have jz : (0 : Int) < (j : Int) := by omega
        generalize ba ls[j] = lj at *
        generalize ba (Lib.join (ls.take j) [10]) = sj at *
        clear hc hjt
        go_wp2_with fail
        rw [unhide HJT]
        go_round
        case rel => exact ⟨j + 1, by omega, by go_num, rfl⟩
        case measure => simp [intOf]; omega
    · obtain rfl : j = ls.length := by omega
      rw [List.take_length]
      go_wp2_with fail
      go_ret
      exact ⟨rfl, unhide BX⟩
end Go.Proofs.Ytohncccejlccbaa
