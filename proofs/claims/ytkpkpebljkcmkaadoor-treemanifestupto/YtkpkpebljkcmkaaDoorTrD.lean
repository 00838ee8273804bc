import Derived.Test.YtkpkpebljkcmkaaDoorTrC
namespace Go.Proofs.YtkpkpebljkcmkaaDoor
open Go.RowKit

theorem st_cat (a b : Nat) : (⟨#[110, 47]⟩ : ByteArray) ++ ba (Lib.decDigits a) ++ ⟨#[46]⟩ ++ ba (Lib.decDigits b) = ba (stT a b) := by
  apply ba_inj
  unfold stT ba
  simp [ByteArray.data_append]
theorem dec_len (u : Nat) (h : u ≤ 281474976710655) : (Lib.decDigits u).length ≤ 15 := ((cn_iff _).1 (cn_dec u (by omega))).2.1
theorem dec_size (u : Nat) (h : u ≤ 281474976710655) : (ba (Lib.decDigits u)).size ≤ 15 := by rw [ba_size]; exact dec_len u h
def nmT (s : ByteArray) : ByteArray := if okP s = true then ⟨#[116, 47]⟩ ++ s else ⟨#[]⟩
def stS (a b : Int) : ByteArray := if stOk a b = true then ba (stT a.toNat b.toNat) else ⟨#[]⟩
def stE (a b : Int) : Int := if stOk a b = true then 0 else 1

theorem isSeq_any (a : Int) (w : World) :
    Calls Tryd.prog 19 #[.int .i64 a] w fun e w' => e = .returned (.bool (decide (0 ≤ a) && decide (a ≤ 281474976710655))) ∧ w' = w := by
  go_enter Tryd.func19, Tryd.ntmps19
  by_cases h1 : 0 ≤ a
  · by_cases h2 : a ≤ 281474976710655
    · have e : (decide (0 ≤ a) && decide (a ≤ 281474976710655)) = true := by simp [h1, h2]
      rw [e]
      clear e
      go_wp2_with fail
      go_ret
      exact ⟨rfl, rfl⟩
    · have e : (decide (0 ≤ a) && decide (a ≤ 281474976710655)) = false := by simp [h2]
      rw [e]
      clear e
      go_wp2_with fail
      go_ret
      exact ⟨rfl, rfl⟩
  · have e : (decide (0 ≤ a) && decide (a ≤ 281474976710655)) = false := by simp [h1]
    rw [e]
    clear e
    go_wp2_with fail
    go_ret
    exact ⟨rfl, rfl⟩

theorem stagedName_any (a b : Nat) (w : World) (ha : a ≤ 281474976710655) (hb : b ≤ 281474976710655) (hg : Glob w) :
    Calls Tryd.prog 31 #[.int .i64 a, .int .i64 b] w fun e w' => e = .returned (.string (ba (stT a b))) ∧ Below w.heap.size w w' := by
  have c1 := hide (cItoa a w ha hg)
  have c2 := hide (fun w hg => cItoa b w hb hg)
  have HG := hide hg
  rw [← st_cat a b]
  have s1 := dec_size a ha
  have s2 := dec_size b hb
  generalize ba (Lib.decDigits a) = x at *
  generalize ba (Lib.decDigits b) = y at *
  clear hg
  go_enter Tryd.func31, Tryd.ntmps31
  go_wp2_with fail
  refine (unhide c1).mono ?_
  rintro e w1 ⟨rfl, hb⟩
  have HB := hide hb
  clear hb
  go_wp2_with fail
  refine (unhide c2 _ ((unhide HG).later (unhide HB))).mono ?_
  rintro e w2 ⟨rfl, hb2⟩
  have HB2 := hide (bl_t (unhide HB) hb2)
  clear hb2
  go_wp2_with fail
  go_ret
  exact ⟨rfl, unhide HB2⟩

def psA (l : List UInt8) : Int := match pst l with | some (a, _) => (a : Int) | none => 0
def psB (l : List UInt8) : Int := match pst l with | some (_, b) => (b : Int) | none => 0
def psO (l : List UInt8) : Bool := (pst l).isSome
theorem tp_len (l : List UInt8) : (tp l).length ≤ l.length := by
  unfold tp Lib.trimPrefix
  split
  · simp
  · exact Nat.le_refl _
theorem cF_len (l : List UInt8) : (cF l).length ≤ l.length := by
  unfold cF
  exact (List.takeWhile_sublist _).length_le
theorem cS_len (l : List UInt8) : (cS l).length ≤ l.length := by
  unfold cS
  have := (List.dropWhile_sublist (fun b : UInt8 => b != 46) (l := l)).length_le
  rw [List.length_tail]
  omega
theorem stE_iff (a b : Int) : stE a b = 0 ↔ stOk a b = true := by
  unfold stE
  split
  · rename_i h; simp [h]
  · rename_i h; simp [h]
theorem ps_yes (s : ByteArray) (x y : Int) (hx : x = atv (cF (tp s.data.toList))) (hy : y = atv (cS (tp s.data.toList))) (h1 : stOk x y = true) (h2 : stS x y = s) :
    psA s.data.toList = x ∧ psB s.data.toList = y ∧ psO s.data.toList = true := by
  subst hx hy
  have hk := (stOk_iff _ _).1 h1
  have e := pst_code s.data.toList
  unfold stS at h2
  rw [if_pos h1] at h2
  have h3 := congrArg (fun b : ByteArray => b.data.toList) h2
  simp only [ba_list] at h3
  rw [if_pos ⟨h1, h3⟩] at e
  unfold psA psB psO
  rw [e]
  exact ⟨Int.toNat_of_nonneg hk.1, Int.toNat_of_nonneg hk.2.2.1, rfl⟩
theorem ps_no (s : ByteArray) (x y : Int) (hx : x = atv (cF (tp s.data.toList))) (hy : y = atv (cS (tp s.data.toList))) (h : ¬ (stOk x y = true ∧ stS x y = s)) :
    psA s.data.toList = 0 ∧ psB s.data.toList = 0 ∧ psO s.data.toList = false := by
  subst hx hy
  have e := pst_code s.data.toList
  rw [if_neg] at e
  · unfold psA psB psO
    rw [e]
    exact ⟨rfl, rfl, rfl⟩
  · rintro ⟨h1, h3⟩
    apply h
    refine ⟨h1, ?_⟩
    unfold stS
    rw [if_pos h1]
    apply ba_inj
    rw [ba_list]
    exact h3

end Go.Proofs.YtkpkpebljkcmkaaDoor
