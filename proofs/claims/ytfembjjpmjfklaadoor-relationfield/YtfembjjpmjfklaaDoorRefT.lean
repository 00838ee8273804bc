import Derived.Test.YtfembjjpmjfklaaDoorBackP
namespace Go.Proofs.YtfembjjpmjfklaaDoor
open Go.RowKit

def blI (n : Int) : Bool := (n == 32) || (n == 9) || (n == 10)
theorem blI_blk (b : UInt8) : blI (b.toNat : Int) = blk b := by
  have e : ∀ c : UInt8, ((b.toNat : Int) == (c.toNat : Int)) = (b == c) := fun c => by
    cases h : b == c
    · rw [beq_eq_false_iff_ne] at h ⊢
      intro e
      exact h (UInt8.toNat_inj.1 (by omega))
    · rw [eq_of_beq h]; simp
  have e1 := e 32
  have e2 := e 9
  have e3 := e 10
  unfold blI blk
  simp only [List.contains_cons, List.contains_nil, Bool.or_false]
  rw [← e1, ← e2, ← e3]
  exact Bool.or_assoc _ _ _

set_option maxHeartbeats 400000 in
theorem rblank_any (b : Int) (w : World) :
    Calls Tryd.prog 53 #[.int .u8 b] w fun e w' => e = .returned (.bool (blI b)) ∧ w' = w := by
  go_enter Tryd.func53, Tryd.ntmps53
  go_wp2
  all_goals go_ret
  all_goals exact ⟨ret_bool (by simp [blI, *]), rfl⟩

theorem ext_tail (t : ByteArray) (hz : 0 < t.size) : t.data.toList = t[0] :: (t.extract 1 t.size).data.toList := by
  have h := Lib.extract_toList t 1 t.size
  rw [Lib.toList_data] at h
  rw [h]
  have hl := size_list t
  rw [List.take_of_length_le (by rw [List.length_drop]; omega)]
  have e := List.drop_eq_getElem_cons (l := t.data.toList) (i := 0) (by omega)
  rw [List.drop_zero] at e
  exact e
theorem ext_init (t : ByteArray) (hz : 0 < t.size) : t.data.toList = (t.extract 0 (t.size - 1)).data.toList ++ [t[t.size - 1]] := by
  have h := Lib.extract_toList t 0 (t.size - 1)
  rw [Lib.toList_data] at h
  rw [h, List.drop_zero]
  have hl := size_list t
  have e := List.take_append_getElem (l := t.data.toList) (i := t.size - 1) (by omega)
  rw [show t.size - 1 + 1 = t.data.toList.length by omega, List.take_length] at e
  exact e.symm

/-- WHAT IS LEFT, BLANKS GONE ON BOTH SIDES. -/
def TrimI (s t : ByteArray) : Prop := ∃ u v, s.data.toList = u ++ t.data.toList ++ v ∧ Blk u ∧ Blk v
theorem TrimI.start (s : ByteArray) : TrimI s s := ⟨[], [], by simp, fun _ h => absurd h (by simp), fun _ h => absurd h (by simp)⟩
theorem TrimI.left {s t : ByteArray} (h : TrimI s t) (hz : 0 < t.size) (hb : blk t[0] = true) : TrimI s (t.extract 1 t.size) := by
  obtain ⟨u, v, e, hu, hv⟩ := h
  refine ⟨u ++ [t[0]], v, ?_, ?_, hv⟩
  · rw [e, ext_tail t hz]; simp
  · intro b hb'
    rcases List.mem_append.1 hb' with h | h
    · exact hu b h
    · rw [List.mem_singleton.1 h]; exact hb
theorem TrimI.right {s t : ByteArray} (h : TrimI s t) (hz : 0 < t.size) (hb : blk t[t.size - 1] = true) : TrimI s (t.extract 0 (t.size - 1)) := by
  obtain ⟨u, v, e, hu, hv⟩ := h
  refine ⟨u, [t[t.size - 1]] ++ v, ?_, hu, ?_⟩
  · rw [e]
    conv => lhs; rw [ext_init t hz]
    simp
  · intro b hb'
    rcases List.mem_append.1 hb' with h | h
    · rw [List.mem_singleton.1 h]; exact hb
    · exact hv b h
theorem trimS_blk (l : List UInt8) (h : Blk l) : Lib.trimS l [32, 9, 10] = [] := by
  have e1 : Lib.trimRightS l [32, 9, 10] = [] := by
    rw [trimR_blk, ← List.append_nil l.reverse, dropW_app _ _ (fun b hb => h b (List.mem_reverse.1 hb))]; rfl
  unfold Lib.trimS
  rw [e1]; rfl
theorem TrimI.stop {s t : ByteArray} (h : TrimI s t) (h1 : ∀ hz : 0 < t.size, blk t[0] = false) (h2 : ∀ hz : 0 < t.size, blk t[t.size - 1] = false) : t = trimB s := by
  obtain ⟨u, v, e, hu, hv⟩ := h
  have key : Lib.trimS s.data.toList [32, 9, 10] = t.data.toList := by
    by_cases hz : 0 < t.size
    · rw [e]
      refine trim_around u _ v hu hv (fun a ha => ?_) (fun a ha => ?_) ?_
      · rw [ext_tail t hz] at ha
        cases ha
        exact h1 hz
      · rw [ext_init t hz, List.getLast?_append] at ha
        cases ha
        exact h2 hz
      · rw [ext_tail t hz]; simp
    · have hl := size_list t
      have ht : t.data.toList = [] := List.length_eq_zero_iff.1 (by omega)
      rw [ht] at e ⊢
      rw [e]
      apply trimS_blk
      intro b hb
      rcases List.mem_append.1 hb with h | h
      · rw [List.append_nil] at h; exact hu b h
      · exact hv b h
  unfold trimB
  rw [key]; rfl
theorem first_right (t : ByteArray) (hz : 0 < (t.extract 0 (t.size - 1)).size) (hz0 : 0 < t.size) : (t.extract 0 (t.size - 1))[0] = t[0] := by
  simp [ByteArray.getElem_extract]

set_option maxHeartbeats 2000000 in
theorem rtrim_any (s : ByteArray) (w : World) (hs : s.size ≤ maxLen) :
    Calls Tryd.prog 52 #[.string s] w fun e w' => e = .returned (.string (trimB s)) ∧ w' = w := by
  unfold maxLen at hs
  go_enter Tryd.func52, Tryd.ntmps52
  go_wp2_with fail
  go_loop [0] (fun v => ∃ t : ByteArray, t.size ≤ s.size ∧ v = .string t ∧ Hid (TrimI s t)) (fun v => match v with | .string t => t.size | _ => 0)
  case atStart => exact ⟨s, Nat.le_refl _, rfl, hide (TrimI.start s)⟩
  case round =>
    obtain ⟨t, ht, rfl, HI⟩ := hrel
    by_cases hz : 0 < t.size
    · cases hb : blI (t[0].toNat : Int)
      · have HF := hide (show ∀ hz : 0 < t.size, blk t[0] = false from fun _ => by rw [← blI_blk]; exact hb)
        have HB := hide hb
        go_wp2_with (go_at_call 53; refine (rblank_any _ _).mono ?_; rintro e w' ⟨rfl, rfl⟩)
        go_loop [0] (fun v => ∃ r : ByteArray, r.size ≤ s.size ∧ v = .string r ∧ Hid (TrimI s r ∧ ∀ hz : 0 < r.size, blk r[0] = false)) (fun v => match v with | .string r => r.size | _ => 0)
        case atStart => exact ⟨t, ht, rfl, hide ⟨unhide HI, unhide HF⟩⟩
        case round =>
          obtain ⟨r, hr, rfl, HJ⟩ := hrel
          by_cases hy : 0 < r.size
          · cases hc : blI (r[r.size - 1].toNat : Int)
            · have HE := hide ((unhide HJ).1.stop (unhide HJ).2 (fun _ => by rw [← blI_blk]; exact hc))
              clear HF HI HJ
              go_wp2_with (go_at_call 53; refine (rblank_any _ _).mono ?_; rintro e w' ⟨rfl, rfl⟩)
              go_ret
              exact ⟨by rw [← unhide HE]; rfl, rfl⟩
            · have HN := hide (show TrimI s (r.extract 0 (r.size - 1)) ∧ ∀ hz : 0 < (r.extract 0 (r.size - 1)).size, blk (r.extract 0 (r.size - 1))[0] = false from ⟨(unhide HJ).1.right hy (by rw [← blI_blk]; exact hc), fun hz => by rw [first_right r hz hy]; exact (unhide HJ).2 hy⟩)
              clear HF HI HJ
              go_wp2_with (go_at_call 53; refine (rblank_any _ _).mono ?_; rintro e w' ⟨rfl, rfl⟩)
              go_round
              case rel => exact ⟨_, by rw [ByteArray.size_extract]; omega, rfl, HN⟩
              case measure => simp [ByteArray.size_extract]; omega
          · have HE := hide ((unhide HJ).1.stop (unhide HJ).2 (fun h => absurd h hy))
            clear HF HI HJ
            go_wp2_with fail
            go_ret
            exact ⟨by rw [← unhide HE]; rfl, rfl⟩
      · have HN := hide ((unhide HI).left hz (by rw [← blI_blk]; exact hb))
        go_wp2_with (go_at_call 53; refine (rblank_any _ _).mono ?_; rintro e w' ⟨rfl, rfl⟩)
        go_round
        case rel => exact ⟨_, by rw [ByteArray.size_extract]; omega, rfl, HN⟩
        case measure => simp [ByteArray.size_extract]; omega
    · have HF := hide (show ∀ hz : 0 < t.size, blk t[0] = false from fun h => absurd h hz)
      go_wp2_with fail
      go_loop [0] (fun v => ∃ r : ByteArray, r.size ≤ s.size ∧ v = .string r ∧ Hid (TrimI s r ∧ ∀ hz : 0 < r.size, blk r[0] = false)) (fun v => match v with | .string r => r.size | _ => 0)
      case atStart => exact ⟨t, ht, rfl, hide ⟨unhide HI, unhide HF⟩⟩
      case round =>
        obtain ⟨r, hr, rfl, HJ⟩ := hrel
        by_cases hy : 0 < r.size
        · cases hc : blI (r[r.size - 1].toNat : Int)
          · have HE := hide ((unhide HJ).1.stop (unhide HJ).2 (fun _ => by rw [← blI_blk]; exact hc))
            clear HF HI HJ
            go_wp2_with (go_at_call 53; refine (rblank_any _ _).mono ?_; rintro e w' ⟨rfl, rfl⟩)
            go_ret
            exact ⟨by rw [← unhide HE]; rfl, rfl⟩
          · have HN := hide (show TrimI s (r.extract 0 (r.size - 1)) ∧ ∀ hz : 0 < (r.extract 0 (r.size - 1)).size, blk (r.extract 0 (r.size - 1))[0] = false from ⟨(unhide HJ).1.right hy (by rw [← blI_blk]; exact hc), fun hz => by rw [first_right r hz hy]; exact (unhide HJ).2 hy⟩)
            clear HF HI HJ
            go_wp2_with (go_at_call 53; refine (rblank_any _ _).mono ?_; rintro e w' ⟨rfl, rfl⟩)
            go_round
            case rel => exact ⟨_, by rw [ByteArray.size_extract]; omega, rfl, HN⟩
            case measure => simp [ByteArray.size_extract]; omega
        · have HE := hide ((unhide HJ).1.stop (unhide HJ).2 (fun h => absurd h hy))
          clear HF HI HJ
          go_wp2_with fail
          go_ret
          exact ⟨by rw [← unhide HE]; rfl, rfl⟩

end Go.Proofs.YtfembjjpmjfklaaDoor
