import Derived.Test.YtfembjjpmjfklaaDoorSameC
import Derived.Test.YtfembjjpmjfklaaDoorBackX
import Derived.Laws.IdiomStrings
namespace Go.Proofs.YtfembjjpmjfklaaDoor
open Go.RowKit

theorem info5w : (Tryd.prog.info? 5).map (fun i => (i.zero, i.size, i.bytes)) = some (some (.int .u8 0), 1, 1) := by kernel_rfl
def encW (l : List UInt8) : List Value := l.map fun c => Value.int .u8 (c.toNat : Int)
/-- A TEXT WITH OTHER BLANKS FOR EACH SPACE. -/
def wd (l : List UInt8) : List UInt8 := l.flatMap fun b => if b = 32 then [10, 9, 32] else [b]
theorem wd_snoc (l : List UInt8) (b : UInt8) : wd (l ++ [b]) = wd l ++ (if b = 32 then [10, 9, 32] else [b]) := by simp [wd]
theorem wd_le (l : List UInt8) : (wd l).length ≤ 3 * l.length := by
  induction l with
  | nil => simp [wd]
  | cons b l ih =>
    have e : wd (b :: l) = (if b = 32 then [10, 9, 32] else [b]) ++ wd l := by simp [wd]
    rw [e, List.length_append, List.length_cons]
    split <;> simp <;> omega

theorem ownsRow_shape {W : World} {base : Nat} {e : TypeId} {z : Nat} {v : Value} {n : Nat} {xs : List Value} (h : W.ownsRow base e z v n xs) : ∃ a c, v = .slice a n c := by
  rcases h.2 with ⟨rfl, rfl⟩ | ⟨g, cap, cur, rfl, _⟩
  · exact ⟨_, _, rfl⟩
  · exact ⟨_, _, rfl⟩
theorem ownsRow_own {W : World} {base : Nat} {e : TypeId} {z : Nat} {v : Value} {n : Nat} {xs : List Value} (h : W.ownsRow base e z v n xs) : ∀ k, v.ownBlock = some k → base ≤ k := fun k hk => (h.lt k hk).1

set_option maxRecDepth 100000 in
set_option maxHeartbeats 4000000 in
theorem wide_any (s : ByteArray) (w : World) (hs : s.size ≤ 16777216) :
    Calls Tryd.prog 13 #[.string s] w fun e w' => e = .returned (.string (ba (wd s.data.toList))) ∧ Below w.heap.size w w' := by
  obtain ⟨i0, hi, hz0, hz1, hz2⟩ := info_parts info5w
  go_enter Tryd.func13, Tryd.ntmps13
  go_wp2_with fail
  go_loopw [3, 4] (fun v i wr => ∃ (k : Nat) (L : List UInt8), k ≤ s.size ∧ i = .int .i64 k ∧ L.length ≤ 3 * k ∧ Hid (L = wd (s.data.toList.take k)) ∧ Hid (wr.ownsRow w.heap.size 5 1 v L.length (encW L)) ∧ Hid (Below w.heap.size w wr)) (fun _ i _ => s.size - (intOf i).toNat)
  case atStart => exact ⟨0, [], Nat.zero_le _, rfl, Nat.zero_le _, hide rfl, hide (World.ownsRow_nil _ _ _ _), hide (Below.refl _ _)⟩
  case round =>
    obtain ⟨k, L, hk, rfl, hLk, HL, HO, HB⟩ := hrel
    obtain ⟨va, vc, hve⟩ := ownsRow_shape (unhide HO)
    by_cases hlt : k < s.size
    · have hsn := hide (take_snoc s k hlt)
      have hbz := (unhide HB).size
      obtain ⟨x, hx⟩ : ∃ x : UInt8, s[k]'hlt = x := ⟨_, rfl⟩
      rw [hx] at hsn
      by_cases h32 : x = 32
      · have HL2 := hide (show L ++ [10, 9, 32] = wd (s.data.toList.take (k + 1)) by rw [unhide hsn, wd_snoc, if_pos h32, unhide HL])
        subst h32
        clear hve
        go_wp2_with (first | (at_builtin; go_must (refine wpList_append_own _ rfl _ _ 85 rfl w.heap.size 5 i0 (.int .u8 0) 1 1 Tryd.underlying85 hi hz0 hz1 hz2 rfl (by decide) _ _ _ rfl ((unhide HO).alloc _) _ 3 3 [.int .u8 10, .int .u8 9, .int .u8 32] rfl rfl (by simpa using cells3_new wr _ _ _ _) (by simp [Value.oneCell']) (by unfold maxLen; omega) (by omega) (by simp; omega) ?_); intro v' w5 hown5 hgrow5 _))
        have HO5 := hide (show w5.ownsRow w.heap.size 5 1 v' (L ++ [10, 9, 32]).length (encW (L ++ [10, 9, 32])) by rw [List.length_append, show encW (L ++ [10, 9, 32]) = encW L ++ [.int .u8 10, .int .u8 9, .int .u8 32] by simp [encW]]; exact hown5)
        have HB5 := hide (((unhide HB).alloc hbz _).grown hgrow5 (by simp; omega) (ownsRow_own (unhide HO)))
        clear hown5 hgrow5
        go_wp2_with fail
        go_roundw
        case rel => exact ⟨k + 1, L ++ [10, 9, 32], by omega, by go_num, by rw [List.length_append]; simp; omega, HL2, HO5, HB5⟩
        case measure => simp [intOf]; omega
      · have HL2 := hide (show L ++ [x] = wd (s.data.toList.take (k + 1)) by rw [unhide hsn, wd_snoc, if_neg h32, unhide HL])
        have h32' : ((x.toNat : Int) == 32) = false := beq_eq_false_iff_ne.2 (fun e => h32 (by apply UInt8.toNat_inj.1; show x.toNat = 32; omega))
        clear hve
        go_wp2_with (first | (at_builtin; go_must (refine wpList_append_own _ rfl _ _ 85 rfl w.heap.size 5 i0 (.int .u8 0) 1 1 Tryd.underlying85 hi hz0 hz1 hz2 rfl (by decide) _ _ _ rfl ((unhide HO).alloc _) _ 1 1 [.int .u8 (x.toNat : Int)] rfl rfl (by simpa using cells1_new wr _ _) (by simp [Value.oneCell']) (by unfold maxLen; omega) (by omega) (by simp; omega) ?_); intro v' w5 hown5 hgrow5 _))
        have HO5 := hide (show w5.ownsRow w.heap.size 5 1 v' (L ++ [x]).length (encW (L ++ [x])) by rw [List.length_append, show encW (L ++ [x]) = encW L ++ [.int .u8 (x.toNat : Int)] by simp [encW]]; exact hown5)
        have HB5 := hide (((unhide HB).alloc hbz _).grown hgrow5 (by simp; omega) (ownsRow_own (unhide HO)))
        clear hown5 hgrow5
        go_wp2_with fail
        go_roundw
        case rel => exact ⟨k + 1, L ++ [x], by omega, by go_num, by rw [List.length_append]; simp; omega, HL2, HO5, HB5⟩
        case measure => simp [intOf]; omega
    · obtain rfl : k = s.size := by omega
      have HF := hide (show ba L = ba (wd s.data.toList) by rw [unhide HL, List.take_of_length_le (by rw [size_list]; exact Nat.le_refl _)])
      rcases (unhide HO).2 with ⟨e1, e2⟩ | ⟨g, cap, cur, e1, _⟩
      · obtain rfl : L = [] := List.length_eq_zero_iff.1 e2
        subst e1
        clear hve
        have hcv : (convert 85 9 (.slice none 0 0)).run Tryd.prog wr = .ok (.string ⟨#[]⟩) wr := by
          rw [run_convert_bytes_string wr 85 9 5 none 0 0 Tryd.underlying85 Tryd.underlying5 Tryd.underlying9]
          rfl
        go_wp2_with fail
        go_ret
        exact ⟨by rw [← unhide HF]; rfl, unhide HB⟩
      · subst e1
        have hcv := run_convert_bytes_back (P := Tryd.prog) wr 85 9 5 ⟨g, 0, none⟩ cap L Tryd.underlying85 Tryd.underlying5 Tryd.underlying9 (fun j hj => (unhide HO).cells (g := g) rfl j _ (by simp [encW, hj]))
        clear hve
        go_wp2_with fail
        go_ret
        exact ⟨by rw [← unhide HF]; rfl, unhide HB⟩

end Go.Proofs.YtfembjjpmjfklaaDoor
