import Derived.Test.YtfembjjpmjfklaaDoorRefZ
import Derived.Test.YtfembjjpmjfklaaDoorBackD
namespace Go.Proofs.YtfembjjpmjfklaaDoor
open Go.RowKit

theorem ownRow_shape {W : World} {base : Nat} {e : TypeId} {z : Nat} {v : Value} {n : Nat} {xs : List Value} (h : W.ownsRow base e z v n xs) : ∃ a c, v = .slice a n c := by
  rcases h.2 with ⟨rfl, rfl⟩ | ⟨g, cap, cur, rfl, _⟩
  · exact ⟨_, _, rfl⟩
  · exact ⟨_, _, rfl⟩
theorem ownRow_own {W : World} {base : Nat} {e : TypeId} {z : Nat} {v : Value} {n : Nat} {xs : List Value} (h : W.ownsRow base e z v n xs) : ∀ k, v.ownBlock = some k → base ≤ k := fun k hk => (h.lt k hk).1

theorem info9c : (Tryd.prog.info? 9).map (fun i => (i.zero, i.size, i.bytes)) = some (some (.string ⟨#[]⟩), 1, 16) := by kernel_rfl

theorem mem_range (s : ByteArray) (f : Nat) (c : UInt8) (h : ∀ j (hj : j < s.size), f ≤ j → s[j] ≠ c) : c ∉ (s.extract f s.size).data.toList := by
  intro hc
  rw [ext_from] at hc
  obtain ⟨i, hi, e⟩ := List.getElem_of_mem hc
  rw [List.getElem_drop] at e
  rw [List.length_drop, size_list] at hi
  exact h (f + i) (by omega) (by omega) e
theorem mem_range2 (s : ByteArray) (f k : Nat) (hk : k ≤ s.size) (c : UInt8) (h : ∀ j (hj : j < s.size), f ≤ j → j < k → s[j] ≠ c) : c ∉ (s.extract f k).data.toList := by
  intro hc
  have e1 := Lib.extract_toList s f k
  rw [Lib.toList_data] at e1
  rw [e1] at hc
  obtain ⟨i, hi, e⟩ := List.getElem_of_mem hc
  rw [List.getElem_take, List.getElem_drop] at e
  rw [List.length_take, List.length_drop, size_list] at hi
  exact h (f + i) (by omega) (by omega) (by omega) e
theorem range_cut (s : ByteArray) (f k : Nat) (hf : f ≤ k) (hk : k < s.size) : s.extract f s.size = ba ((s.extract f k).data.toList ++ s[k] :: (s.extract (k + 1) s.size).data.toList) := by
  apply ba_inj
  rw [ext_from, ba_list, ext_from]
  have e1 := Lib.extract_toList s f k
  rw [Lib.toList_data] at e1
  rw [e1]
  have hl := size_list s
  have e2 : s.data.toList.drop f = (s.data.toList.drop f).take (k - f) ++ (s.data.toList.drop f).drop (k - f) := (List.take_append_drop _ _).symm
  have e3 := List.drop_eq_getElem_cons (l := s.data.toList) (i := k) (by omega)
  conv => lhs; rw [e2]
  rw [List.drop_drop, show f + (k - f) = k by omega, e3]
  rfl
theorem pcs_step (s : ByteArray) (c : UInt8) (f k : Nat) (hf : f ≤ k) (hk : k < s.size) (hc : s[k] = c) (h : ∀ j (hj : j < s.size), f ≤ j → j < k → s[j] ≠ c) : pcs (s.extract f s.size) c = s.extract f k :: pcs (s.extract (k + 1) s.size) c := by
  rw [range_cut s f k hf hk, hc, pcs_hit _ _ c (mem_range2 s f k (by omega) c h)]
  rfl
theorem whole (s : ByteArray) : s.extract 0 s.size = s := by
  apply ba_inj
  rw [ext_to, List.take_of_length_le (by rw [size_list]; exact Nat.le_refl _)]

/-- WHAT STANDS WHILE A TEXT IS CUT. -/
structure Ctg (w wr : World) (s : ByteArray) (c : UInt8) (v : Value) (f k : Nat) (L : List ByteArray) : Prop where
  eq : pcs s c = L ++ pcs (s.extract f s.size) c
  no : ∀ j (hj : j < s.size), f ≤ j → j < k → s[j] ≠ c
  row : wr.ownsRow w.heap.size 9 1 v L.length (L.map Value.string)
  bel : Below w.heap.size w wr

set_option maxRecDepth 100000 in
set_option maxHeartbeats 4000000 in
theorem rCut_any (s : ByteArray) (c : UInt8) (ci : Int) (hci : ci = (c.toNat : Int)) (w : World) (hs : s.size ≤ 16777216) :
    Calls Tryd.prog 61 #[.string s, .int .u8 ci] w fun e w' => (∃ v, e = .returned v ∧ w'.ownsRow w.heap.size 9 1 v (pcs s c).length ((pcs s c).map Value.string)) ∧ Below w.heap.size w w' := by
  obtain ⟨i0, hi, hz0, hz1, hz2⟩ := info_parts info9c
  have HCI := hide hci
  clear hci
  go_enter Tryd.func61, Tryd.ntmps61
  go_wp2_with fail
  go_loopw [5, 6, 7] (fun v f i wr => ∃ (fn k : Nat) (L : List ByteArray), fn ≤ k ∧ k ≤ s.size ∧ L.length ≤ fn ∧ f = .int .i64 fn ∧ i = .int .i64 k ∧ Hid (Ctg w wr s c v fn k L)) (fun _ _ i _ => s.size - (intOf i).toNat)
  case atStart => exact ⟨0, 0, [], Nat.le_refl _, Nat.zero_le _, Nat.le_refl _, rfl, rfl, hide ⟨by rw [whole]; rfl, fun j _ _ h => absurd h (Nat.not_lt_zero _), World.ownsRow_nil _ _ _ _, Below.refl _ _⟩⟩
  case round =>
    obtain ⟨fn, k, L, hfk, hk, hLf, rfl, rfl, HC⟩ := hrel
    have HO := hide (unhide HC).row
    obtain ⟨va, vc, hve⟩ := ownRow_shape (unhide HO)
    have hbz := (unhide HC).bel.size
    by_cases hlt : k < s.size
    · by_cases hc : s[k] = c
      · have hcb : ((s[k].toNat : Int) == ci) = true := by rw [unhide HCI, hc]; simp
        have HCE := hide hc
        clear hve hc
        go_wp2_with (first | (at_builtin; go_must (refine wpList_append_own _ rfl _ _ 44 rfl w.heap.size 9 i0 (.string ⟨#[]⟩) 1 16 Tryd.underlying44 hi hz0 hz1 hz2 rfl (by decide) _ _ _ rfl ((unhide HO).alloc _) _ 1 1 [.string (s.extract fn k)] rfl rfl (by simpa using cells1_new wr _ _) (by simp [Value.oneCell']) (by unfold maxLen; omega) (by omega) (by simp; omega) ?_); intro v' w5 hown5 hgrow5 _))
        have HC5 := hide (show Ctg w w5 s c v' (k + 1) (k + 1) (L ++ [s.extract fn k]) from
          ⟨by rw [(unhide HC).eq, pcs_step s c fn k hfk hlt (unhide HCE) (unhide HC).no, List.append_assoc]; rfl, fun j _ h1 h2 => absurd h2 (by omega),
           by rw [List.length_append, List.map_append]; exact hown5, ((unhide HC).bel.alloc hbz _).grown hgrow5 (by simp; omega) (ownRow_own (unhide HO))⟩)
        clear hown5 hgrow5
        go_wp2_with fail
        go_roundw
        case rel => exact ⟨k + 1, k + 1, L ++ [s.extract fn k], Nat.le_refl _, by omega, by rw [List.length_append]; simp; omega, by go_num, by go_num, HC5⟩
        case measure => simp [intOf]; omega
      · have hcb : ((s[k].toNat : Int) == ci) = false := by rw [unhide HCI, byte_beq]; simpa using hc
        have HC5 := hide (show Ctg w wr s c _ fn (k + 1) L from ⟨(unhide HC).eq, fun j hj h1 h2 => by
          by_cases e : j < k
          · exact (unhide HC).no j hj h1 e
          · obtain rfl : j = k := by omega
            exact hc, (unhide HC).row, (unhide HC).bel⟩)
        clear hve
        go_wp2_with fail
        go_roundw
        case rel => exact ⟨fn, k + 1, L, by omega, by omega, hLf, rfl, by go_num, HC5⟩
        case measure => simp [intOf]; omega
    · clear hve
      have hfs : fn ≤ s.size := by omega
      have HE := hide (show pcs s c = L ++ [s.extract fn s.size] by rw [(unhide HC).eq, pcs_miss _ c (mem_range s fn c (fun j hj h1 => (unhide HC).no j hj h1 (by omega)))])
      go_wp2_with (first | (at_builtin; go_must (refine wpList_append_own _ rfl _ _ 44 rfl w.heap.size 9 i0 (.string ⟨#[]⟩) 1 16 Tryd.underlying44 hi hz0 hz1 hz2 rfl (by decide) _ _ _ rfl ((unhide HO).alloc _) _ 1 1 [.string (s.extract fn s.size)] rfl rfl (by simpa using cells1_new wr _ _) (by simp [Value.oneCell']) (by unfold maxLen; omega) (by omega) (by simp; omega) ?_); intro v' w5 hown5 hgrow5 _))
      have HO5 := hide (show w5.ownsRow w.heap.size 9 1 v' (pcs s c).length ((pcs s c).map Value.string) by rw [unhide HE, List.length_append, List.map_append]; exact hown5)
      have HB5 := hide (((unhide HC).bel.alloc hbz _).grown hgrow5 (by simp; omega) (ownRow_own (unhide HO)))
      clear hown5 hgrow5
      go_wp2_with fail
      go_ret
      exact ⟨⟨_, rfl, unhide HO5⟩, unhide HB5⟩

end Go.Proofs.YtfembjjpmjfklaaDoor
