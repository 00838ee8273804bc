import Derived.Test.YtjmomdnlibfbkaaDoorAcF
namespace Go.Proofs.YtjmomdnlibfbkaaDoor
open Go.RowKit

set_option maxRecDepth 100000 in
set_option maxHeartbeats 8000000 in
theorem joined_any {w : World} {v : Value} {l : Bs} (h : Rb w v l) (hl : l.length ≤ 1073741824) :
    Calls Tryd.prog 25 #[.slice none 0 0, v] w fun e w' => ∃ a c, e = .returned (.slice a l.length c) ∧ w'.ownsRow w.heap.size 5 1 (.slice a l.length c) l.length (l.map cb) ∧ Below w.heap.size w w' := by
  obtain ⟨a, c, rfl, hc⟩ := h.form
  have HR := hide h
  obtain ⟨N, hN⟩ : ∃ N, l.length = N := ⟨_, rfl⟩
  have HN := hide hN
  have mk := makeY N (by omega)
  rw [hN] at HR hl ⊢
  clear h hN
  go_enter Tryd.func25, Tryd.ntmps25
  go_upto_region 2 with fail
  have B1 := hide (By.made w N)
  have Y1 := hide (Yb.made w N)
  have W1 := hide ((Below.refl w.heap.size w).alloc (Nat.le_refl _) (.cells (madeCells #[.int .u8 0] N) 5))
  obtain ⟨g, hg⟩ : ∃ g, w.heap.size = g := ⟨_, rfl⟩
  have HGE := hide hg
  rw [hg] at B1 Y1 ⊢
  generalize World.alloc w (.cells (madeCells #[.int .u8 0] N) 5) = w1 at *
  have LL := hide (show l.length = N from unhide HN)
  clear mk hg
  go_wp2_with fail
  go_loopg [6] 0 (fun gq iv wr => iv = .int .i64 0 ∧ wr = w1)
  case atStart => exact ⟨rfl, rfl⟩
  case round =>
    obtain ⟨rfl, rfl⟩ := hrel
    go_wp2_with fail
    have B0 := hide (show By wr g (put (zs N) 0 (l.take 0)) from by rw [List.take_zero, put_nil]; exact unhide B1)
    clear B1
    go_loopg [7] N (fun gq iv wr => ∃ i : Nat, iv = .int .i64 i ∧ i ≤ N ∧ N - i ≤ gq ∧ Hid (By wr g (put (zs N) 0 (l.take i))) ∧ Hid (Yb wr g N) ∧ Hid (Below w.heap.size w wr))
    case atStart => exact ⟨0, by go_num, by omega, by omega, B0, Y1, W1⟩
    case round =>
      clear B0 Y1 W1
      obtain ⟨i, rfl, hi, hgq, HB, HY, HW⟩ := hrel
      by_cases hlt : i < N
      · have hin : (i : Int) < (N : Int) := by omega
        have hil : i < l.length := by have := unhide LL; omega
        obtain ⟨b, o, rfl, _, hx⟩ := ((unhide HR).later (unhide HW)).at (by omega)
        have c0 := hx i hil
        have htl : (l.take i).length = i := by rw [List.length_take]; omega
        have hql : (put (zs N) 0 (l.take i)).length = N := by rw [put_len (by rw [htl, zs_len]; omega), zs_len]
        obtain ⟨qv, hq⟩ : ∃ qv : Value, wr.cell? ⟨g, i, none⟩ = some qv := ⟨_, (unhide HB).at_ i _ (List.getElem?_eq_getElem (by rw [hql]; omega))⟩
        have hqf := (unhide HB).fr i
        have e : put (zs N) 0 (l.take (i + 1)) = (put (zs N) 0 (l.take i)).set i l[i] := by
          rw [List.take_succ_eq_append_getElem hil, put_snoc (by rw [htl, zs_len]; omega), htl, Nat.zero_add]
        have HB2 := hide (show By (wr.setCell ⟨g, i, none⟩ (cb l[i])) g (put (zs N) 0 (l.take (i + 1))) from by
          rw [e]
          exact (unhide HB).set (p := i) (by rw [hql]; omega) l[i])
        have HY2 := hide ((unhide HY).set i (cb l[i]))
        have HW2 := hide ((unhide HW).setCell (p := ⟨g, i, none⟩) (Nat.le_of_eq (unhide HGE)) (cb l[i]))
        unfold cb at c0
        unfold cb at HB2 HY2 HW2
        generalize ((l[i].toNat : Nat) : Int) = z at *
        clear HB HY HW hql htl e hx
        go_wp2_with fail
        clear hq hqf
        go_roundg (N - (i + 1))
        case measure => omega
        case rel => exact ⟨i + 1, by go_num, by omega, by omega, HB2, HY2, HW2⟩
      · obtain rfl : i = N := by omega
        have hge : ¬ (i : Int) < (i : Int) := by omega
        have HO := hide (own_yb (unhide HY) (unhide HB) (by rw [put_len (by rw [List.length_take, zs_len]; omega), zs_len]) (Nat.le_refl i) (Nat.le_of_eq (unhide HGE)) (by unfold maxLen; omega))
        have e : (put (zs i) 0 (l.take i)).take i = l := by
          rw [← unhide LL, List.take_length]
          unfold put
          rw [List.take_zero, List.nil_append, List.drop_of_length_le (by rw [zs_len]; omega), List.append_nil, List.take_length]
        rw [e] at HO
        clear e
        go_wp2_with fail
        go_ret
        exact ⟨_, _, rfl, unhide HO, unhide HW⟩
end Go.Proofs.YtjmomdnlibfbkaaDoor
