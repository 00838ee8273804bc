import Derived.Test.YtfnbclehlikbkaaDoorRef8
import Derived.Laws.IdiomStrings
import Derived.Maps.AppendAt
import Derived.RangeFuncBox
namespace Go.Proofs.YtfnbclehlikbkaaDoor
open Go.RowKit

theorem info5 : (Tryd.prog.info? 5).map (fun i => (i.zero, i.size, i.bytes)) = some (some (.int .u8 0), 1, 1) := by kernel_rfl

def encB (l : List UInt8) : List Value := l.map fun c => Value.int .u8 (c.toNat : Int)

theorem digsL_le (l : List UInt8) : (digsL l).length ≤ l.length := List.length_filter_le _ _

theorem ownsRow_base' {W : World} {base : Nat} {e : TypeId} {size : Nat} {g n cap : Nat} {xs : List Value} (h : W.ownsRow base e size (.slice (some ⟨g, 0, none⟩) n cap) n xs) : base ≤ g := by
  rcases h.2 with ⟨h0, _⟩ | ⟨g', cap', cur, h0, hb, _⟩
  · cases h0
  · cases h0; exact hb

set_option maxHeartbeats 2000000 in
theorem digitsOf_other (e : ByteArray) (he : e.size ≤ 140737488355328) (h : allB (kind 53) e = false) (w : World) :
    Calls Tryd.prog 38 #[.string e] w fun x w' => x = .returned (.string (digs e)) ∧ Below w.heap.size w w' := by
  obtain ⟨i0, hi, hz0, hz1, hz2⟩ := info_parts info5
  have he' : e.size ≤ maxLen := by unfold maxLen; omega
  go_enter Tryd.func38, Tryd.ntmps38
  go_wp2_with fail
  refine (consists_any _ _ (by decide) _ he').mono ?_
  rintro x w' ⟨rfl, rfl⟩
  go_wp2_with (at_make; go_must (refine wpList_make_own _ rfl _ _ 80 rfl w'.heap.size 5 i0 (.int .u8 0) 1 Tryd.underlying80 hi hz0 hz1 _ _ _ e.size rfl rfl rfl (by rw [hz2]; omega) he' (Nat.le_refl _) ?_); intro w1 hown hgrow)
  have hB1 : Below w'.heap.size w' w1 := (Below.refl _ w').grown hgrow (Nat.le_refl _) (fun k e => by cases e)
  go_loopw [3, 4, 13] (fun kv _ iv wr => ∃ (k g cap : Nat) (L : List UInt8), k ≤ e.size ∧ iv = .int .i64 k ∧ kv = .slice (some ⟨g, 0, none⟩) L.length cap ∧ L.length ≤ k ∧ Hid (L = digsL (e.data.toList.take k)) ∧ wr.ownsRow w'.heap.size 5 1 (.slice (some ⟨g, 0, none⟩) L.length cap) L.length (encB L) ∧ Below w'.heap.size w' wr) (fun _ _ iv _ => e.size - (intOf iv).toNat)
  case atStart => exact ⟨0, _, _, [], Nat.zero_le _, rfl, rfl, Nat.le_refl _, rfl, hown, hB1⟩
  case round =>
    clear hown hgrow hB1
    obtain ⟨k, g, cap, L, hk, rfl, rfl, hLk, hL, hown, hB⟩ := hrel
    by_cases hlt : k < e.size
    · have hsn := hide (take_snoc e k hlt)
      have hbz := hB.size
      cases hd : isDig (e[k].toNat : Int)
      · have HL := hide (show L = digsL (e.data.toList.take (k + 1)) by rw [unhide hsn, digsL_snoc_no _ _ hd]; exact unhide hL)
        have HO := hide hown
        have HB := hide hB
        clear hown hB
        go_wp2_with (go_at_call 53; refine (isDigit_any _ _).mono ?_; rintro x w'' ⟨rfl, rfl⟩)
        go_roundw
        case rel => exact ⟨k + 1, g, cap, L, by omega, by go_num, rfl, by omega, HL, unhide HO, unhide HB⟩
        case measure => simp [intOf]; omega
      · have HL := hide (show L ++ [e[k]] = digsL (e.data.toList.take (k + 1)) by rw [unhide hsn, digsL_snoc_yes _ _ hd, unhide hL])
        have HB := hide hB
        go_wp2_with fail
        refine (isDigit_any _ _).mono ?_
        rintro x w'' ⟨rfl, rfl⟩
        go_wp2_with (at_builtin; go_must (refine wpList_append_own _ rfl _ _ 80 rfl w'.heap.size 5 i0 (.int .u8 0) 1 1 Tryd.underlying80 hi hz0 hz1 hz2 rfl (by decide) _ _ _ rfl (hown.alloc _) ⟨w''.heap.size, 0, none⟩ 1 1 [.int .u8 (e[k].toNat : Int)] rfl rfl (cell_one_new _ _ _) (by simp [Value.oneCell']) (by unfold maxLen; omega) (by omega) (by simp; omega) ?_); intro v' w1 hown' hgrow _; obtain ⟨g', cap', rfl⟩ := ownsRow_succ hown'; have HO := hide hown'; have HG := hide (((unhide HB).alloc hbz _).grown hgrow (by simp; omega) (fun j e => by cases e; exact ownsRow_base' hown)); clear hown' hgrow hown hB)
        go_roundw
        case rel => exact ⟨k + 1, g', cap', L ++ [e[k]], by omega, by go_num, by rw [List.length_append]; rfl, by rw [List.length_append]; simp; omega, HL, by rw [List.length_append, show encB (L ++ [e[k]]) = encB L ++ [.int .u8 (e[k].toNat : Int)] by simp [encB]]; exact unhide HO, unhide HG⟩
        case measure => simp [intOf]; omega
    · have HF := hide (show (⟨L.toArray⟩ : ByteArray) = digs e from digs_of (by rw [unhide hL, List.take_of_length_le (by simp; omega)]))
      have hcv := run_convert_bytes_back (P := Tryd.prog) wr 80 9 5 ⟨g, 0, none⟩ cap L Tryd.underlying80 Tryd.underlying5 Tryd.underlying9 (fun j hj => hown.cells (g := g) rfl j _ (by simp [encB, hj]))
      have HB := hide hB
      clear hown hB
      go_wp2
      go_ret
      exact ⟨ret_str' (unhide HF), unhide HB⟩

end Go.Proofs.YtfnbclehlikbkaaDoor
