import Derived.Test.YtohncccejlccbaaAsB
import Derived.Lib.SlTrimSet
import Derived.Lib.IndexMore
import Derived.Lib.Strings
import Derived.Below
import Derived.WalkKit
import Derived.Deep.RegionHeld3
import Derived.Sort.BigQuietIn
import Derived.Handy
import Derived.Laws.IdiomStrings
import Derived.Lib.ConvBytes
namespace Go.Proofs.Ytohncccejlccbaa
open Go.RowKit

theorem size_list (s : ByteArray) : s.data.toList.length = s.size := by simp
theorem ba_list (l : Bs) : (ba l).data.toList = l := rfl
theorem ba_size (l : Bs) : (ba l).size = l.length := by simp [ba, ByteArray.size]
def lowB (b : UInt8) : UInt8 := if 65 ≤ b.toNat ∧ b.toNat ≤ 90 then b + 32 else b
def small (s : Bs) : Bs := s.map lowB
theorem tl (s : ByteArray) : s.toList = s.data.toList := Lib.toList_data s
theorem ba_tl (l : Bs) : (ba l).toList = l := tl (ba l)
theorem ret_str {a b : ByteArray} (h : a = b) : Ending.returned (.string a) = .returned (.string b) := by rw [h]
theorem ret_bool {a b : Bool} (h : a = b) : Ending.returned (.bool a) = .returned (.bool b) := by rw [h]
/-- A TEXT'S BYTES IN NEW MEMORY. -/
theorem bytes_new (s : ByteArray) (w : World) : ∃ W1 cap, (convert 9 54 (.string s)).run Try.prog w = .ok (.slice (some ⟨w.heap.size, 0, none⟩) s.size cap) W1 ∧ (∀ j (hj : j < s.size), W1.cell? ⟨w.heap.size, j, none⟩ = some (.int .u8 (s[j].toNat : Int))) ∧ (∀ j, j < s.size → W1.frozen? ⟨w.heap.size, j, none⟩ = false) ∧ Below w.heap.size w W1 := by
  refine ⟨Lib.bytesWorld w 5 s, _, Lib.run_convert_string_bytes w 9 54 5 s Try.underlying9 Try.underlying54 Try.underlying5, ?_, ?_, ?_⟩
  · intro j hj
    rw [Lib.bytesWorld_cell w 5 s j hj]
    have : s.data.toList.getD j 0 = s[j] := by
      rw [List.getD_eq_getElem?_getD, List.getElem?_eq_getElem (by simpa using hj)]
      rfl
    rw [this]
  · intro j hj
    have hz : s.size ≤ (Lib.bytesCells w 5 s).size := by
      unfold Lib.bytesCells
      simp
    simp [World.frozen?, Lib.bytesWorld_at_new]
    omega
  · exact ⟨rfl, rfl, rfl, by rw [Lib.bytesWorld_size]; omega, fun k hk => Lib.bytesWorld_at_old w 5 s k hk⟩
theorem co (W : World) (a b : Addr) (v : Value) (h : a ≠ b) : (W.setCell a v).cell? b = W.cell? b := by
  rw [World.cell?_setCell_other]
  exact h
theorem lowB_no {b : UInt8} (h : ¬ (65 ≤ b.toNat ∧ b.toNat ≤ 90)) : lowB b = b := by
  unfold lowB
  rw [if_neg h]
theorem lowB_yes {b : UInt8} (h1 : 65 ≤ b.toNat) (h2 : b.toNat ≤ 90) : ((lowB b).toNat : Int) = b.toNat - 65 + 97 := by
  unfold lowB
  rw [if_pos ⟨h1, h2⟩, UInt8.toNat_add]
  have : (32 : UInt8).toNat = 32 := rfl
  omega
/-- THE FIRST k BYTES ARE SMALL LETTERS. -/
def smK (s : ByteArray) (k : Nat) (j : Nat) (hj : j < s.size) : UInt8 := if j < k then lowB s[j] else s[j]
theorem small_get (l : Bs) (j : Nat) (h : j < (small l).length) (h2 : j < l.length) : (small l)[j] = lowB l[j] := by simp [small]
set_option maxHeartbeats 2000000 in
theorem smallLetters_any (s : ByteArray) (w : World) (hs : s.size ≤ 9223372036854775807) :
    Calls Try.prog 21 #[.string s] w fun e w' => e = .returned (.string (ba (small s.data.toList))) ∧ Below w.heap.size w w' := by
  obtain ⟨W1, cap, hcv, hcell, hfr, hbel⟩ := bytes_new s w
  have HC := hide hcell
  have HFr := hide hfr
  have HB := hide hbel
  clear hcell hfr hbel
  go_enter Try.func21, Try.ntmps21
  go_wp2
  clear hcv
  go_loopw [10, 4, 5] (fun i _ _ wr => ∃ k : Nat, k ≤ s.size ∧ i = .int .i64 k ∧ Hid (∀ j (hj : j < s.size), wr.cell? ⟨w.heap.size, j, none⟩ = some (.int .u8 ((smK s k j hj).toNat : Int))) ∧ Hid (∀ j, j < s.size → wr.frozen? ⟨w.heap.size, j, none⟩ = false) ∧ Hid (Below w.heap.size w wr)) (fun i _ _ _ => s.size - (intOf i).toNat)
  case atStart =>
    refine ⟨0, Nat.zero_le _, rfl, hide fun j hj => ?_, HFr, HB⟩
    rw [unhide HC j hj]
    unfold smK
    rw [if_neg (by omega)]
  case round =>
    obtain ⟨k, hk, rfl, HZ, HR, HBl⟩ := hrel
    clear HC HFr HB
    by_cases hlt : k < s.size
    · have ck : wr.cell? ⟨w.heap.size, k, none⟩ = some (.int .u8 (s[k].toNat : Int)) := by
        have := unhide HZ k hlt
        unfold smK at this
        rw [if_neg (by omega)] at this
        exact this
      have fk := unhide HR k hlt
      by_cases hl : 65 ≤ s[k].toNat ∧ s[k].toNat ≤ 90
      · have e1 : (65 : Int) ≤ (s[k].toNat : Int) := by omega
        have e2 : (s[k].toNat : Int) ≤ 90 := by omega
        have HN := hide (show ∀ j (hj : j < s.size), (wr.setCell ⟨w.heap.size, k, none⟩ (.int .u8 ((s[k].toNat : Int) - 65 + 97))).cell? ⟨w.heap.size, j, none⟩ = some (.int .u8 ((smK s (k + 1) j hj).toNat : Int)) from fun j hj => by
          by_cases ej : j = k
          · subst ej
            rw [World.cell?_setCell_same' _ _ _ (by rw [ck]; rfl)]
            unfold smK
            rw [if_pos (by omega), lowB_yes hl.1 hl.2]
          · rw [co _ _ _ _ (by intro h; cases h; exact ej rfl), unhide HZ j hj]
            unfold smK
            by_cases hjk : j < k
            · rw [if_pos hjk, if_pos (by omega)]
            · rw [if_neg hjk, if_neg (by omega)])
        have HBl2 := hide ((unhide HBl).setCell (p := ⟨w.heap.size, k, none⟩) (Nat.le_refl _) (.int .u8 ((s[k].toNat : Int) - 65 + 97)))
        have HR2 := hide (show ∀ j, j < s.size → (wr.setCell ⟨w.heap.size, k, none⟩ (.int .u8 ((s[k].toNat : Int) - 65 + 97))).frozen? ⟨w.heap.size, j, none⟩ = false from fun j hj => by
          rw [World.frozen?_setCell]; exact unhide HR j hj)
        clear HZ HBl hl HR
        go_wp2
        go_roundw
        case rel =>
          exact ⟨k + 1, by omega, by go_num, HN, HR2, HBl2⟩
        case measure => simp [intOf]; omega
      · have HN := hide (show ∀ j (hj : j < s.size), wr.cell? ⟨w.heap.size, j, none⟩ = some (.int .u8 ((smK s (k + 1) j hj).toNat : Int)) from fun j hj => by
          rw [unhide HZ j hj]
          unfold smK
          by_cases hjk : j < k
          · rw [if_pos hjk, if_pos (by omega)]
          · rw [if_neg hjk]
            by_cases ej : j = k
            · subst ej
              rw [if_pos (by omega), lowB_no hl]
            · rw [if_neg (by omega)])
        clear HZ
        by_cases e1 : 65 ≤ s[k].toNat
        · have e2 : (65 : Int) ≤ (s[k].toNat : Int) := by omega
          have e3 : ¬ (s[k].toNat : Int) ≤ 90 := by omega
          clear hl e1
          go_wp2
          go_roundw
          case rel => exact ⟨k + 1, by omega, by go_num, HN, HR, HBl⟩
          case measure => simp [intOf]; omega
        · have e2 : ¬ (65 : Int) ≤ (s[k].toNat : Int) := by omega
          clear hl e1
          go_wp2
          go_roundw
          case rel => exact ⟨k + 1, by omega, by go_num, HN, HR, HBl⟩
          case measure => simp [intOf]; omega
    · have hlen : (small s.data.toList).length = s.size := by unfold small; rw [List.length_map, size_list]
      have hcv := run_convert_bytes_back (P := Try.prog) wr 54 9 5 ⟨w.heap.size, 0, none⟩ cap (small s.data.toList) Try.underlying54 Try.underlying5 Try.underlying9 (fun j hj => by
        have hj2 : j < s.size := by omega
        have e : (⟨w.heap.size, 0, none⟩ : Addr).add j = ⟨w.heap.size, j, none⟩ := by unfold Addr.add; split <;> simp_all
        rw [e, unhide HZ j hj2]
        unfold smK
        rw [if_pos (by omega)]
        have : (small s.data.toList)[j] = lowB s[j] := by
          rw [small_get _ j hj (by simpa using hj2)]
          rfl
        rw [this])
      rw [hlen] at hcv
      have HF := hide (show (⟨(small s.data.toList).toArray⟩ : ByteArray) = ba (small s.data.toList) from rfl)
      clear HZ hlen
      go_wp2
      go_ret
      exact ⟨ret_str (unhide HF), unhide HBl⟩
theorem lowB_yes' {b : UInt8} (h1 : 65 ≤ b.toNat) (h2 : b.toNat ≤ 90) : ((lowB b).toNat : Int) = b.toNat + 32 := by
  rw [lowB_yes h1 h2]
  omega
set_option maxHeartbeats 2000000 in
theorem rlower_any (s : ByteArray) (w : World) (hs : s.size ≤ 9223372036854775807) :
    Calls Try.prog 39 #[.string s] w fun e w' => e = .returned (.string (ba (small s.data.toList))) ∧ Below w.heap.size w w' := by
  obtain ⟨W1, cap, hcv, hcell, hfr, hbel⟩ := bytes_new s w
  have HC := hide hcell
  have HFr := hide hfr
  have HB := hide hbel
  clear hcell hfr hbel
  go_enter Try.func39, Try.ntmps39
  go_wp2
  clear hcv
  go_loopw [4] (fun i wr => ∃ k : Nat, k ≤ s.size ∧ i = .int .i64 k ∧ Hid (∀ j (hj : j < s.size), wr.cell? ⟨w.heap.size, j, none⟩ = some (.int .u8 ((smK s k j hj).toNat : Int))) ∧ Hid (∀ j, j < s.size → wr.frozen? ⟨w.heap.size, j, none⟩ = false) ∧ Hid (Below w.heap.size w wr)) (fun i _ => s.size - (intOf i).toNat)
  case atStart =>
    refine ⟨0, Nat.zero_le _, rfl, hide fun j hj => ?_, HFr, HB⟩
    rw [unhide HC j hj]
    unfold smK
    rw [if_neg (by omega)]
  case round =>
    obtain ⟨k, hk, rfl, HZ, HR, HBl⟩ := hrel
    clear HC HFr HB
    by_cases hlt : k < s.size
    · have ck : wr.cell? ⟨w.heap.size, k, none⟩ = some (.int .u8 (s[k].toNat : Int)) := by
        have := unhide HZ k hlt
        unfold smK at this
        rw [if_neg (by omega)] at this
        exact this
      have fk := unhide HR k hlt
      by_cases hl : 65 ≤ s[k].toNat ∧ s[k].toNat ≤ 90
      · have e1 : (65 : Int) ≤ (s[k].toNat : Int) := by omega
        have e2 : (s[k].toNat : Int) ≤ 90 := by omega
        have HN := hide (show ∀ j (hj : j < s.size), (wr.setCell ⟨w.heap.size, k, none⟩ (.int .u8 ((s[k].toNat : Int) + 32))).cell? ⟨w.heap.size, j, none⟩ = some (.int .u8 ((smK s (k + 1) j hj).toNat : Int)) from fun j hj => by
          by_cases ej : j = k
          · subst ej
            rw [World.cell?_setCell_same' _ _ _ (by rw [ck]; rfl)]
            unfold smK
            rw [if_pos (by omega), lowB_yes' hl.1 hl.2]
          · rw [co _ _ _ _ (by intro h; cases h; exact ej rfl), unhide HZ j hj]
            unfold smK
            by_cases hjk : j < k
            · rw [if_pos hjk, if_pos (by omega)]
            · rw [if_neg hjk, if_neg (by omega)])
        have HBl2 := hide ((unhide HBl).setCell (p := ⟨w.heap.size, k, none⟩) (Nat.le_refl _) (.int .u8 ((s[k].toNat : Int) + 32)))
        have HR2 := hide (show ∀ j, j < s.size → (wr.setCell ⟨w.heap.size, k, none⟩ (.int .u8 ((s[k].toNat : Int) + 32))).frozen? ⟨w.heap.size, j, none⟩ = false from fun j hj => by
          rw [World.frozen?_setCell]; exact unhide HR j hj)
        clear HZ HBl hl HR
        go_wp2
        go_roundw
        case rel =>
          exact ⟨k + 1, by omega, by go_num, HN, HR2, HBl2⟩
        case measure => simp [intOf]; omega
      · have HN := hide (show ∀ j (hj : j < s.size), wr.cell? ⟨w.heap.size, j, none⟩ = some (.int .u8 ((smK s (k + 1) j hj).toNat : Int)) from fun j hj => by
          rw [unhide HZ j hj]
          unfold smK
          by_cases hjk : j < k
          · rw [if_pos hjk, if_pos (by omega)]
          · rw [if_neg hjk]
            by_cases ej : j = k
            · subst ej
              rw [if_pos (by omega), lowB_no hl]
            · rw [if_neg (by omega)])
        clear HZ
        by_cases e1 : 65 ≤ s[k].toNat
        · have e2 : (65 : Int) ≤ (s[k].toNat : Int) := by omega
          have e3 : ¬ (s[k].toNat : Int) ≤ 90 := by omega
          clear hl e1
          go_wp2
          go_roundw
          case rel => exact ⟨k + 1, by omega, by go_num, HN, HR, HBl⟩
          case measure => simp [intOf]; omega
        · have e2 : ¬ (65 : Int) ≤ (s[k].toNat : Int) := by omega
          clear hl e1
          go_wp2
          go_roundw
          case rel => exact ⟨k + 1, by omega, by go_num, HN, HR, HBl⟩
          case measure => simp [intOf]; omega
    · have hlen : (small s.data.toList).length = s.size := by unfold small; rw [List.length_map, size_list]
      have hcv := run_convert_bytes_back (P := Try.prog) wr 54 9 5 ⟨w.heap.size, 0, none⟩ cap (small s.data.toList) Try.underlying54 Try.underlying5 Try.underlying9 (fun j hj => by
        have hj2 : j < s.size := by omega
        have e : (⟨w.heap.size, 0, none⟩ : Addr).add j = ⟨w.heap.size, j, none⟩ := by unfold Addr.add; split <;> simp_all
        rw [e, unhide HZ j hj2]
        unfold smK
        rw [if_pos (by omega)]
        have : (small s.data.toList)[j] = lowB s[j] := by
          rw [small_get _ j hj (by simpa using hj2)]
          rfl
        rw [this])
      rw [hlen] at hcv
      have HF := hide (show (⟨(small s.data.toList).toArray⟩ : ByteArray) = ba (small s.data.toList) from rfl)
      clear HZ hlen
      go_wp2
      go_ret
      exact ⟨ret_str (unhide HF), unhide HBl⟩
set_option maxHeartbeats 1000000 in
theorem rAlike_any (a b : ByteArray) (w : World) (ha : a.size ≤ 9223372036854775807) (hb : b.size ≤ 9223372036854775807) :
    Calls Try.prog 33 #[.string a, .string b] w fun e w' => e = .returned (.bool (decide (small a.data.toList = small b.data.toList))) ∧ Below w.heap.size w w' := by
  have c1 := hide (rlower_any a w ha)
  have c2 := hide (fun w1 => rlower_any b w1 hb)
  have HE := hide (show ∀ x y : Bs, ((ba x).toList == (ba y).toList) = decide (x = y) from fun x y => by
    rw [ba_tl, ba_tl]
    by_cases e : x = y
    · subst e; simp
    · rw [decide_eq_false e, beq_eq_false_iff_ne]
      exact e)
  generalize small a.data.toList = x at *
  generalize small b.data.toList = y at *
  go_enter Try.func33, Try.ntmps33
  go_wp2_with (first | (go_at_call 39; have _u := HB1; clear _u; refine (unhide c2 _).mono ?_; rintro e w2 ⟨rfl, hb2⟩; have HB2 := hide (bl_t (unhide HB1) hb2); clear hb2) | (go_at_call 39; refine (unhide c1).mono ?_; rintro e w1 ⟨rfl, hb1⟩; have HB1 := hide hb1; clear hb1))
  go_ret
  refine ⟨?_, unhide HB2⟩
  exact ret_bool (unhide HE x y)

end Go.Proofs.Ytohncccejlccbaa
