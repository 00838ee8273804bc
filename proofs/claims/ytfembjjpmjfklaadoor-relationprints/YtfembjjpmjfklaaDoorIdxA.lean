import Derived.Test.YtfembjjpmjfklaaDoorRelP
import Derived.Test.YtfembjjpmjfklaaDoorShelfZ
import Derived.Laws.RangeAny
import Derived.WalkKit
import Derived.Scope
import Derived.Lib.OthersKept
import Derived.Deep.RegionHeld3
namespace Go.Proofs.YtfembjjpmjfklaaDoor
open Go.RowKit

theorem get_byte (s : ByteArray) (i : Nat) (b : UInt8) (h : s.data.toList[i]? = some b) : s.get! i = b := by
  have hi : i < s.data.toList.length := (List.getElem?_eq_some_iff.1 h).1
  have hi' : i < s.size := by rw [size_list] at hi; exact hi
  rw [ByteArray.get!]
  have e : s.data[i]? = some b := by rw [← Array.getElem?_toList]; exact h
  rw [getElem!_def, e]

/-- OF A BYTE BEYOND ASCII: what is read at once are bytes beyond ASCII. -/
theorem decode_facts (s : ByteArray) (pos : Nat) (h : pos < s.size) (ha : 128 ≤ (s[pos]'h).toNat) :
    pos + (Utf8.decode s pos).2 ≤ s.size ∧ ∀ j, j < (Utf8.decode s pos).2 → ∀ b, s.data.toList[pos + j]? = some b → 128 ≤ b.toNat := by
  have hn : ¬ (s[pos]'h).toNat < 128 := by omega
  have z0 : ∀ b, s.data.toList[pos + 0]? = some b → 128 ≤ b.toNat := fun b hb => by
    have := get_byte s (pos + 0) b hb
    rw [get_at s pos h] at this
    rw [← this]
    exact ha
  have zk : ∀ k, decide (pos + k < s.size) = true → ((s.get! (pos + k)).toNat / 64 == 2) = true → ∀ b, s.data.toList[pos + k]? = some b → 128 ≤ b.toNat := fun k _ h2 b hb => by
    rw [get_byte s (pos + k) b hb] at h2
    have := eq_of_beq h2
    omega
  have one : ∀ (c : Nat), pos + ((c, 1) : Nat × Nat).2 ≤ s.size ∧ ∀ j, j < ((c, 1) : Nat × Nat).2 → ∀ b, s.data.toList[pos + j]? = some b → 128 ≤ b.toNat := fun c => ⟨by show pos + 1 ≤ s.size; omega, fun j hj b hb => by
    obtain rfl : j = 0 := by have : j < 1 := hj; omega
    exact z0 b hb⟩
  unfold Utf8.decode
  simp only [get_at s pos h, hn, if_false]
  split
  · rename_i h1
    simp only [Bool.and_eq_true] at h1
    split
    · refine ⟨by have := of_decide_eq_true h1.2.1; show pos + 2 ≤ s.size; omega, fun j hj b hb => ?_⟩
      have hj' : j < 2 := hj
      match j, hj' with
      | 0, _ => exact z0 b hb
      | 1, _ => exact zk 1 h1.2.1 h1.2.2 b hb
    · exact one _
  · split
    · rename_i _ h1
      simp only [Bool.and_eq_true] at h1
      split
      · refine ⟨by have := of_decide_eq_true h1.2.1; show pos + 3 ≤ s.size; omega, fun j hj b hb => ?_⟩
        have hj' : j < 3 := hj
        match j, hj' with
        | 0, _ => exact z0 b hb
        | 1, _ => exact zk 1 h1.1.2.1 h1.1.2.2 b hb
        | 2, _ => exact zk 2 h1.2.1 h1.2.2 b hb
      · exact one _
    · split
      · rename_i _ _ h1
        simp only [Bool.and_eq_true] at h1
        split
        · refine ⟨by have := of_decide_eq_true h1.2.1; show pos + 4 ≤ s.size; omega, fun j hj b hb => ?_⟩
          have hj' : j < 4 := hj
          match j, hj' with
          | 0, _ => exact z0 b hb
          | 1, _ => exact zk 1 h1.1.1.2.1 h1.1.1.2.2 b hb
          | 2, _ => exact zk 2 h1.1.2.1 h1.1.2.2 b hb
          | 3, _ => exact zk 3 h1.2.1 h1.2.2 b hb
        · exact one _
      · exact one _

/-- A RUNE BEYOND ASCII, AS BYTES: two or more, the last beyond ASCII. -/
theorem encode_high (r : Int) (h : 128 ≤ r) : 2 ≤ (Utf8.encode r).size ∧ (Utf8.encode r).size ≤ 4 ∧ ∀ b, (Utf8.encode r).data.toList[(Utf8.encode r).size - 1]? = some b → 128 ≤ b.toNat := by
  have key : ∀ c : Nat, (UInt8.ofNat (128 + c % 64)).toNat = 128 + c % 64 := fun c => by
    rw [UInt8.toNat_ofNat']
    omega
  unfold Utf8.encode
  simp only
  generalize hc : (if Utf8.valid r = true then r.toNat else Utf8.runeError) = c
  have hc128 : ¬ c < 128 := by
    rw [← hc]
    split
    · omega
    · decide
  rw [if_neg hc128]
  split
  · refine ⟨Nat.le_refl _, by show 2 ≤ 4; omega, fun b hb => ?_⟩
    have hb' : some (UInt8.ofNat (128 + c % 64)) = some b := hb
    rw [← Option.some.inj hb', key]
    omega
  · split
    · refine ⟨by show 2 ≤ 3; omega, by show 3 ≤ 4; omega, fun b hb => ?_⟩
      have hb' : some (UInt8.ofNat (128 + c % 64)) = some b := hb
      rw [← Option.some.inj hb', key]
      omega
    · refine ⟨by show 2 ≤ 4; omega, by show 4 ≤ 4; omega, fun b hb => ?_⟩
      have hb' : some (UInt8.ofNat (128 + c % 64)) = some b := hb
      rw [← Option.some.inj hb', key]
      omega

def Rb (e : Ending) : Prop := ∃ b, e = .returned (.bool b)
set_option maxHeartbeats 2000000 in
theorem validRune_some (r : Int) (w : World) : Calls Tryd.prog 129 #[.int .i32 r] w fun e w' => Rb e ∧ w' = w := by
  go_enter Tryd.func129, Tryd.ntmps129
  go_wp2
  all_goals
    go_ret
    exact ⟨⟨_, rfl⟩, rfl⟩

set_option maxRecDepth 100000 in
set_option maxHeartbeats 4000000 in
theorem indexRune_high (s : ByteArray) (r : Int) (w : World) (_ : s.size ≤ 8) (ha : ascR s) (h1 : 128 ≤ r) (h2 : r ≤ 2147483647) :
    Calls Tryd.prog 103 #[.string s, .int .i32 r] w fun e w' => e = .returned (.int .i64 (-1)) ∧ Below w.heap.size w w' := by
  have g1 : ¬ r < 128 := by omega
  by_cases hr : r = 65533
  · subst hr
    have HA := hide ha
    clear ha h1 h2
    go_enter Tryd.func103, Tryd.ntmps103
    go_wp2_with fail
    go_loopg [5, 6] s.size (fun g _ _ wx => ∃ i : Nat, i + g = s.size ∧ wx = w.iter s i)
    case atStart => exact ⟨0, by omega, rfl⟩
    case round =>
      obtain ⟨i, hig, rfl⟩ := hrel
      cases gk with
      | zero =>
        obtain rfl : i = s.size := by omega
        have hnx := run_next_end (P := Tryd.prog) w s s.size
        go_wp2
        go_ret
        exact ⟨rfl, (Below.refl _ _).alloc (Nat.le_refl _) _⟩
      | succ g =>
        have hi : i < s.size := by omega
        obtain ⟨x, hx⟩ : ∃ x : UInt8, s[i]'hi = x := ⟨_, rfl⟩
        have hx128 : x.toNat < 128 := unhide HA i x (by rw [← hx]; exact List.getElem?_eq_getElem (by rw [size_list]; exact hi))
        have hnx := fun ty => run_next_ascii (P := Tryd.prog) w s i ty hi (by rw [hx]; exact hx128)
        rw [hx] at hnx
        have hne : ((x.toNat : Int) == 65533) = false := beq_eq_false_iff_ne.2 (by omega)
        clear hx
        go_wp2_with fail
        go_roundg g
        case measure => omega
        case rel => exact ⟨i + 1, by omega, rfl⟩
  · have hr' : (r == 65533) = false := by simpa using hr
    go_enter Tryd.func103, Tryd.ntmps103
    go_wp2_with fail
    refine (validRune_some r _).mono ?_
    rintro e w1 ⟨⟨b, rfl⟩, rfl⟩
    cases b
    · go_wp2_with fail
      go_ret
      exact ⟨rfl, Below.refl _ _⟩
    · obtain ⟨k1, k2, k3⟩ := encode_high r h1
      have HK := hide k3
      clear k3
      go_wp2_with fail
      refine wp_scope_straight ?_
      go_wp2_with fail
      obtain ⟨m, hm⟩ : ∃ m : Nat, (Utf8.encode r).size = m + 1 := ⟨(Utf8.encode r).size - 1, by omega⟩
      generalize Utf8.encode r = rs at *
      obtain ⟨b, hb⟩ : ∃ b, rs.data.toList[m]? = some b := ⟨_, List.getElem?_eq_getElem (by rw [size_list]; omega)⟩
      have hb128 : 128 ≤ b.toNat := unhide HK b (by rw [hm]; exact hb)
      have hmr : m < rs.size := by omega
      have hms : m < 4 := by omega
      have he : ((rs.size : Int) - 1) = (m : Int) := by omega
      simp only [he]
      clear he hm k1 k2 HK
      go_loop [9] (fun i => i = .int .i64 m) (fun _ => 0)
      case atStart => rfl
      case round =>
        subst hrel
        by_cases hlt : m < s.size
        · obtain ⟨x, hx⟩ : ∃ x : UInt8, s[m]'hlt = x := ⟨_, rfl⟩
          obtain ⟨y, hy⟩ : ∃ y : UInt8, rs[m]'hmr = y := ⟨_, rfl⟩
          have hx128 : x.toNat < 128 := ha m x (by rw [← hx]; exact List.getElem?_eq_getElem (by rw [size_list]; exact hlt))
          have hy128 : 128 ≤ y.toNat := by
            have : rs.data.toList[m]? = some y := by rw [← hy]; exact List.getElem?_eq_getElem (by rw [size_list]; exact hmr)
            rw [hb] at this
            obtain rfl := Option.some.inj this
            exact hb128
          have hne : ((x.toNat : Int) == (y.toNat : Int)) = false := beq_eq_false_iff_ne.2 (by omega)
          have hne2 : ¬ (x.toNat = y.toNat) := by omega
          obtain ⟨M, hM⟩ : ∃ M : Nat, m + 1 = M := ⟨_, rfl⟩
          have hib : Lib.indexByte (s.extract M s.size).data.toList y = -1 := by
            rcases indexByte_spec (s.extract M s.size).data.toList y with ⟨h, _⟩ | ⟨i, hi, _, h, _⟩
            · exact h
            · exfalso
              have hmem := extract_sub s M s.size y (h ▸ List.getElem_mem hi)
              obtain ⟨j, hj, e⟩ := List.getElem_of_mem hmem
              have := ha j y (by rw [← e]; exact List.getElem?_eq_getElem hj)
              omega
          have c5 := hide (fun w => indexByte_any (s.extract M s.size) (y.toNat : Int) w)
          rw [show ((y.toNat : Int)).toNat.toUInt8 = y by simp, hib] at c5
          have hMs : M ≤ s.size := by omega
          have hmA : (0 : Int) ≤ (m : Int) := by omega
          have hmB : (m : Int) < (s.size : Int) := by omega
          have hmC : (m : Int) < (rs.size : Int) := by omega
          have hw0 : (m : Int) + 1 = (M : Int) := by omega
          have hw1 : wrap64 (M : Int) = (M : Int) := by unfold wrap64; omega
          have hw3 : IntKind.i64.wrap (M : Int) = (M : Int) := by simp [IntKind.wrap, IntKind.bits, IntKind.signed]; omega
          have hw2 : IntKind.i64.wrap ((m : Int) + 1) = (M : Int) := by rw [hw0]; exact hw3
          have hM0 : (0 : Int) ≤ (M : Int) := by omega
          have hM1 : (M : Int) ≤ (s.size : Int) := by omega
          go_wp2_with fail
          refine wp_scope_straight ?_
          go_wp2_with fail
          have DD : Below w1.heap.size w1 w1.drew := (Below.refl _ _).drew
          go_region_held3 (fun w' => Below w1.heap.size w1 w') (first | assumption | exact DD | exact Below.refl _ _ | go_keep)
              (first | (go_at_call 99999; fail))
          all_goals
            go_wp2_with fail
            have D0 : Below w1.heap.size w1 w1.drew := (Below.refl _ _).drew
            have D1 : Below w1.heap.size w1 w1.drew.drew := D0.drew
            go_region_held3 (fun w' => Below w1.heap.size w1 w') (first | assumption | exact D0.drew | exact D1.drew | go_keep)
              (first | (go_at_call 128; refine (unhide c5 _).mono ?_; rintro x w2 ⟨rfl, rfl⟩))
            all_goals
              have HB9 := hide (show Below w1.heap.size w1 _ by assumption)
              go_wp2_with fail
              change bodyPost Tryd.prog Tryd.f103 (fun e w' => e = Ending.returned (Value.int IntKind.i64 (-1)) ∧ Below w1.heap.size w1 w') Exit.ret _ _
              go_ret
              exact ⟨rfl, unhide HB9⟩
        · go_wp2_with fail
          go_ret
          exact ⟨rfl, Below.refl _ _⟩

theorem bl_tt {w w1 w2 : World} (h : Below w.heap.size w w1) (h2 : Below w1.heap.size w1 w2) : Below w.heap.size w w2 := h.trans (h2.mono h.size)

set_option maxRecDepth 100000 in
set_option maxHeartbeats 4000000 in
/-- strings.IndexAny OF A SHORT TEXT, WHATEVER ITS BYTES, at ASCII chars. -/
theorem indexAny_short (s chars : ByteArray) (w : World) (hc2 : 2 ≤ chars.size) (hc8 : chars.size ≤ 8) (h8 : s.size ≤ 8) (hac : ascR chars) :
    Calls Tryd.prog 76 #[.string s, .string chars] w fun e w' => e = .returned (.int .i64 (Lib.indexAny s.data.toList chars.data.toList)) ∧ Below w.heap.size w w' := by
  have HC := hide hac
  have hemp : chars.toList.isEmpty = false := by
    rw [Lib.toList_data]
    cases h : chars.data.toList with
    | nil => have := Lib.size_eq chars; rw [h, List.length_nil] at this; omega
    | cons _ _ => rfl
  have hn1 : ((chars.size : Int) == 1) = false := beq_eq_false_iff_ne.2 (by omega)
  have h8z : decide ((8 : Int) < (s.size : Int)) = false := decide_eq_false (by omega)
  have c0 := hide (fun n w => Any.strings_shouldUseASCIISet (P := Tryd.prog) { Tryd.lays153 with } n w)
  clear hac
  go_enter Tryd.func76, Tryd.ntmps76
  go_wp2_with (go_at_call 104; refine (unhide c0 _ _).mono ?_; rintro e w' ⟨rfl, hw⟩; rw [hw, h8z])
  go_loopg [9, 10] s.size (fun g _ _ wx => ∃ i : Nat, i + g = s.size ∧ Hid (Below w.heap.size w wx) ∧ Hid (wx.heap[w.heap.size]? = some (.stringIter s i)) ∧ Hid (Lib.NoAny s.data.toList chars.data.toList i))
  case atStart => exact ⟨0, by omega, hide ((Below.refl _ w).alloc (Nat.le_refl _) _), hide (by first | exact World.iter_heap _ _ _ | exact heap_alloc_new w _), hide (Lib.NoAny.zero _ _)⟩
  case round =>
    obtain ⟨i, hig, HB, HK, HN⟩ := hrel
    cases gk with
    | zero =>
      obtain rfl : i = s.size := by omega
      have hnx := fun ty => Lib.run_next_end_at (P := Tryd.prog) wr w.heap.size s s.size ty (unhide HK) (Nat.lt_irrefl _)
      have HF := hide (Lib.indexAny_none (s := s.data.toList) (chars := chars.data.toList) (by rw [size_list]; exact unhide HN))
      go_wp2_with fail
      go_ret
      rw [unhide HF]
      exact ⟨rfl, unhide HB⟩
    | succ g =>
      have hi : i < s.size := by omega
      obtain ⟨x, hx⟩ : ∃ x : UInt8, s[i]'hi = x := ⟨_, rfl⟩
      have hxl : s.data.toList[i]? = some x := by rw [← hx]; exact List.getElem?_eq_getElem (by rw [size_list]; exact hi)
      by_cases hx128 : x.toNat < 128
      · have hnx := fun ty => Lib.run_next_ascii_at (P := Tryd.prog) wr w.heap.size s i ty (unhide HK) hi (by rw [hx]; exact hx128)
        rw [hx] at hnx
        have HB2 := hide (Lib.below_iterAt (unhide HB) (Nat.le_refl w.heap.size) s (i + 1))
        have HK2 := hide (Lib.iterAt_heap wr w.heap.size s i (i + 1) (unhide HK))
        generalize wr.iterAt w.heap.size s (i + 1) = W2 at *
        have hcon := Lib.contains_iff_indexByte chars.data.toList x
        have c1 := hide (fun w => Any.strings_IndexRune_ascii (P := Tryd.prog) Tryd.lays152 chars (x.toNat : Int) w (by omega) (by omega))
        rw [show ((x.toNat : Int)).toNat.toUInt8 = x by simp] at c1
        clear hx
        cases hin : chars.data.toList.contains x
        · rw [hin] at hcon
          have hlt : ¬ ((0 : Int) ≤ Lib.indexByte chars.data.toList x) := of_decide_eq_false hcon.symm
          have HN2 := hide ((unhide HN).succ hxl hin)
          clear hcon hxl hin
          generalize Lib.indexByte chars.data.toList x = z at *
          go_wp2_with (first | (go_at_call 103; refine (unhide c1 _).mono ?_; rintro e w3 ⟨rfl, rfl⟩))
          go_roundg g
          case measure => omega
          case rel => exact ⟨i + 1, by omega, HB2, HK2, HN2⟩
        · rw [hin] at hcon
          have hge : (0 : Int) ≤ Lib.indexByte chars.data.toList x := of_decide_eq_true hcon.symm
          have HF := hide (Lib.indexAny_hit (unhide HN) hxl hin)
          clear hcon hxl hin
          generalize Lib.indexByte chars.data.toList x = z at *
          go_wp2_with (first | (go_at_call 103; refine (unhide c1 _).mono ?_; rintro e w3 ⟨rfl, rfl⟩))
          go_ret
          rw [unhide HF]
          exact ⟨rfl, unhide HB2⟩
      · have hnx := fun ty => Lib.run_next_any_at (P := Tryd.prog) wr w.heap.size s i ty (unhide HK) hi
        have hxh : 128 ≤ (s[i]'hi).toNat := by rw [hx]; omega
        obtain ⟨d1, d2⟩ := decode_high s i hi hxh
        have d3 := decode_le s i
        obtain ⟨d4, d5⟩ := decode_facts s i hi hxh
        have HN2 := hide (show Lib.NoAny s.data.toList chars.data.toList (i + (Utf8.decode s i).2) from fun j b hj hb => by
          by_cases hji : j < i
          · exact unhide HN j b hji hb
          · have hb128 := d5 (j - i) (by omega) b (by rw [show i + (j - i) = j by omega]; exact hb)
            cases hc : chars.data.toList.contains b with
            | false => rfl
            | true =>
              exfalso
              have hm : b ∈ chars.data.toList := by simpa using hc
              obtain ⟨k, hk, e⟩ := List.getElem_of_mem hm
              have := unhide HC k b (by rw [← e]; exact List.getElem?_eq_getElem hk)
              omega)
        have HB2 := hide (Lib.below_iterAt (unhide HB) (Nat.le_refl w.heap.size) s (i + (Utf8.decode s i).2))
        have HK2 := hide (Lib.iterAt_heap wr w.heap.size s i (i + (Utf8.decode s i).2) (unhide HK))
        have hW : (wr.iterAt w.heap.size s (i + (Utf8.decode s i).2)).heap.size = wr.heap.size := Lib.iterAt_size _ _ _ _
        have hwk : w.heap.size < wr.heap.size := (Array.getElem?_eq_some_iff.1 (unhide HK)).1
        generalize wr.iterAt w.heap.size s (i + (Utf8.decode s i).2) = W2 at *
        generalize Utf8.decode s i = dd at *
        obtain ⟨rr, ww⟩ := dd
        simp only at *
        have c1 := hide (fun w => indexRune_high chars (rr : Int) w hc8 (unhide HC) (by omega) (by omega))
        have HD := hide (And.intro d2 d4)
        clear d1 d2 d3 d4 d5 hx hxl hxh hx128
        go_wp2_with fail
        refine (unhide c1 _).mono ?_
        rintro e w3 ⟨rfl, hb3⟩
        have HB3 := hide (bl_tt (unhide HB2) hb3)
        have HK3 := hide ((hb3.block w.heap.size (by omega)).trans (unhide HK2))
        clear hb3
        go_wp2_with fail
        go_roundg (s.size - (i + ww))
        case measure => have := unhide HD; omega
        case rel => exact ⟨i + ww, by have := unhide HD; omega, HB3, HK3, HN2⟩

/-- strings.IndexAny OF ANY TEXT, at ASCII chars. -/
theorem indexAny_all (s chars : ByteArray) (w : World) (hs : s.size < 4294967281) (hc2 : 2 ≤ chars.size) (hc8 : chars.size ≤ 8) (hac : ascR chars) :
    Calls Tryd.prog 76 #[.string s, .string chars] w fun e w' => e = .returned (.int .i64 (Lib.indexAny s.data.toList chars.data.toList)) ∧ Below w.heap.size w w' := by
  by_cases h8 : s.size ≤ 8
  · exact indexAny_short s chars w hc2 hc8 h8 hac
  · have h116 : (Tryd.prog.info? (Tryd.lays153_ren.t 116)).map (fun i => (i.zero, i.size)) = some (some (.agg (Array.replicate 256 (.bool false))), 256) := by kernel_rfl
    refine (Any.strings_IndexAny_long Tryd.lays153 (zero_of_info h116).1 (zero_of_info h116).2 s chars w hc2 (by omega) hs (by omega) hac).mono fun e w' ⟨h1, h2⟩ => ⟨h1, ?_⟩
    rw [h2]
    exact ((Below.refl _ _).alloc (Nat.le_refl _) _).alloc (by simp) _

set_option maxHeartbeats 1000000 in
theorem containsAny_all (s chars : ByteArray) (w : World) (hs : s.size < 4294967281) (hc2 : 2 ≤ chars.size) (hc8 : chars.size ≤ 8) (hac : ascR chars) :
    Calls Tryd.prog 111 #[.string s, .string chars] w fun e w' => e = .returned (.bool (Lib.containsAny s.data.toList chars.data.toList)) ∧ Below w.heap.size w w' := by
  have c := hide (indexAny_all s chars w hs hc2 hc8 hac)
  clear hs hc2 hc8 hac
  go_enter Tryd.func111, Tryd.ntmps111
  go_wp2_with fail
  refine (unhide c).mono ?_
  rintro e w1 ⟨rfl, hb⟩
  have HB := hide hb
  clear hb
  go_wp2_with fail
  go_ret
  exact ⟨rfl, unhide HB⟩

end Go.Proofs.YtfembjjpmjfklaaDoor
