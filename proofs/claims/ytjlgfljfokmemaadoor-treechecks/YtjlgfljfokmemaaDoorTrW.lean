import Derived.Test.YtjlgfljfokmemaaDoorTrP
import Derived.Test.YtjlgfljfokmemaaDoorShelfT
import Derived.Below
import Derived.WalkKit
import Derived.Deep.RegionHeld3
import Derived.Sort.BigQuietIn
import Derived.Handy
import Derived.Lib.LaidTab
import Derived.Lib.AppendIntMem
namespace Go.Proofs.YtjlgfljfokmemaaDoor
open Go.RowKit

theorem hide {p : Prop} (h : p) : Hid p := h
theorem unhide {p : Prop} (h : Hid p) : p := h
theorem bl_t {w w1 w2 : World} (h : Below w.heap.size w w1) (h2 : Below w1.heap.size w1 w2) : Below w.heap.size w w2 := h.trans (h2.mono h.size)
theorem bl_drewN (w : World) (n : Nat) : Below w.heap.size w (w.drewN n) := (Below.refl _ w).trans ⟨rfl, rfl, rfl, Nat.le_refl _, fun _ _ => rfl⟩
theorem ret_bool {a b : Bool} (h : a = b) : Ending.returned (.bool a) = .returned (.bool b) := by rw [h]

/-- WHAT THE GLOBALS HOLD. -/
structure Glob (w : World) : Prop where
  big : 7 < w.heap.size
  mx : ∃ m, w.cell? ⟨0, 0, none⟩ = some (.int .i64 m)
  sy : ∃ ev, w.cell? ⟨1, 0, none⟩ = some ev ∧ (ev = .nilIface ∨ ∃ te pe, ev = .iface te pe)
  rg : ∃ ev, w.cell? ⟨2, 0, none⟩ = some ev ∧ (ev = .nilIface ∨ ∃ te pe, ev = .iface te pe)
  tb : Lib.TabIs Tryd.prog w "internal/strconv.uint64pow10" .u64 Lib.pow10Tab
theorem tab_later {w w' : World} (hbig : 7 < w.heap.size) (hb : Below w.heap.size w w') (h : Lib.TabIs Tryd.prog w "internal/strconv.uint64pow10" .u64 Lib.pow10Tab) : Lib.TabIs Tryd.prog w' "internal/strconv.uint64pow10" .u64 Lib.pow10Tab := by
  have hg : Tryd.prog.globalNamed "internal/strconv.uint64pow10" = some 3 := by kernel_rfl
  unfold Lib.TabIs World.var? at h ⊢
  rw [hg] at h ⊢
  simp only [Option.bind_some] at h ⊢
  rw [hb.block 3 (by omega)]
  exact h
theorem Glob.later {w w' : World} (h : Glob w) (hb : Below w.heap.size w w') : Glob w' := by
  have hbig := h.big
  obtain ⟨m, hm⟩ := h.mx
  obtain ⟨e1, h1, k1⟩ := h.sy
  obtain ⟨e2, h2, k2⟩ := h.rg
  exact ⟨Nat.lt_of_lt_of_le h.big hb.size, ⟨m, (hb.cell (p := ⟨0, 0, none⟩) (by show 0 < w.heap.size; omega)).trans hm⟩,
    ⟨e1, (hb.cell (p := ⟨1, 0, none⟩) (by show 1 < w.heap.size; omega)).trans h1, k1⟩,
    ⟨e2, (hb.cell (p := ⟨2, 0, none⟩) (by show 2 < w.heap.size; omega)).trans h2, k2⟩, tab_later hbig hb h.tb⟩

theorem cSplit (s : ByteArray) (c : UInt8) (w : World) (hs : s.size < 4294967281) (hg : Glob w) :
    Calls Tryd.prog 22 #[.string s, .string ⟨#[c]⟩] w fun e w' => e = .returned (.slice (some ⟨w.heap.size, 0, none⟩) (pcs s c).length (pcs s c).length) ∧ w' = w.alloc (.cells ((pcs s c).map Value.string).toArray 9) := by
  obtain ⟨m, hm⟩ := hg.mx
  rw [pcs_len]
  exact Any.strings_Split Tryd.lays146 (by kernel_rfl) s ⟨#[c]⟩ m w hs hm (Nat.le_refl _)
theorem cAtoi (s : ByteArray) (w : World) (hs : s.size ≤ 281474976710656) (hg : Glob w) :
    Calls Tryd.prog 33 #[.string s] w fun e w' => (∃ er, e = .returned (.tuple #[.int .i64 (atv s.data.toList), er])) ∧ Below w.heap.size w w' := by
  cases h : Lib.atoiAll s.data.toList with
  | ok v =>
    refine (Any.strconv_Atoi_ok Tryd.laysC172 s (by omega) v h w).mono ?_
    rintro e w' ⟨rfl, hw⟩
    refine ⟨⟨.nilIface, by unfold atv; rw [h]⟩, ?_⟩
    rcases hw with rfl | ⟨t, rfl⟩
    · exact Below.refl _ _
    · exact Lib.bytesWorld_below _ _ _
  | «syntax» =>
    obtain ⟨ev, hv, hev⟩ := hg.sy
    refine (Any.strconv_Atoi_syntax Tryd.laysC172 s hs h ev w hv hev).mono ?_
    rintro e w' ⟨N, rfl, _, _, hb⟩
    exact ⟨⟨_, by unfold atv; rw [h]⟩, hb⟩
  | range =>
    obtain ⟨ev, hv, hev⟩ := hg.rg
    refine (Any.strconv_Atoi_range Tryd.laysC172 s hs h ev w hv hev).mono ?_
    rintro e w' ⟨N, rfl, _, _, hb⟩
    exact ⟨⟨_, by unfold atv; rw [h]⟩, hb⟩
theorem cItoa (n : Nat) (w : World) (hn : n ≤ 281474976710655) (hg : Glob w) :
    Calls Tryd.prog 28 #[.int .i64 n] w fun e w' => e = .returned (.string (ba (Lib.decDigits n))) ∧ Below w.heap.size w w' := by
  refine (Any.strconv_Itoa Tryd.laysM171 (n : Int) (by omega) (by omega) w hg.tb).mono ?_
  rintro e w' ⟨rfl, k, os, rfl⟩
  refine ⟨?_, Lib.below_grow _ w (Nat.le_refl _) k os⟩
  rw [show Lib.itoa (n : Int) = Lib.decDigits n by unfold Lib.itoa; rw [if_neg (by omega)]; simp]
  rfl
theorem cTrim (s : ByteArray) (w : World) :
    Calls Tryd.prog 32 #[.string s, .string ⟨#[110, 47]⟩] w fun e w' => e = .returned (.string (ba (tp s.data.toList))) ∧ w' = w :=
  Any.strings_TrimPrefix Tryd.lays101 s ⟨#[110, 47]⟩ w
theorem cPre (s : ByteArray) (w : World) :
    Calls Tryd.prog 23 #[.string s, .string ⟨#[116, 47]⟩] w fun e w' => e = .returned (.tuple #[.string (ba (Lib.trimPrefix s.data.toList [116, 47])), .bool (Lib.hasPrefix s.data.toList [116, 47])]) ∧ w' = w :=
  Any.strings_CutPrefix Tryd.lays103 s ⟨#[116, 47]⟩ w

theorem ib_hit (c : UInt8) (r : List UInt8) : ∀ a : List UInt8, c ∉ a → Lib.indexByte (a ++ c :: r) c = (a.length : Int)
  | [], _ => by simp [Lib.indexByte]
  | x :: a, h => by
    have hx : (x == c) = false := beq_eq_false_iff_ne.2 (fun e => h (e ▸ List.mem_cons_self))
    have ih := ib_hit c r a (fun e => h (List.mem_cons_of_mem _ e))
    rw [List.cons_append, Lib.indexByte, hx, ih]
    rw [if_neg (by simp), if_neg (by simp)]
    simp
theorem ib_miss (c : UInt8) : ∀ l : List UInt8, c ∉ l → Lib.indexByte l c = -1
  | [], _ => rfl
  | x :: a, h => by
    have hx : (x == c) = false := beq_eq_false_iff_ne.2 (fun e => h (e ▸ List.mem_cons_self))
    rw [Lib.indexByte, hx, ib_miss c a (fun e => h (List.mem_cons_of_mem _ e))]
    rfl
theorem ix_any (s : ByteArray) (w : World) :
    Calls Tryd.prog 48 #[.string s, .string ⟨#[46]⟩] w fun e w' => e = .returned (.int .i64 (Lib.indexByte s.data.toList 46)) ∧ w' = w :=
  Any.stringslite_Index_one { Tryd.lays145 with } s 46 w
theorem ib_cut (s : ByteArray) : (Lib.indexByte s.data.toList 46 = -1 ∧ ba (cF s.data.toList) = s ∧ ba (cS s.data.toList) = ⟨#[]⟩) ∨ ∃ i : Nat, i < s.size ∧ Lib.indexByte s.data.toList 46 = i ∧ s.extract 0 i = ba (cF s.data.toList) ∧ s.extract (i + 1) s.size = ba (cS s.data.toList) := by
  by_cases h : (46 : UInt8) ∈ s.data.toList
  · obtain ⟨a, r, hl, ha⟩ := first_of h
    obtain ⟨e1, e2⟩ := c_hit r a ha
    refine .inr ⟨a.length, ?_, ?_, ?_, ?_⟩
    · rw [← size_list, hl]
      simp
    · rw [hl]
      exact ib_hit 46 r a ha
    · apply ba_inj
      rw [ext_to, ba_list, hl, e1]
      simp
    · apply ba_inj
      rw [ext_from, ba_list, hl, e2]
      simp
  · obtain ⟨e1, e2⟩ := c_miss _ h
    rw [e1, e2]
    exact .inl ⟨ib_miss 46 _ h, ba_self s, rfl⟩
set_option maxHeartbeats 1000000 in
theorem cut_any (s : ByteArray) (w : World) (hs : s.size ≤ 9223372036854775807) :
    Calls Tryd.prog 40 #[.string s, .string ⟨#[46]⟩] w fun e w' => (∃ b, e = .returned (.tuple #[.string (ba (cF s.data.toList)), .string (ba (cS s.data.toList)), .bool b])) ∧ Below w.heap.size w w' := by
  have c1 := hide (fun w => ix_any s w)
  rcases ib_cut s with ⟨h1, h2, h3⟩ | ⟨i, hi, h1, h2, h3⟩
  · rw [h1] at c1
    rw [h2, h3]
    go_enter Tryd.func40, Tryd.ntmps40
    go_wp2_with fail
    refine (unhide c1 _).mono ?_
    rintro e w1 ⟨rfl, rfl⟩
    go_wp2_with fail
    go_ret3
    exact ⟨⟨_, rfl⟩, Below.refl _ _⟩
  · rw [h1] at c1
    rw [← h2, ← h3]
    clear h1 h2 h3
    have j0 : ¬ ((i : Int) < 0) := by omega
    have j1 : (0 : Int) ≤ (i : Int) := by omega
    have j2 : (i : Int) ≤ (s.size : Int) := by omega
    have j3 : (i : Int) + 1 ≤ (s.size : Int) := by omega
    have j4 : (0 : Int) ≤ (i : Int) + 1 := by omega
    have mixed : Tryd.prog.follows Departure.mixedOrders = true := Tryd.lays145.mixed
    go_enter Tryd.func40, Tryd.ntmps40
    go_wp2_with fail
    refine (unhide c1 _).mono ?_
    rintro e w1 ⟨rfl, rfl⟩
    go_wp2_with fail
    go_region_o
    go_wp2
    go_ret3
    exact ⟨⟨_, rfl⟩, bl_drewN _ 1⟩
theorem cCut (s : ByteArray) (w : World) (hs : s.size ≤ 9223372036854775807) :
    Calls Tryd.prog 31 #[.string s, .string ⟨#[46]⟩] w fun e w' => (∃ b, e = .returned (.tuple #[.string (ba (cF s.data.toList)), .string (ba (cS s.data.toList)), .bool b])) ∧ Below w.heap.size w w' := by
  have c1 := hide (fun w => cut_any s w hs)
  generalize ba (cF s.data.toList) = a at *
  generalize ba (cS s.data.toList) = b at *
  go_enter Tryd.func31, Tryd.ntmps31
  go_wp2_with fail
  refine (unhide c1 _).mono ?_
  rintro e w1 ⟨⟨b, rfl⟩, hb⟩
  have HB := hide hb
  clear hb
  go_wp2_with fail
  go_ret3
  exact ⟨⟨_, rfl⟩, unhide HB⟩

end Go.Proofs.YtjlgfljfokmemaaDoor
