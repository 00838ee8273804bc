import Derived.Test.YtjmomdnlibfbkaaDoorPthP
import Derived.Test.YtjmomdnlibfbkaaDoorShelfP
import Derived.Below
import Derived.WalkKit
import Derived.Deep.RegionHeld3
import Derived.Sort.BigQuietIn
import Derived.Handy
import Derived.Lib.LaidTab
import Derived.Lib.AppendIntMem
namespace Go.Proofs.YtjmomdnlibfbkaaDoor
open Go.RowKit

theorem hide {p : Prop} (h : p) : Hid p := h
theorem unhide {p : Prop} (h : Hid p) : p := h
theorem bl_t {w w1 w2 : World} (h : Below w.heap.size w w1) (h2 : Below w1.heap.size w1 w2) : Below w.heap.size w w2 := h.trans (h2.mono h.size)
theorem bl_drewN (w : World) (n : Nat) : Below w.heap.size w (w.drewN n) := (Below.refl _ w).trans ⟨rfl, rfl, rfl, Nat.le_refl _, fun _ _ => rfl⟩
theorem ret_bool {a b : Bool} (h : a = b) : Ending.returned (.bool a) = .returned (.bool b) := by rw [h]

/-- WHAT THE GLOBALS HOLD. -/
structure Glob (w : World) : Prop where
  big : 3 < w.heap.size
  mx : ∃ m, w.cell? ⟨0, 0, none⟩ = some (.int .i64 m)
theorem tab_later {w w' : World} (hbig : 3 < w.heap.size) (hb : Below w.heap.size w w') (h : Lib.TabIs Tryd.prog w "internal/strconv.uint64pow10" .u64 Lib.pow10Tab) : Lib.TabIs Tryd.prog w' "internal/strconv.uint64pow10" .u64 Lib.pow10Tab := by
  have hg : Tryd.prog.globalNamed "internal/strconv.uint64pow10" = some 1 := by kernel_rfl
  unfold Lib.TabIs World.var? at h ⊢
  rw [hg] at h ⊢
  simp only [Option.bind_some] at h ⊢
  rw [hb.block 1 (by omega)]
  exact h
theorem Glob.later {w w' : World} (h : Glob w) (hb : Below w.heap.size w w') : Glob w' := by
  have hbig := h.big
  obtain ⟨m, hm⟩ := h.mx
  exact ⟨Nat.lt_of_lt_of_le h.big hb.size, ⟨m, (hb.cell (p := ⟨0, 0, none⟩) (by show 0 < w.heap.size; omega)).trans hm⟩⟩

theorem inR_bad (lo hi : Nat) (s : ByteArray) (k : Nat) (hk : k < s.size) (h : ¬ (lo ≤ s[k].toNat ∧ s[k].toNat ≤ hi)) : inR lo hi s = false := by
  cases e : inR lo hi s
  · rfl
  · exfalso
    unfold inR at e
    rw [List.all_eq_true] at e
    have := e s[k] (List.getElem_mem (l := s.data.toList) (by rw [size_list]; exact hk))
    simp at this
    exact h this
theorem inR_all (lo hi : Nat) (s : ByteArray) (h : ∀ k (hk : k < s.size), lo ≤ s[k].toNat ∧ s[k].toNat ≤ hi) : inR lo hi s = true := by
  unfold inR
  rw [List.all_eq_true]
  intro b hb
  obtain ⟨i, hi, rfl⟩ := List.getElem_of_mem hb
  have := h i (by rw [← size_list]; exact hi)
  simp
  exact this

set_option maxHeartbeats 2000000 in
theorem allWithin_any (s : ByteArray) (lo hi : Nat) (w : World) (hs : s.size ≤ 9223372036854775807) :
    Calls Tryd.prog 40 #[.string s, .int .u8 lo, .int .u8 hi] w fun e w' => e = .returned (.bool (inR lo hi s)) ∧ Below w.heap.size w w' := by
  go_enter Tryd.func40, Tryd.ntmps40
  go_wp2_with fail
  go_loopw [10] (fun i wr => ∃ k : Nat, k ≤ s.size ∧ i = .int .i64 k ∧ Hid (Below w.heap.size w wr) ∧ Hid (∀ j (hj : j < s.size), j < k → lo ≤ s[j].toNat ∧ s[j].toNat ≤ hi)) (fun i _ => s.size - (intOf i).toNat)
  case atStart => exact ⟨0, Nat.zero_le _, rfl, hide (Below.refl _ _), hide (fun j _ h => absurd h (Nat.not_lt_zero _))⟩
  case round =>
    obtain ⟨k, hk, rfl, HB, HZ⟩ := hrel
    by_cases hlt : k < s.size
    · have HBad := hide (inR_bad lo hi s k hlt)
      have HN := hide (fun (h : lo ≤ s[k].toNat ∧ s[k].toNat ≤ hi) => show ∀ j (hj : j < s.size), j < k + 1 → lo ≤ s[j].toNat ∧ s[j].toNat ≤ hi from fun j hj hjk => by
        by_cases e : j < k
        · exact unhide HZ j hj e
        · obtain rfl : j = k := by omega
          exact h)
      by_cases h1 : s[k].toNat < lo
      · have h1' : ((s[k].toNat : Int) < (lo : Int)) := by omega
        have HF := hide (unhide HBad (by omega))
        clear HZ HBad HN
        go_wp2_with fail
        go_ret
        exact ⟨ret_bool (unhide HF).symm, unhide HB⟩
      · have h1' : ¬ ((s[k].toNat : Int) < (lo : Int)) := by omega
        by_cases h2 : hi < s[k].toNat
        · have h2' : ((hi : Int) < (s[k].toNat : Int)) := by omega
          have HF := hide (unhide HBad (by omega))
          clear HZ HBad HN
          go_wp2_with fail
          go_ret
          exact ⟨ret_bool (unhide HF).symm, unhide HB⟩
        · have h2' : ¬ ((hi : Int) < (s[k].toNat : Int)) := by omega
          have HZ' := hide (unhide HN ⟨by omega, by omega⟩)
          clear HZ HBad HN
          go_wp2_with fail
          go_roundw
          case rel => exact ⟨k + 1, by omega, by go_num, HB, HZ'⟩
          case measure => simp [intOf]; omega
    · have HF := hide (inR_all lo hi s (fun j hj => unhide HZ j hj (by omega)))
      clear HZ
      go_wp2_with fail
      go_ret
      exact ⟨ret_bool (unhide HF).symm, unhide HB⟩

theorem cSplit (s : ByteArray) (c : UInt8) (w : World) (hs : s.size < 4294967281) (hg : Glob w) :
    Calls Tryd.prog 49 #[.string s, .string ⟨#[c]⟩] w fun e w' => e = .returned (.slice (some ⟨w.heap.size, 0, none⟩) (pcs s c).length (pcs s c).length) ∧ w' = w.alloc (.cells ((pcs s c).map Value.string).toArray 9) := by
  obtain ⟨m, hm⟩ := hg.mx
  rw [pcs_len]
  exact Any.strings_Split Tryd.lays146 (by kernel_rfl) s ⟨#[c]⟩ m w hs hm (Nat.le_refl _)
theorem cCut (s : ByteArray) (c : UInt8) (w : World) (hs : s.size < 4294967281) (hg : Glob w) :
    Calls Tryd.prog 42 #[.string s, .string ⟨#[c]⟩] w fun e w' => (Lib.index s.data.toList [c] = -1 ∧ e = .returned (.tuple #[.string s, .string ⟨#[]⟩, .bool false]) ∨ ∃ i : Nat, Lib.index s.data.toList [c] = i ∧ i < s.size ∧ e = .returned (.tuple #[.string (s.extract 0 i), .string (s.extract (i + 1) s.size), .bool true])) ∧ Below w.heap.size w w' := by
  obtain ⟨m, hm⟩ := hg.mx
  refine (Any.strings_Cut Tryd.lays145 s ⟨#[c]⟩ m w hs hm).mono ?_
  rintro e w' ⟨rfl, n, rfl⟩
  refine ⟨?_, bl_drewN _ _⟩
  rcases Lib.indexB_cases s ⟨#[c]⟩ with hix | ⟨i, hix, hroom⟩
  · obtain ⟨e1, e2, e3⟩ := Lib.cutB_miss s ⟨#[c]⟩ hix
    rw [e1, e2, e3]
    exact .inl ⟨hix, rfl⟩
  · obtain ⟨e1, e2, e3⟩ := Lib.cutB_hit s ⟨#[c]⟩ i hix
    rw [e1, e2, e3]
    exact .inr ⟨i, hix, by have h1 : (⟨#[c]⟩ : ByteArray).size = 1 := rfl; omega, rfl⟩


theorem seg_eq (t : ByteArray) : seg t = (!(t.toList == []) && !(t.toList == [46]) && !(t.toList == [46, 46])) := by
  unfold seg
  rw [Lib.toList_data]
theorem segs_bad (s : ByteArray) (k : Nat) (hk : k < (pcs s 47).length) (h : seg (pcs s 47)[k] = false) : segs s = false := by
  cases e : segs s
  · rfl
  · unfold segs at e
    rw [List.all_eq_true] at e
    rw [e _ (List.getElem_mem hk)] at h
    cases h
theorem segs_good (s : ByteArray) (h : ∀ k (hk : k < (pcs s 47).length), seg (pcs s 47)[k] = true) : segs s = true := by
  unfold segs
  rw [List.all_eq_true]
  intro b hb
  obtain ⟨i, hi, rfl⟩ := List.getElem_of_mem hb
  exact h i hi

set_option maxHeartbeats 2000000 in
theorem hasSegments_any (s : ByteArray) (w : World) (hs : s.size < 4294967281) (hg : Glob w) :
    Calls Tryd.prog 41 #[.string s] w fun e w' => e = .returned (.bool (segs s)) ∧ Below w.heap.size w w' := by
  have c1 := hide (cSplit s 47 w hs hg)
  have HBad := hide (segs_bad s)
  have HGood := hide (segs_good s)
  have hl := pcs_len s 47
  have hcl := Lib.countB_le ⟨#[47]⟩ (Nat.le_refl _) s.size s (Nat.le_refl _)
  have hN0 : (pcs s 47).length ≤ 4294967282 := by omega
  clear hg hl hcl
  generalize pcs s 47 = ps at *
  generalize segs s = b at *
  obtain ⟨N, hN⟩ : ∃ N, ps.length = N := ⟨_, rfl⟩
  rw [hN] at c1 hN0
  go_enter Tryd.func41, Tryd.ntmps41
  go_wp2_with fail
  refine (unhide c1).mono ?_
  rintro e w1 ⟨rfl, hw1⟩
  have HB1 := hide (show Below w.heap.size w w1 by rw [hw1]; exact (Below.refl _ w).alloc (Nat.le_refl _) _)
  have HC := hide (show w.heap.size < w1.heap.size ∧ ∀ j (h : j < ps.length), w1.cell? ⟨w.heap.size, j, none⟩ = some (.string ps[j]) by
    rw [hw1]
    refine ⟨by simp, fun j h => ?_⟩
    rw [World.cell?_alloc_at _ _ _ _ rfl]
    simp [h])
  clear hw1 c1
  go_wp2_with fail
  go_loopw [8] (fun i wr => ∃ k : Nat, k ≤ N ∧ i = .int .i64 k ∧ Hid (Below w1.heap.size w1 wr) ∧ Hid (∀ j (hj : j < ps.length), j < k → seg ps[j] = true)) (fun i _ => N - (intOf i).toNat)
  case atStart => exact ⟨0, Nat.zero_le _, rfl, hide (Below.refl _ _), hide (fun j _ h => absurd h (Nat.not_lt_zero _))⟩
  case round =>
    obtain ⟨k, hk, rfl, HB, HZ⟩ := hrel
    by_cases hlt : k < N
    · have hkl : k < ps.length := by omega
      have hw := Nat.lt_of_lt_of_le (unhide HC).1 (unhide HB).size
      have hc := ((unhide HB).cell (p := ⟨w.heap.size, k, none⟩) (unhide HC).1).trans ((unhide HC).2 k hkl)
      have HBad' := hide (unhide HBad k hkl)
      have HN := hide (fun (h : seg ps[k] = true) => show ∀ j (hj : j < ps.length), j < k + 1 → seg ps[j] = true from fun j hj hjk => by
        by_cases e : j < k
        · exact unhide HZ j hj e
        · obtain rfl : j = k := by omega
          exact h)
      have HS := hide (seg_eq ps[k])
      generalize ps[k] = t at *
      clear HZ HBad HC
      by_cases e1 : t.toList = []
      · have HF := hide (unhide HBad' (by rw [unhide HS, e1]; rfl))
        clear HBad' HN HS
        go_wp2_with fail
        go_ret
        exact ⟨ret_bool (unhide HF).symm, bl_t (unhide HB1) (unhide HB)⟩
      · have e1' : (t.toList == []) = false := beq_eq_false_iff_ne.2 e1
        by_cases e2 : t.toList = [46]
        · have HF := hide (unhide HBad' (by rw [unhide HS, e2]; rfl))
          clear HBad' HN HS
          go_wp2_with fail
          go_ret
          exact ⟨ret_bool (unhide HF).symm, bl_t (unhide HB1) (unhide HB)⟩
        · have e2' : (t.toList == [46]) = false := beq_eq_false_iff_ne.2 e2
          by_cases e3 : t.toList = [46, 46]
          · have HF := hide (unhide HBad' (by rw [unhide HS, e3]; rfl))
            clear HBad' HN HS
            go_wp2_with fail
            go_ret
            exact ⟨ret_bool (unhide HF).symm, bl_t (unhide HB1) (unhide HB)⟩
          · have e3' : (t.toList == [46, 46]) = false := beq_eq_false_iff_ne.2 e3
            have HZ' := hide (unhide HN (by rw [unhide HS, e1', e2', e3']; rfl))
            clear HBad' HN HS
            go_wp2_with fail
            go_roundw
            case rel => exact ⟨k + 1, by omega, by go_num, HB, HZ'⟩
            case measure => simp [intOf]; omega
    · have HF := hide (unhide HGood (fun j hj => unhide HZ j hj (by omega)))
      clear HZ HBad HC HGood
      go_wp2_with fail
      go_ret
      exact ⟨ret_bool (unhide HF).symm, bl_t (unhide HB1) (unhide HB)⟩

theorem cItoa (n : Nat) (w : World) (hn : n ≤ 281474976710655) (ht : Lib.TabIs Tryd.prog w "internal/strconv.uint64pow10" .u64 Lib.pow10Tab) :
    Calls Tryd.prog 52 #[.int .i64 n] w fun e w' => e = .returned (.string (ba (Lib.decDigits n))) ∧ Below w.heap.size w w' := by
  refine (Any.strconv_Itoa Tryd.laysM171 (n : Int) (by omega) (by omega) w ht).mono ?_
  rintro e w' ⟨rfl, k, os, rfl⟩
  refine ⟨?_, Lib.below_grow _ w (Nat.le_refl _) k os⟩
  rw [show Lib.itoa (n : Int) = Lib.decDigits n by unfold Lib.itoa; rw [if_neg (by omega)]; simp]
  rfl
end Go.Proofs.YtjmomdnlibfbkaaDoor
