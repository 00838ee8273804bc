import Derived.Test.YtjmomdnlibfbkaaDoorAcA
namespace Go.Proofs.YtjmomdnlibfbkaaDoor
open Go.RowKit

set_option maxRecDepth 100000 in
set_option maxHeartbeats 4000000 in
theorem rzero_any {w : World} {v : Value} {l : Bs} (h : Rb w v l) (hl : l.length ≤ 2147483648) :
    Calls Tryd.prog 21 #[v] w fun e w' => e = .returned (.bool (allz l)) ∧ w' = w := by
  obtain ⟨a, c, rfl, hc⟩ := h.form
  have HA := hide (fun h0 => h.at h0)
  have HB := hide (fun i (hi : i < l.length) (hz : l[i] ≠ 0) => allz_bad hi hz)
  have HGd := hide (fun hz => allz_good (l := l) hz)
  obtain ⟨N, hN⟩ : ∃ N, l.length = N := ⟨_, rfl⟩
  have HN := hide hN
  rw [hN] at hl hc
  rw [hN]
  clear h hN
  go_enter Tryd.func21, Tryd.ntmps21
  go_wp2_with fail
  go_loopg [3] N (fun gq iv wr => ∃ i : Nat, iv = .int .i64 i ∧ i ≤ N ∧ N - i ≤ gq ∧ wr = w ∧ Hid (∀ j (hj : j < l.length), j < i → l[j] = 0))
  case atStart => exact ⟨0, by go_num, by omega, by omega, rfl, hide fun j hj h => absurd h (Nat.not_lt_zero _)⟩
  case round =>
    obtain ⟨i, rfl, hi, hg, rfl, HZ⟩ := hrel
    by_cases hlt : i < N
    · have hin : (i : Int) < (N : Int) := by omega
      have hil : i < l.length := by have := unhide HN; omega
      obtain ⟨b, o, rfl, _, hcell⟩ := unhide HA (by omega)
      have c0 := hcell i hil
      unfold cb at c0
      clear hcell
      by_cases hz : l[i] = 0
      · have hz2 : ((l[i].toNat : Nat) : Int) = 0 := by rw [hz]; rfl
        rw [hz2] at c0
        have HZ2 := hide (show ∀ j (hj : j < l.length), j < i + 1 → l[j] = 0 from fun j hj hji => by
          by_cases e : j = i
          · subst e; exact hz
          · exact unhide HZ j hj (by omega))
        clear HZ hz hz2
        go_wp2_with fail
        go_roundg (N - (i + 1))
        case measure => omega
        case rel => exact ⟨i + 1, by go_num, by omega, by omega, rfl, HZ2⟩
      · have hz2 : ¬ ((l[i].toNat : Nat) : Int) = 0 := fun e => hz (UInt8.toNat_inj.1 (by have e0 : (0 : UInt8).toNat = 0 := rfl; omega))
        have HF := hide (unhide HB i hil hz)
        generalize ((l[i].toNat : Nat) : Int) = q at *
        clear HZ hz
        go_wp2_with fail
        go_ret
        exact ⟨ret_bool (unhide HF).symm, rfl⟩
    · obtain rfl : i = N := by omega
      have hge : ¬ (i : Int) < (i : Int) := by omega
      have HF := hide (unhide HGd fun j hj => unhide HZ j hj (by have := unhide HN; omega))
      clear HZ
      go_wp2_with fail
      go_ret
      exact ⟨ret_bool (unhide HF).symm, rfl⟩
set_option maxRecDepth 100000 in
set_option maxHeartbeats 4000000 in
theorem laid_any {w0 w : World} {g o c : Nat} {L : Bs} {s : ByteArray} (h : Hd w0 w g L) (ho : o + s.size ≤ 512) :
    Calls Tryd.prog 47 #[.slice (some ⟨g, 0, none⟩) 512 c, .int .i64 o, .string s] w fun e w' => e = .returned (.tuple #[]) ∧ Hd w0 w' g (put L o s.data.toList) := by
  have hsz := size_list s
  have H0 := hide (show Hd w0 w g (put L o (s.data.toList.take 0)) from by rw [List.take_zero, put_nil]; exact h)
  have HL := hide h.len
  clear h
  go_enter Tryd.func47, Tryd.ntmps47
  go_wp2_with fail
  go_loopg [6] s.size (fun gq iv wr => ∃ i : Nat, iv = .int .i64 i ∧ i ≤ s.size ∧ s.size - i ≤ gq ∧ Hid (Hd w0 wr g (put L o (s.data.toList.take i))))
  case atStart => exact ⟨0, by go_num, by omega, by omega, H0⟩
  case round =>
    clear H0
    obtain ⟨i, rfl, hi, hg, HB⟩ := hrel
    by_cases hlt : i < s.size
    · have hin : (i : Int) < (s.size : Int) := by omega
      have htl : (s.data.toList.take i).length = i := by rw [List.length_take]; omega
      have hql := (unhide HB).len
      obtain ⟨qv, hq⟩ : ∃ qv : Value, wr.cell? ⟨g, o + i, none⟩ = some qv := ⟨_, (unhide HB).by_.at_ (o + i) _ (List.getElem?_eq_getElem (by rw [hql]; omega))⟩
      have hqf := (unhide HB).by_.fr (o + i)
      have HB2 := hide (show Hd w0 (wr.setCell ⟨g, o + i, none⟩ (.int .u8 (s[i].toNat : Int))) g (put L o (s.data.toList.take (i + 1))) from by
        have e : put L o (s.data.toList.take (i + 1)) = (put L o (s.data.toList.take i)).set (o + i) s[i] := by
          rw [List.take_succ_eq_append_getElem (by omega), put_snoc (by rw [htl, unhide HL]; omega), htl]
          rfl
        rw [e]
        exact ⟨(unhide HB).by_.set (p := o + i) (by rw [hql]; omega) s[i], by rw [List.length_set, hql], (unhide HB).ow.set _ _⟩)
      have hw1 : IntKind.i64.wrap ((o : Int) + (i : Int)) = (o : Int) + (i : Int) := IntWalk.i64_in _ (by omega)
      have hoi : (o : Int) + (i : Int) < 512 := by omega
      have hoi0 : 0 ≤ (o : Int) + (i : Int) := by omega
      have hoi2 : ((o : Int) + (i : Int)).toNat = o + i := by omega
      clear hql htl HB
      go_wp2_with fail
      clear hq hqf
      go_roundg (s.size - (i + 1))
      case measure => omega
      case rel => exact ⟨i + 1, by go_num, by omega, by omega, HB2⟩
    · obtain rfl : i = s.size := by omega
      have hge : ¬ (s.size : Int) < (s.size : Int) := by omega
      have HF := hide (show Hd w0 wr g (put L o s.data.toList) from by have := unhide HB; rw [← hsz, List.take_length] at this; exact this)
      clear HB
      go_wp2_with fail
      go_end0
      exact ⟨rfl, unhide HF⟩
set_option maxRecDepth 100000 in
set_option maxHeartbeats 4000000 in
theorem octal_any {w : World} {n k : Nat} (hn : n ≤ 4611686018427387904) (hk : k ≤ 512) (hg : Glob w) (ht : Lib.TabIs Tryd.prog w "internal/strconv.uint64pow10" .u64 Lib.pow10Tab) :
    Calls Tryd.prog 48 #[.int .i64 n, .int .i64 k] w fun e w' => e = .returned (.string (ba (oct k n))) ∧ Below w.heap.size w w' := by
  have CI := hide (fun (X : World) (m : Nat) (hX : Below w.heap.size w X) => cItoa (m % 8) X (by omega) (tab_later hg.big hX ht))
  clear hg ht
  go_enter Tryd.func48, Tryd.ntmps48
  go_wp2_with fail
  go_loopg [0, 5, 6] k (fun gq nv ov iv wr => ∃ i : Nat, nv = .int .i64 ((n / 8 ^ i : Nat) : Int) ∧ ov = .string (ba (oct i n)) ∧ iv = .int .i64 i ∧ i ≤ k ∧ k - i ≤ gq ∧ Hid (Below w.heap.size w wr))
  case atStart => exact ⟨0, by simp, rfl, by go_num, by omega, by omega, hide (Below.refl _ _)⟩
  case round =>
    obtain ⟨i, rfl, rfl, rfl, hi, hg, HW⟩ := hrel
    by_cases hlt : i < k
    · have hin : (i : Int) < (k : Int) := by omega
      have hm2 : n / 8 ^ (i + 1) = n / 8 ^ i / 8 := by rw [Nat.pow_succ, Nat.div_div_eq_div_mul]
      have hle := Nat.div_le_self n (8 ^ i)
      have HO := hide (show ba (Lib.decDigits (n / 8 ^ i % 8)) ++ ba (oct i n) = ba (oct (i + 1) n) from by rw [dec_dig, ba_app, oct_front]; rfl)
      have hcat : ¬ (9223372036854775807 < (ba (Lib.decDigits (n / 8 ^ i % 8))).size + (ba (oct i n)).size) := by
        rw [ba_size, ba_size, dec_dig, oct_len, List.length_singleton]
        omega
      have C := hide (unhide CI wr (n / 8 ^ i) (unhide HW))
      have HM := hide hm2
      generalize n / 8 ^ i = m at *
      clear hm2
      have HLO := hide (unhide HW).size
      go_wp2_with (first
        | (go_at_call 52; refine (unhide C).mono ?_; rintro e w1 ⟨rfl, b1⟩; have W1 := hide ((unhide HW).trans (b1.mono (unhide HLO))); clear b1 C HW))
      go_roundg (k - (i + 1))
      case measure => omega
      case rel => exact ⟨i + 1, by rw [unhide HM]; exact congrArg (Value.int IntKind.i64) (by omega), by rw [unhide HO], by go_num, by omega, by omega, W1⟩
    · obtain rfl : i = k := by omega
      have hge : ¬ (i : Int) < (i : Int) := by omega
      go_wp2_with fail
      go_ret
      exact ⟨rfl, unhide HW⟩
theorem fill_any (n : Nat) (w : World) (h : n ≤ 1073741824) : Calls Tryd.prog 24 #[.int .i64 n] w fun e w' => e = .returned (.int .i64 ((fill n - n : Nat) : Int)) ∧ w' = w := by
  have e : (512 - (n : Int) % 512) % 512 = ((fill n - n : Nat) : Int) := by have := fill_tmod n; omega
  have hw2 : IntKind.i64.wrap (512 - (n : Int) % 512) = 512 - (n : Int) % 512 := IntWalk.i64_in _ (by omega)
  go_enter Tryd.func24, Tryd.ntmps24
  go_wp2_with fail
  go_ret
  exact ⟨by rw [← e]; rfl, rfl⟩
end Go.Proofs.YtjmomdnlibfbkaaDoor
