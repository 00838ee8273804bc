import Derived.Test.YtjmomdnlibfbkaaDoorAbB
namespace Go.Proofs.YtjmomdnlibfbkaaDoor
open Go.RowKit

theorem and7 (m : Nat) (h : m ≤ 4611686018427387904) : bits .and .i64 (m : Int) 7 = ((m % 8 : Nat) : Int) := by
  have h7 : (BitVec.ofInt 64 7).toNat = 2 ^ 3 - 1 := by decide
  have key : (BitVec.ofInt 64 (m : Int) &&& BitVec.ofInt 64 7).toNat = ((m : Int) % ((2 ^ 64 : Nat) : Int)).toNat % 2 ^ 3 := by
    rw [BitVec.toNat_and, BitVec.toNat_ofInt, h7, Nat.and_two_pow_sub_one_eq_mod]
  show IntKind.i64.wrap ((BitVec.ofInt 64 (m : Int) &&& BitVec.ofInt 64 7).toNat : Nat) = _
  rw [key, IntKind.wrap_i64]
  omega
theorem oct_front : ∀ (d n : Nat), oct (d + 1) n = dig (n / 8 ^ d) :: oct d n
  | 0, n => by simp [oct]
  | d + 1, n => by
    rw [oct, oct_front d (n / 8), oct, Nat.div_div_eq_div_mul, Nat.pow_succ, Nat.mul_comm 8]
    rfl
set_option maxRecDepth 100000 in
set_option maxHeartbeats 4000000 in
theorem layOctal_any {w : World} {g o k c n : Nat} {L : Bs} (h : By w g L) (hl : o + k ≤ L.length) (hk : k ≤ 512) (hc : k ≤ c) (hn : n ≤ 4611686018427387904) :
    Calls Tryd.prog 29 #[.slice (some ⟨g, o, none⟩) k c, .int .i64 n] w fun e w' => e = .returned (.tuple #[]) ∧ By w' g (put L o (oct k n)) ∧ Ow g w w' := by
  have H0 := hide (show By w g (put L (o + (k - 0)) (oct 0 n)) from by rw [oct, put_nil]; exact h)
  have OW := hide (Ow.refl g w)
  clear h
  go_enter Tryd.func29, Tryd.ntmps29
  have hw1 : IntKind.i64.wrap ((k : Int) - 1) = (k : Int) - 1 := IntWalk.i64_in _ (by omega)
  go_wp2_with fail
  go_loopg [1, 4] k (fun gq nv iv wr => ∃ d : Nat, iv = .int .i64 ((k : Int) - 1 - d) ∧ nv = .int .i64 ((n / 8 ^ d : Nat) : Int) ∧ d ≤ k ∧ k - d ≤ gq ∧ Hid (By wr g (put L (o + (k - d)) (oct d n))) ∧ Hid (Ow g w wr))
  case atStart => exact ⟨0, by simp, by simp, by omega, by omega, H0, OW⟩
  case round =>
    clear H0 OW
    obtain ⟨d, rfl, rfl, hd, hg, HB, HO⟩ := hrel
    by_cases hlt : d < k
    · have ha := and7 (n / 8 ^ d) (Nat.le_trans (Nat.div_le_self _ _) hn)
      have hge : (k : Int) - 1 - d ≥ 0 := by omega
      have hlk : (k : Int) - 1 - d < k := by omega
      have hp : o + (k - 1 - d) < L.length := by omega
      have hql : (put L (o + (k - d)) (oct d n)).length = L.length := put_len (by rw [oct_len]; omega)
      obtain ⟨qv, hq⟩ : ∃ qv : Value, wr.cell? ⟨g, o + (k - 1 - d), none⟩ = some qv := ⟨_, (unhide HB).at_ (o + (k - 1 - d)) _ (List.getElem?_eq_getElem (by rw [hql]; exact hp))⟩
      have hqf := (unhide HB).fr (o + (k - 1 - d))
      have HB2 := hide (show By (wr.setCell ⟨g, o + (k - 1 - d), none⟩ (cb (dig (n / 8 ^ d)))) g (put L (o + (k - (d + 1))) (oct (d + 1) n)) from by
        have := (unhide HB).set (p := o + (k - 1 - d)) (by rw [hql]; exact hp) (dig (n / 8 ^ d))
        rw [show o + (k - d) = o + (k - 1 - d) + 1 by omega, put_set (by rw [oct_len]; omega), ← oct_front] at this
        rw [show k - (d + 1) = k - 1 - d by omega]
        exact this)
      have HO2 := hide ((unhide HO).set (o + (k - 1 - d)) (cb (dig (n / 8 ^ d))))
      have hm2 : n / 8 ^ (d + 1) = n / 8 ^ d / 8 := by rw [Nat.pow_succ, Nat.div_div_eq_div_mul]
      have hcb : cb (dig (n / 8 ^ d)) = .int .u8 (48 + ((n / 8 ^ d : Nat) : Int) % 8) := by
        unfold cb
        rw [dig_nat]
        congr 1
      rw [hcb] at HB2 HO2
      have HM := hide hm2
      generalize n / 8 ^ d = m at *
      clear hcb hm2 hql hp HB HO
      go_wp2_with fail
      clear hq hqf
      go_roundg (k - (d + 1))
      case measure => omega
      case rel => exact ⟨d + 1, by congr 1; omega, by rw [unhide HM]; congr 1, by omega, by omega, HB2, HO2⟩
    · obtain rfl : d = k := by omega
      have hge : ¬ (d : Int) - 1 - d ≥ 0 := by omega
      have HF := hide (show By wr g (put L o (oct d n)) from by have := unhide HB; rw [Nat.sub_self, Nat.add_zero] at this; exact this)
      clear HB
      go_wp2_with fail
      go_end0
      exact ⟨rfl, unhide HF, unhide HO⟩
end Go.Proofs.YtjmomdnlibfbkaaDoor
