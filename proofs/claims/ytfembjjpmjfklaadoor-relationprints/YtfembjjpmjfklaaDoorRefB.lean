import Derived.Test.YtfembjjpmjfklaaDoorRefQ
import Derived.Lib.AppendStr
namespace Go.Proofs.YtfembjjpmjfklaaDoor
open Go.RowKit

theorem prN_small (n : ByteArray) : (prN n).1.size ≤ 1000 := by
  unfold prN
  split
  · exact Nat.zero_le _
  · rename_i h
    have h' : okName n = true := by simpa using h
    have : n.size ≤ 128 := okName_size h'
    show n.size ≤ 1000
    omega
theorem Sts.bigL {w : World} {v : Value} {al : List ByteArray} (h : Sts w v al) : al.length ≤ 9223372036854775807 := by
  obtain ⟨a, c, e, h2, _⟩ := h
  exact h2

set_option maxRecDepth 100000 in
set_option maxHeartbeats 4000000 in
theorem rPrintNames_any (al : List ByteArray) (v : Value) (w : World) (hv : Sts w v al) (hz : ∀ j (h : j < al.length), al[j].size ≤ maxLen) :
    Calls Tryd.prog 38 #[v] w fun e w' => e = .returned (.tuple #[.string (prNs al).1, .int .i64 (prNs al).2]) ∧ Below w.heap.size w w' := by
  obtain ⟨va, vc, rfl⟩ := hv.shape
  have hbig := hv.bigL
  have HV := hide hv
  have HZ := hide hz
  clear hv hz
  obtain ⟨N, hN⟩ : ∃ N, al.length = N := ⟨_, rfl⟩
  rw [hN] at HV hbig ⊢
  by_cases hmo : 1024 < N
  · have hmo' : (1024 : Int) < (N : Int) := by omega
    have HF := hide (show prNs al = (⟨#[]⟩, 24) by unfold prNs; exact prR_many _ _ _ _ _ (by omega))
    go_enter Tryd.func38, Tryd.ntmps38
    go_wp2_with fail
    go_ret2
    rw [unhide HF]
    exact ⟨rfl, Below.refl _ _⟩
  · have hmo' : ¬ ((1024 : Int) < (N : Int)) := by omega
    have HBad := hide (fun k (hk : k < al.length) (h0 : ∀ j (hj : j < al.length), j < k → (prN al[j]).2 = 0) (hn : (prN al[k]).2 ≠ 0) => show prNs al = (⟨#[]⟩, (prN al[k]).2) by unfold prNs; exact prR_bad (fun a => (prN a).1) (fun a => (prN a).2) al _ _ (by omega) k hk h0 hn)
    have HGood := hide (fun (h0 : ∀ j (hj : j < al.length), (prN al[j]).2 = 0) => show prNs al = (prK (fun a => (prN a).1) al ⟨#[44, 32]⟩ N, 0) by unfold prNs; rw [← hN]; exact prR_good (fun a => (prN a).1) (fun a => (prN a).2) al _ _ (by omega) h0 1000 (fun a _ => prN_small a) (by rw [hN, show 1000 + (⟨#[44, 32]⟩ : ByteArray).size = 1002 from rfl]; omega))
    have H0 := hide (prK_zero (fun a => (prN a).1) al ⟨#[44, 32]⟩)
    have H1 := hide (fun (h : 0 < al.length) => prK_one (fun a => (prN a).1) al ⟨#[44, 32]⟩ h)
    have HNx := hide (fun k (hk : k < al.length) (h0 : 0 < k) => prK_next (fun a => (prN a).1) al ⟨#[44, 32]⟩ k hk h0)
    have HLe := hide (fun k => show (prK (fun a => (prN a).1) al ⟨#[44, 32]⟩ k).size ≤ k * 1003 from Nat.le_trans (prK_le (fun a => (prN a).1) al ⟨#[44, 32]⟩ k 1000 (fun a _ => prN_small a)) (Nat.mul_le_mul_left _ (by decide)))
    generalize prK (fun a => (prN a).1) al ⟨#[44, 32]⟩ = pk at *
    go_enter Tryd.func38, Tryd.ntmps38
    go_wp2_with fail
    go_loopw [4, 5] (fun sv i wr => ∃ (k : Nat) (S : ByteArray), k ≤ N ∧ S.size ≤ k * 1003 ∧ sv = .string S ∧ i = .int .i64 k ∧ Hid (S = pk k) ∧ Hid (Below w.heap.size w wr) ∧ Hid (∀ j (hj : j < al.length), j < k → (prN al[j]).2 = 0)) (fun _ i _ => N - (intOf i).toNat)
    case atStart => exact ⟨0, ⟨#[]⟩, Nat.zero_le _, Nat.le_refl _, rfl, rfl, hide (unhide H0).symm, hide (Below.refl _ _), hide (fun j _ h => absurd h (Nat.not_lt_zero _))⟩
    case round =>
      obtain ⟨k, S, hk, hS, rfl, rfl, HS, HB, HE⟩ := hrel
      by_cases hlt : k < N
      · have hkl : k < al.length := by omega
        obtain ⟨b, o, rfl, hbl, q0⟩ := ((unhide HV).later (unhide HB)).elem k hkl
        have hsz := unhide HZ k hkl
        have c1 := hide (fun w => rCheckName_any al[k] w hsz)
        have HBad' := hide (unhide HBad k hkl (unhide HE))
        have HE' := hide (fun h => upto_nxG (fun a => (prN a).2 = 0) al k hkl (unhide HE) h)
        have HNx' := hide (unhide HNx k hkl)
        have H1' := hide (fun (h : k = 0) => show pk (0 + 1) = ⟨#[]⟩ ++ (prN al[k]).1 by subst h; exact unhide H1 hkl)
        have HPN := hide (show prN al[k] = if okName al[k] = false then (nob, 20) else (al[k], 0) from rfl)
        have HLe' := hide (unhide HLe (k + 1))
        generalize al[k] = tx at *
        clear HE hsz HBad H1 HNx
        by_cases he : okName tx = true
        · have hp : prN tx = (tx, 0) := by rw [unhide HPN, he]; rfl
          rw [ckName_yes tx he] at c1
          have hsm := okName_size he
          rw [hp] at HBad' HE' HNx' H1'
          simp only at HBad' HE' HNx' H1'
          have HE2 := hide (unhide HE' trivial)
          clear HE' HBad' HPN hp
          by_cases hk0 : k = 0
          · have hkp : ¬ ((0 : Int) < (k : Int)) := by omega
            have HS2 := hide (show S ++ tx = pk (k + 1) by rw [unhide HS, hk0, unhide H0, unhide H1' hk0])
            have hS2 : (S ++ tx).size ≤ (k + 1) * 1003 := by rw [ByteArray.size_append]; omega
            clear HNx' H1' hk0
            go_wp2_with fail
            refine (unhide c1 _).mono ?_
            rintro e w1 ⟨rfl, rfl⟩
            go_wp2_with fail
            go_roundw
            case rel => exact ⟨k + 1, S ++ tx, by omega, hS2, rfl, by go_num, HS2, HB, HE2⟩
            case measure => simp [intOf]; omega
          · have hkp : (0 : Int) < (k : Int) := by omega
            have HS2 := hide (show S ++ ⟨#[44, 32]⟩ ++ tx = pk (k + 1) by rw [unhide HS, unhide HNx' (by omega)])
            have hS2 : (S ++ ⟨#[44, 32]⟩ ++ tx).size ≤ (k + 1) * 1003 := by rw [unhide HS2]; exact unhide HLe'
            have hsep : (⟨#[44, 32]⟩ : ByteArray).size = 2 := rfl
            clear HNx' H1'
            go_wp2_with fail
            refine (unhide c1 _).mono ?_
            rintro e w1 ⟨rfl, rfl⟩
            go_wp2_with fail
            go_roundw
            case rel => exact ⟨k + 1, S ++ ⟨#[44, 32]⟩ ++ tx, by omega, hS2, rfl, by go_num, HS2, HB, HE2⟩
            case measure => simp [intOf]; omega
        · have he' : okName tx = false := by simpa using he
          have hp : prN tx = (⟨#[]⟩, 20) := by rw [unhide HPN, if_pos he']; rfl
          rw [ckName_no tx he'] at c1
          rw [hp] at HBad'
          simp only at HBad'
          have HF := hide (unhide HBad' (by decide))
          clear HE' HBad' HNx' H1' HPN hp
          go_wp2_with fail
          refine (unhide c1 _).mono ?_
          rintro e w1 ⟨rfl, rfl⟩
          go_wp2_with fail
          go_ret2
          rw [unhide HF]
          exact ⟨rfl, unhide HB⟩
      · obtain rfl : k = N := by omega
        have HF := hide (unhide HGood (fun j hj => unhide HE j hj (by omega)))
        rw [← unhide HS] at HF
        clear HE HBad HGood H0 H1 HNx HLe
        go_wp2_with fail
        go_ret2
        rw [unhide HF]
        exact ⟨rfl, unhide HB⟩

set_option maxHeartbeats 1000000 in
theorem rlong_any (s : ByteArray) (w : World) (hs : s.size ≤ maxLen) :
    Calls Tryd.prog 65 #[.string s] w fun e w' => e = .returned (.tuple #[.string (if 16777216 < s.size then ⟨#[]⟩ else s), .int .i64 (if 16777216 < s.size then 2 else 0)]) ∧ w' = w := by
  unfold maxLen at hs
  by_cases h : 16777216 < s.size
  · have h' : (16777216 : Int) < (s.size : Int) := by omega
    rw [if_pos h, if_pos h]
    go_enter Tryd.func65, Tryd.ntmps65
    go_wp2
    go_ret2
    exact ⟨rfl, rfl⟩
  · have h' : ¬ ((16777216 : Int) < (s.size : Int)) := by omega
    rw [if_neg h, if_neg h]
    go_enter Tryd.func65, Tryd.ntmps65
    go_wp2
    go_ret2
    exact ⟨rfl, rfl⟩

end Go.Proofs.YtfembjjpmjfklaaDoor
