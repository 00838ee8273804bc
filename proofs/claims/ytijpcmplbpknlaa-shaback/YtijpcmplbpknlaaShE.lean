import Derived.Test.YtijpcmplbpknlaaShD
namespace Go.Proofs.Ytijpcmplbpknlaa
open Go.RowKit

set_option maxHeartbeats 1000000 in
theorem rhalf_any (n : Nat) (hn : n < 256) (w : World) :
    Calls Try.prog 11 #[.int .u8 n] w fun e w' => e = .returned (.int .u8 (hv n : Nat)) ∧ w' = w := by
  by_cases h1 : 48 ≤ n ∧ n ≤ 57
  · have a1 : (48 : Int) ≤ n := by omega
    have a2 : (n : Int) ≤ 57 := by omega
    have HV := hide (show hv n = n - 48 by unfold hv; rw [if_pos h1])
    go_enter Try.func11, Try.ntmps11
    go_wp2
    go_ret
    refine ⟨ret_u8 ?_, rfl⟩
    rw [unhide HV]
    omega
  · by_cases h2 : 97 ≤ n ∧ n ≤ 102
    · have a1 : (97 : Int) ≤ n := by omega
      have a2 : (n : Int) ≤ 102 := by omega
      have a3 : ¬ (n : Int) ≤ 57 := by omega
      have a4 : (48 : Int) ≤ n := by omega
      have HV := hide (show hv n = n - 87 by unfold hv; rw [if_neg h1, if_pos h2])
      go_enter Try.func11, Try.ntmps11
      go_wp2
      go_ret
      refine ⟨ret_u8 ?_, rfl⟩
      rw [unhide HV]
      omega
    · have HV := hide (show hv n = 16 by unfold hv; rw [if_neg h1, if_neg h2])
      have a1 : ¬ ((48 : Int) ≤ n ∧ (n : Int) ≤ 57) := by omega
      have a2 : ¬ ((97 : Int) ≤ n ∧ (n : Int) ≤ 102) := by omega
      go_enter Try.func11, Try.ntmps11
      go_wp2
      all_goals first | (exfalso; omega) | skip
      all_goals go_ret
      all_goals exact ⟨ret_u8 (by rw [unhide HV]; rfl), rfl⟩

theorem dg_nat : ∀ v < 16, (dg v).toNat = if v < 10 then 48 + v else 87 + v := by decide +kernel

set_option maxHeartbeats 1000000 in
theorem rdigit_any (n : Nat) (hn : n < 16) (w : World) :
    Calls Try.prog 12 #[.int .u8 n] w fun e w' => e = .returned (.int .u8 ((dg n).toNat : Int)) ∧ w' = w := by
  have HD := hide (dg_nat n hn)
  by_cases h1 : n < 10
  · have a1 : (n : Int) < 10 := by omega
    go_enter Try.func12, Try.ntmps12
    go_wp2
    go_ret
    refine ⟨ret_u8 ?_, rfl⟩
    rw [unhide HD, if_pos h1]
    omega
  · have a1 : ¬ (n : Int) < 10 := by omega
    go_enter Try.func12, Try.ntmps12
    go_wp2
    go_ret
    refine ⟨ret_u8 ?_, rfl⟩
    rw [unhide HD, if_neg h1]
    omega

theorem isH_hv {n : Nat} : isH n = decide (hv n ≠ 16) := rfl

set_option maxRecDepth 100000 in
set_option maxHeartbeats 1000000 in
theorem rParse_any (s : Bs) (w : World) :
    Calls Try.prog 7 #[.string (ba s)] w fun e w' => e = .returned (.tuple #[agB (prs s), .int .i64 (prn s)]) ∧ Below w.heap.size w w' := by
  have hsz : (ba s).size = s.length := by simp [ba, ByteArray.size]
  by_cases h64 : s.length = 64
  · have h64' : ((s.length : Nat) : Int) = 64 := by omega
    have hsz2 : (ba s).size = 64 := by rw [hsz, h64]
    go_enter Try.func7, Try.ntmps7
    go_wp2_with (first
      | (with_reducible refine w_alloc rfl rfl ?_; first | (intro w2 b2 l2 z2; have k2 := hide z2; clear z2; guard_hyp k2 : Hid (w2.heap.size = w.heap.size + 1)) | (intro w3 b3 l3 z3)))
    have hne : w.heap.size ≠ w2.heap.size := by have := unhide k2; omega
    have hge : w.heap.size ≤ w2.heap.size := by have := unhide k2; omega
    have HB := hide (l2.trans (l3.mono hge))
    have B0 := hide (b2.later l3)
    have B1 := hide (show Bk w3 w2.heap.size (rd s 0) by rw [rd_zero]; exact b3)
    generalize hG : w2.heap.size = g1 at *
    clear b2 b3 l2 l3 z3 k2 hG
    go_loopw [5] (fun iv wr => ∃ k : Nat, k ≤ 32 ∧ iv = .int .i64 k ∧ Hid (Bk wr g1 (rd s k)) ∧ Hid (Bk wr w.heap.size zr) ∧ Hid (Below w.heap.size w wr) ∧ Hid (∀ j, j < 2 * k → hv (cd s j) ≠ 16)) (fun iv _ => 32 - (intOf iv).toNat)
    case atStart => exact ⟨0, by omega, rfl, B1, B0, HB, hide (fun j h => by omega)⟩
    case round =>
      obtain ⟨k, hk, rfl, B1, B0, HB, HA⟩ := hrel
      by_cases hlt : k < 32
      · have q0 : 2 * k + 1 < (ba s).size := by omega
        have e1 : ∀ h, ((ba s)[2 * k]'h).toNat = cd s (2 * k) := fun h => by
          unfold cd; rw [List.getElem?_eq_getElem (by omega)]; rfl
        have e2 : ∀ h, ((ba s)[2 * k + 1]'h).toNat = cd s (2 * k + 1) := fun h => by
          unfold cd; rw [List.getElem?_eq_getElem (by omega)]; rfl
        have hP := pb_nat s k
        obtain ⟨a, ha⟩ : ∃ a, a = cd s (2 * k) := ⟨_, rfl⟩
        obtain ⟨b, hb⟩ : ∃ b, b = cd s (2 * k + 1) := ⟨_, rfl⟩
        rw [← ha] at e1 hP
        rw [← hb] at e2 hP
        have la : a < 256 := by rw [ha]; exact cd_lt _ _
        have lb : b < 256 := by rw [hb]; exact cd_lt _ _
        have Ha := hide ha
        have Hb := hide hb
        have C1 := hide (fun w => rhalf_any a la w)
        have C2 := hide (fun w => rhalf_any b lb w)
        have hla := hv_le a
        have hlb := hv_le b
        have K1 := hide (show hv a = 16 → okS s = false from fun e => by
          rw [← Bool.not_eq_true, okS_iff]
          exact fun h => h.2 (2 * k) (by omega) (by rw [← unhide Ha]; exact e))
        have K2 := hide (show hv b = 16 → okS s = false from fun e => by
          rw [← Bool.not_eq_true, okS_iff]
          exact fun h => h.2 (2 * k + 1) (by omega) (by rw [← unhide Hb]; exact e))
        have HA2 := hide (show hv a ≠ 16 → hv b ≠ 16 → ∀ j, j < 2 * (k + 1) → hv (cd s j) ≠ 16 from fun a2 b2 j hj => by
          by_cases h1 : j < 2 * k
          · exact unhide HA j h1
          · by_cases h2 : j = 2 * k
            · rw [h2, ← unhide Ha]; exact a2
            · obtain rfl : j = 2 * k + 1 := by omega
              rw [← unhide Hb]; exact b2)
        have HP := hide hP
        have hix := ix22 g1 k hlt
        clear h64 h64' ha hb q0 la lb Ha Hb HA hP
        generalize hv a = H at *
        generalize hv b = L at *
        by_cases ya : H = 16
        · have ya' : (H : Int) = 16 := by omega
          have HN := hide (unhide K1 ya)
          clear ya
          go_wp2_with (first
            | (with_reducible refine w_build rfl rfl ?_)
            | (with_reducible refine w_store _ _ rfl rfl w.heap.size rfl zr rfl rfl zr (unhide B0) ?_; intro w5 b5 o5 l5 z5)
            | (go_at_call_of 11 (Value.int .u8 (a : Int)); refine (unhide C1 _).mono ?_; rintro e w4 ⟨rfl, rfl⟩)
            | (go_at_call_of 11 (Value.int .u8 (b : Int)); refine (unhide C2 _).mono ?_; rintro e w4 ⟨rfl, rfl⟩))
          refine bodyPost_ret (v := .tuple #[agB zr, .int .i64 60]) (ret_cell rfl _ _ w.heap.size zr _ rfl b5 rfl) rfl ⟨?_, ?_⟩
          · unfold prs prn; rw [unhide HN]; rfl
          · exact (unhide HB).trans (l5 _ (Nat.le_refl _))
        · have ya' : ¬ (H : Int) = 16 := by omega
          by_cases yb : L = 16
          · have yb' : (L : Int) = 16 := by omega
            have HN := hide (unhide K2 yb)
            clear ya yb
            go_wp2_with (first
              | (with_reducible refine w_build rfl rfl ?_)
              | (with_reducible refine w_store _ _ rfl rfl w.heap.size rfl zr rfl rfl zr (unhide B0) ?_; intro w5 b5 o5 l5 z5)
              | (go_at_call_of 11 (Value.int .u8 (a : Int)); refine (unhide C1 _).mono ?_; rintro e w4 ⟨rfl, rfl⟩)
              | (go_at_call_of 11 (Value.int .u8 (b : Int)); refine (unhide C2 _).mono ?_; rintro e w4 ⟨rfl, rfl⟩))
            refine bodyPost_ret (v := .tuple #[agB zr, .int .i64 60]) (ret_cell rfl _ _ w.heap.size zr _ rfl b5 rfl) rfl ⟨?_, ?_⟩
            · unfold prs prn; rw [unhide HN]; rfl
            · exact (unhide HB).trans (l5 _ (Nat.le_refl _))
          · have yb' : ¬ (L : Int) = 16 := by omega
            have HA3 := hide (unhide HA2 ya yb)
            have hsum : (H : Int) * 16 + (L : Int) = ((pb s k).toNat : Int) := by rw [unhide HP ya yb]; omega
            have l1 : H < 16 := by omega
            have l2 : L < 16 := by omega
            have za : ((H : Int) == 16) = false := by simp; omega
            have zb : ((L : Int) == 16) = false := by simp; omega
            clear ya yb HA2 HP hla hlb K1 K2
            go_wp2_with (first
              | (with_reducible refine w_set _ _ rfl rfl g1 k rfl (pb s k) rfl hlt _ (unhide B1) ?_; intro w5 b5 o5 l5 z5)
              | (go_at_call_of 11 (Value.int .u8 (a : Int)); refine (unhide C1 _).mono ?_; rintro e w4 ⟨rfl, rfl⟩)
              | (go_at_call_of 11 (Value.int .u8 (b : Int)); refine (unhide C2 _).mono ?_; rintro e w4 ⟨rfl, rfl⟩))
            go_roundw
            case rel => exact ⟨k + 1, by omega, by go_num, hide (by rw [← rd_set s k hlt]; exact b5), hide ((unhide B0).of (o5 _ hne)), hide ((unhide HB).trans (l5 _ hge)), HA3⟩
            case measure => simp [intOf]; omega
      · obtain rfl : k = 32 := by omega
        have HN := hide (show okS s = true from (okS_iff s).2 ⟨h64, fun j hj => unhide HA j (by omega)⟩)
        go_wp2_with (first
          | (with_reducible refine w_load _ rfl rfl g1 rfl _ (unhide B1) ?_)
          | (with_reducible refine w_store _ _ rfl rfl w.heap.size rfl (rd s 32) rfl (rd_len _ _) zr (unhide B0) ?_; intro w5 b5 o5 l5 z5))
        refine bodyPost_ret (v := .tuple #[agB (rd s 32), .int .i64 0]) (ret_cell rfl _ _ w.heap.size (rd s 32) _ rfl b5 rfl) rfl ⟨?_, ?_⟩
        · unfold prs prn; rw [unhide HN]; rfl
        · exact (unhide HB).trans (l5 _ (Nat.le_refl _))
  · have HN := hide (show okS s = false from by rw [← Bool.not_eq_true, okS_iff]; exact fun h => h64 h.1)
    have h64' : ¬ ((s.length : Nat) : Int) = 64 := by omega
    go_enter Try.func7, Try.ntmps7
    go_wp2_with (first
      | (with_reducible refine w_alloc rfl rfl ?_; first | (intro w2 b2 l2 z2; have k2 := hide z2; clear z2; guard_hyp k2 : Hid (w2.heap.size = w.heap.size + 1)) | (intro w3 b3 l3 z3))
      | (with_reducible refine w_load _ rfl rfl w2.heap.size rfl _ b3 ?_)
      | (with_reducible refine w_store _ _ rfl rfl w.heap.size rfl zr rfl rfl zr (b2.later l3) ?_; intro w5 b5 o5 l5 z5))
    refine bodyPost_ret (v := .tuple #[agB zr, .int .i64 60]) (ret_cell rfl _ _ w.heap.size zr _ rfl b5 rfl) rfl ⟨?_, ?_⟩
    · unfold prs prn; rw [unhide HN]; rfl
    · exact (l2.trans (l3.mono (by have := unhide k2; omega))).trans (l5 _ (Nat.le_refl _))

end Go.Proofs.Ytijpcmplbpknlaa
