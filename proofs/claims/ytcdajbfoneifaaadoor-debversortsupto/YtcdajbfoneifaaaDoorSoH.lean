import Derived.Test.YtcdajbfoneifaaaDoorSoF
namespace Go.Proofs.YtcdajbfoneifaaaDoor
open Go.RowKit

set_option maxRecDepth 100000 in
set_option maxHeartbeats 4000000 in
theorem sym_mainB (w0 : World) (b o n cp V : Nat) (pv : Value) (c : Nat → Nat → Int) (S : Nat → Nat → Prop) (hO : Ord c S V) (hC : Cm w0 b pv c V) (hn : n < 70368744177664) (x m z : Nat) (f : Nat → Nat) (w : World) (hx : x < m) (hm : m < z) (hz : z ≤ n) (hV : ∀ k, k < n → f k < V)
    (hL : Srt S f x m) (hR : Srt S f m z) (hLR : Lss (· < ·) f x m m z) (hS : Sw w0 b o n f w) (N : Nat) (hSy : Sym w0 b o n cp V pv S N) (hN : z - x ≤ N + 1) (h0 : ¬ m = x + 1) (h1 : ¬ z = m + 1) (mid : Nat) (hmid : mid = (x + z) / 2) (hc : m ≤ mid) :
    Calls Tryd.prog 37 #[.slice (some ⟨b, o, none⟩) n cp, .int .i64 x, .int .i64 m, .int .i64 z, .func (.func 16) #[] #[pv]] w fun e w' => e = .returned (.tuple #[]) ∧ ∃ g, Sw w0 b o n g w' ∧ Pm f g x z ∧ Srt S g x z := by
  have S0 : Aside (Sw w0 b o n f w) := hS
  have HC : Aside _ := hC
  have HO : Aside _ := hO
  have HLR : Aside _ := hLR
  have HV : Aside _ := hV
  have HL : Aside _ := hL
  have HR : Aside _ := hR
  clear hS hC hO hL hR hLR hV
  have HSy : Aside _ := hSy
  clear hSy
  have q0 : ((m : Int) - (x : Int) == 1) = false := by simp; omega
  have q1 : ((z : Int) - (m : Int) == 1) = false := by simp; omega
  have m1 : x < mid := by omega
  have m2 : mid < z := by omega
  have m3 : ((x : Int) + (z : Int)) / 2 = (mid : Int) := by omega
  have m4 : 2 * mid ≤ x + z ∧ x + z ≤ 2 * mid + 1 := by omega
  have HZ : Hid (2 * mid ≤ x + z ∧ x + z ≤ 2 * mid + 1) := m4
  obtain ⟨pN, hpN⟩ : ∃ q : Nat, (mid : Int) + (m : Int) - 1 = (q : Int) := ⟨mid + m - 1, by omega⟩
  obtain ⟨lo, hlo⟩ : ∃ q : Nat, q = x := ⟨_, rfl⟩
  obtain ⟨hi, hhi⟩ : ∃ q : Nat, q = m := ⟨_, rfl⟩
  have lo1 : x ≤ lo := by omega
  have lo2 : lo ≤ hi := by omega
  have hi1 : hi ≤ m := by omega
  have lo3 : pN - lo < z := by omega
  have hi2 : m ≤ pN + 1 - hi := by omega
  have hi3 : hi ≤ mid := by omega
  have en1 : mid + m ≤ z + lo := by omega
  have HLO : Hid (lo = x ∧ hi = m ∧ ¬ m = x + 1 ∧ ¬ z = m + 1 ∧ mid = (x + z) / 2) := ⟨hlo, hhi, h0, h1, hmid⟩
  have n1 : ¬ (mid : Int) < (m : Int) := by omega
  have HX : Hid (lo = x ∧ hi = m) := ⟨hlo, hhi⟩
  clear m4 h0 h1 hmid hlo hhi
  go_enter Tryd.func37, Tryd.ntmps37
  go_wp2
  clear q0 q1 m3
  go_loopg [20, 21] (hi - lo) (fun g1 vi vj wr => ∃ (i j : Nat), vi = .int .i64 i ∧ vj = .int .i64 j ∧ lo ≤ i ∧ i ≤ j ∧ j ≤ hi ∧ j - i ≤ g1 ∧ Aside (Sw w0 b o n f wr) ∧ Hid ((∀ k, lo ≤ k → k < i → S (f k) (f (pN - k))) ∧ (∀ k, j ≤ k → k < hi → S (f (pN - k)) (f k))))
  case atStart => exact ⟨lo, hi, by obtain ⟨e1, e2⟩ := HX.out; first | rfl | go_num | (congr 1; omega), by obtain ⟨e1, e2⟩ := HX.out; first | rfl | go_num | (congr 1; omega), by omega, by omega, by omega, by omega, S0, (show _ ∧ _ from ⟨fun k h1 h2 => by omega, fun k h1 h2 => by omega⟩)⟩
  case round =>
    clear S0
    obtain ⟨i, j, rfl, rfl, hli, hij, hj, hg1, S1, HK⟩ := hrel
    by_cases hlt : i < j
    · have hltz : (i : Int) < (j : Int) := by omega
      obtain ⟨h, hh, hih, hhj⟩ : ∃ h : Nat, ((i : Int) + (j : Int)) / 2 = (h : Int) ∧ i ≤ h ∧ h < j := ⟨(i + j) / 2, by omega, by omega, by omega⟩
      obtain ⟨qr, hq, hq1, hq2⟩ : ∃ q : Nat, (pN : Int) - (h : Int) = (q : Int) ∧ m ≤ q ∧ q < z := ⟨pN - h, by omega, by omega, by omega⟩
      have bh : (h : Int) < (n : Int) := by omega
      have bx : (qr : Int) < (n : Int) := by omega
      have rq : IntKind.i64.wrap ((pN : Int) - (h : Int)) = (pN : Int) - (h : Int) := by rw [IntKind.wrap_i64]; omega
      have pq : (0 : Int) ≤ (pN : Int) - (h : Int) := by omega
      have bq : (pN : Int) - (h : Int) < (n : Int) := by omega
      have eq : ((pN : Int) - (h : Int)).toNat = qr := by omega
      have pq2 : (h : Int) ≤ (pN : Int) := by omega
      have HQ : Hid (qr = pN - h) := by show _ = _; omega
      clear hq
      have B0 := hide ((Below.refl wr.heap.size wr).drew)
      have HP := hide (S1.out.two qr h (by omega) (by omega))
      have c1 := hide (Cm.at HC.out S1.out qr h (HV.out qr (by omega)) (HV.out h (by omega)))
      have HSw := hide (fun (w' : World) (hb : Below wr.heap.size wr w') => S1.out.below hb)
      have HY : Hid (c (f qr) (f h) < 0 → S (f qr) (f h)) := fun q => HO.out.yes _ _ (HV.out qr (by omega)) (HV.out h (by omega)) (by exact HLR.out h qr (by omega) (by omega) (by omega) (by omega)) q
      have HN : Hid (¬ c (f qr) (f h) < 0 → S (f h) (f qr)) := fun q => HO.out.no _ _ (HV.out qr (by omega)) (HV.out h (by omega)) (by exact HLR.out h qr (by omega) (by omega) (by omega) (by omega)) q
      clear S1
      obtain ⟨vp, hvp⟩ : ∃ q, q = f qr := ⟨_, rfl⟩
      obtain ⟨vq, hvq⟩ : ∃ q, q = f h := ⟨_, rfl⟩
      rw [← hvp, ← hvq] at HP c1
      have HE1 : Hid (vp = f qr ∧ vq = f h) := ⟨hvp, hvq⟩
      rw [← hvp, ← hvq] at HY HN
      clear hvp hvq
      by_cases hlv : c vp vq < 0
      · have hd : decide (c vp vq < 0) = true := decide_eq_true hlv
        go_wp2_with fail
        go_region_held3 (fun w' => w'.cell? ⟨b, o + qr, none⟩ = some (.int .i64 vp) ∧ w'.cell? ⟨b, o + h, none⟩ = some (.int .i64 vq)) (first | exact unhide HP _ (unhide B0) | exact unhide HP _ (unhide B1)) (first | (go_at_call 16; refine (unhide c1 _ (unhide B0)).mono ?_; rintro x w11 ⟨rfl, hb11⟩; have B1 := hide ((unhide B0).trans (hb11.mono (unhide B0).size)); clear hb11))
        have S3 : Aside _ := unhide HSw _ (unhide B1)
        clear HP c1 HSw B0 B1
        rename_i hHeld
        clear hHeld
        go_wp2_with fail
        go_roundg (h - i)
        case measure => omega
        case rel => exact ⟨i, h, rfl, by go_num, hli, hih, by omega, by omega, S3, (show _ ∧ _ from ⟨HK.out.1, fun k g1 g2 => by
            have y := HY.out hlv
            rw [HE1.out.1, HE1.out.2, HQ.out] at y
            by_cases e : k = h
            · subst e; exact y
            · exact HO.out.tr _ _ _ (HO.out.tr _ _ _ (HR.out (pN - k) (pN - h) (by omega) (by omega) (by omega)) y) (HL.out h k (by omega) (by omega) (by omega))⟩)⟩
      · have hd : decide (c vp vq < 0) = false := decide_eq_false hlv
        go_wp2_with fail
        go_region_held3 (fun w' => w'.cell? ⟨b, o + qr, none⟩ = some (.int .i64 vp) ∧ w'.cell? ⟨b, o + h, none⟩ = some (.int .i64 vq)) (first | exact unhide HP _ (unhide B0) | exact unhide HP _ (unhide B1)) (first | (go_at_call 16; refine (unhide c1 _ (unhide B0)).mono ?_; rintro x w11 ⟨rfl, hb11⟩; have B1 := hide ((unhide B0).trans (hb11.mono (unhide B0).size)); clear hb11))
        have S3 : Aside _ := unhide HSw _ (unhide B1)
        clear HP c1 HSw B0 B1
        rename_i hHeld
        clear hHeld
        go_wp2_with fail
        go_roundg (j - (h + 1))
        case measure => omega
        case rel => exact ⟨h + 1, j, by go_num, rfl, by omega, by omega, hj, by omega, S3, (show _ ∧ _ from ⟨fun k g1 g2 => by
            have y := HN.out hlv
            rw [HE1.out.1, HE1.out.2, HQ.out] at y
            by_cases e : k = h
            · subst e; exact y
            · exact HO.out.tr _ _ _ (HO.out.tr _ _ _ (HL.out k h (by omega) (by omega) (by omega)) y) (HR.out (pN - h) (pN - k) (by omega) (by omega) (by omega)), HK.out.2⟩)⟩
    · have hltz : ¬ (i : Int) < (j : Int) := by omega
      obtain ⟨en, hen⟩ : ∃ q : Nat, (mid : Int) + (m : Int) - (i : Int) = (q : Int) := ⟨mid + m - i, by omega⟩
      have he1 : m ≤ en := by omega
      have he2 : en ≤ z := by omega
      have hi4 : i ≤ m := by omega
      have he3 : mid ≤ en := by omega
      have hi5 : i ≤ mid := by omega
      have hi6 : x ≤ i := by omega
      have HM : Hid (Srt S (rot f i m en) x i ∧ Srt S (rot f i m en) i mid ∧ Srt S (rot f i m en) mid en ∧ Srt S (rot f i m en) en z ∧ Lss S (rot f i m en) x mid mid z ∧ Pm f (rot f i m en) x z ∧ Lss (· < ·) (rot f i m en) x i i mid ∧ Lss (· < ·) (rot f i m en) mid en en z) := by
        have e1 : en = mid + m - i := by omega
        have e2 : pN = mid + m - 1 := by omega
        obtain ⟨g1, g2, hc0⟩ := HLO.out
        have hz1 := HZ.out
        have r1 : ∀ k, k < i → rot f i m en k = f k := fun k hk => by unfold rot; rw [if_neg (by omega), if_neg (by omega)]
        have r2 : ∀ k, i ≤ k → k < mid → rot f i m en k = f (k + (m - i)) := fun k h1 h2 => by unfold rot; rw [if_pos (by omega)]
        have r3 : ∀ k, mid ≤ k → k < en → rot f i m en k = f (k - (mid - i)) := fun k h1 h2 => by unfold rot; rw [if_neg (by omega), if_pos (by omega)]; congr 1; omega
        have r4 : ∀ k, en ≤ k → rot f i m en k = f k := fun k hk => by unfold rot; rw [if_neg (by omega), if_neg (by omega)]
        have mm := merge_mid (S := S) (f := f) (a := x) (m := m) (b := z) (mid := mid) (st := i) HO.out.tr HL.out HR.out (by omega) (by omega) hi6 hi4 (by omega) (by omega) (fun k k1 k2 k3 k4 => by
          rw [show mid + m - 1 - k = pN - k by omega]; exact HK.out.1 k (by omega) k2) (fun k k1 k2 k3 k4 k5 => by
          rw [show mid + m - 1 - k = pN - k by omega]; exact HK.out.2 k (by omega) (by omega))
        rw [← e1] at mm
        refine ⟨mm.1, mm.2.1, mm.2.2.1, mm.2.2.2.1, mm.2.2.2.2, Pm.rot (by omega) (by omega) (by omega) (by omega), fun k l k1 k2 k3 k4 => ?_, fun k l k1 k2 k3 k4 => ?_⟩
        · rw [r1 k k2, r2 l k3 k4]; exact HLR.out _ _ (by omega) (by omega) (by omega) (by omega)
        · rw [r3 k k1 k2, r4 l k3]; exact HLR.out _ _ (by omega) (by omega) (by omega) (by omega)
      clear HK HLO HL HR HLR HZ
      have HV1 : Aside (∀ k, k < n → rot f i m en k < V) := vals_pm HM.out.2.2.2.2.2.1 (by omega) HV.out
      have HR0 : Hid (¬ (i < m ∧ m < en) → rot f i m en = f) := fun hn0 => rot_same f i m en hi4 he1 (by omega)
      clear HV
      generalize hF : rot f i m en = f1 at *
      have HF : Hid (rot f i m en = f1) := hF
      clear hF lo1 lo2 hi1 lo3 hi2 hi3 en1 hc hli hij hj hg1
      obtain ⟨BA, HBA⟩ : ∃ q : Bool, Hid (q = decide (i < m ∧ m < en)) := ⟨_, rfl⟩
      go_upto_region 39 with fail
      go_cut [185] from 178 to 185 (fun s185 wc => s185 = .bool BA ∧ Aside (Sw w0 b o n f wc))
      case first =>
        by_cases c1 : i < m
        · have c1z : (i : Int) < (m : Int) := by omega
          by_cases c2 : m < en
          · have c2z : (m : Int) < (en : Int) := by omega
            have cb : decide (i < m ∧ m < en) = true := decide_eq_true ⟨c1, c2⟩
            go_wp2_with fail
            go_meet
            case rel => exact ⟨by rw [HBA.out, cb], S1⟩
          · have c2z : ¬ (m : Int) < (en : Int) := by omega
            have cb : decide (i < m ∧ m < en) = false := decide_eq_false (by omega)
            go_wp2_with fail
            go_meet
            case rel => exact ⟨by rw [HBA.out, cb], S1⟩
        · have c1z : ¬ (i : Int) < (m : Int) := by omega
          have cb : decide (i < m ∧ m < en) = false := decide_eq_false (by omega)
          go_wp2_with fail
          go_meet
          case rel => exact ⟨by rw [HBA.out, cb], S1⟩
      case rest =>
        clear S1
        obtain ⟨rfl, S2⟩ := hcut
        go_upto_if 185 with fail
        go_cut [] from 186 to 191 (fun wd => Aside (Sw w0 b o n f1 wd))
        case first =>
          cases hBB : BA with
          | true =>
            have cc : i < m ∧ m < en := of_decide_eq_true (HBA.out.symm.trans hBB)
            subst hBB
            have c1 := hide cc.1
            have c2 := hide cc.2
            clear cc
            go_wp2_with (go_at_call 53; refine (rotate_at w0 b o n cp _ _ _ i m en _ f _ (by first | rfl | omega | (rw [IntKind.wrap_i64]; omega)) (by first | rfl | omega | (rw [IntKind.wrap_i64]; omega)) (by first | rfl | omega | (rw [IntKind.wrap_i64]; omega)) hn (unhide c1) (unhide c2) (by omega) S2.out).mono ?_; rintro e1 w1 ⟨rfl, hw1⟩)
            go_meet
            case rel => exact HF.out ▸ hw1
          | false =>
            have cc : ¬ (i < m ∧ m < en) := of_decide_eq_false (HBA.out.symm.trans hBB)
            subst hBB
            have e1 := HR0.out cc
            have S2' : Aside (Sw w0 b o n f1 wc) := by rw [e1]; exact S2
            clear cc e1
            go_wp2_with fail
            go_meet
            case rel => exact S2'
        case rest =>
          clear S2 HF HR0
          have S3 : Aside _ := hcut
          clear hcut
          obtain ⟨BB, HBB⟩ : ∃ q : Bool, Hid (q = decide (x < i ∧ i < mid)) := ⟨_, rfl⟩
          go_upto_region 41 with fail
          go_cut [199] from 192 to 199 (fun s199 we => s199 = .bool BB ∧ Aside (Sw w0 b o n f1 we))
          case first =>
            by_cases c1 : x < i
            · have c1z : (x : Int) < (i : Int) := by omega
              by_cases c2 : i < mid
              · have c2z : (i : Int) < (mid : Int) := by omega
                have cb : decide (x < i ∧ i < mid) = true := decide_eq_true ⟨c1, c2⟩
                go_wp2_with fail
                go_meet
                case rel => exact ⟨by rw [HBB.out, cb], S3⟩
              · have c2z : ¬ (i : Int) < (mid : Int) := by omega
                have cb : decide (x < i ∧ i < mid) = false := decide_eq_false (by omega)
                go_wp2_with fail
                go_meet
                case rel => exact ⟨by rw [HBB.out, cb], S3⟩
            · have c1z : ¬ (x : Int) < (i : Int) := by omega
              have cb : decide (x < i ∧ i < mid) = false := decide_eq_false (by omega)
              go_wp2_with fail
              go_meet
              case rel => exact ⟨by rw [HBB.out, cb], S3⟩
          case rest =>
            clear S3
            obtain ⟨rfl, S3⟩ := hcut
            go_upto_if 199 with fail
            go_cut [] from 200 to 205 (fun wf => Aside (∃ g, Sw w0 b o n g wf ∧ Pm f1 g x mid ∧ Srt S g x mid))
            case first =>
              cases hBB : BB with
              | true =>
                have cc : x < i ∧ i < mid := of_decide_eq_true (HBB.out.symm.trans hBB)
                subst hBB
                have c1 := hide cc.1
                have c2 := hide cc.2
                clear cc
                go_wp2_with (go_at_call 37; refine (HSy.out _ _ _ x i mid f1 _ (by first | rfl | omega | (rw [IntKind.wrap_i64]; omega)) (by first | rfl | omega | (rw [IntKind.wrap_i64]; omega)) (by first | rfl | omega | (rw [IntKind.wrap_i64]; omega)) (by omega) (unhide c1) (unhide c2) (by omega) HV1.out HM.out.1 HM.out.2.1 HM.out.2.2.2.2.2.2.1 S3.out).mono ?_; rintro e1 w1 ⟨rfl, hw1⟩)
                go_meet
                case rel => exact hw1
              | false =>
                have cc : ¬ (x < i ∧ i < mid) := of_decide_eq_false (HBB.out.symm.trans hBB)
                subst hBB
                have S4 : Aside (∃ g, Sw w0 b o n g wc ∧ Pm f1 g x mid ∧ Srt S g x mid) := ⟨f1, S3.out, Pm.refl _ _ _, HM.out.1.join HM.out.2.1 (fun k l k1 k2 k3 k4 => by omega)⟩
                clear cc
                go_wp2_with fail
                go_meet
                case rel => exact S4
            case rest =>
              clear S3
              obtain ⟨g, S4, P4, T4⟩ := hcut
              have S5 : Aside (Sw w0 b o n g wc) := S4
              have HG : Hid ((∀ k, k < n → g k < V) ∧ Srt S g mid en ∧ Srt S g en z ∧ Lss (· < ·) g mid en en z ∧ Lss S g x mid mid z ∧ Pm f g x z ∧ Srt S g x mid) := by
                obtain ⟨a1, a2, a3, a4, a5, a6, a7, a8⟩ := HM.out
                have ev : ∀ k, mid ≤ k → g k = f1 k := fun k hk => P4.out k (Or.inr hk)
                exact ⟨vals_pm P4 (by omega) HV1.out, a3.same (fun k k1 _ => ev k k1), a4.same (fun k k1 _ => ev k (by omega)), fun k l k1 k2 k3 k4 => by rw [ev k k1, ev l (by omega)]; exact a8 k l k1 k2 k3 k4, a5.pmL P4, a6.trans (P4.mono (Nat.le_refl _) (by omega)), T4⟩
              clear S4 P4 T4 HM HV1
              obtain ⟨BC, HBC⟩ : ∃ q : Bool, Hid (q = decide (mid < en ∧ en < z)) := ⟨_, rfl⟩
              go_upto_region 43 with fail
              go_cut [213] from 206 to 213 (fun s213 wg => s213 = .bool BC ∧ Aside (Sw w0 b o n g wg))
              case first =>
                by_cases c1 : mid < en
                · have c1z : (mid : Int) < (en : Int) := by omega
                  by_cases c2 : en < z
                  · have c2z : (en : Int) < (z : Int) := by omega
                    have cb : decide (mid < en ∧ en < z) = true := decide_eq_true ⟨c1, c2⟩
                    go_wp2_with fail
                    go_meet
                    case rel => exact ⟨by rw [HBC.out, cb], S5⟩
                  · have c2z : ¬ (en : Int) < (z : Int) := by omega
                    have cb : decide (mid < en ∧ en < z) = false := decide_eq_false (by omega)
                    go_wp2_with fail
                    go_meet
                    case rel => exact ⟨by rw [HBC.out, cb], S5⟩
                · have c1z : ¬ (mid : Int) < (en : Int) := by omega
                  have cb : decide (mid < en ∧ en < z) = false := decide_eq_false (by omega)
                  go_wp2_with fail
                  go_meet
                  case rel => exact ⟨by rw [HBC.out, cb], S5⟩
              case rest =>
                clear S5
                obtain ⟨rfl, S6⟩ := hcut
                cases hBB : BC with
                | true =>
                  have cc : mid < en ∧ en < z := of_decide_eq_true (HBC.out.symm.trans hBB)
                  subst hBB
                  have c1 := hide cc.1
                  have c2 := hide cc.2
                  clear cc
                  go_wp2_with (go_at_call 37; refine (HSy.out _ _ _ mid en z g _ (by first | rfl | omega | (rw [IntKind.wrap_i64]; omega)) (by first | rfl | omega | (rw [IntKind.wrap_i64]; omega)) (by first | rfl | omega | (rw [IntKind.wrap_i64]; omega)) (by omega) (unhide c1) (unhide c2) (by omega) HG.out.1 HG.out.2.1 HG.out.2.2.1 HG.out.2.2.2.1 S6.out).mono ?_; rintro e1 w1 ⟨rfl, hw1⟩)
                  go_end0
                  obtain ⟨g', T1, T2, T3⟩ := hw1
                  obtain ⟨a1, a2, a3, a4, a5, a6, a7⟩ := HG.out
                  exact ⟨rfl, g', T1, a6.trans (T2.mono (by omega) (Nat.le_refl _)), (a7.same (fun k k1 k2 => T2.out k (Or.inl k2))).join T3 (a5.pmR T2)⟩
                | false =>
                  have cc : ¬ (mid < en ∧ en < z) := of_decide_eq_false (HBC.out.symm.trans hBB)
                  subst hBB
                  have HT : Hid (Srt S g mid z) := by
                    obtain ⟨a1, a2, a3, a4, a5, a6, a7⟩ := HG.out
                    exact a2.join a3 (fun k l k1 k2 k3 k4 => by omega)
                  clear cc
                  go_wp2_with fail
                  go_end0
                  obtain ⟨a1, a2, a3, a4, a5, a6, a7⟩ := HG.out
                  exact ⟨rfl, g, S6.out, a6, a7.join HT.out a5⟩
end Go.Proofs.YtcdajbfoneifaaaDoor
