import Derived.Test.YtcdajbfoneifaaaDoorSoC
namespace Go.Proofs.YtcdajbfoneifaaaDoor
open Go.RowKit

set_option maxRecDepth 100000 in
set_option maxHeartbeats 4000000 in
/-- slices.symMergeCmpFunc, one standing on the right. -/
theorem sym_right (w0 : World) (b o n cp V : Nat) (pv : Value) (c : Nat → Nat → Int) (S : Nat → Nat → Prop) (hO : Ord c S V) (hC : Cm w0 b pv c V) (hn : n < 70368744177664) (x m z : Nat) (f : Nat → Nat) (w : World) (hx : x < m) (hm : m < z) (hz : z ≤ n) (hV : ∀ k, k < n → f k < V)
    (hL : Srt S f x m) (hR : Srt S f m z) (hLR : Lss (· < ·) f x m m z) (hS : Sw w0 b o n f w) (h0 : ¬ m = x + 1) (h1 : z = m + 1) :
    Calls Tryd.prog 37 #[.slice (some ⟨b, o, none⟩) n cp, .int .i64 x, .int .i64 m, .int .i64 z, .func (.func 16) #[] #[pv]] w fun e w' => e = .returned (.tuple #[]) ∧ ∃ g, Sw w0 b o n g w' ∧ Pm f g x z ∧ Srt S g x z := by
  have S0 : Aside (Sw w0 b o n f w) := hS
  have HC : Aside _ := hC
  have HO : Aside _ := hO
  have HLR : Aside _ := hLR
  have HV : Aside _ := hV
  have HL : Aside _ := hL
  have HR : Aside _ := hR
  clear hS hC hO hL hR hLR hV
  subst h1
  have q0 : ((m : Int) - (x : Int) == 1) = false := by simp; omega
  have q1 : IntKind.i64.wrap (((m + 1 : Nat) : Int) - (m : Int)) = 1 := by rw [IntKind.wrap_i64]; omega
  have H0 : Hid (¬ m = x + 1) := h0
  clear h0
  go_enter Tryd.func37, Tryd.ntmps37
  go_wp2
  go_loopg [14, 15] (m - x) (fun g1 vi vj wr => ∃ (i j : Nat), vi = .int .i64 i ∧ vj = .int .i64 j ∧ x ≤ i ∧ i ≤ j ∧ j ≤ m ∧ j - i ≤ g1 ∧ Aside (Sw w0 b o n f wr) ∧ Hid ((∀ k, x ≤ k → k < i → S (f k) (f m)) ∧ (∀ k, j ≤ k → k < m → S (f m) (f k))))
  case atStart => exact ⟨x, m, by go_num, by go_num, by omega, by omega, by omega, by omega, S0, (show _ ∧ _ from ⟨fun k h1 h2 => by omega, fun k h1 h2 => by omega⟩)⟩
  case round =>
    clear S0
    obtain ⟨i, j, rfl, rfl, hi, hij, hj, hg1, S1, HK⟩ := hrel
    by_cases hlt : i < j
    · have hltz : (i : Int) < (j : Int) := by omega
      obtain ⟨h, hh, hih, hhj⟩ : ∃ h : Nat, ((i : Int) + (j : Int)) / 2 = (h : Int) ∧ i ≤ h ∧ h < j := ⟨(i + j) / 2, by omega, by omega, by omega⟩
      have bh : (h : Int) < (n : Int) := by omega
      have bx : (m : Int) < (n : Int) := by omega
      have B0 := hide ((Below.refl wr.heap.size wr).drew)
      have HP := hide (S1.out.two m h (by omega) (by omega))
      have c1 := hide (Cm.at HC.out S1.out m h (HV.out m (by omega)) (HV.out h (by omega)))
      have HSw := hide (fun (w' : World) (hb : Below wr.heap.size wr w') => S1.out.below hb)
      have HY : Hid (c (f m) (f h) < 0 → S (f m) (f h)) := fun q => HO.out.yes _ _ (HV.out m (by omega)) (HV.out h (by omega)) (by exact HLR.out h m (by omega) (by omega) (by omega) (by omega)) q
      have HN : Hid (¬ c (f m) (f h) < 0 → S (f h) (f m)) := fun q => HO.out.no _ _ (HV.out m (by omega)) (HV.out h (by omega)) (by exact HLR.out h m (by omega) (by omega) (by omega) (by omega)) q
      clear S1
      obtain ⟨vp, hvp⟩ : ∃ q, q = f m := ⟨_, rfl⟩
      obtain ⟨vq, hvq⟩ : ∃ q, q = f h := ⟨_, rfl⟩
      rw [← hvp, ← hvq] at HP c1
      have HE1 : Hid (vp = f m ∧ vq = f h) := ⟨hvp, hvq⟩
      rw [← hvp, ← hvq] at HY HN
      clear hvp hvq
      by_cases hlv : c vp vq < 0
      · have hd : decide (c vp vq < 0) = true := decide_eq_true hlv
        go_wp2_with fail
        go_region_held3 (fun w' => w'.cell? ⟨b, o + m, none⟩ = some (.int .i64 vp) ∧ w'.cell? ⟨b, o + h, none⟩ = some (.int .i64 vq)) (first | exact unhide HP _ (unhide B0) | exact unhide HP _ (unhide B1)) (first | (go_at_call 16; refine (unhide c1 _ (unhide B0)).mono ?_; rintro x w11 ⟨rfl, hb11⟩; have B1 := hide ((unhide B0).trans (hb11.mono (unhide B0).size)); clear hb11))
        have S3 : Aside _ := unhide HSw _ (unhide B1)
        clear HP c1 HSw B0 B1
        rename_i hHeld
        clear hHeld
        go_wp2_with fail
        go_roundg (h - i)
        case measure => omega
        case rel => exact ⟨i, h, rfl, by go_num, hi, hih, by omega, by omega, S3, (show _ ∧ _ from ⟨HK.out.1, fun k g1 g2 => by
            have y := HY.out hlv
            rw [HE1.out.1, HE1.out.2] at y
            by_cases e : k = h
            · subst e; exact y
            · exact HO.out.tr _ _ _ y (HL.out h k (by omega) (by omega) g2)⟩)⟩
      · have hd : decide (c vp vq < 0) = false := decide_eq_false hlv
        go_wp2_with fail
        go_region_held3 (fun w' => w'.cell? ⟨b, o + m, none⟩ = some (.int .i64 vp) ∧ w'.cell? ⟨b, o + h, none⟩ = some (.int .i64 vq)) (first | exact unhide HP _ (unhide B0) | exact unhide HP _ (unhide B1)) (first | (go_at_call 16; refine (unhide c1 _ (unhide B0)).mono ?_; rintro x w11 ⟨rfl, hb11⟩; have B1 := hide ((unhide B0).trans (hb11.mono (unhide B0).size)); clear hb11))
        have S3 : Aside _ := unhide HSw _ (unhide B1)
        clear HP c1 HSw B0 B1
        rename_i hHeld
        clear hHeld
        go_wp2_with fail
        go_roundg (j - (h + 1))
        case measure => omega
        case rel => exact ⟨h + 1, j, by go_num, rfl, by omega, by omega, hj, by omega, S3, (show _ ∧ _ from ⟨fun k g1 g2 => by
            have y := HN.out hlv
            rw [HE1.out.1, HE1.out.2] at y
            by_cases e : k = h
            · subst e; exact y
            · exact HO.out.tr _ _ _ (HL.out k h g1 (by omega) (by omega)) y, HK.out.2⟩)⟩
    · have hltz : ¬ (i : Int) < (j : Int) := by omega
      have HS : Hid (Srt S (rot f i m (m + 1)) x (m + 1) ∧ Pm f (rot f i m (m + 1)) x (m + 1)) := ⟨one_right HL.out hi (by omega) HK.out.1 (fun k g1 g2 => HK.out.2 k (by omega) g2), Pm.rot (by omega) (by omega) (by omega) (by omega)⟩
      clear HK HR HL HLR HV HC HO
      go_wp2
      go_loopg [17] (m - i) (fun g1 vk wr2 => ∃ k : Nat, vk = .int .i64 k ∧ i ≤ k ∧ k ≤ m ∧ k - i ≤ g1 ∧ Aside (Sw w0 b o n (rot f k m (m + 1)) wr2))
      case atStart => exact ⟨m, by go_num, by omega, by omega, by omega, by show Sw _ _ _ _ _ _; rw [rot_same f m m (m + 1) (by omega) (by omega) (Or.inl rfl)]; exact S1.out⟩
      case round =>
        clear S1
        obtain ⟨k, rfl, hk, hki, hg2, S3⟩ := hrel
        by_cases hlk : i < k
        · obtain ⟨kp, hkp⟩ : ∃ q, k = q + 1 := ⟨k - 1, by omega⟩
          subst hkp
          have hlkz : (i : Int) < (kp : Int) + 1 := by omega
          obtain ⟨k', hk'⟩ : ∃ q, q = kp + 1 := ⟨_, rfl⟩
          have ea : ((kp : Int) + 1).toNat = k' := by omega
          have pa : (0 : Int) ≤ (kp : Int) + 1 := by omega
          have ba : (kp : Int) + 1 < (n : Int) := by omega
          have bk : (kp : Int) < (n : Int) := by omega
          have eR : sw (rot f (kp + 1) m (m + 1)) k' kp = rot f kp m (m + 1) := by rw [hk']; exact rot_down f kp m (by omega)
          generalize rot f (kp + 1) m (m + 1) = h at *
          have HE : Hid (k' = kp + 1) := hk'
          have HS4 : Hid _ := eR
          have S4 := S3.out.swap k' kp (by omega) (by omega)
          have k1 := S3.out.row.cell k' (by omega)
          have k2 := S3.out.row.cell kp (by omega)
          have f1 := S3.out.row.fro k' (by omega)
          have f2 := S3.out.row.fro kp (by omega)
          obtain ⟨u, k3⟩ := S3.out.mid k' kp (by omega) (by omega) (.int .i64 (h kp))
          rw [HS4.out] at S4
          generalize h k' = vp at *
          generalize h kp = vq at *
          have S5 : Aside _ := S4
          clear S3 S4 eR hk'
          go_wp2_with fail
          go_big_region
          clear k1 k2 k3 f1 f2
          generalize ((wr.setCell ⟨b, o + k', none⟩ (.int .i64 vq)).setCell ⟨b, o + kp, none⟩ (.int .i64 vp)).drew = w3 at S5 ⊢
          clear ea
          go_wp2
          go_roundg (kp - i)
          case measure => omega
          case rel => exact ⟨kp, by go_num, by omega, by omega, by omega, S5⟩
        · have hlkz : ¬ (i : Int) < (k : Int) := by omega
          have hki2 : k = i := by omega
          rw [hki2] at S3
          go_wp2
          refine bodyPost_ret (results_none rfl _ _ _) rfl ?_
          exact ⟨rfl, _, S3.out, HS.out.2, HS.out.1⟩
end Go.Proofs.YtcdajbfoneifaaaDoor
