import Derived.Test.YtcdajbfoneifaaaDoorSoB
import Derived.Test.YtcdajbfoneifaaaDoorOrder
namespace Go.Proofs.YtcdajbfoneifaaaDoor
open Go.RowKit

/-- WHAT THE COMPARISON THAT IS HANDED TO THE SORT ANSWERS, wherever only the row has turned. -/
def Cm (w0 : World) (b : Nat) (pv : Value) (c : Nat → Nat → Int) (V : Nat) : Prop :=
  ∀ W, But b w0 W → ∀ x y, x < V → y < V → Calls Tryd.prog 16 #[.int .i64 x, .int .i64 y, pv] W fun e w' => e = .returned (.int .i64 (c x y)) ∧ Below W.heap.size W w'
theorem Cm.at {w0 : World} {b o n V : Nat} {pv : Value} {c : Nat → Nat → Int} {f : Nat → Nat} {W : World} (h : Cm w0 b pv c V) (hS : Sw w0 b o n f W) (p q : Nat) (hp : f p < V) (hq : f q < V) (w' : World) (hb : Below W.heap.size W w') :
    Calls Tryd.prog 16 #[.int .i64 (f p), .int .i64 (f q), pv] w' fun e w2 => e = .returned (.int .i64 (c (f p) (f q))) ∧ Below w'.heap.size w' w2 := h w' (hS.but.trans (But.below hb)) _ _ hp hq
theorem Sw.two {w0 : World} {b o n : Nat} {f : Nat → Nat} {W : World} (h : Sw w0 b o n f W) (p q : Nat) (hp : p < n) (hq : q < n) (w' : World) (hb : Below W.heap.size W w') :
    w'.cell? ⟨b, o + p, none⟩ = some (.int .i64 (f p)) ∧ w'.cell? ⟨b, o + q, none⟩ = some (.int .i64 (f q)) := ⟨(h.row.below hb).cell p hp, (h.row.below hb).cell q hq⟩

set_option maxRecDepth 100000 in
set_option maxHeartbeats 4000000 in
/-- slices.insertionSortCmpFunc, where the places stand as they came. -/
theorem insertion_any (w0 : World) (b o n cp x z V : Nat) (pv : Value) (c : Nat → Nat → Int) (S : Nat → Nat → Prop) (hO : Ord c S V) (hC : Cm w0 b pv c V) (f : Nat → Nat) (w : World) (hn : n < 70368744177664) (hx : x ≤ z) (hz : z ≤ n) (hV : ∀ k, k < n → f k < V)
    (hI : ∀ i j, x ≤ i → i < j → j < z → f i < f j) (hS : Sw w0 b o n f w) :
    Calls Tryd.prog 36 #[.slice (some ⟨b, o, none⟩) n cp, .int .i64 x, .int .i64 z, .func (.func 16) #[] #[pv]] w fun e w' => e = .returned (.tuple #[]) ∧ ∃ g, Sw w0 b o n g w' ∧ Pm f g x z ∧ Srt S g x z := by
  have S0 : Aside (Sw w0 b o n f w) := hS
  have HC : Aside _ := hC
  have HO : Aside _ := hO
  have HI : Aside _ := hI
  have HV : Aside _ := hV
  clear hS hC hO hI hV
  go_enter Tryd.func36, Tryd.ntmps36
  go_wp2
  go_loopg [8] (z - x) (fun g1 vi wr => ∃ (i : Nat) (g : Nat → Nat), vi = .int .i64 i ∧ x < i ∧ i ≤ z + 1 ∧ z + 1 - i ≤ g1 + 1 ∧ Aside (Sw w0 b o n g wr) ∧ Hid (Pm f g x (min i z) ∧ Srt S g x (min i z)))
  case atStart => exact ⟨x + 1, f, by go_num, by omega, by omega, by omega, S0, (show _ ∧ _ from ⟨Pm.refl _ _ _, fun i j h1 h2 h3 => by omega⟩)⟩
  case round =>
    clear S0
    obtain ⟨i, g, rfl, hxi, hiz, hg1, S1, HG⟩ := hrel
    by_cases hlt : i < z
    · have hltz : (i : Int) < (z : Int) := by omega
      have HG1 : Hid (Ins S g x i i ∧ Pm f g x i) := by
        obtain ⟨p1, p2⟩ := HG.out
        rw [Nat.min_eq_left (by omega)] at p1 p2
        refine ⟨Ins.start p2 (fun k h1 h2 => ?_), p1⟩
        rw [p1.out i (Or.inr (Nat.le_refl _))]
        exact p1.all (P := fun v => v < f i) (fun k h1 h2 => HI.out k i h1 h2 hlt) k h1 h2
      go_wp2
      go_loopg [9] i (fun g2 vj wr2 => ∃ (j : Nat) (h : Nat → Nat), vj = .int .i64 j ∧ x ≤ j ∧ j ≤ i ∧ j ≤ g2 ∧ Aside (Sw w0 b o n h wr2) ∧ Hid (Ins S h x i j ∧ Pm f h x (i + 1)))
      case atStart => exact ⟨i, g, rfl, by omega, Nat.le_refl _, Nat.le_refl _, S1, ⟨HG1.out.1, HG1.out.2.mono (Nat.le_refl _) (by omega)⟩⟩
      case round =>
        clear S1 HG HG1
        obtain ⟨j, h, rfl, hxj, hji, hg2, S2, HJ⟩ := hrel
        have HV2 : Aside _ := fun k (hk : k < n) => show h k < V from by
          by_cases e : x ≤ k ∧ k < i + 1
          · exact HJ.out.2.all (P := fun v => v < V) (fun k _ h2 => HV.out k (by omega)) k e.1 e.2
          · rw [HJ.out.2.out k (by omega)]; exact HV.out k hk
        by_cases hja : x < j
        · obtain ⟨jp, hjp⟩ : ∃ q, j = q + 1 := ⟨j - 1, by omega⟩
          subst hjp
          have hjad : decide ((jp : Int) + 1 > (x : Int)) = true := decide_eq_true (by omega)
          have hjaz' : (x : Int) < (jp : Int) + 1 := by omega
          obtain ⟨p, hp⟩ : ∃ q, q = jp + 1 := ⟨_, rfl⟩
          have ea : ((jp : Int) + 1).toNat = p := by omega
          have pa : (0 : Int) ≤ (jp : Int) + 1 := by omega
          have ba : (jp : Int) + 1 < (n : Int) := by omega
          have bc : (jp : Int) < (n : Int) := by omega
          have rc : IntKind.i64.wrap (jp : Int) = (jp : Int) := by rw [IntKind.wrap_i64]; omega
          have B0 := hide ((Below.refl wr.heap.size wr).drew)
          have HP := hide (S2.out.two p jp (by omega) (by omega))
          have c1 := hide (Cm.at HC.out S2.out p jp (HV2.out p (by omega)) (HV2.out jp (by omega)))
          have HSw := hide (fun (w' : World) (hb : Below wr.heap.size wr w') => S2.out.below hb)
          have HY : Hid (c (h p) (h jp) < 0 → S (h p) (h jp)) := fun q => HO.out.yes _ _ (HV2.out p (by omega)) (HV2.out jp (by omega)) (by subst hp; exact HJ.out.1.great jp (by omega) (by omega) (by omega)) q
          have HN : Hid (¬ c (h p) (h jp) < 0 → S (h jp) (h p)) := fun q => HO.out.no _ _ (HV2.out p (by omega)) (HV2.out jp (by omega)) (by subst hp; exact HJ.out.1.great jp (by omega) (by omega) (by omega)) q
          have HE : Hid (p = jp + 1) := hp
          clear hp S2 HV2
          obtain ⟨vp, hvp⟩ : ∃ q, q = h p := ⟨_, rfl⟩
          obtain ⟨vq, hvq⟩ : ∃ q, q = h jp := ⟨_, rfl⟩
          rw [← hvp, ← hvq] at HP c1 HY HN
          have HE1 : Hid (vp = h p ∧ vq = h jp) := ⟨hvp, hvq⟩
          clear hvp hvq
          by_cases hlv : c vp vq < 0
          · have hd : decide (c vp vq < 0) = true := decide_eq_true hlv
            go_wp2_with fail
            go_region_held3 (fun w' => w'.cell? ⟨b, o + p, none⟩ = some (.int .i64 vp) ∧ w'.cell? ⟨b, o + jp, none⟩ = some (.int .i64 vq)) (first | exact unhide HP _ (unhide B0) | exact unhide HP _ (unhide B1)) (first | (go_at_call 16; refine (unhide c1 _ (unhide B0)).mono ?_; rintro x w11 ⟨rfl, hb11⟩; have B1 := hide ((unhide B0).trans (hb11.mono (unhide B0).size)); clear hb11))
            have S3 := unhide HSw _ (unhide B1)
            clear HP c1 HSw B0 B1
            rename_i hHeld
            clear hHeld
            go_wp2_with fail
            have S4 := S3.swap p jp (by omega) (by omega)
            have k1 := S3.row.cell p (by omega)
            have k2 := S3.row.cell jp (by omega)
            have f1 := S3.row.fro p (by omega)
            have f2 := S3.row.fro jp (by omega)
            obtain ⟨u, k3⟩ := S3.mid p jp (by omega) (by omega) (.int .i64 (h jp))
            rw [← HE1.out.1] at k1 S4
            rw [← HE1.out.2] at k2 k3 S4
            have S5 : Aside _ := S4
            clear S3 S4
            go_big_region
            clear k1 k2 k3 f1 f2
            generalize ((w11.setCell ⟨b, o + p, none⟩ (.int .i64 vq)).setCell ⟨b, o + jp, none⟩ (.int .i64 vp)).drew = w3 at S5 ⊢
            clear ea
            go_wp2
            go_roundg jp
            case measure => omega
            case rel => exact ⟨jp, sw h p jp, by go_num, by omega, by omega, Nat.le_refl _, S5, (show _ ∧ _ from by
                have e1 := HE.out
                have e2 := HE1.out
                have y := HY.out hlv
                subst e1
                rw [e2.1, e2.2] at y
                exact ⟨HJ.out.1.step (by omega) hji y, HJ.out.2.trans (Pm.sw (by omega) (by omega))⟩)⟩
          · have hd : decide (c vp vq < 0) = false := decide_eq_false hlv
            have HS : Hid (Srt S h x (i + 1) ∧ Pm f h x (i + 1)) := by
              have e1 := HE.out
              have e2 := HE1.out
              have y := HN.out hlv
              subst e1
              rw [e2.1, e2.2] at y
              exact ⟨HJ.out.1.stop HO.out.tr (by omega) hji (Or.inr y), HJ.out.2⟩
            go_wp2_with fail
            go_region_held3 (fun w' => w'.cell? ⟨b, o + p, none⟩ = some (.int .i64 vp) ∧ w'.cell? ⟨b, o + jp, none⟩ = some (.int .i64 vq)) (first | exact unhide HP _ (unhide B0) | exact unhide HP _ (unhide B1)) (first | (go_at_call 16; refine (unhide c1 _ (unhide B0)).mono ?_; rintro x w11 ⟨rfl, hb11⟩; have B1 := hide ((unhide B0).trans (hb11.mono (unhide B0).size)); clear hb11))
            have S3 : Aside _ := unhide HSw _ (unhide B1)
            clear HP c1 HSw B0 B1 ea
            go_wp2_with fail
            go_roundg (z - (i + 1))
            case measure => omega
            case rel => exact ⟨i + 1, h, by go_num, by omega, by omega, by omega, S3, by rw [Nat.min_eq_left (by omega)]; exact ⟨HS.out.2, HS.out.1⟩⟩
        · have hjaz : decide ((j : Int) > (x : Int)) = false := decide_eq_false (by omega)
          have hjaz' : ¬ (x : Int) < (j : Int) := by omega
          have HS : Hid (Srt S h x (i + 1) ∧ Pm f h x (i + 1)) := ⟨HJ.out.1.stop HO.out.tr (by omega) hji (Or.inl (by omega)), HJ.out.2⟩
          have S3 : Aside _ := S2.out.drew
          clear S2 HV2
          go_wp2_with fail
          go_big_region
          generalize wr.drew = w3 at S3 ⊢
          go_wp2
          go_roundg (z - (i + 1))
          case measure => omega
          case rel => exact ⟨i + 1, h, by go_num, by omega, by omega, by omega, S3, by rw [Nat.min_eq_left (by omega)]; exact ⟨HS.out.2, HS.out.1⟩⟩
    · have hltz : ¬ (i : Int) < (z : Int) := by omega
      have HG1 := HG.out
      rw [Nat.min_eq_right (by omega)] at HG1
      have HG2 : Hid _ := HG1
      clear HG HG1
      go_wp2
      go_end0
      exact ⟨rfl, g, S1.out, HG2.out.1, HG2.out.2⟩
theorem insertion_at (w0 : World) (b o n cp : Nat) (X Z : Int) (x z V : Nat) (pv : Value) (c : Nat → Nat → Int) (S : Nat → Nat → Prop) (hO : Ord c S V) (hC : Cm w0 b pv c V) (f : Nat → Nat) (w : World) (eX : X = x) (eZ : Z = z) (hn : n < 70368744177664) (hx : x ≤ z) (hz : z ≤ n) (hV : ∀ k, k < n → f k < V)
    (hI : ∀ i j, x ≤ i → i < j → j < z → f i < f j) (hS : Sw w0 b o n f w) :
    Calls Tryd.prog 36 #[.slice (some ⟨b, o, none⟩) n cp, .int .i64 X, .int .i64 Z, .func (.func 16) #[] #[pv]] w fun e w' => e = .returned (.tuple #[]) ∧ ∃ g, Sw w0 b o n g w' ∧ Pm f g x z ∧ Srt S g x z := by
  subst eX; subst eZ
  exact insertion_any w0 b o n cp x z V pv c S hO hC f w hn hx hz hV hI hS
end Go.Proofs.YtcdajbfoneifaaaDoor
