import Derived.Test.YtcdajbfoneifaaaDoorSoI
namespace Go.Proofs.YtcdajbfoneifaaaDoor
open Go.RowKit

def idn : Nat → Nat := fun k => k
theorem pm_vals {f : Nat → Nat} {n : Nat} (h : Pm idn f 0 n) : ∀ k, k < n → f k < n := fun k hk => h.all (P := fun v => v < n) (fun _ _ h2 => h2) k (Nat.zero_le _) hk

set_option maxRecDepth 100000 in
set_option maxHeartbeats 4000000 in
/-- slices.stableCmpFunc, the places standing as they came. -/
theorem stable_any (w0 : World) (b o n cp : Nat) (pv : Value) (c : Nat → Nat → Int) (S : Nat → Nat → Prop) (hO : Ord c S n) (hC : Cm w0 b pv c n) (hn : n < 17592186044416) (w : World) (hS : Sw w0 b o n idn w) :
    Calls Tryd.prog 22 #[.slice (some ⟨b, o, none⟩) n cp, .int .i64 n, .func (.func 16) #[] #[pv]] w fun e w' => e = .returned (.tuple #[]) ∧ ∃ g, Sw w0 b o n g w' ∧ Pm idn g 0 n ∧ Srt S g 0 n := by
  have hn2 : n < 70368744177664 := by omega
  have S0 : Aside (Sw w0 b o n idn w) := hS
  have c1 := hide (fun (X Z : Int) (x z : Nat) => insertion_at w0 b o n cp X Z x z n pv c S hO hC)
  have c2 := hide (sym_all w0 b o n cp n pv c S hO hC hn2 n)
  clear hS hO hC
  go_enter Tryd.func22, Tryd.ntmps22
  go_wp2
  go_loopg [7, 8] n (fun g1 va vb wr => ∃ (a s : Nat) (f : Nat → Nat), va = .int .i64 a ∧ vb = .int .i64 ((a + 20 : Nat) : Int) ∧ a ≤ n ∧ n - a ≤ g1 ∧ Hid (a = 20 * s) ∧ Aside (Sw w0 b o n f wr) ∧ Hid (Ph S f n s ∧ Pm idn f 0 n))
  case atStart => exact ⟨0, 0, idn, by go_num, by go_num, by omega, by omega, rfl, S0, ⟨⟨fun t ht => absurd ht (Nat.not_lt_zero _), fun k _ _ => rfl⟩, Pm.refl _ _ _⟩⟩
  case round =>
    clear S0
    obtain ⟨a, s, f, rfl, rfl, han, hg1, HA, S1, HP⟩ := hrel
    have HI := hide (fun (i j : Nat) (h1 : a ≤ i) (h2 : i < j) (h3 : j < n) => show f i < f j from by
      have e := HA.out
      rw [HP.out.1.rest i (by omega) (by omega), HP.out.1.rest j (by omega) h3]; exact h2)
    by_cases hle : a + 20 ≤ n
    · have hlez : ((a + 20 : Nat) : Int) ≤ (n : Int) := by omega
      go_wp2_with (go_at_call 36; refine (unhide c1 _ _ a (a + 20) f _ (by first | rfl | omega | go_num) (by first | rfl | omega | go_num) hn2 (by omega) hle (pm_vals HP.out.2) (fun i j h1 h2 h3 => unhide HI i j h1 h2 (by omega)) S1.out).mono ?_; rintro e1 w1 ⟨rfl, hw1⟩)
      go_roundg (n - (a + 20))
      case measure => omega
      case rel =>
        obtain ⟨g, T1, T2, T3⟩ := hw1
        have e := HA.out
        exact ⟨a + 20, s + 1, g, by go_num, by go_num, hle, by omega, (show _ = _ by omega), T1, ⟨HP.out.1.step (e ▸ T2) (e ▸ T3) (by omega), HP.out.2.trans (T2.mono (by omega) hle)⟩⟩
    · have hlez : ¬ ((a + 20 : Nat) : Int) ≤ (n : Int) := by omega
      go_wp2_with (go_at_call 36; refine (unhide c1 _ _ a n f _ (by first | rfl | omega | go_num) (by first | rfl | omega | go_num) hn2 (by omega) (Nat.le_refl _) (pm_vals HP.out.2) (unhide HI) S1.out).mono ?_; rintro e1 w1 ⟨rfl, hw1⟩)
      have HW : Aside (∃ g, Sw w0 b o n g w1 ∧ Tiles S g 20 n ∧ Pm idn g 0 n) := by
        obtain ⟨g, T1, T2, T3⟩ := hw1
        have e := HA.out
        exact ⟨g, T1, HP.out.1.last (e ▸ T2) (e ▸ T3) (by omega) (by omega), HP.out.2.trans (T2.mono (by omega) (Nat.le_refl _))⟩
      clear hw1 S1 HP HI
      go_loopg [6] (2 * n) (fun g2 vB wr2 => ∃ B : Nat, vB = .int .i64 B ∧ 20 ≤ B ∧ B ≤ 2 * n + 20 ∧ 2 * n + 20 - B ≤ g2 ∧ Aside (∃ g, Sw w0 b o n g wr2 ∧ Tiles S g B n ∧ Pm idn g 0 n))
      case atStart => exact ⟨20, by go_num, by omega, by omega, by omega, HW⟩
      case round =>
        clear HW
        obtain ⟨B, rfl, hB, hB2, hg2, HW⟩ := hrel
        by_cases hlt : B < n
        · have hltz : (B : Int) < (n : Int) := by omega
          have HW2 : Aside (∃ (g : Nat → Nat), Sw w0 b o n g wr ∧ Pass S g B n 0 ∧ Pm idn g 0 n) := by
            obtain ⟨g, T1, T2, T3⟩ := HW
            exact ⟨g, T1, Pass.start T2, T3⟩
          clear HW
          go_wp2
          go_loopg [7, 8] n (fun g3 va vb wr3 => ∃ (a s : Nat) (f : Nat → Nat), va = .int .i64 a ∧ vb = .int .i64 ((a + 2 * B : Nat) : Int) ∧ a ≤ n ∧ n - a ≤ g3 ∧ Hid (a = s * (2 * B)) ∧ Aside (Sw w0 b o n f wr3) ∧ Hid (Pass S f B n s ∧ Pm idn f 0 n))
          case atStart =>
            obtain ⟨g, T1, T2, T3⟩ := HW2
            exact ⟨0, 0, g, by go_num, by go_num, by omega, by omega, (show _ = _ by omega), T1, ⟨T2, T3⟩⟩
          case round =>
            clear HW2
            obtain ⟨a', s', f', rfl, rfl, han', hg3, HA', S2, HP'⟩ := hrel
            by_cases hle' : a' + 2 * B ≤ n
            · have hlez' : ((a' + 2 * B : Nat) : Int) ≤ (n : Int) := by omega
              have HL := hide (HP'.out.1.lss HA'.out (show a' + B < a' + 2 * B by omega) hle' (Nat.le_refl _) (Or.inr rfl))
              go_wp2_with (go_at_call 37; refine (unhide c2 _ _ _ a' (a' + B) (a' + 2 * B) f' _ (by first | rfl | omega | go_num) (by first | rfl | omega | go_num) (by first | rfl | omega | go_num) (by omega) (by omega) (by omega) hle' (pm_vals HP'.out.2) (unhide HL).1 (unhide HL).2.1 (unhide HL).2.2 S2.out).mono ?_; rintro e1 w1 ⟨rfl, hw1⟩)
              go_roundg (n - (a' + 2 * B))
              case measure => omega
              case rel =>
                obtain ⟨g, T1, T2, T3⟩ := hw1
                exact ⟨a' + 2 * B, s' + 1, g, by go_num, by go_num, hle', by omega, (show a' + 2 * B = (s' + 1) * (2 * B) from (congrArg (· + 2 * B) HA'.out).trans (Nat.succ_mul s' (2 * B)).symm), T1, ⟨HP'.out.1.step HA'.out T2 T3 hle', HP'.out.2.trans (T2.mono (by omega) hle')⟩⟩
            · have hlez' : ¬ ((a' + 2 * B : Nat) : Int) ≤ (n : Int) := by omega
              by_cases hm : a' + B < n
              · have hmz : (a' : Int) + (B : Int) < (n : Int) := by omega
                have HL := hide (HP'.out.1.lss HA'.out hm (Nat.le_refl _) (by omega) (Or.inl rfl))
                go_wp2_with (go_at_call 37; refine (unhide c2 _ _ _ a' (a' + B) n f' _ (by first | rfl | omega | go_num) (by first | rfl | omega | go_num) (by first | rfl | omega | go_num) (by omega) (by omega) hm (Nat.le_refl _) (pm_vals HP'.out.2) (unhide HL).1 (unhide HL).2.1 (unhide HL).2.2 S2.out).mono ?_; rintro e1 w1 ⟨rfl, hw1⟩)
                go_roundg (2 * n + 20 - 2 * B)
                case measure => omega
                case rel =>
                  obtain ⟨g, T1, T2, T3⟩ := hw1
                  exact ⟨2 * B, by first | rfl | go_num | (congr 1; omega), by omega, by omega, by omega, ⟨g, T1, HP'.out.1.last HA'.out han' (by omega) T2 T3, HP'.out.2.trans (T2.mono (by omega) (Nat.le_refl _))⟩⟩
              · have hmz : ¬ (a' : Int) + (B : Int) < (n : Int) := by omega
                go_wp2
                go_roundg (2 * n + 20 - 2 * B)
                case measure => omega
                case rel => exact ⟨2 * B, by first | rfl | go_num | (congr 1; omega), by omega, by omega, by omega, ⟨f', S2.out, HP'.out.1.short HA'.out han' (by omega) (by omega), HP'.out.2⟩⟩
        · have hltz : ¬ (B : Int) < (n : Int) := by omega
          go_wp2
          go_end0
          obtain ⟨g, T1, T2, T3⟩ := HW
          exact ⟨rfl, g, T1, T3, T2.all (by omega)⟩
end Go.Proofs.YtcdajbfoneifaaaDoor
