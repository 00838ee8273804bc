import Derived.Test.YtabjbppekijfiaaSvB
import Derived.WalkMore
import Derived.Deep.LoopGhost
namespace Go.Proofs.Ytabjbppekijfiaa
open Go.RowKit

/-- IS A LITERAL TRUE BY VALUES? A CLAUSE? -/
def says (v : Nat → Bool) (l : Int) : Bool := v (l.natAbs - 1) == decide (0 < l)
def clT (v : Nat → Bool) (m : Nat) (f : Nat → Int) : Bool := !(bAll m fun k => !says v (f k))
theorem clT_yes {v : Nat → Bool} {m : Nat} {f : Nat → Int} {k : Nat} (hk : k < m) (h : says v (f k) = true) : clT v m f = true := by
  unfold clT
  rw [bAll_no hk (by simp [h])]
  rfl
theorem clT_no {v : Nat → Bool} {m : Nat} {f : Nat → Int} (h : ∀ k, k < m → says v (f k) = false) : clT v m f = false := by
  unfold clT
  rw [(bAll_iff _ _).2 fun k hk => by simp [h k hk]]
  rfl
/-- THE FIRST CLAUSE THAT IS NOT TRUE. -/
def firstN (N : Nat) (p : Nat → Bool) : Int := match (List.range N).find? (fun k => !p k) with | some k => (k : Int) | none => -1
theorem firstN_all {N : Nat} {p : Nat → Bool} (h : ∀ k, k < N → p k = true) : firstN N p = -1 := by
  unfold firstN
  have : (List.range N).find? (fun k => !p k) = none := by
    rw [List.find?_eq_none]
    intro k hk
    simp [h k (List.mem_range.1 hk)]
  rw [this]
theorem find_first (p : Nat → Bool) (k : Nat) (h : p k = false) (h2 : ∀ j, j < k → p j = true) : ∀ N, k < N → (List.range N).find? (fun k => !p k) = some k := by
  intro N hN
  induction N with
  | zero => omega
  | succ N ih =>
    rw [List.range_succ, List.find?_append]
    by_cases e : k < N
    · rw [ih e]; rfl
    · obtain rfl : k = N := by omega
      have : (List.range k).find? (fun k => !p k) = none := by
        rw [List.find?_eq_none]
        intro j hj
        simp [h2 j (List.mem_range.1 hj)]
      rw [this]
      simp [h]
theorem firstN_at {N : Nat} {p : Nat → Bool} {k : Nat} (hk : k < N) (h : p k = false) (h2 : ∀ j, j < k → p j = true) : firstN N p = (k : Int) := by
  unfold firstN
  rw [find_first p k h h2 N hk]
set_option maxHeartbeats 2000000 in
theorem firstNotTrue_any (n : Nat) (hn : n ≤ 131071) (N : Nat) (ln : Nat → Nat) (L : Nat → Nat → Int) (v : Nat → Bool) (pa va : Option Addr) (c vc : Nat) (w : World) (hN : N ≤ 140737488355328) (hm : ∀ k, k < N → ln k ≤ 140737488355328) (h : Rr w pa N ln L) (hv : Rt w va n v) (ho : ∀ k, k < N → ∀ j, j < ln k → okL n (L k j) = true) :
    Calls Try.prog 40 #[.slice pa N c, .slice va n vc] w fun x w' => x = .returned (.int .i64 (firstN N fun k => clT v (ln k) (L k))) ∧ Below w.heap.size w w' := by
  have HR := hide h
  have HV := hide hv
  have HO := hide ho
  have HM := hide hm
  clear h hv ho hm
  go_enter Try.func40, Try.ntmps40
  have HX := hide (show firstN N (fun k => clT v (ln k) (L k)) = firstN N (fun k => clT v (ln k) (L k)) from rfl)
  go_wp2
  go_step3
  go_wp2
  go_step3
  go_wp2
  go_loopg [5, 6, 8, 11] N (fun g _ _ _ vi wr => ∃ k d : Nat, vi = .int .i64 k ∧ k ≤ N ∧ N - k ≤ g ∧ wr = w.drewN d ∧ Hid (∀ j, j < k → clT v (ln j) (L j) = true))
  case atStart => exact ⟨0, 0, by go_num, by omega, by omega, rfl, hide fun j h => absurd h (Nat.not_lt_zero _)⟩
  case round =>
    obtain ⟨k, d, rfl, hk, hg, rfl, HA⟩ := hrel
    by_cases hlt : k < N
    · obtain ⟨b, o, ca, cc, rfl, hc, hri⟩ := ((unhide HR).later (bl_drewN w d)).at hlt
      have hml := unhide HM k hlt
      have HRI := hide hri
      have HR2 := hide (show Ri w ca (ln k) (L k) from fun h0 => hri h0)
      have HO2 := hide (unhide HO k hlt)
      have HNO := hide (fun (h : ∀ i, i < ln k → says v (L k i) = false) => firstN_at (p := fun k => clT v (ln k) (L k)) hlt (clT_no h) (unhide HA))
      have HYE := hide (fun i (hi : i < ln k) (h : says v (L k i) = true) => show ∀ j, j < k + 1 → clT v (ln j) (L j) = true from fun j hj => by
        by_cases e : j = k
        · subst e; exact clT_yes hi h
        · exact unhide HA j (by omega))
      clear hri
      generalize ln k = m at *
      generalize L k = f at *
      go_wp2
      go_loopg [8, 18] m (fun g2 _ vi wr => ∃ i d : Nat, vi = .int .i64 i ∧ i ≤ m ∧ m - i ≤ g2 ∧ wr = w.drewN d ∧ Hid (∀ j, j < i → says v (f j) = false))
      case atStart => exact ⟨0, d, by go_num, by omega, by omega, rfl, hide fun j h => absurd h (Nat.not_lt_zero _)⟩
      case round =>
        obtain ⟨i, d2, rfl, hi, hg2, rfl, HA2⟩ := hrel
        by_cases hlti : i < m
        · have hri := unhide HRI
          obtain ⟨b2, o2, hca, hb2, hc2⟩ := ((unhide HR2).later (bl_drewN w d2)).at hlti
          subst hca
          unfold iv at hc2
          have hl := (okL_iff _ _).1 (unhide HO2 i hlti)
          obtain ⟨b3, o3, hva, hb3, hc3⟩ := ((unhide HV).later (bl_drewN w d2)).at (k := (f i).natAbs - 1) (by omega)
          subst hva
          unfold bv at hc3
          obtain ⟨z1, z2, z3⟩ := hl
          have hcast : (((f i).natAbs : Int) - 1).toNat = (f i).natAbs - 1 := by omega
          have hnn : (0 : Int) ≤ ((f i).natAbs : Int) - 1 := by omega
          have hlt3 : ((f i).natAbs : Int) - 1 < (n : Int) := by omega
          have hsy : says v (f i) = (v ((f i).natAbs - 1) == decide (0 < f i)) := rfl
          have cv := hide (variable_any (f i) (by omega) (by omega))
          have HYE2 := hide (unhide HYE i hlti)
          have HA3 := hide (fun (h : says v (f i) = false) => show ∀ j, j < i + 1 → says v (f j) = false from fun j hj => by
            by_cases e : j = i
            · subst e; exact h
            · exact unhide HA2 j (by omega))
          rw [hsy] at HYE2 HA3
          clear hsy hri
          generalize v ((f i).natAbs - 1) = vb at *
          generalize hqq : (f i).natAbs = q at *
          generalize f i = l at *
          cases hh : (vb == decide (0 < l)) with
          | true =>
            have HE2 := hide (unhide HYE2 hh)
            go_wp2_with (go_at_call 49; refine (unhide cv _).mono ?_; rintro x w2 ⟨rfl, rfl⟩)
            go_roundg (N - (k + 1))
            case measure => omega
            case rel => exact ⟨k + 1, d2, by go_num, by omega, by omega, rfl, HE2⟩
          | false =>
            have HE2 := hide (unhide HA3 hh)
            go_wp2_with (go_at_call 49; refine (unhide cv _).mono ?_; rintro x w2 ⟨rfl, rfl⟩)
            go_roundg (m - (i + 1))
            case measure => omega
            case rel => exact ⟨i + 1, d2, by go_num, by omega, by omega, rfl, HE2⟩
        · have HE := hide (unhide HNO fun j hj => unhide HA2 j (by omega))
          go_wp2
          rw [Exit.noGoto_ret]
          go_ret
          exact ⟨ret_i (unhide HE).symm, bl_drewN _ _⟩
    · have HE := hide (firstN_all (N := N) (p := fun k => clT v (ln k) (L k)) fun j hj => unhide HA j (by omega))
      go_wp2
      rw [Exit.noGoto_ret]
      go_ret
      exact ⟨ret_i (unhide HE).symm, bl_drewN _ _⟩
end Go.Proofs.Ytabjbppekijfiaa
