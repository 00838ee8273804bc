import Derived.Test.YtjflnpcpnoccjaaTmE
namespace Go.Proofs.Ytjflnpcpnoccjaa
open Go.RowKit

theorem nall_iff (n : Nat) (p : Nat → Bool) : (!bAll n fun b => !p b) = true ↔ ∃ b, b < n ∧ p b = true := by
  constructor
  · intro h
    refine Classical.byContradiction fun q => ?_
    have : bAll n (fun b => !p b) = true := (bAll_iff _ _).2 fun b hb => by
      cases e : p b with
      | false => rfl
      | true => exact absurd ⟨b, hb, e⟩ q
    rw [this] at h
    cases h
  · rintro ⟨b, hb, e⟩
    cases q : bAll n (fun b => !p b) with
    | false => rfl
    | true =>
      have := (bAll_iff _ _).1 q b hb
      rw [e] at this
      cases this
def Dr (w W : World) : Prop := ∃ t, W = w.drewN t
theorem Dr.refl (w : World) : Dr w w := ⟨0, rfl⟩
theorem Dr.below {w W : World} (h : Dr w W) : Below w.heap.size w W := by
  obtain ⟨t, rfl⟩ := h
  exact bl_drewN w t
theorem Dr.more {w W : World} (h : Dr w W) (n : Nat) : Dr w (W.drewN n) := by
  obtain ⟨t, rfl⟩ := h
  exact ⟨_, World.drewN_drewN _ _ _⟩
set_option maxRecDepth 100000 in
set_option maxHeartbeats 8000000 in
theorem rbetween_any {N : Nat} {ln : Nat → Nat} {L : Nat → Nat → Int} {na pa qa : Option Addr} {nc pcp qcp n m : Nat} {f h : Nat → Nat} {w : World} (hN : N ≤ 1048576) (hln : ∀ k, k < N → ln k ≤ 1048576) (hR : Rr w na N ln L) (hn : n ≤ 1048576) (hm : m ≤ 1048576) (hf : ∀ i, i < n → f i < N) (hP : Ri w pa n (fun j => (f j : Int))) (hQ : Ri w qa m (fun j => (h j : Int))) :
    Calls Try.prog 58 #[.slice na N nc, .slice pa n pcp, .slice qa m qcp] w fun x w' => x = .returned (.bool (!bAll n fun a => !(!bAll m fun b => !ebB (ln (f a)) (L (f a)) (h b : Int)))) ∧ Dr w w' := by
  have HE := hide (fun (W : World) (hW : Below w.heap.size w W) (i : Nat) (hi : i < n) (v : Int) => redge_any N ln L (f i) v na nc W (hf i hi) (by omega) (by have := hln _ (hf i hi); omega) (hR.later hW))
  have HP := hide (fun (W : World) (hW : Below w.heap.size w W) (i : Nat) (hi : i < n) => (hP.later hW).at hi)
  have HQ := hide (fun (W : World) (hW : Below w.heap.size w W) (i : Nat) (hi : i < m) => (hQ.later hW).at hi)
  clear hR hP hQ hln hf
  go_enter Try.func58, Try.ntmps58
  go_wp2_with fail
  go_loopg [7, 8, 9] n (fun g1 vi _ _ wr => ∃ i : Nat, vi = .int .i64 i ∧ i ≤ n ∧ n - i ≤ g1 ∧ Hid (∀ a, a < i → ∀ b, b < m → ebB (ln (f a)) (L (f a)) (h b : Int) = false) ∧ Hid (Dr w wr))
  case atStart => exact ⟨0, by go_num, by omega, by omega, hide (fun a ha => by omega), hide (Dr.refl _)⟩
  case round =>
    obtain ⟨i, rfl, hi, hg1, HNO, HB⟩ := hrel
    by_cases hil : i < n
    · have hil2 : (i : Int) < (n : Int) := by omega
      go_wp2_with fail
      go_loopg [8, 9] m (fun g2 vi _ wr => ∃ k : Nat, vi = .int .i64 k ∧ k ≤ m ∧ m - k ≤ g2 ∧ Hid (∀ b, b < k → ebB (ln (f i)) (L (f i)) (h b : Int) = false) ∧ Hid (Dr w wr))
      case atStart => exact ⟨0, by go_num, by omega, by omega, hide (fun a ha => by omega), HB⟩
      case round =>
        clear HB
        obtain ⟨k, rfl, hk, hg2, HNK, HB⟩ := hrel
        by_cases hkl : k < m
        · obtain ⟨b1, o1, rfl, _, c1⟩ := unhide HP wr (unhide HB).below i hil
          obtain ⟨b2, o2, rfl, _, c2⟩ := unhide HQ wr (unhide HB).below k hkl
          unfold iv at c1 c2
          have c1' : wr.cell? ⟨b1, o1 + i, none⟩ = some (.int .i64 (f i : Int)) := c1
          have c2' : wr.cell? ⟨b2, o2 + k, none⟩ = some (.int .i64 (h k : Int)) := c2
          have hkl2 : (k : Int) < (m : Int) := by omega
          have cE := hide (fun (t : Nat) => unhide HE (wr.drewN t) (bl_t (unhide HB).below (bl_drewN wr t)) i hil (h k : Int))
          clear c1 c2
          go_upto_region 7 with fail
          cases hb : ebB (ln (f i)) (L (f i)) (h k : Int) with
          | true =>
            have HRES := hide (show (!bAll n fun a => !(!bAll m fun b => !ebB (ln (f a)) (L (f a)) (h b : Int))) = true from (nall_iff _ _).2 ⟨i, hil, (nall_iff _ _).2 ⟨k, hkl, hb⟩⟩)
            rw [hb] at cE
            clear hb
            go_quiet (first | (go_at_call 52; exact Calls.quiet_of_same (unhide cE _)))
            have HB2 := hide ((unhide HB).more nq)
            generalize wr.drewN nq = W2 at *
            go_wp2_with fail
            go_ret
            exact ⟨by rw [unhide HRES]; rfl, unhide HB2⟩
          | false =>
            rw [hb] at cE
            have HNK2 := hide (show ∀ b, b < k + 1 → ebB (ln (f i)) (L (f i)) (h b : Int) = false from fun b hb2 => by
              by_cases e : b = k
              · subst e; exact hb
              · exact unhide HNK b (by omega))
            clear hb HNK
            go_quiet (first | (go_at_call 52; exact Calls.quiet_of_same (unhide cE _)))
            have HB2 := hide ((unhide HB).more nq)
            generalize wr.drewN nq = W2 at *
            go_wp2_with fail
            go_roundg (m - (k + 1))
            case measure => omega
            case rel => exact ⟨k + 1, by go_num, by omega, by omega, HNK2, HB2⟩
        · obtain rfl : k = m := by omega
          have HNO2 := hide (show ∀ a, a < i + 1 → ∀ b, b < k → ebB (ln (f a)) (L (f a)) (h b : Int) = false from fun a ha b hb => by
            by_cases e : a = i
            · subst e; exact unhide HNK b hb
            · exact unhide HNO a (by omega) b hb)
          clear HNO HNK
          go_wp2_with fail
          go_roundg (n - (i + 1))
          case measure => omega
          case rel => exact ⟨i + 1, by go_num, by omega, by omega, HNO2, HB⟩
    · obtain rfl : i = n := by omega
      have HRES := hide (show (!bAll i fun a => !(!bAll m fun b => !ebB (ln (f a)) (L (f a)) (h b : Int))) = false from by
        cases q : (!bAll i fun a => !(!bAll m fun b => !ebB (ln (f a)) (L (f a)) (h b : Int))) with
        | false => rfl
        | true =>
          obtain ⟨a, ha, e⟩ := (nall_iff _ _).1 q
          obtain ⟨b, hb, e2⟩ := (nall_iff _ _).1 e
          rw [unhide HNO a ha b hb] at e2
          cases e2)
      clear HNO
      go_wp2_with fail
      go_ret
      exact ⟨by rw [unhide HRES]; rfl, unhide HB⟩
end Go.Proofs.Ytjflnpcpnoccjaa
