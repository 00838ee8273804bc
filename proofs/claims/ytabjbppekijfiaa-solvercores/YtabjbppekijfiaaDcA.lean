import Derived.Test.YtabjbppekijfiaaCoH
import Derived.Test.YtabjbppekijfiaaDsI
namespace Go.Proofs.Ytabjbppekijfiaa
open Go.RowKit

set_option maxRecDepth 100000 in
set_option maxHeartbeats 2000000 in
theorem rwithout_any (p : List Int) (one : Int) (pa : Option Addr) (c n : Nat) (w : World) (hn : p.length = n) (hp : n * 8 ≤ 140737488351232) (h : Ri w pa n (fun j => p.getD j 0)) :
    Calls Try.prog 57 #[.slice pa n c, .int .i64 one] w fun x w' => ∃ qa qc, x = .returned (.slice qa (wo p one).length qc) ∧ w'.ownsRow w.heap.size 3 1 (.slice qa (wo p one).length qc) (wo p one).length (tV (wo p one)) ∧ Below w.heap.size w w' := by
  obtain ⟨i0, hi0, hz0, hz1, hz2⟩ := info_parts infoI
  have HV := hide h
  have HN := hide hn
  clear h hn
  go_enter Try.func57, Try.ntmps57
  go_wp2_with fail
  go_loopg [5, 6] n (fun g1 vl_ vi wr => ∃ (k q : Nat) (la : Option Addr) (lc : Nat), vi = .int .i64 k ∧ vl_ = .slice la q lc ∧ k ≤ n ∧ n - k ≤ g1 ∧ q ≤ k ∧ Hid (q = (wo (p.take k) one).length) ∧ Hid (wr.ownsRow w.heap.size 3 1 (.slice la q lc) q (tV (wo (p.take k) one))) ∧ Hid (Below w.heap.size w wr))
  case atStart => exact ⟨0, 0, none, 0, by go_num, rfl, by omega, by omega, by omega, hide (by simp [wo]), hide (by have := World.ownsRow_nil w w.heap.size 3 1; simpa [wo, tV] using this), hide (Below.refl _ _)⟩
  case round =>
    obtain ⟨k, q, la, lc, rfl, rfl, hk, hg, hq, HQ, HO, HB⟩ := hrel
    have hsz := (unhide HB).size
    by_cases hlt : k < n
    · obtain ⟨b, o, rfl, _, hc0⟩ := (Ri.later (unhide HV) (unhide HB)).at hlt
      have hc : wr.cell? ⟨b, o + k, none⟩ = some (.int .i64 (p.getD k 0)) := hc0
      clear hc0
      have HT := hide (wo_take (p := p) (one := one) (k := k) (by rw [unhide HN]; exact hlt))
      generalize p.getD k 0 = x at *
      by_cases hx : x = one
      · subst hx
        have HQ2 := hide (show q = (wo (p.take (k + 1)) x).length from by rw [unhide HT, if_pos rfl, List.append_nil]; exact unhide HQ)
        have HO2 := hide (show wr.ownsRow w.heap.size 3 1 (.slice la q lc) q (tV (wo (p.take (k + 1)) x)) from by rw [unhide HT, if_pos rfl, List.append_nil]; exact unhide HO)
        clear HT
        go_wp2
        go_roundg (n - (k + 1))
        case measure => omega
        case rel => exact ⟨k + 1, q, la, lc, by go_num, rfl, by omega, by omega, by omega, HQ2, HO2, HB⟩
      · have HQ2 := hide (show q + 1 = (wo (p.take (k + 1)) one).length from by rw [unhide HT, if_neg hx, List.length_append, ← unhide HQ]; rfl)
        have HE := hide (show tV (wo (p.take (k + 1)) one) = tV (wo (p.take k) one) ++ [.int .i64 x] from by rw [unhide HT, if_neg hx, tV_app])
        clear HT
        go_wp2_with (at_builtin; go_must (refine wpList_append_lies _ rfl _ _ 23 rfl w.heap.size 3 i0 (.int .i64 0) 1 8 Try.underlying23 hi0 hz0 hz1 hz2 rfl (by decide) (.slice la q lc) q _ rfl ((unhide HO).alloc _) ⟨wr.heap.size, 0, none⟩ 1 1 [.int .i64 x] rfl rfl (cell_one_new _ _ _) (by simp [Value.oneCell']) (by decide) (by unfold maxLen; omega) (by omega) (by simp; omega) _ rfl ?_); intro gg c9 w9 hown hgrow hat _; have HO9 := hide (show w9.ownsRow w.heap.size 3 1 (.slice (some ⟨gg, 0, none⟩) (q + 1) c9) (q + 1) (tV (wo (p.take (k + 1)) one)) from by rw [unhide HE]; exact hown); have HB9 := hide (((unhide HB).alloc hsz _).grown hgrow (by simp; omega) (fun j e => ((unhide HO).lt j e).1)); clear hown hgrow hat)
        go_roundg (n - (k + 1))
        case measure => omega
        case rel => exact ⟨k + 1, q + 1, _, _, by go_num, rfl, by omega, by omega, by omega, HQ2, HO9, HB9⟩
    · go_wp2
      go_ret
      obtain rfl : k = n := by omega
      have e : p.take k = p := List.take_of_length_le (by rw [unhide HN]; exact Nat.le_refl _)
      have hq2 := unhide HQ
      have ho2 := unhide HO
      rw [e] at hq2 ho2
      subst hq2
      exact ⟨la, lc, rfl, ho2, unhide HB⟩
set_option maxRecDepth 100000 in
set_option maxHeartbeats 4000000 in
theorem rchosen_any (N : Nat) (ln : Nat → Nat) (L : Nat → Nat → Int) (p : List Int) (m : Nat) (but : Int) (ca pa : Option Addr) (cc c : Nat) (w : World) (hpm : p.length = m) (hm : m * 24 ≤ 140737488351232) (hp : ∀ x ∈ p, 0 ≤ x ∧ x < (N : Int)) (hR : Rr w ca N ln L) (hP : Ri w pa m (fun j => p.getD j 0)) :
    Calls Try.prog 56 #[.slice ca N cc, .slice pa m c, .int .i64 but] w fun x w' => ∃ qa qc, x = .returned (.slice qa (wo p but).length qc) ∧ Rr w' qa (wo p but).length (fun j => ln ((wo p but).getD j 0).toNat) (fun j => L ((wo p but).getD j 0).toNat) ∧ Below w.heap.size w w' := by
  obtain ⟨i0, hi0, hz0, hz1, hz2⟩ := info_parts infoL
  obtain ⟨C, D, hRv, hRi⟩ := hR
  have HRv := hide hRv
  have HRi := hide hRi
  have HP := hide hP
  have HPN := hide hp
  have HPM := hide hpm
  clear hRv hRi hP hp hpm
  go_enter Try.func56, Try.ntmps56
  go_wp2_with fail
  go_loopg [7, 8] m (fun g1 vl_ vi wr => ∃ (k q : Nat) (la : Option Addr) (lc : Nat), vi = .int .i64 k ∧ vl_ = .slice la q lc ∧ k ≤ m ∧ m - k ≤ g1 ∧ q ≤ k ∧ Hid (q = (wo (p.take k) but).length) ∧ Hid (wr.ownsRow w.heap.size 23 1 (.slice la q lc) q (rV C ln D (wo (p.take k) but))) ∧ Hid (Below w.heap.size w wr))
  case atStart => exact ⟨0, 0, none, 0, by go_num, rfl, by omega, by omega, by omega, hide (by simp [wo]), hide (by have := World.ownsRow_nil w w.heap.size 23 1; simpa [wo, rV] using this), hide (Below.refl _ _)⟩
  case round =>
    obtain ⟨k, q, la, lc, rfl, rfl, hk, hg, hq, HQ, HO, HB⟩ := hrel
    have hsz := (unhide HB).size
    by_cases hlt : k < m
    · obtain ⟨b, o, rfl, _, hc0⟩ := (Ri.later (unhide HP) (unhide HB)).at hlt
      have hin := unhide HPN _ (getD_mem (p := p) (j := k) (by rw [unhide HPM]; exact hlt))
      obtain ⟨xn, hxn⟩ : ∃ xn : Nat, p.getD k 0 = (xn : Int) := ⟨(p.getD k 0).toNat, by omega⟩
      have hc : wr.cell? ⟨b, o + k, none⟩ = some (.int .i64 (xn : Int)) := by rw [← hxn]; exact hc0
      have hx1 : xn < N := by omega
      have hx2 : (xn : Int) < (N : Int) := by omega
      have HT := hide (wo_take (p := p) (one := but) (k := k) (by rw [unhide HPM]; exact hlt))
      rw [hxn] at HT
      clear hc0 hin hxn
      by_cases hb : (xn : Int) = but
      · have HQ2 := hide (show q = (wo (p.take (k + 1)) but).length from by rw [unhide HT, if_pos hb, List.append_nil]; exact unhide HQ)
        have HO2 := hide (show wr.ownsRow w.heap.size 23 1 (.slice la q lc) q (rV C ln D (wo (p.take (k + 1)) but)) from by rw [unhide HT, if_pos hb, List.append_nil]; exact unhide HO)
        subst hb
        clear HT
        go_wp2
        go_roundg (m - (k + 1))
        case measure => omega
        case rel => exact ⟨k + 1, q, la, lc, by go_num, rfl, by omega, by omega, by omega, HQ2, HO2, HB⟩
      · obtain ⟨b2, o2, rfl, _, hc2⟩ := ((unhide HRv).later (unhide HB)).at hx1
        have HQ2 := hide (show q + 1 = (wo (p.take (k + 1)) but).length from by rw [unhide HT, if_neg hb, List.length_append, ← unhide HQ]; rfl)
        have HE := hide (show rV C ln D (wo (p.take (k + 1)) but) = rV C ln D (wo (p.take k) but) ++ [.slice (C xn) (ln xn) (D xn)] from by rw [unhide HT, if_neg hb]; simp [rV])
        clear HT
        have hb' : ((xn : Int) != but) = true := by simpa using hb
        go_wp2_with (at_builtin; go_must (refine wpList_append_lies _ rfl _ _ 22 rfl w.heap.size 23 i0 (.slice none 0 0) 1 24 Try.underlying22 hi0 hz0 hz1 hz2 rfl (by decide) (.slice la q lc) q _ rfl ((unhide HO).alloc _) ⟨wr.heap.size, 0, none⟩ 1 1 [.slice (C xn) (ln xn) (D xn)] rfl rfl (cell_one_new _ _ _) (by simp [Value.oneCell']) (by decide) (by unfold maxLen; omega) (by omega) (by simp; omega) _ rfl ?_); intro gg c9 w9 hown hgrow hat _; have HO9 := hide (show w9.ownsRow w.heap.size 23 1 (.slice (some ⟨gg, 0, none⟩) (q + 1) c9) (q + 1) (rV C ln D (wo (p.take (k + 1)) but)) from by rw [unhide HE]; exact hown); have HB9 := hide (((unhide HB).alloc hsz _).grown hgrow (by simp; omega) (fun j e => ((unhide HO).lt j e).1)); clear hown hgrow hat)
        go_roundg (m - (k + 1))
        case measure => omega
        case rel => exact ⟨k + 1, q + 1, _, _, by go_num, rfl, by omega, by omega, by omega, HQ2, HO9, HB9⟩
    · go_wp2
      go_ret
      obtain rfl : k = m := by omega
      have e : p.take k = p := List.take_of_length_le (by rw [unhide HPM]; exact Nat.le_refl _)
      have hq2 := unhide HQ
      have ho2 := unhide HO
      rw [e] at hq2 ho2
      rw [rV_vl, ← hq2] at ho2
      have hi := wo_in (unhide HPN) but
      refine ⟨la, lc, by rw [hq2]; rfl, ?_, unhide HB⟩
      rw [← hq2]
      exact ⟨_, _, Rv.of_owns ho2, fun j hj => Ri.later (unhide HRi _ (by have := hi _ (getD_mem (j := j) (by omega)); omega)) (unhide HB)⟩
end Go.Proofs.Ytabjbppekijfiaa
