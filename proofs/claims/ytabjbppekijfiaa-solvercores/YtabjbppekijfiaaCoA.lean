import Derived.Test.YtabjbppekijfiaaLwJ
namespace Go.Proofs.Ytabjbppekijfiaa
open Go.RowKit

/-- The numbers but one. -/
def wo (p : List Int) (one : Int) : List Int := p.filter fun x => x != one
theorem wo_take {p : List Int} {one : Int} {k : Nat} (hk : k < p.length) : wo (p.take (k + 1)) one = wo (p.take k) one ++ (if p.getD k 0 = one then [] else [p.getD k 0]) := by
  have e : p.getD k 0 = p[k] := by simp [hk]
  rw [e, List.take_add_one, List.getElem?_eq_getElem hk]
  unfold wo
  rw [List.filter_append]
  congr 1
  by_cases h : p[k] = one
  · simp [h]
  · simp [h]
theorem wo_len (p : List Int) (one : Int) (k : Nat) : (wo (p.take k) one).length ≤ k := by
  unfold wo
  exact Nat.le_trans (List.length_filter_le _ _) (by simp; omega)
theorem tV_app (p : List Int) (x : Int) : tV (p ++ [x]) = tV p ++ [.int .i64 x] := by simp [tV]
set_option maxRecDepth 100000 in
set_option maxHeartbeats 2000000 in
theorem without_any (p : List Int) (one : Int) (pa : Option Addr) (c n : Nat) (w : World) (hn : p.length = n) (hp : n * 8 ≤ 140737488351232) (h : Ri w pa n (fun j => p.getD j 0)) :
    Calls Try.prog 51 #[.slice pa n c, .int .i64 one] w fun x w' => ∃ qa qc, x = .returned (.slice qa (wo p one).length qc) ∧ w'.ownsRow w.heap.size 3 1 (.slice qa (wo p one).length qc) (wo p one).length (tV (wo p one)) ∧ Below w.heap.size w w' := by
  obtain ⟨i0, hi0, hz0, hz1, hz2⟩ := info_parts infoI
  have HV := hide h
  have HN := hide hn
  clear h hn
  go_enter Try.func51, Try.ntmps51
  go_wp2_with fail
  go_loopg [5, 7, 10] n (fun g1 vl_ _ vi wr => ∃ (k q : Nat) (la : Option Addr) (lc : Nat), vi = .int .i64 k ∧ vl_ = .slice la q lc ∧ k ≤ n ∧ n - k ≤ g1 ∧ q ≤ k ∧ Hid (q = (wo (p.take k) one).length) ∧ Hid (wr.ownsRow w.heap.size 3 1 (.slice la q lc) q (tV (wo (p.take k) one))) ∧ Hid (Below w.heap.size w wr))
  case atStart => exact ⟨0, 0, none, 0, by go_num, rfl, by omega, by omega, by omega, hide (by simp [wo]), hide (by have := World.ownsRow_nil w w.heap.size 3 1; simpa [wo, tV] using this), hide (Below.refl _ _)⟩
  case round =>
    obtain ⟨k, q, la, lc, rfl, rfl, hk, hg, hq, HQ, HO, HB⟩ := hrel
    have hsz := (unhide HB).size
    by_cases hlt : k < n
    · obtain ⟨b, o, rfl, _, hc0⟩ := (Ri.later (unhide HV) (unhide HB)).at hlt
      have hc : wr.cell? ⟨b, o + k, none⟩ = some (.int .i64 (p.getD k 0)) := hc0
      clear hc0
      have HT := hide (wo_take (p := p) (one := one) (k := k) (by rw [unhide HN]; exact hlt))
      generalize p.getD k 0 = x at *
      by_cases hx : x = one
      · subst hx
        have HQ2 := hide (show q = (wo (p.take (k + 1)) x).length from by rw [unhide HT, if_pos rfl, List.append_nil]; exact unhide HQ)
        have HO2 := hide (show wr.ownsRow w.heap.size 3 1 (.slice la q lc) q (tV (wo (p.take (k + 1)) x)) from by rw [unhide HT, if_pos rfl, List.append_nil]; exact unhide HO)
        clear HT
        go_wp2
        go_roundg (n - (k + 1))
        case measure => omega
        case rel => exact ⟨k + 1, q, la, lc, by go_num, rfl, by omega, by omega, by omega, HQ2, HO2, HB⟩
      · have HQ2 := hide (show q + 1 = (wo (p.take (k + 1)) one).length from by rw [unhide HT, if_neg hx, List.length_append, ← unhide HQ]; rfl)
        have HE := hide (show tV (wo (p.take (k + 1)) one) = tV (wo (p.take k) one) ++ [.int .i64 x] from by rw [unhide HT, if_neg hx, tV_app])
        clear HT
        go_wp2_with (at_builtin; go_must (refine wpList_append_lies _ rfl _ _ 23 rfl w.heap.size 3 i0 (.int .i64 0) 1 8 Try.underlying23 hi0 hz0 hz1 hz2 rfl (by decide) (.slice la q lc) q _ rfl ((unhide HO).alloc _) ⟨wr.heap.size, 0, none⟩ 1 1 [.int .i64 x] rfl rfl (cell_one_new _ _ _) (by simp [Value.oneCell']) (by decide) (by unfold maxLen; omega) (by omega) (by simp; omega) _ rfl ?_); intro gg c9 w9 hown hgrow hat _; have HO9 := hide (show w9.ownsRow w.heap.size 3 1 (.slice (some ⟨gg, 0, none⟩) (q + 1) c9) (q + 1) (tV (wo (p.take (k + 1)) one)) from by rw [unhide HE]; exact hown); have HB9 := hide (((unhide HB).alloc hsz _).grown hgrow (by simp; omega) (fun j e => ((unhide HO).lt j e).1)); clear hown hgrow hat)
        go_roundg (n - (k + 1))
        case measure => omega
        case rel => exact ⟨k + 1, q + 1, _, _, by go_num, rfl, by omega, by omega, by omega, HQ2, HO9, HB9⟩
    · go_wp2
      go_ret
      obtain rfl : k = n := by omega
      have e : p.take k = p := List.take_of_length_le (by rw [unhide HN]; exact Nat.le_refl _)
      have hq2 := unhide HQ
      have ho2 := unhide HO
      rw [e] at hq2 ho2
      subst hq2
      exact ⟨la, lc, rfl, ho2, unhide HB⟩
end Go.Proofs.Ytabjbppekijfiaa
