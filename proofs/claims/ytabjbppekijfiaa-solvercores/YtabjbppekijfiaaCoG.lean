import Derived.Test.YtabjbppekijfiaaCoF
namespace Go.Proofs.Ytabjbppekijfiaa
open Go.RowKit

def Cb (n B : Int) (w : World) (x : Ending) (w' : World) : Prop := ∃ e : Int, e = (if okN n = true ∧ 0 ≤ B ∧ B ≤ 1152921504606846976 then 90 else 1) ∧ x = .returned (.tuple #[.slice none 0 0, .int .i64 0, .int .i64 e]) ∧ Below w.heap.size w w'
set_option maxRecDepth 100000 in
set_option maxHeartbeats 2000000 in
theorem Core_bad {n B : Int} {N : Nat} {ln : Nat → Nat} {L : Nat → Nat → Int} (hp : prob n B N ln L 0 nof = false) {ca : Option Addr} {cc : Nat} {w : World} (hN : N * 24 ≤ 140737488351232) (hln : ∀ k, k < N → ln k ≤ 140737488355328) (hR : Rr w ca N ln L) :
    Calls Try.prog 29 #[.int .i64 n, .slice ca N cc, .int .i64 B] w fun x w' => Cb n B w x w' := by
  have HSO := hide (fun (w1 : World) (hb : Below w.heap.size w w1) => Solve_bad (cc := cc) (qc := 0) (qa := none) hp (by omega) (by omega) hln (hR.later hb) (fun h0 => absurd h0 (Nat.lt_irrefl _)))
  have HB0 := hide (Below.refl w.heap.size w)
  clear hln hR hp
  go_enter Try.func29, Try.ntmps29
  go_upto_region 2 with (first | (go_at_call 13; refine (unhide HSO _ (unhide HB0)).mono ?_; rintro x5 w5 ⟨e, he, rfl, hb5⟩; have HE := hide he; have HB5 := hide hb5; clear he hb5))
  have hz := heap_new w5 (.cells #[.int .i64 0, .slice none 0 0, .int .i64 0] 29)
  have HB7 := hide (bl_t (unhide HB5) (al w5 (.cells #[.int .i64 0, .slice none 0 0, .int .i64 0] 29)))
  have c0 : (w5.alloc (.cells #[.int .i64 0, .slice none 0 0, .int .i64 0] 29)).cell? ⟨w5.heap.size, 0, none⟩ = some (.int .i64 0) := (cell_blk hz 0).1
  have hne : e ≠ 0 := by
    have := unhide HE
    split at this <;> omega
  clear hz HB5 HSO
  generalize w5.alloc (.cells #[.int .i64 0, .slice none 0 0, .int .i64 0] 29) = W7 at *
  generalize w5.heap.size = rb at *
  go_wp2_with fail
  go_quiet (fail)
  have HB8 := hide (bl_t (unhide HB7) (bl_drewN W7 nq))
  generalize W7.drewN nq = W8 at *
  go_wp2
  refine bodyPost_ret (v := .tuple #[.slice none 0 0, .int .i64 0, .int .i64 e]) (by simp [results, Try.results29, go_sem]) rfl ⟨e, unhide HE, rfl, unhide HB8⟩
/-- THE LIST WITHOUT ONE PLACE. -/
def ch (p : List Int) (but : Int) : Nat → List Int
  | 0 => []
  | k + 1 => ch p but k ++ (if (k : Int) = but then [] else [p.getD k 0])
theorem ch_len (p : List Int) (but : Int) : ∀ k, (ch p but k).length ≤ k
  | 0 => Nat.le_refl _
  | k + 1 => by
    have := ch_len p but k
    rw [ch, List.length_append]
    split <;> simp <;> omega
/-- Values of rows. -/
def rV (C : Nat → Option Addr) (ln D : Nat → Nat) (p : List Int) : List Value := p.map fun x => .slice (C x.toNat) (ln x.toNat) (D x.toNat)
theorem rV_vl (C : Nat → Option Addr) (ln D : Nat → Nat) (p : List Int) : rV C ln D p = vl p.length (fun j => .slice (C (p.getD j 0).toNat) (ln (p.getD j 0).toNat) (D (p.getD j 0).toNat)) := by
  unfold rV vl
  apply List.ext_getElem
  · simp
  · intro i h1 h2
    have h3 : i < p.length := by simpa using h1
    simp [h3]
theorem ch_in {p : List Int} {but : Int} {N : Int} (hp : ∀ x ∈ p, 0 ≤ x ∧ x < N) : ∀ k, k ≤ p.length → ∀ x ∈ ch p but k, 0 ≤ x ∧ x < N
  | 0, _, x, hx => absurd hx List.not_mem_nil
  | k + 1, hk, x, hx => by
    rw [ch] at hx
    rcases List.mem_append.1 hx with h | h
    · exact ch_in hp k (by omega) x h
    · split at h
      · exact absurd h List.not_mem_nil
      · rw [List.mem_singleton.1 h]
        exact hp _ (getD_mem (by omega))
set_option maxRecDepth 100000 in
set_option maxHeartbeats 2000000 in
theorem lchosen_any (N : Nat) (ln : Nat → Nat) (L : Nat → Nat → Int) (p : List Int) (m : Nat) (but : Int) (ca pa : Option Addr) (cc c : Nat) (w : World) (hpm : p.length = m) (hm : m * 24 ≤ 140737488351232) (hp : ∀ x ∈ p, 0 ≤ x ∧ x < (N : Int)) (hR : Rr w ca N ln L) (hP : Ri w pa m (fun j => p.getD j 0)) :
    Calls Try.prog 30 #[.slice ca N cc, .slice pa m c, .int .i64 but] w fun x w' => ∃ qa qc, x = .returned (.slice qa (ch p but m).length qc) ∧ Rr w' qa (ch p but m).length (fun j => ln ((ch p but m).getD j 0).toNat) (fun j => L ((ch p but m).getD j 0).toNat) ∧ Below w.heap.size w w' := by
  obtain ⟨i0, hi0, hz0, hz1, hz2⟩ := info_parts infoL
  obtain ⟨C, D, hRv, hRi⟩ := hR
  have HRv := hide hRv
  have HRi := hide hRi
  have HP := hide hP
  have HPN := hide hp
  have HPM := hide hpm
  clear hRv hRi hP hp hpm
  go_enter Try.func30, Try.ntmps30
  go_wp2_with fail
  go_loopg [7, 8] m (fun g1 vl_ vi wr => ∃ (k q : Nat) (la : Option Addr) (lc : Nat), vi = .int .i64 k ∧ vl_ = .slice la q lc ∧ k ≤ m ∧ m - k ≤ g1 ∧ q ≤ k ∧ Hid (q = (ch p but k).length) ∧ Hid (wr.ownsRow w.heap.size 23 1 (.slice la q lc) q (rV C ln D (ch p but k))) ∧ Hid (Below w.heap.size w wr))
  case atStart => exact ⟨0, 0, none, 0, by go_num, rfl, by omega, by omega, by omega, hide rfl, hide (World.ownsRow_nil _ _ _ _), hide (Below.refl _ _)⟩
  case round =>
    obtain ⟨k, q, la, lc, rfl, rfl, hk, hg, hq, HQ, HO, HB⟩ := hrel
    have hsz := (unhide HB).size
    by_cases hlt : k < m
    · by_cases hb : (k : Int) = but
      · have HQ2 := hide (show q = (ch p but (k + 1)).length from by rw [ch, if_pos hb, List.append_nil]; exact unhide HQ)
        have HO2 := hide (show wr.ownsRow w.heap.size 23 1 (.slice la q lc) q (rV C ln D (ch p but (k + 1))) from by rw [ch, if_pos hb, List.append_nil]; exact unhide HO)
        subst hb
        go_wp2
        go_roundg (m - (k + 1))
        case measure => omega
        case rel => exact ⟨k + 1, q, la, lc, by go_num, rfl, by omega, by omega, by omega, HQ2, HO2, HB⟩
      · obtain ⟨b, o, rfl, _, hc0⟩ := (Ri.later (unhide HP) (unhide HB)).at hlt
        have hin := unhide HPN _ (getD_mem (p := p) (j := k) (by rw [unhide HPM]; exact hlt))
        obtain ⟨xn, hxn⟩ : ∃ xn : Nat, p.getD k 0 = (xn : Int) := ⟨(p.getD k 0).toNat, by omega⟩
        have hc : wr.cell? ⟨b, o + k, none⟩ = some (.int .i64 (xn : Int)) := by rw [← hxn]; exact hc0
        have hx1 : xn < N := by omega
        have hx2 : (xn : Int) < (N : Int) := by omega
        obtain ⟨b2, o2, rfl, _, hc2⟩ := ((unhide HRv).later (unhide HB)).at hx1
        have HQ2 := hide (show q + 1 = (ch p but (k + 1)).length from by rw [ch, if_neg hb, List.length_append, ← unhide HQ]; rfl)
        have HE := hide (show rV C ln D (ch p but (k + 1)) = rV C ln D (ch p but k) ++ [.slice (C xn) (ln xn) (D xn)] from by rw [ch, if_neg hb, hxn]; simp [rV])
        clear hc0 hin hxn
        go_wp2_with (at_builtin; go_must (refine wpList_append_lies _ rfl _ _ 22 rfl w.heap.size 23 i0 (.slice none 0 0) 1 24 Try.underlying22 hi0 hz0 hz1 hz2 rfl (by decide) (.slice la q lc) q _ rfl ((unhide HO).alloc _) ⟨wr.heap.size, 0, none⟩ 1 1 [.slice (C xn) (ln xn) (D xn)] rfl rfl (cell_one_new _ _ _) (by simp [Value.oneCell']) (by decide) (by unfold maxLen; omega) (by omega) (by simp; omega) _ rfl ?_); intro gg c9 w9 hown hgrow hat _; have HO9 := hide (show w9.ownsRow w.heap.size 23 1 (.slice (some ⟨gg, 0, none⟩) (q + 1) c9) (q + 1) (rV C ln D (ch p but (k + 1))) from by rw [unhide HE]; exact hown); have HB9 := hide (((unhide HB).alloc hsz _).grown hgrow (by simp; omega) (fun j e => ((unhide HO).lt j e).1)); clear hown hgrow hat)
        go_roundg (m - (k + 1))
        case measure => omega
        case rel => exact ⟨k + 1, q + 1, _, _, by go_num, rfl, by omega, by omega, by omega, HQ2, HO9, HB9⟩
    · go_wp2
      go_ret
      obtain rfl : k = m := by omega
      have hq2 := unhide HQ
      have ho2 := unhide HO
      rw [rV_vl, ← hq2] at ho2
      have hi := ch_in (but := but) (unhide HPN) k (by rw [unhide HPM]; exact Nat.le_refl _)
      refine ⟨la, lc, by rw [hq2]; rfl, ?_, unhide HB⟩
      rw [← hq2]
      exact ⟨_, _, Rv.of_owns ho2, fun j hj => Ri.later (unhide HRi _ (by have := hi _ (getD_mem (j := j) (by omega)); omega)) (unhide HB)⟩
end Go.Proofs.Ytabjbppekijfiaa
