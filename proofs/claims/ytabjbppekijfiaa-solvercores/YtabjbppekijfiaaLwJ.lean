import Derived.Test.YtabjbppekijfiaaLwG
namespace Go.Proofs.Ytabjbppekijfiaa
open Go.RowKit

/-- WHAT IS WANTED, FROM i ON. -/
def Wl (v : Nat → Bool) (n i : Nat) (p : List Int) : Prop := (∀ l ∈ p, ∃ x : Nat, x < n ∧ v x = true ∧ l = (x : Int) + 1) ∧ ∀ x : Nat, i ≤ x → x < n → v x = true → ((x : Int) + 1) ∈ p
theorem Wl.no {v : Nat → Bool} {n i : Nat} {p : List Int} (h : Wl v n (i + 1) p) (hv : v i = false) : Wl v n i p := ⟨h.1, fun x h1 h2 h3 => by
  by_cases e : x = i
  · subst e; rw [hv] at h3; cases h3
  · exact h.2 x (by omega) h2 h3⟩
theorem Wl.yes {v : Nat → Bool} {n i : Nat} {p : List Int} (h : Wl v n (i + 1) p) (hi : i < n) (hv : v i = true) : Wl v n i (p ++ [((i : Int) + 1)]) := ⟨fun l hl => by
  rcases List.mem_append.1 hl with q | q
  · exact h.1 l q
  · exact ⟨i, hi, hv, by simpa using q⟩, fun x h1 h2 h3 => by
  by_cases e : x = i
  · subst e; simp
  · exact List.mem_append_left _ (h.2 x (by omega) h2 h3)⟩
theorem tV_vl (p : List Int) : tV p = vl p.length (iv fun j => p.getD j 0) := by
  unfold tV vl
  apply List.ext_getElem
  · simp
  · intro i h1 h2
    have h3 : i < p.length := by simpa using h1
    simp [iv, h3]
theorem Wl.says {v : Nat → Bool} {n i : Nat} {p : List Int} (h : Wl v n i p) {j : Nat} (hj : j < p.length) : says v (p.getD j 0) = true := by
  have e : p.getD j 0 = p[j] := by simp [hj]
  obtain ⟨x, _, hv, hl⟩ := h.1 p[j] (List.getElem_mem hj)
  rw [e, hl]
  have e2 : ((x : Int) + 1).natAbs - 1 = x := by omega
  unfold Go.Proofs.Ytabjbppekijfiaa.says
  rw [e2, hv]
  simp
  try omega
theorem Wl.has {v : Nat → Bool} {n : Nat} {p : List Int} (h : Wl v n 0 p) {x : Nat} (hx : x < n) (hv : v x = true) : ∃ j, j < p.length ∧ p.getD j 0 = (x : Int) + 1 := by
  obtain ⟨j, hj, e⟩ := List.getElem_of_mem (h.2 x (by omega) hx hv)
  exact ⟨j, hj, by rw [← e]; simp [hj]⟩
theorem Rt.congr {W : World} {pa : Option Addr} {n : Nat} {f g : Nat → Bool} (h : Rt W pa n f) (e : ∀ x, x < n → g x = f x) : Rt W pa n g := fun h0 => by
  obtain ⟨b, o, e1, lt, hc⟩ := h h0
  exact ⟨b, o, e1, lt, fun i hi => by rw [hc i hi]; unfold bv; rw [e i hi]⟩
set_option maxRecDepth 100000 in
set_option maxHeartbeats 4000000 in
theorem wanted_walk (N : Nat) (ln : Nat → Nat) (L : Nat → Nat → Int) (n : Nat) (v : Nat → Bool) (B : Int) (ca va : Option Addr) (cc vc : Nat) (w : World) (hN : N * 24 ≤ 140737488351232) (hn : n ≤ 1048576) (hln : ∀ k, k < N → ln k * 8 ≤ 140737488351232) (hR : Rr w ca N ln L) (hV : Rt w va n v) :
    Calls Try.prog 4 #[.slice ca N cc, .slice va n vc, .int .i64 B] w fun x w' => x = .returned (.bool true) ∧ Below w.heap.size w w' := by
  obtain ⟨i0, hi0, hz0, hz1, hz2⟩ := info_parts infoI
  have HLN := hide (show ∀ k, k < N → ln k ≤ 140737488355328 from fun k hk => by have := hln k hk; omega)
  have HLN2 := hide hln
  have HR := hide hR
  have HV := hide hV
  clear hR hV hln
  go_enter Try.func4, Try.ntmps4
  go_wp2_with (go_at_call 11; refine (lives_any _).mono ?_; rintro x1 w1 ⟨rfl, hb1⟩; have HB1 := hide hb1; clear hb1)
  go_loopg [8, 9] n (fun g1 vl_ vi wr => ∃ (i q : Nat) (p : List Int) (la : Option Addr) (lc : Nat), vi = .int .i64 i ∧ vl_ = .slice la q lc ∧ i ≤ n ∧ i ≤ g1 ∧ q + i ≤ n ∧ Hid (p.length = q) ∧ Hid (Wl v n i p) ∧ Hid (wr.ownsRow w.heap.size 3 1 (.slice la q lc) q (tV p)) ∧ Hid (Below w.heap.size w wr))
  case atStart => exact ⟨n, 0, [], none, 0, by go_num, rfl, by omega, by omega, by omega, hide rfl, hide ⟨fun l h => absurd h List.not_mem_nil, fun x h1 h2 => absurd h2 (by omega)⟩, hide (World.ownsRow_nil _ _ _ _), HB1⟩
  case round =>
    obtain ⟨i, q, p, la, lc, rfl, rfl, hi, hg, hq, HLp, HW, HO, HB⟩ := hrel
    have hsz := (unhide HB).size
    by_cases hlt : 0 < i
    · obtain ⟨i', rfl⟩ : ∃ i', i = i' + 1 := ⟨i - 1, by omega⟩
      obtain ⟨b, o, rfl, _, hc⟩ := ((unhide HV).later (unhide HB)).at (k := i') (by omega)
      unfold bv at hc
      have j1 : ((i' + 1 : Nat) : Int) - 1 = (i' : Int) := by omega
      have j2 : IntKind.i64.wrap (i' : Int) = (i' : Int) := IntWalk.i64_in _ (by omega)
      have j3 : (i' : Int) < (n : Int) := by omega
      cases hv : v i' with
      | true =>
        rw [hv] at hc
        have HW2 := hide ((unhide HW).yes (by omega) hv)
        go_wp2_with (at_builtin; go_must (refine wpList_append_lies _ rfl _ _ 23 rfl w.heap.size 3 i0 (.int .i64 0) 1 8 Try.underlying23 hi0 hz0 hz1 hz2 rfl (by decide) (.slice la q lc) q _ rfl ((unhide HO).alloc _) ⟨wr.heap.size, 0, none⟩ 1 1 [.int .i64 ((i' + 1 : Nat) : Int)] rfl rfl (cell_one_new _ _ _) (by simp [Value.oneCell']) (by decide) (by unfold maxLen; omega) (by omega) (by simp; omega) _ rfl ?_); intro gg c9 w9 hown hgrow hat _; have HO9 := hide (show w9.ownsRow w.heap.size 3 1 (.slice (some ⟨gg, 0, none⟩) (q + 1) c9) (q + 1) (tV (p ++ [((i' : Int) + 1)])) from by (have e : tV (p ++ [((i' : Int) + 1)]) = tV p ++ [.int .i64 ((i' + 1 : Nat) : Int)] := by simp [tV]); rw [e]; exact hown); have HB9 := hide (((unhide HB).alloc hsz _).grown hgrow (by simp; omega) (fun j e => ((unhide HO).lt j e).1)); clear hown hgrow hat)
        go_roundg i'
        case measure => omega
        case rel => exact ⟨i', q + 1, _, _, _, by go_num, rfl, by omega, by omega, by omega, hide (by simp [unhide HLp]), HW2, HO9, HB9⟩
      | false =>
        rw [hv] at hc
        have HW2 := hide ((unhide HW).no hv)
        go_wp2
        go_roundg i'
        case measure => omega
        case rel => exact ⟨i', q, p, la, lc, by go_num, rfl, by omega, by omega, by omega, HLp, HW2, HO, HB⟩
    · obtain rfl : i = 0 := by omega
      obtain ⟨f, hf⟩ : ∃ f : Nat → Int, f = fun j => p.getD j 0 := ⟨_, rfl⟩
      have HQ := hide (show Ri wr la q f from by
        have h := unhide HO
        rw [tV_vl, unhide HLp, ← hf] at h
        exact Rv.of_owns h)
      have HSY := hide (show ∀ j, j < q → says v (f j) = true from fun j hj => by rw [hf]; exact (unhide HW).says (by rw [unhide HLp]; exact hj))
      have HHA := hide (show ∀ x, x < n → v x = true → ∃ j, j < q ∧ f j = (x : Int) + 1 from fun x hx hv => by
        obtain ⟨j, h1, h2⟩ := (unhide HW).has hx hv
        exact ⟨j, by rw [← unhide HLp]; exact h1, by rw [hf]; exact h2⟩)
      clear hf HW HO HLp
      have cP := hide (problem_any n B N ln L q f ca la cc lc wr hN (by omega) (unhide HLN) ((unhide HR).later (unhide HB)) (unhide HQ))
      cases hp : prob n B N ln L q f with
      | false =>
        rw [hp] at cP
        go_wp2_with (go_at_call 12; refine (unhide cP).mono ?_; rintro x2 w2 ⟨rfl, hb2⟩; have HB2 := hide (bl_t (unhide HB) hb2); clear hb2)
        go_ret
        exact ⟨rfl, unhide HB2⟩
      | true =>
        rw [hp] at cP
        have hO := (prob_ok hp).1
        rw [Int.toNat_natCast] at hO
        have HOK := hide hO
        have hk1 : n ≤ 131071 := hO.n
        clear hO
        have HSO := hide (fun (w1 : World) {ca qa : Option Addr} {cc qc : Nat} (h : Rr w1 ca N ln L) (h2 : Ri w1 qa q f) => Solve_ok (cc := cc) (qc := qc) hp (by omega) (by omega) (unhide HLN) h h2)
        rw [Int.toNat_natCast] at HSO
        have cM := hide (fun (w1 : World) (hb : Below w.heap.size w w1) => lmodel_any n hk1 N ln L v ca va cc vc w1 (by omega) (unhide HLN) ((unhide HR).later hb) ((unhide HV).later hb) (unhide HOK).cl)
        have HLT := hide (fun (w1 : World) (hb : Below w.heap.size w w1) => twin_any N ln L ca cc w1 hN (unhide HLN2) ((unhide HR).later hb))
        clear hp
        cases hmo : (bAll N fun i => clT v (ln i) (L i)) with
        | false =>
          rw [hmo] at cM
          go_wp2_with (first | (go_at_call 12; refine (unhide cP).mono ?_; rintro x2 w2 ⟨rfl, hb2⟩; have HB2 := hide (bl_t (unhide HB) hb2); clear hb2) | (go_at_call 16; refine (unhide cM _ (unhide HB2)).mono ?_; rintro x4 w4 ⟨rfl, hb4⟩; have HB4 := hide (bl_t (unhide HB2) hb4); clear hb4))
          go_ret
          exact ⟨rfl, unhide HB4⟩
        | true =>
          have HMO := hide (show Pb.Mo ⟨n, N, ln, L, q, f⟩ v from (bAll_iff _ _).1 hmo)
          rw [hmo] at cM
          clear hmo
          go_upto_region 13 with (first | (go_at_call 12; refine (unhide cP).mono ?_; rintro x2 w2 ⟨rfl, hb2⟩; have HQ2 := hide (Ri.later (unhide HQ) hb2); have HB2 := hide (bl_t (unhide HB) hb2); clear hb2) | (go_at_call 16; refine (unhide cM _ (unhide HB2)).mono ?_; rintro x4 w4 ⟨rfl, hb4⟩; have HQ4 := hide (Ri.later (unhide HQ2) hb4); have HB4 := hide (bl_t (unhide HB2) hb4); clear hb4) | (go_at_call 14; refine (unhide HLT _ (unhide HB4)).mono ?_; rintro x5 w5 ⟨tb, tcb, tg, tcp, rfl, htw, hb5⟩; have HTW := hide htw; have HQ5 := hide (Ri.later (unhide HQ4) hb5); have HB5 := hide (bl_t (unhide HB4) hb5); clear htw hb5) | (go_at_call 13; refine (unhide HSO _ (unhide HTW).rr (unhide HQ5)).mono ?_; rintro x6 w6 hso; obtain ⟨v6, tr, S, l, g, hrs, rfl, hb6, hrt, hl, hgg⟩ := hso.first; have HRS := hide hrs; have HL := hide hl; have HRT := hide hrt; have HB6 := hide (bl_t (unhide HB5) hb6); clear hrs hl hrt hb6 hso hgg))
          have hba : Below w6.heap.size w6 (w6.alloc (.cells #[.int .i64 v6, .slice g l l, .int .i64 (S : Int)] 29)) := (Below.refl w6.heap.size w6).alloc (Nat.le_refl _) _
          have HB7 := hide (bl_t (unhide HB6) hba)
          have HRT7 := hide ((unhide HRT).later hba)
          have hz := heap_new w6 (.cells #[.int .i64 v6, .slice g l l, .int .i64 (S : Int)] 29)
          have c0 : (w6.alloc (.cells #[.int .i64 v6, .slice g l l, .int .i64 (S : Int)] 29)).cell? ⟨w6.heap.size, 0, none⟩ = some (.int .i64 v6) := (cell_blk hz 0).1
          have c1 : (w6.alloc (.cells #[.int .i64 v6, .slice g l l, .int .i64 (S : Int)] 29)).cell? ⟨w6.heap.size, 1, none⟩ = some (.slice g l l) := (cell_blk hz 1).1
          clear hz hba HRT HB6 HTW HQ5 HQ4 HQ2 HQ cM HSO HLT
          generalize w6.alloc (.cells #[.int .i64 v6, .slice g l l, .int .i64 (S : Int)] 29) = W7 at *
          generalize w6.heap.size = rb at *
          rcases (unhide HRS).le.2 with hv | hv | ⟨hv, _⟩
          · subst hv
            obtain rfl : l = n := unhide HL
            have cB := hide (bools_any l (mv tr) g va l vc W7 (by omega) (unhide HRT7) (Rt.congr ((unhide HV).later (unhide HB7)) ((unhide HRS).wanted (unhide HOK) (unhide HMO) (unhide HSY) (unhide HHA))))
            go_wp2_with (go_at_call 17; refine (unhide cB).mono ?_; rintro x8 w8 ⟨rfl, hb8⟩; have HB8 := hide (bl_t (unhide HB7) hb8); clear hb8)
            go_ret
            exact ⟨rfl, unhide HB8⟩
          · subst hv
            exact absurd (unhide HMO) ((unhide HRS).unsat (unhide HOK) v)
          · subst hv
            go_wp2
            go_ret
            exact ⟨rfl, unhide HB7⟩
end Go.Proofs.Ytabjbppekijfiaa
