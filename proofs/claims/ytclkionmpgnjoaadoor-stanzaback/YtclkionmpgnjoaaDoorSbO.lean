import Derived.Test.YtclkionmpgnjoaaDoorSbM
import Derived.Test.YtclkionmpgnjoaaDoorSbN
import Derived.Test.YtclkionmpgnjoaaDoorSwA
namespace Go.Proofs.YtclkionmpgnjoaaDoor
open Go.RowKit

set_option maxRecDepth 100000 in
set_option maxHeartbeats 4000000 in
theorem back_whole (t : Bs) (pa : Option Addr) (tc : Nat) (w : World) (ht : t.length ≤ 140737488351232) (hR : Rb w pa t) (hG : Glob w) :
    Calls Tryd.prog 7 #[.slice pa t.length tc] w fun e w' => e = .returned (.bool true) ∧ Below w.heap.size w w' := by
  obtain ⟨n, er0, hne⟩ : ∃ n er, pOut t = (n, er) := ⟨_, _, rfl⟩
  have cL := hide (lives_any w hG)
  have cC := hide (fun (w1 : World) (hb : Below w.heap.size w w1) => copied_wide t pa tc w1 (by omega) (hR.later hb))
  by_cases hlt : 16777216 < t.length
  · have hpo : pOut t = (0, 2) := by unfold pOut; rw [if_pos hlt]
    have cP := hide (show ∀ (w2 : World), Below w.heap.size w w2 → ∀ qa qc, Rb w2 qa t → Calls Tryd.prog 11 #[.slice qa t.length qc] w2 fun e W2 => e = .returned (.tuple #[.slice none 0 0, .int .i64 0, .int .i64 2]) ∧ Below w2.heap.size w2 W2 from fun w2 hb qa qc hq => by
      refine (Parse_any t qa qc w2 (by omega) (hG.later (n := w.heap.size) hG.big hb) (fun W hbW => (hq.later hbW).cv qc)).mono ?_
      rintro e W2 ⟨lv, h1, h2, h3, _⟩
      rw [hpo] at h1 h3
      rw [h1, h3 (by decide)]
      exact ⟨rfl, h2⟩)
    clear hne hpo hR
    go_enter Tryd.func7, Tryd.ntmps7
    go_wp2_with (first | (go_at_call 10; refine (unhide cL).mono ?_; rintro e w1 ⟨rfl, hb1⟩; have HB1 := hide hb1; clear hb1) | (go_at_call 12; refine (unhide cC w1 (unhide HB1)).mono ?_; rintro e w2 ⟨qa, qc, rfl, ho2, hb2⟩; have HR2 := hide (Rb.of_owns ho2).2; have HB2 := hide (bl_t (unhide HB1) hb2); clear ho2 hb2) | (go_at_call 11; refine (unhide cP w2 (unhide HB2) qa qc (unhide HR2)).mono ?_; rintro e w3 ⟨rfl, hb3⟩; have HB3 := hide (bl_t (unhide HB2) hb3); clear hb3))
    first | exact ⟨rfl, unhide HB3⟩ | (go_ret; exact ⟨rfl, unhide HB3⟩) | exact ⟨rfl, _, results_tmp (t := 2) (by kernel_rfl) _ _ _, rfl, unhide HB3⟩
  cases hx : (parseT t).err with
  | some x =>
    have hpo : pOut t = x := by unfold pOut; rw [if_neg hlt, hx]
    rw [hne] at hpo
    subst hpo
    have hn0 : 0 < n ∧ er0 ≠ 0 ∧ er0 ≠ 2 := err_kind t n er0 hx
    have cP := hide (show ∀ (w2 : World), Below w.heap.size w w2 → ∀ qa qc, Rb w2 qa t → Calls Tryd.prog 11 #[.slice qa t.length qc] w2 fun e W2 => e = .returned (.tuple #[.slice none 0 0, .int .i64 n, .int .i64 er0]) ∧ Below w2.heap.size w2 W2 from fun w2 hb qa qc hq => by
      refine (Parse_any t qa qc w2 (by omega) (hG.later (n := w.heap.size) hG.big hb) (fun W hbW => (hq.later hbW).cv qc)).mono ?_
      rintro e W2 ⟨lv, h1, h2, h3, _⟩
      rw [hne] at h1 h3
      rw [h1, h3 hn0.2.1]
      exact ⟨rfl, h2⟩)
    have e0 : ((er0 : Int) != 0) = true := by simp; omega
    have e2 : ((er0 : Int) != 2) = true := by simp; omega
    have en : (0 : Int) < (n : Int) := by omega
    clear hne hx hR
    go_enter Tryd.func7, Tryd.ntmps7
    go_wp2_with (first | (go_at_call 10; refine (unhide cL).mono ?_; rintro e w1 ⟨rfl, hb1⟩; have HB1 := hide hb1; clear hb1) | (go_at_call 12; refine (unhide cC w1 (unhide HB1)).mono ?_; rintro e w2 ⟨qa, qc, rfl, ho2, hb2⟩; have HR2 := hide (Rb.of_owns ho2).2; have HB2 := hide (bl_t (unhide HB1) hb2); clear ho2 hb2) | (go_at_call 11; refine (unhide cP w2 (unhide HB2) qa qc (unhide HR2)).mono ?_; rintro e w3 ⟨rfl, hb3⟩; have HB3 := hide (bl_t (unhide HB2) hb3); clear hb3))
    first | exact ⟨rfl, unhide HB3⟩ | (go_ret; exact ⟨rfl, unhide HB3⟩) | exact ⟨rfl, _, results_tmp (t := 2) (by kernel_rfl) _ _ _, rfl, unhide HB3⟩
  | none =>
    have hpo : pOut t = (0, 0) := by unfold pOut; rw [if_neg hlt, hx]
    obtain ⟨hok, hlen⟩ := parse_ok t
    have hns := parse_ns t
    obtain ⟨pe, pp⟩ := parse_print _ hok
    generalize hps : shut (parseT t) = ps at *
    have hszb : (prT ps).length ≤ 134217728 := by omega
    have hll : ps.length ≤ 268435457 ∧ ∀ x ∈ ps, x.length ≤ 268435456 ∧ ∀ f ∈ x, f.ls.length ≤ 268435456 ∧ f.ls ≠ [] ∧ f.ns.length = f.ls.length := by
      obtain ⟨l1, l2⟩ := prT_len ps
      refine ⟨by omega, fun x hx => ?_⟩
      have h1 := (okP_parts (hok x hx)).1
      have h2 := par_len x h1
      have h3 := l2 x hx
      refine ⟨by omega, fun f hf => ?_⟩
      have h4 := List.all_eq_true.1 h1 f hf
      have h5 := fld_len f h4
      have h6 := h2.2 f hf
      refine ⟨by omega, fun e => ?_, hns x hx f hf⟩
      simp [okF, e] at h4
    have cP := hide (show ∀ (w2 : World), Below w.heap.size w w2 → ∀ qa qc, Rb w2 qa t → Calls Tryd.prog 11 #[.slice qa t.length qc] w2 fun e W2 => ∃ va vc, e = .returned (.tuple #[.slice va ps.length vc, .int .i64 0, .int .i64 0]) ∧ DocC W2 (.slice va ps.length vc) ps ∧ Below w2.heap.size w2 W2 from fun w2 hb qa qc hq => by
      refine (Parse_any t qa qc w2 (by omega) (hG.later (n := w.heap.size) hG.big hb) (fun W hbW => (hq.later hbW).cv qc)).mono ?_
      rintro e W2 ⟨lv, h1, h2, _, h3⟩
      rw [hpo] at h1 h3
      rw [hps] at h3
      obtain ⟨vs, v1, v2, v3⟩ := h3 rfl
      have hd : DocC W2 lv ps := doc_of v1 v2 fun i v p i1 i2 => (v3 i v p i1 i2).po.parC
      obtain ⟨va, vc, e1, e2⟩ := hd
      subst e1
      exact ⟨va, vc, h1, ⟨va, vc, rfl, e2⟩, h2⟩)
    have cT := hide (fun (w3 : World) (v : Value) (hd : DocC w3 v ps) => twin_yes ps v w3 hll.1 hll.2 hd)
    by_cases hsz : (prT ps).length ≤ 16777216
    case neg =>
      have cR := hide (fun (w3 : World) (v : Value) (hd : DocC w3 v ps) => Print_long ps v w3 hok hszb (by omega) hd)
      clear hne hx hR hpo hok hns pe pp hps hll hlen
      go_enter Tryd.func7, Tryd.ntmps7
      go_wp2_with (first | (go_at_call 10; refine (unhide cL).mono ?_; rintro e w1 ⟨rfl, hb1⟩; have HB1 := hide hb1; clear hb1) | (go_at_call 12; refine (unhide cC w1 (unhide HB1)).mono ?_; rintro e w2 ⟨qa, qc, rfl, ho2, hb2⟩; have HR2 := hide (Rb.of_owns ho2).2; have HB2 := hide (bl_t (unhide HB1) hb2); clear ho2 hb2) | (go_at_call 11; refine (unhide cP w2 (unhide HB2) qa qc (unhide HR2)).mono ?_; rintro e w3 ⟨va, vc, rfl, hd3, hb3⟩; have HB3 := hide (bl_t (unhide HB2) hb3); have HD3 := hide hd3; clear hb3 hd3) | (go_at_call 15; refine (unhide cT w3 _ (unhide HD3)).mono ?_; rintro e w4 ⟨u4, rfl, hd4, hb4⟩; have HB4 := hide (bl_t (unhide HB3) hb4); have HT4 := hide hd4; clear hb4 hd4) | (go_at_call 14; refine (unhide cR w4 _ (unhide HT4)).mono ?_; rintro e w6 ⟨rfl, hb6⟩; have HB6 := hide (bl_t (unhide HB4) hb6); clear hb6))
      first | exact ⟨rfl, unhide HB6⟩ | (go_ret; exact ⟨rfl, unhide HB6⟩) | exact ⟨rfl, _, results_tmp (t := 2) (by kernel_rfl) _ _ _, rfl, unhide HB6⟩
    obtain ⟨hok2, _⟩ := parse_ok (prT ps)
    have hpo2 : pOut (prT ps) = (0, 0) := by unfold pOut; rw [if_neg (by omega), pe]
    generalize hqs : shut (parseT (prT ps)) = qs at *
    have hq : prT qs = prT ps := prT_er _ _ pp
    have cR := hide (fun (w3 : World) (v : Value) (hd : DocC w3 v ps) => Print_yes ps v w3 hok hsz hd)
    have cC2 := hide (fun (w1 : World) (qa : Option Addr) (qc : Nat) (h : Rb w1 qa (prT ps)) => copied_any (prT ps) qa qc w1 hsz h)
    have cQ := hide (show ∀ (w2 : World), Below w.heap.size w w2 → ∀ qa qc, Rb w2 qa (prT ps) → Calls Tryd.prog 11 #[.slice qa (prT ps).length qc] w2 fun e W2 => ∃ va vc, e = .returned (.tuple #[.slice va qs.length vc, .int .i64 0, .int .i64 0]) ∧ DocC W2 (.slice va qs.length vc) qs ∧ Below w2.heap.size w2 W2 from fun w2 hb qa qc hq => by
      refine (Parse_any (prT ps) qa qc w2 (by omega) (hG.later (n := w.heap.size) hG.big hb) (fun W hbW => (hq.later hbW).cv qc)).mono ?_
      rintro e W2 ⟨lv, h1, h2, _, h3⟩
      rw [hpo2] at h1 h3
      rw [hqs] at h3
      obtain ⟨vs, v1, v2, v3⟩ := h3 rfl
      have hd : DocC W2 lv qs := doc_of v1 v2 fun i v p i1 i2 => (v3 i v p i1 i2).po.parC
      obtain ⟨va, vc, e1, e2⟩ := hd
      subst e1
      exact ⟨va, vc, h1, ⟨va, vc, rfl, e2⟩, h2⟩)
    have cR2 := hide (show ∀ (w3 : World) (v : Value), DocC w3 v qs → Calls Tryd.prog 14 #[v] w3 fun e w' => ∃ pa c, e = .returned (.tuple #[.slice pa (prT ps).length c, .int .i64 0]) ∧ w'.ownsRow w3.heap.size 5 1 (.slice pa (prT ps).length c) (prT ps).length (encB (prT ps)) ∧ Below w3.heap.size w3 w' from fun w3 v hd => by
      have h := Print_yes qs v w3 hok2 (by rw [hq]; exact hsz) hd
      rw [hq] at h
      exact h)
    have cS := hide (fun (w3 : World) (v u : Value) (h1 : DocC w3 v ps) (h2 : DocC w3 u qs) => Same_yes ps qs v u w3 pp.symm hll.1 (fun x hx => ⟨(hll.2 x hx).1, fun f hf => ((hll.2 x hx).2 f hf).1⟩) h1 h2)
    have cE := hide (fun (w3 : World) (p1 p2 : Option Addr) (c1 c2 : Nat) (h1 : Rb w3 p1 (prT ps)) (h2 : Rb w3 p2 (prT ps)) => same_yes (prT ps) p1 p2 c1 c2 w3 (by omega) h1 h2)
    clear hne hx hR hpo hpo2 hok hok2 hns pe pp hps hqs hq hll hlen
    generalize prT ps = tx at *
    go_enter Tryd.func7, Tryd.ntmps7
    go_wp2_with (first | (go_at_call 10; refine (unhide cL).mono ?_; rintro e w1 ⟨rfl, hb1⟩; have HB1 := hide hb1; clear hb1 cL) | (go_at_call 12; have _u := HB6; clear _u; refine (unhide cC2 _ _ _ (unhide HR6)).mono ?_; rintro e w7 ⟨qa7, qc7, rfl, ho7, hb7⟩; have HR7 := hide (Rb.of_owns ho7).2; have HB7 := hide (bl_t (unhide HB6) hb7); have HR67 := hide ((unhide HR6).later hb7); have HD7 := hide ((unhide HD6).later hb7); clear ho7 hb7) | (go_at_call 12; refine (unhide cC w1 (unhide HB1)).mono ?_; rintro e w2 ⟨qa, qc, rfl, ho2, hb2⟩; have HR2 := hide (Rb.of_owns ho2).2; have HB2 := hide (bl_t (unhide HB1) hb2); clear ho2 hb2) | (go_at_call 11; have _u := HB7; clear _u; refine (unhide cQ w7 (unhide HB7) qa7 qc7 (unhide HR7)).mono ?_; rintro e w8 ⟨va8, vc8, rfl, hd8, hb8⟩; have HB8 := hide (bl_t (unhide HB7) hb8); have HD8 := hide ((unhide HD7).later hb8); have HE8 := hide hd8; have HR8 := hide ((unhide HR67).later hb8); clear hb8 hd8) | (go_at_call 11; refine (unhide cP w2 (unhide HB2) qa qc (unhide HR2)).mono ?_; rintro e w3 ⟨va, vc, rfl, hd3, hb3⟩; have HB3 := hide (bl_t (unhide HB2) hb3); have HD3 := hide hd3; clear hb3 hd3) | (go_at_call 15; refine (unhide cT w3 _ (unhide HD3)).mono ?_; rintro e w4 ⟨u4, rfl, hd4, hb4⟩; have HB4 := hide (bl_t (unhide HB3) hb4); have HT4 := hide hd4; have HD4 := hide ((unhide HD3).later hb4); clear hb4 hd4) | (go_at_call 14; have _u := HB8; clear _u; refine (unhide cR2 w8 _ (unhide HE8)).mono ?_; rintro e w9 ⟨pa9, c9, rfl, ho9, hb9⟩; have HB9 := hide (bl_t (unhide HB8) hb9); have HR9 := hide (Rb.of_owns ho9).2; have HR89 := hide ((unhide HR8).later hb9); have HD9 := hide ((unhide HD8).later hb9); have HE9 := hide ((unhide HE8).later hb9); clear ho9 hb9) | (go_at_call 14; refine (unhide cR w4 _ (unhide HT4)).mono ?_; rintro e w6 ⟨pa6, c6, rfl, ho6, hb6⟩; have HB6 := hide (bl_t (unhide HB4) hb6); have HR6 := hide (Rb.of_owns ho6).2; have HD6 := hide ((unhide HD4).later hb6); clear ho6 hb6) | (go_at_call 16; refine (unhide cS w9 _ _ (unhide HD9) (unhide HE9)).mono ?_; rintro e wa ⟨rfl, hba⟩; have HBa := hide (bl_t (unhide HB9) hba); have HRa := hide ((unhide HR89).later hba); have HRb := hide ((unhide HR9).later hba); clear hba) | (go_at_call 20; refine (unhide cE wa _ _ _ _ (unhide HRa) (unhide HRb)).mono ?_; rintro e wb ⟨rfl, hbb⟩; have HBb := hide (bl_t (unhide HBa) hbb); clear hbb))
    first | exact ⟨rfl, unhide HBb⟩ | (go_ret; exact ⟨rfl, unhide HBb⟩) | exact ⟨rfl, _, results_tmp (t := 2) (by kernel_rfl) _ _ _, rfl, unhide HBb⟩

end Go.Proofs.YtclkionmpgnjoaaDoor
