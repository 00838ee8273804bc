import Derived.Test.YtohnjmhdbbkmbaaDoorSgF
import Derived.Test.YtohnjmhdbbkmbaaDoorScG
import Derived.Test.YtohnjmhdbbkmbaaDoorScJ
import Derived.Test.YtohnjmhdbbkmbaaDoorStX
import Derived.Test.YtohnjmhdbbkmbaaDoorSbR
namespace Go.Proofs.YtohnjmhdbbkmbaaDoor
open Go.RowKit

set_option maxRecDepth 100000 in
set_option maxHeartbeats 4000000 in
theorem there_any (ps : List (List Fd)) (va : Option Addr) (vc : Nat) (w : World) (hl : ps.length ≤ 16777216) (hs : ∀ p ∈ ps, p.length ≤ 16777216 ∧ ∀ f ∈ p, szG f) (hsz : (∀ p ∈ ps, okP p = true) → (prT ps).length ≤ 16777216) (hD : DocG w (.slice va ps.length vc) ps) (hG : Glob w) :
    Calls Tryd.prog 4 #[.slice va ps.length vc] w fun e w' => e = .returned (.bool true) ∧ Below w.heap.size w w' := by
  have cL := hide (lives_any w hG)
  have cT := hide (fun (w1 : World) (hb : Below w.heap.size w w1) => twin_any ps (.slice va ps.length vc) w1 hl (fun x hx => ⟨(hs x hx).1, fun f hf => ((hs x hx).2 f hf).2.2⟩) (hD.later hb))
  by_cases hok : ∀ p ∈ ps, okP p = true
  · have hsz := hsz hok
    have hne : ∀ p ∈ ps, ∀ f ∈ p, f.ls ≠ [] := fun p hp f hf => okF_ls (List.all_eq_true.1 (okP_parts (hok p hp)).1 f hf)
    obtain ⟨pe, pp⟩ := parse_print _ hok
    obtain ⟨hok2, _⟩ := parse_ok (prT ps)
    have hpo2 : pOut (prT ps) = (0, 0) := by unfold pOut; rw [if_neg (by omega), pe]
    generalize hqs : shut (parseT (prT ps)) = qs at *
    have hq : prT qs = prT ps := prT_er _ _ pp
    have hll : qs.length ≤ 268435457 ∧ ∀ x ∈ qs, x.length ≤ 268435456 ∧ ∀ f ∈ x, f.ls.length ≤ 268435456 := by
      obtain ⟨l1, l2⟩ := prT_len qs
      rw [hq] at l1 l2
      refine ⟨by omega, fun x hx => ?_⟩
      have h1 := (okP_parts (hok2 x hx)).1
      have h2 := par_len x h1
      have h3 := l2 x hx
      refine ⟨by omega, fun f hf => ?_⟩
      have h4 := List.all_eq_true.1 h1 f hf
      have h5 := fld_len f h4
      have h6 := h2.2 f hf
      omega
    have cR := hide (fun (w3 : World) (v : Value) (hd : DocG w3 v ps) => Print_yes ps v w3 hok hsz (hd.docC hne))
    have cC2 := hide (fun (w1 : World) (qa : Option Addr) (qc : Nat) (h : Rb w1 qa (prT ps)) => copied_any (prT ps) qa qc w1 hsz h)
    have cQ := hide (show ∀ (w2 : World), Below w.heap.size w w2 → ∀ qa qc, Rb w2 qa (prT ps) → Calls Tryd.prog 11 #[.slice qa (prT ps).length qc] w2 fun e W2 => ∃ va vc, e = .returned (.tuple #[.slice va qs.length vc, .int .i64 0, .int .i64 0]) ∧ DocC W2 (.slice va qs.length vc) qs ∧ Below w2.heap.size w2 W2 from fun w2 hb qa qc hq => by
      refine (Parse_any (prT ps) qa qc w2 (by omega) (hG.later (n := w.heap.size) hG.big hb) (fun W hbW => (hq.later hbW).cv qc)).mono ?_
      rintro e W2 ⟨lv, h1, h2, _, h3⟩
      rw [hpo2] at h1 h3
      rw [hqs] at h3
      obtain ⟨vs, v1, v2, v3⟩ := h3 rfl
      have hd : DocC W2 lv qs := doc_of v1 v2 fun i v p i1 i2 => (v3 i v p i1 i2).po.parC
      obtain ⟨va, vc, e1, e2⟩ := hd
      subst e1
      exact ⟨va, vc, h1, ⟨va, vc, rfl, e2⟩, h2⟩)
    have cS := hide (fun (w3 : World) (hb : Below w.heap.size w w3) (v : Value) (h1 : DocC w3 v qs) => Same_yes qs ps v (.slice va ps.length vc) w3 pp hll.1 hll.2 h1 ((hD.later hb).docC hne))
    clear hD hpo2 hok hok2 pe pp hqs hq hll hne hs
    generalize prT ps = tx at *
    go_enter Tryd.func4, Tryd.ntmps4
    go_wp2_with (first
      | (go_at_call 10; refine (unhide cL).mono ?_; rintro e w1 ⟨rfl, hb1⟩; have HB1 := hide hb1; clear hb1 cL)
      | (go_at_call 15; refine (unhide cT w1 (unhide HB1)).mono ?_; rintro e w2 ⟨u2, rfl, hd2, hb2⟩; have HB2 := hide (bl_t (unhide HB1) hb2); have HD2 := hide hd2; clear hb2 hd2)
      | (go_at_call 14; refine (unhide cR w2 _ (unhide HD2)).mono ?_; rintro e w3 ⟨p3, c3, rfl, ho3, hb3⟩; have HB3 := hide (bl_t (unhide HB2) hb3); have HR3 := hide (Rb.of_owns ho3).2; clear hb3 ho3)
      | (go_at_call 12; refine (unhide cC2 _ _ _ (unhide HR3)).mono ?_; rintro e w4 ⟨qa, qc, rfl, ho4, hb4⟩; have HR4 := hide (Rb.of_owns ho4).2; have HB4 := hide (bl_t (unhide HB3) hb4); clear ho4 hb4)
      | (go_at_call 11; refine (unhide cQ w4 (unhide HB4) qa qc (unhide HR4)).mono ?_; rintro e w5 ⟨va5, vc5, rfl, hd5, hb5⟩; have HB5 := hide (bl_t (unhide HB4) hb5); have HD5 := hide hd5; clear hb5 hd5)
      | (go_at_call 16; refine (unhide cS w5 (unhide HB5) _ (unhide HD5)).mono ?_; rintro e w6 ⟨rfl, hb6⟩; have HB6 := hide (bl_t (unhide HB5) hb6); clear hb6))
    first | exact ⟨rfl, unhide HB6⟩ | (go_ret; exact ⟨rfl, unhide HB6⟩) | exact ⟨rfl, _, results_tmp (t := 2) (by kernel_rfl) _ _ _, rfl, unhide HB6⟩
  · have cR := hide (fun (w3 : World) (v : Value) (hd : DocG w3 v ps) => Print_no ps v w3 hok hl hs hd)
    clear hD hok hs hsz
    go_enter Tryd.func4, Tryd.ntmps4
    go_wp2_with (first
      | (go_at_call 10; refine (unhide cL).mono ?_; rintro e w1 ⟨rfl, hb1⟩; have HB1 := hide hb1; clear hb1 cL)
      | (go_at_call 15; refine (unhide cT w1 (unhide HB1)).mono ?_; rintro e w2 ⟨u2, rfl, hd2, hb2⟩; have HB2 := hide (bl_t (unhide HB1) hb2); have HD2 := hide hd2; clear hb2 hd2)
      | (go_at_call 14; refine (unhide cR w2 _ (unhide HD2)).mono ?_; rintro e w3 ⟨rfl, hb3⟩; have HB3 := hide (bl_t (unhide HB2) hb3); clear hb3))
    first | exact ⟨rfl, unhide HB3⟩ | (go_ret; exact ⟨rfl, unhide HB3⟩) | exact ⟨rfl, _, results_tmp (t := 2) (by kernel_rfl) _ _ _, rfl, unhide HB3⟩

end Go.Proofs.YtohnjmhdbbkmbaaDoor
