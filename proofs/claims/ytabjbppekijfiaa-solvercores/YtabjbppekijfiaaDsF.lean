import Derived.Test.YtabjbppekijfiaaDsE
namespace Go.Proofs.Ytabjbppekijfiaa
open Go.RowKit

theorem stn_neg0 {tr : List Int} {l : Int} (h : stn tr l = 0) : stn tr (-l) = 0 := by
  unfold stn at *
  rw [show (-l).natAbs = l.natAbs by omega]
  split at h <;> split <;> omega
theorem Pb.dl0_ok {P : Pb} (h : P.Ok) {tr : List Int} (hu : P.dl0 tr ≠ 0) : okL P.n (P.dl0 tr) = true ∧ stn tr (P.dl0 tr) = 0 := P.dl_ok h (s := ⟨tr, [], 0⟩) (Nat.zero_le _) hu
/-- What the definition's search leaves. -/
def Fr (P : Pb) (w0 : World) (sb vb B : Nat) (ca qa : Option Addr) (cc qc : Nat) (tr : List Int) (R : Int × List Int × Nat) (w : World) (x : Ending) (w' : World) : Prop :=
  Bt sb w w' ∧ Sd P w0 sb vb B R.2.2 (R.1 == 3) ca qa cc qc tr w' ∧ R.2.2 ≤ B ∧ ((R.1 = 1 ∧ ∃ g gc, x = .returned (.tuple #[.slice (some ⟨g, 0, none⟩) P.n gc, .bool true]) ∧ Va w' g P.n R.2.1) ∨ ((R.1 = 2 ∨ R.1 = 3) ∧ x = .returned (.tuple #[.slice none 0 0, .bool false])))
theorem Sd.bt {P : Pb} {w0 : World} {sb vb g B c c2 : Nat} {out o2 : Bool} {ca qa : Option Addr} {cc qc : Nat} {tr tr2 : List Int} {W W2 : World} (h : Sd P w0 sb vb B c out ca qa cc qc tr W) (hb : Bt sb W W2) (k : Sd P w0 sb g B c2 o2 ca qa cc qc tr2 W2) : Sd P w0 sb vb B c2 o2 ca qa cc qc tr W2 := ⟨k.str, hb.va h.ne h.val, k.bel, k.ord⟩
theorem fr_unit {P : Pb} {B r : Nat} {tr : List Int} {c : Nat} (h1 : c + P.cost tr ≤ B) (h2 : P.ff tr = -1) (h3 : (P.sc tr P.N).1 ≠ 0) : P.fr B (r + 1) tr c = P.fr B r (tr ++ [(P.sc tr P.N).1]) (c + P.cost tr) := by
  rw [Pb.fr, if_neg (by omega), if_neg (fun q => q h2), if_pos h3]
theorem fr_sat {P : Pb} {B r : Nat} {tr : List Int} {c : Nat} (h1 : c + P.cost tr ≤ B) (h2 : P.ff tr = -1) (h3 : (P.sc tr P.N).1 = 0) (h4 : P.dl0 tr = 0) : P.fr B r tr c = (1, tr, c + P.cost tr) := by
  cases r with
  | zero => rw [Pb.fr, if_neg (by omega), if_neg (fun q => q h2)]
  | succ r => rw [Pb.fr, if_neg (by omega), if_neg (fun q => q h2), if_neg (fun q => q h3), if_pos h4]
theorem fr_bad {P : Pb} {B r : Nat} {tr : List Int} {c : Nat} (h1 : c + P.cost tr ≤ B) (h2 : P.ff tr ≠ -1) : P.fr B r tr c = (2, tr, c + P.cost tr) := by
  cases r with
  | zero => rw [Pb.fr, if_neg (by omega), if_pos h2]
  | succ r => rw [Pb.fr, if_neg (by omega), if_pos h2]
theorem fr_out {P : Pb} {B r : Nat} {tr : List Int} {c : Nat} (h1 : B < c + P.cost tr) : P.fr B r tr c = (3, tr, B) := by
  cases r with
  | zero => rw [Pb.fr, if_pos h1]
  | succ r => rw [Pb.fr, if_pos h1]
theorem fr_dec {P : Pb} {B r : Nat} {tr : List Int} {c : Nat} (h1 : c + P.cost tr ≤ B) (h2 : P.ff tr = -1) (h3 : (P.sc tr P.N).1 = 0) (h4 : P.dl0 tr ≠ 0) : P.fr B (r + 1) tr c = if (P.fr B r (tr ++ [P.dl0 tr]) (c + P.cost tr)).1 = 2 then P.fr B r (tr ++ [-P.dl0 tr]) (P.fr B r (tr ++ [P.dl0 tr]) (c + P.cost tr)).2.2 else P.fr B r (tr ++ [P.dl0 tr]) (c + P.cost tr) := by
  rw [Pb.fr, if_neg (by omega), if_neg (fun q => q h2), if_neg (fun q => q h3), if_neg h4]
theorem fr_v (P : Pb) (B : Nat) : ∀ r tr c, (P.fr B r tr c).1 = 1 ∨ (P.fr B r tr c).1 = 2 ∨ (P.fr B r tr c).1 = 3
  | 0, tr, c => by
    unfold Pb.fr
    split
    · exact .inr (.inr rfl)
    · split
      · exact .inr (.inl rfl)
      · exact .inl rfl
  | r + 1, tr, c => by
    unfold Pb.fr
    split
    · exact .inr (.inr rfl)
    · split
      · exact .inr (.inl rfl)
      · split
        · exact fr_v P B r _ _
        · split
          · exact .inl rfl
          · split
            · exact fr_v P B r _ _
            · exact fr_v P B r _ _
/-- A trail that may be. -/
structure Tk (P : Pb) (tr : List Int) (r : Nat) : Prop where
  ok : ∀ l ∈ tr, okL P.n l = true
  nd : Nd tr
  le : P.n - tr.length ≤ r
theorem Tk.snoc {P : Pb} {tr : List Int} {r : Nat} (h : Tk P tr r) {l : Int} (hl : okL P.n l = true) (h0 : stn tr l = 0) : ∃ r', r = r' + 1 ∧ Tk P (tr ++ [l]) r' := by
  have h1 := nd_snoc h.nd (okL_ne hl) h0
  have h2 := ok_snoc h.ok hl
  have h3 := trail_le h1 h2
  have h4 := h.le
  simp only [List.length_append, List.length_singleton] at h3
  exact ⟨r - 1, by omega, h2, h1, by simp only [List.length_append, List.length_singleton]; omega⟩
theorem ret_vb {a b : Value} {c d : Bool} (h1 : a = b) (h2 : c = d) : Ending.returned (.tuple #[a, .bool c]) = .returned (.tuple #[b, .bool d]) := by rw [h1, h2]
set_option maxRecDepth 100000 in
set_option maxHeartbeats 8000000 in
theorem from_any {P : Pb} (hP : P.Ok) {w0 : World} {sb B : Nat} {ca qa : Option Addr} {cc qc : Nat} (hB : B ≤ 1152921504606846976) (hN : P.N ≤ 140737488355328) (hm : P.m ≤ 140737488355328) (hln : ∀ k, k < P.N → P.ln k ≤ 140737488355328) (hR : Rr w0 ca P.N P.ln P.L) (hQ : Ri w0 qa P.m P.f) :
    ∀ r (vb vc c : Nat) (tr : List Int) (w : World), Tk P tr r → c ≤ B → Sd P w0 sb vb B c false ca qa cc qc tr w → Calls Try.prog 44 #[.pointer (some ⟨sb, 0, none⟩), .slice (some ⟨vb, 0, none⟩) P.n vc] w fun x w' => Fr P w0 sb vb B ca qa cc qc tr (P.fr B r tr c) w x w' := by
  intro r
  induction r using Nat.strongRecOn with
  | ind r ih =>
  intro vb vc c tr w hT hc h
  have IH := hide ih
  have HT := hide hT
  have HS := hide h
  have HOK := hide hP
  have cS0 := hide (rscan_any (vc := vc) hP hB hc hN hln hR h)
  have cD := hide (fun (w1 : World) (c1 : Nat) (h1 : Sd P w0 sb vb B c1 false ca qa cc qc tr w1) => decision_any (vc := vc) hP hN hm hln hR hQ h1)
  clear ih hT h hP hR hQ hln
  by_cases h1 : B < c + P.cost tr
  · rw [fr_out h1]
    have cS := hide ((unhide cS0).mono (R' := fun x w' => x = .returned (.tuple #[.bool false, .int .i64 0]) ∧ Bt sb w w' ∧ Sd P w0 sb vb B B true ca qa cc qc tr w') (fun x w' hx => by
      obtain ⟨hb, ⟨_, q2, q3⟩ | ⟨q1, _⟩ | ⟨q1, _⟩⟩ := hx
      · exact ⟨q2, hb, q3⟩
      · omega
      · omega))
    clear cS0
    go_enter Try.func44, Try.ntmps44
    go_wp2_with (go_at_call 53; refine (unhide cS).mono ?_; rintro x1 w1 ⟨rfl, hb1, hs1⟩; have HS1 := hide hs1; have HB1 := hide hb1; clear hs1 hb1)
    go_ret2
    exact ⟨unhide HB1, unhide HS1, Nat.le_refl _, .inr ⟨.inr rfl, rfl⟩⟩
  · have h1' : c + P.cost tr ≤ B := by omega
    by_cases h2 : P.ff tr = -1
    · have cS := hide ((unhide cS0).mono (R' := fun x w' => x = .returned (.tuple #[.bool true, .int .i64 (P.sc tr P.N).1]) ∧ Bt sb w w' ∧ Sd P w0 sb vb B (c + P.cost tr) false ca qa cc qc tr w') (fun x w' hx => by
        obtain ⟨hb, ⟨q1, _⟩ | ⟨_, q1, _⟩ | ⟨_, _, q2, q3⟩⟩ := hx
        · omega
        · exact absurd h2 q1
        · exact ⟨q2, hb, q3⟩))
      clear cS0
      by_cases h3 : (P.sc tr P.N).1 = 0
      · by_cases h4 : P.dl0 tr = 0
        · rw [fr_sat h1' h2 h3 h4]
          rw [h4] at cD
          rw [h3] at cS
          clear h2 h3 h4
          generalize c + P.cost tr = c1 at *
          go_enter Try.func44, Try.ntmps44
          go_wp2_with (first | (go_at_call 53; refine (unhide cS).mono ?_; rintro x1 w1 ⟨rfl, hb1, hs1⟩; have HS1 := hide hs1; have HB1 := hide hb1; clear hs1 hb1) | (go_at_call 55; refine (unhide cD _ _ (unhide HS1)).mono ?_; rintro x2 w2 ⟨rfl, hb2⟩; have HS2 := hide ((unhide HS1).later hb2); have HB2 := hide ((unhide HB1).trans (Bt.of hb2)); clear hb2))
          go_ret2
          exact ⟨unhide HB2, unhide HS2, h1', .inl ⟨rfl, vb, vc, rfl, (unhide HS2).val⟩⟩
        · obtain ⟨ol, oz⟩ := P.dl0_ok (unhide HOK) h4
          obtain ⟨r', rfl, hT2⟩ := (unhide HT).snoc ol oz
          obtain ⟨r2, er, hT3⟩ := (unhide HT).snoc (okL_neg ol) (stn_neg0 oz)
          obtain rfl : r' = r2 := by omega
          rw [fr_dec h1' h2 h3 h4]
          rw [h3] at cS
          have hnw := (unhide HOK).n
          have hdz : (P.dl0 tr == 0) = false := by simpa using h4
          have cW := hide (fun (w1 : World) (hv : Va w1 vb P.n tr) => with_any (vc := vc) hnw hv (P.dl0 tr) ol oz)
          have cF0 := hide (fun (g gc : Nat) (w1 : World) (hs : Sd P w0 sb g B (c + P.cost tr) false ca qa cc qc (tr ++ [P.dl0 tr]) w1) => unhide IH r' (by omega) g gc _ _ w1 hT2 h1' hs)
          have cW2 := hide (fun (w1 : World) (hv : Va w1 vb P.n tr) => with_any (vc := vc) hnw hv (-P.dl0 tr) (okL_neg ol) (stn_neg0 oz))
          have cG := hide (fun (g gc c2 : Nat) (w1 : World) (hc2 : c2 ≤ B) (hs : Sd P w0 sb g B c2 false ca qa cc qc (tr ++ [-P.dl0 tr]) w1) => unhide IH r' (by omega) g gc _ _ w1 hT3 hc2 hs)
          have hrv := fr_v P B r' (tr ++ [P.dl0 tr]) (c + P.cost tr)
          have hlw : IntKind.i64.wrap (-P.dl0 tr) = -P.dl0 tr := IntWalk.i64_in _ (by have := (okL_iff _ _).1 ol; omega)
          clear h2 h3 h4 IH ol oz hT2 hT3 er
          generalize c + P.cost tr = c1 at *
          generalize P.dl0 tr = dl at *
          obtain ⟨R, hR0⟩ : ∃ R, R = P.fr B r' (tr ++ [dl]) c1 := ⟨_, rfl⟩
          rw [← hR0] at hrv cF0 ⊢
          clear hR0
          obtain ⟨R1, R2, R3⟩ := R
          rcases hrv with e | e | e
          · have e' : R1 = 1 := e
            subst e'
            rw [if_neg (show ¬ (1 : Int) = 2 by decide)]
            have cF := hide (fun (g gc : Nat) (w1 : World) hs => (unhide cF0 g gc w1 hs).mono (R' := fun x w' => ∃ g2 gc2, x = .returned (.tuple #[.slice (some ⟨g2, 0, none⟩) P.n gc2, .bool true]) ∧ Bt sb w1 w' ∧ Sd P w0 sb g B R3 false ca qa cc qc (tr ++ [dl]) w' ∧ R3 ≤ B ∧ Va w' g2 P.n R2) (fun x w' hx => by
              obtain ⟨q1, q2, q3, ⟨_, g2, gc2, q4, q5⟩ | ⟨q | q, _⟩⟩ := hx
              · exact ⟨g2, gc2, q4, q1, q2, q3, q5⟩
              · cases q
              · cases q))
            clear cF0 e cW2 cG
            go_enter Try.func44, Try.ntmps44
            go_wp2_with (first | (go_at_call 53; refine (unhide cS).mono ?_; rintro x1 w1 ⟨rfl, hb1, hs1⟩; have HS1 := hide hs1; have HB1 := hide hb1; clear hs1 hb1) | (go_at_call 55; refine (unhide cD _ _ (unhide HS1)).mono ?_; rintro x2 w2 ⟨rfl, hb2⟩; have HS2 := hide ((unhide HS1).later hb2); have HB2 := hide ((unhide HB1).trans (Bt.of hb2)); clear hb2) | (go_at_call 54; refine (unhide cW _ (unhide HS2).val).mono ?_; rintro x3 w3 ⟨g, gc, rfl, _, hv3, hb3⟩; have HS3 := hide ((unhide HS2).later hb3); have HV3 := hide hv3; have HB3 := hide ((unhide HB2).trans (Bt.of hb3)); clear hv3 hb3) | (go_at_call 44; refine (unhide cF g gc _ ((unhide HS3).with_ (unhide HV3))).mono ?_; rintro x4 w4 ⟨g4, gc4, rfl, hb4, hs4, hr4, hv4⟩; have HS4 := hide ((unhide HS3).bt hb4 hs4); have HB4 := hide ((unhide HB3).trans hb4); have HV4 := hide (And.intro hr4 hv4); clear hs4 hb4 hv4 hr4))
            go_ret2
            exact ⟨unhide HB4, unhide HS4, (unhide HV4).1, .inl ⟨rfl, g4, gc4, rfl, (unhide HV4).2⟩⟩
          · have e' : R1 = 2 := e
            subst e'
            rw [if_pos rfl]
            have cF := hide (fun (g gc : Nat) (w1 : World) hs => (unhide cF0 g gc w1 hs).mono (R' := fun x w' => x = .returned (.tuple #[.slice none 0 0, .bool false]) ∧ Bt sb w1 w' ∧ Sd P w0 sb g B R3 false ca qa cc qc (tr ++ [dl]) w' ∧ R3 ≤ B) (fun x w' hx => by
              obtain ⟨q1, q2, q3, ⟨q, _⟩ | ⟨_, q4⟩⟩ := hx
              · cases q
              · exact ⟨q4, q1, q2, q3⟩))
            clear cF0 e
            have cG2 := hide (fun g gc w1 hc2 hs => unhide cG g gc R3 w1 hc2 hs)
            clear cG
            rw [show ((2, R2, R3) : Int × List Int × Nat).2.2 = R3 from rfl]
            generalize P.fr B r' (tr ++ [-dl]) R3 = R at *
            go_enter Try.func44, Try.ntmps44
            go_upto_region 13 with (first | (go_at_call 53; refine (unhide cS).mono ?_; rintro x1 w1 ⟨rfl, hb1, hs1⟩; have HS1 := hide hs1; have HB1 := hide hb1; clear hs1 hb1) | (go_at_call 55; refine (unhide cD _ _ (unhide HS1)).mono ?_; rintro x2 w2 ⟨rfl, hb2⟩; have HS2 := hide ((unhide HS1).later hb2); have HB2 := hide ((unhide HB1).trans (Bt.of hb2)); clear hb2) | (go_at_call 54; refine (unhide cW _ (unhide HS2).val).mono ?_; rintro x3 w3 ⟨g, gc, rfl, _, hv3, hb3⟩; have HS3 := hide ((unhide HS2).later hb3); have HV3 := hide hv3; have HB3 := hide ((unhide HB2).trans (Bt.of hb3)); clear hv3 hb3) | (go_at_call 44; refine (unhide cF g gc _ ((unhide HS3).with_ (unhide HV3))).mono ?_; rintro x4 w4 ⟨rfl, hb4, hs4, hr4⟩; have HS4 := hide ((unhide HS3).bt hb4 hs4); have HB4 := hide ((unhide HB3).trans hb4); have HR4 := hide hr4; have c4 := (unhide HS4).cells.2.2.2.2.1; clear hs4 hb4 hr4))
            clear HS1 HS2 HS3 HB1 HB2 HB3 HV3 cF cW cS cD
            go_wp2_with (first | (go_at_call 54; refine (unhide cW2 _ (unhide HS4).val).mono ?_; rintro x5 w5 ⟨g5, gc5, rfl, _, hv5, hb5⟩; have HS5 := hide ((unhide HS4).later hb5); have HV5 := hide hv5; have HB5 := hide ((unhide HB4).trans (Bt.of hb5)); clear hv5 hb5) | (go_at_call 44; refine (unhide cG2 g5 gc5 _ (unhide HR4) ((unhide HS5).with_ (unhide HV5))).mono ?_; rintro x6 w6 hx6; obtain ⟨a6, b6, rfl⟩ : ∃ a b, x6 = .returned (.tuple #[a, .bool b]) := (by obtain ⟨_, _, _, ⟨_, g3, gc3, q, _⟩ | ⟨_, q⟩⟩ := hx6; exact ⟨_, _, q⟩; exact ⟨_, _, q⟩); have HX := hide hx6; clear hx6))
            go_ret2
            obtain ⟨q1, q2, q3, q4⟩ := unhide HX
            exact ⟨(unhide HB5).trans q1, (unhide HS5).bt q1 q2, q3, q4⟩
          · have e' : R1 = 3 := e
            subst e'
            rw [if_neg (show ¬ (3 : Int) = 2 by decide)]
            have cF := hide (fun (g gc : Nat) (w1 : World) hs => (unhide cF0 g gc w1 hs).mono (R' := fun x w' => x = .returned (.tuple #[.slice none 0 0, .bool false]) ∧ Bt sb w1 w' ∧ Sd P w0 sb g B R3 true ca qa cc qc (tr ++ [dl]) w' ∧ R3 ≤ B) (fun x w' hx => by
              obtain ⟨q1, q2, q3, ⟨q, _⟩ | ⟨_, q4⟩⟩ := hx
              · cases q
              · exact ⟨q4, q1, q2, q3⟩))
            clear cF0 e cW2 cG
            go_enter Try.func44, Try.ntmps44
            go_wp2_with (first | (go_at_call 53; refine (unhide cS).mono ?_; rintro x1 w1 ⟨rfl, hb1, hs1⟩; have HS1 := hide hs1; have HB1 := hide hb1; clear hs1 hb1) | (go_at_call 55; refine (unhide cD _ _ (unhide HS1)).mono ?_; rintro x2 w2 ⟨rfl, hb2⟩; have HS2 := hide ((unhide HS1).later hb2); have HB2 := hide ((unhide HB1).trans (Bt.of hb2)); clear hb2) | (go_at_call 54; refine (unhide cW _ (unhide HS2).val).mono ?_; rintro x3 w3 ⟨g, gc, rfl, _, hv3, hb3⟩; have HS3 := hide ((unhide HS2).later hb3); have HV3 := hide hv3; have HB3 := hide ((unhide HB2).trans (Bt.of hb3)); clear hv3 hb3) | (go_at_call 44; refine (unhide cF g gc _ ((unhide HS3).with_ (unhide HV3))).mono ?_; rintro x4 w4 ⟨rfl, hb4, hs4, hr4⟩; have HS4 := hide ((unhide HS3).bt hb4 hs4); have HB4 := hide ((unhide HB3).trans hb4); have HR4 := hide hr4; have c4 := (unhide HS4).cells.2.2.2.2.1; clear hs4 hb4 hr4))
            go_ret2
            exact ⟨unhide HB4, unhide HS4, unhide HR4, .inr ⟨.inr rfl, rfl⟩⟩
      · obtain ⟨ol, oz⟩ := P.unit_ok (unhide HOK) h3
        obtain ⟨r', rfl, hT2⟩ := (unhide HT).snoc ol oz
        rw [fr_unit h1' h2 h3]
        have hsu : ((P.sc tr P.N).1 != 0) = true := by simpa using h3
        have hnw := (unhide HOK).n
        have cW := hide (fun (w1 : World) (hv : Va w1 vb P.n tr) => with_any (vc := vc) hnw hv (P.sc tr P.N).1 ol oz)
        have cF := hide (fun (g gc : Nat) (w1 : World) (hs : Sd P w0 sb g B (c + P.cost tr) false ca qa cc qc (tr ++ [(P.sc tr P.N).1]) w1) => unhide IH r' (by omega) g gc _ _ w1 hT2 h1' hs)
        clear h2 h3 IH ol oz hT2
        generalize c + P.cost tr = c1 at *
        generalize (P.sc tr P.N).1 = su at *
        generalize P.fr B r' (tr ++ [su]) c1 = R at *
        go_enter Try.func44, Try.ntmps44
        go_wp2_with (first | (go_at_call 53; refine (unhide cS).mono ?_; rintro x1 w1 ⟨rfl, hb1, hs1⟩; have HS1 := hide hs1; have HB1 := hide hb1; clear hs1 hb1) | (go_at_call 54; refine (unhide cW _ (unhide HS1).val).mono ?_; rintro x2 w2 ⟨g, gc, rfl, _, hv2, hb2⟩; have HS2 := hide ((unhide HS1).later hb2); have HV2 := hide hv2; have HB2 := hide ((unhide HB1).trans (Bt.of hb2)); clear hv2 hb2) | (go_at_call 44; refine (unhide cF g gc _ ((unhide HS2).with_ (unhide HV2))).mono ?_; rintro x3 w3 hx3; obtain ⟨a3, b3, rfl⟩ : ∃ a b, x3 = .returned (.tuple #[a, .bool b]) := (by obtain ⟨_, _, _, ⟨_, g3, gc3, q, _⟩ | ⟨_, q⟩⟩ := hx3; exact ⟨_, _, q⟩; exact ⟨_, _, q⟩); have HX := hide hx3; clear hx3))
        go_ret2
        obtain ⟨q1, q2, q3, q4⟩ := unhide HX
        exact ⟨(unhide HB2).trans q1, (unhide HS2).bt q1 q2, q3, q4⟩
    · rw [fr_bad h1' h2]
      have cS := hide ((unhide cS0).mono (R' := fun x w' => x = .returned (.tuple #[.bool false, .int .i64 0]) ∧ Bt sb w w' ∧ Sd P w0 sb vb B (c + P.cost tr) false ca qa cc qc tr w') (fun x w' hx => by
        obtain ⟨hb, ⟨q1, _⟩ | ⟨_, _, q2, q3⟩ | ⟨_, q1, _⟩⟩ := hx
        · omega
        · exact ⟨q2, hb, q3⟩
        · exact absurd q1 h2))
      clear cS0 h2
      go_enter Try.func44, Try.ntmps44
      go_wp2_with (go_at_call 53; refine (unhide cS).mono ?_; rintro x1 w1 ⟨rfl, hb1, hs1⟩; have HS1 := hide hs1; have HB1 := hide hb1; clear hs1 hb1)
      go_ret2
      exact ⟨unhide HB1, unhide HS1, h1', .inr ⟨.inl rfl, rfl⟩⟩
end Go.Proofs.Ytabjbppekijfiaa
