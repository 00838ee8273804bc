import Derived.Test.YtabjbppekijfiaaVsB
import Derived.Test.YtabjbppekijfiaaVsC
import Derived.Test.YtabjbppekijfiaaVsD
namespace Go.Proofs.Ytabjbppekijfiaa
open Go.RowKit

theorem step_none {P : Pb} {s : Sx} (h : P.ff s.tr ≠ -1) (hu : s.tu = []) : P.step s = .done 2 := by
  unfold Pb.step
  rw [if_pos h, hu]
  rfl
theorem step_back {P : Pb} {s : Sx} (h : P.ff s.tr ≠ -1) {tu : List (Nat × Nat)} {t : Nat × Nat} (hu : s.tu = tu ++ [t]) : P.step s = .next ⟨s.tr.take t.1 ++ [-(s.tr.getD t.1 0)], tu, t.2⟩ := by
  unfold Pb.step
  rw [if_pos h, hu]
  simp
theorem step_unit {P : Pb} {s : Sx} (h : P.ff s.tr = -1) (hu : (P.sc s.tr P.N).1 ≠ 0) : P.step s = .next ⟨s.tr ++ [(P.sc s.tr P.N).1], s.tu, s.lk⟩ := by
  unfold Pb.step
  rw [if_neg (fun q => q h), if_pos hu]
theorem step_dec {P : Pb} {s : Sx} (h : P.ff s.tr = -1) (hu : (P.sc s.tr P.N).1 = 0) (hd : P.dl s ≠ 0) : P.step s = .next ⟨s.tr ++ [P.dl s], s.tu ++ [(s.tr.length, P.lk s.tr s.lk)], P.lk s.tr s.lk⟩ := by
  unfold Pb.step
  rw [if_neg (fun q => q h), if_neg (fun q => q hu), if_neg hd]
theorem step_sat1 {P : Pb} {s : Sx} (h : P.ff s.tr = -1) (hu : (P.sc s.tr P.N).1 = 0) (hd : P.dl s = 0) : P.step s = .done 1 := by
  unfold Pb.step
  rw [if_neg (fun q => q h), if_neg (fun q => q hu), if_pos hd]
/-- What the search leaves. -/
def Rn (P : Pb) (w0 : World) (bb kb sb vb lo B : Nat) (ca qa : Option Addr) (cc qc : Nat) (x : Ending) (w' : World) : Prop := ∃ v s S tv uv, Rs P B v s.tr S ∧ x = .returned (.int .i64 v) ∧ Sm P w0 bb kb sb vb lo B S ca qa cc qc s.tr s tv uv w' ∧ lo ≤ w'.heap.size
set_option maxRecDepth 100000 in
set_option maxHeartbeats 8000000 in
theorem run_any {P : Pb} (hP : P.Ok) {w0 : World} {bb kb sb vb lo B : Nat} {ca qa : Option Addr} {cc qc : Nat} {tv uv : Value} {w : World} (hB : B ≤ 1152921504606846976) (hN : P.N ≤ 140737488355328) (hm : P.m ≤ 140737488355328) (hln : ∀ k, k < P.N → P.ln k ≤ 140737488355328) (hR : Rr w0 ca P.N P.ln P.L) (hQ : Ri w0 qa P.m P.f) (h : Sm P w0 bb kb sb vb lo B 0 ca qa cc qc [] ⟨[], [], 0⟩ tv uv w) (hlo : lo ≤ w.heap.size) :
    Calls Try.prog 47 #[.pointer (some ⟨sb, 0, none⟩), .func (.func 58) #[] #[.pointer (some ⟨kb, 0, none⟩), .pointer (some ⟨bb, 0, none⟩)]] w fun x w' => Rn P w0 bb kb sb vb lo B ca qa cc qc x w' := by
  have c1 := hide (fun (s : Sx) (tv uv : Value) (w : World) (c : Nat) (hc : c ≤ B) (h : Sm P w0 bb kb sb vb lo B c ca qa cc qc s.tr s tv uv w) (hlo : lo ≤ w.heap.size) => scan_any hP hB hc hN hln hR h hlo)
  have c2 := hide (fun (s : Sx) (tv uv : Value) (w : World) (c : Nat) (h : Sm P w0 bb kb sb vb lo B c ca qa cc qc s.tr s tv uv w) (hI : Iv P s) (hlo : lo ≤ w.heap.size) (p : Int) (hp : p ≠ 0 → okL P.n p = true ∧ stn s.tr p = 0) => decide_any hP hm hQ h hI hlo p hp)
  have HOK := hide hP
  have HS := hide (And.intro h hlo)
  clear hR hQ h hlo hP hln
  go_enter Try.func47, Try.ntmps47
  go_wp2_with fail
  go_loopg [5, 6] (P.ms ⟨[], [], 0⟩ + 1) (fun g1 _ _ wr => ∃ (k : Nat) (s : Sx) (c : Nat) (tv uv : Value), Hid (Path P k s c) ∧ c ≤ B ∧ P.ms s < g1 ∧ Hid (Sm P w0 bb kb sb vb lo B c ca qa cc qc s.tr s tv uv wr ∧ lo ≤ wr.heap.size))
  case atStart => exact ⟨0, ⟨[], [], 0⟩, 0, tv, uv, hide .zero, by omega, by omega, HS⟩
  case round =>
    clear HS
    obtain ⟨k, s, c, tv, uv, HPa, hc, hg, HSm⟩ := hrel
    have HI := hide ((unhide HPa).iv (unhide HOK))
    by_cases hsp : c + P.cost s.tr ≤ B
    · by_cases hff : P.ff s.tr = -1
      · have HU := hide (fun h => P.unit_ok (unhide HOK) (tr := s.tr) h)
        have HV := hide (fun h => P.press_ok (unhide HOK) (tr := s.tr) h)
        have HE1 := hide (fun (hu : (P.sc s.tr P.N).1 ≠ 0) => step_unit hff hu)
        have HE2 := hide (fun (hu : (P.sc s.tr P.N).1 = 0) (hd : P.dl s ≠ 0) => step_dec hff hu hd)
        have HE3 := hide (fun (hu : (P.sc s.tr P.N).1 = 0) (hd : P.dl s = 0) => step_sat1 hff hu hd)
        have HDL := hide (show P.dl s = if P.lk s.tr s.lk < P.m then P.f (P.lk s.tr s.lk) else (P.sc s.tr P.N).2 from rfl)
        have cS := hide (show Calls Try.prog 60 #[.pointer (some ⟨sb, 0, none⟩), .func (.func 58) #[] #[.pointer (some ⟨kb, 0, none⟩), .pointer (some ⟨bb, 0, none⟩)]] wr (fun x w' => x = .returned (.tuple #[.agg #[.bool false, .int .i64 (P.sc s.tr P.N).1, .int .i64 (P.sc s.tr P.N).2], .bool true]) ∧ Sm P w0 bb kb sb vb lo B (c + P.cost s.tr) ca qa cc qc s.tr s tv uv w' ∧ lo ≤ w'.heap.size) from (unhide c1 s tv uv wr c hc (unhide HSm).1 (unhide HSm).2).mono fun x w' hx => by
          obtain ⟨hl, ⟨q1, q2, q3⟩ | ⟨q1, q2, q3⟩⟩ := hx
          · rcases q3 with ⟨z, _⟩ | ⟨_, z⟩
            · exact absurd hff z
            · exact ⟨z, q2, hl⟩
          · omega)
        generalize hsu : (P.sc s.tr P.N).1 = su at *
        generalize hsv : (P.sc s.tr P.N).2 = sp at *
        clear c1
        by_cases hu0 : su = 0
        · have hu1 : (su != 0) = false := by simpa using hu0
          generalize hD : P.dl s = D at *
          have cD := hide (fun w1 (h : Sm P w0 bb kb sb vb lo B (c + P.cost s.tr) ca qa cc qc s.tr s tv uv w1) (hl : lo ≤ w1.heap.size) => unhide c2 s tv uv w1 _ h (unhide HI) hl sp (unhide HV) D (unhide HDL))
          by_cases hd0 : D = 0
          · have HE4 := hide (unhide HE3 hu0 hd0)
            have HD0 := hide hd0
            clear HE1 HE2 HE3 HU HV hu0 c2 hd0
            go_wp2_with (first | (go_at_call 60; refine (unhide cS).mono ?_; rintro x1 w1 ⟨rfl, hs1, hl1⟩; have HS1 := hide (show Sm P w0 bb kb sb vb lo B (c + P.cost s.tr) ca qa cc qc s.tr s tv uv (w1.alloc (.cells #[.bool false, .int .i64 su, .int .i64 sp] 97)) ∧ lo ≤ (w1.alloc (.cells #[.bool false, .int .i64 su, .int .i64 sp] 97)).heap.size from ⟨hs1.later ((Below.refl w1.heap.size w1).alloc (Nat.le_refl _) _), Nat.le_trans hl1 (by simp)⟩); clear hs1 hl1) | (go_at_call 63; refine (unhide cD _ (unhide HS1).1 (unhide HS1).2).mono ?_; rintro x2 w2 ⟨hl2, tv2, uv2, hx2⟩; obtain ⟨rfl, hs2⟩ : x2 = .returned (.bool false) ∧ Sm P w0 bb kb sb vb lo B (c + P.cost s.tr) ca qa cc qc s.tr ⟨s.tr, s.tu, P.lk s.tr s.lk⟩ tv2 uv2 w2 := (by rcases hx2 with ⟨_, a, b⟩ | ⟨a, _, _⟩; exact ⟨a, b⟩; exact absurd (unhide HD0) a); have HS2 := hide (And.intro hs2 hl2); clear hs2 hl2 hx2))
            go_ret
            exact ⟨1, ⟨s.tr, s.tu, P.lk s.tr s.lk⟩, _, tv2, uv2, ⟨k, s, c, unhide HPa, .inl ⟨unhide HE4, rfl, rfl, hsp⟩⟩, rfl, (unhide HS2).1, (unhide HS2).2⟩
          · have HE4 := hide (unhide HE2 hu0 hd0)
            have HD0 := hide hd0
            have HMS := hide (P.ms_next (unhide HOK) (unhide HI) (unhide HE4))
            clear HE1 HE2 HE3 HU HV hu0 c2 hd0
            go_wp2_with (first | (go_at_call 60; refine (unhide cS).mono ?_; rintro x1 w1 ⟨rfl, hs1, hl1⟩; have HS1 := hide (show Sm P w0 bb kb sb vb lo B (c + P.cost s.tr) ca qa cc qc s.tr s tv uv (w1.alloc (.cells #[.bool false, .int .i64 su, .int .i64 sp] 97)) ∧ lo ≤ (w1.alloc (.cells #[.bool false, .int .i64 su, .int .i64 sp] 97)).heap.size from ⟨hs1.later ((Below.refl w1.heap.size w1).alloc (Nat.le_refl _) _), Nat.le_trans hl1 (by simp)⟩); clear hs1 hl1) | (go_at_call 63; refine (unhide cD _ (unhide HS1).1 (unhide HS1).2).mono ?_; rintro x2 w2 ⟨hl2, tv2, uv2, hx2⟩; obtain ⟨rfl, hs2⟩ : x2 = .returned (.bool true) ∧ Sm P w0 bb kb sb vb lo B (c + P.cost s.tr) ca qa cc qc (s.tr ++ [D]) ⟨s.tr ++ [D], s.tu ++ [(s.tr.length, P.lk s.tr s.lk)], P.lk s.tr s.lk⟩ tv2 uv2 w2 := (by rcases hx2 with ⟨a, _, _⟩ | ⟨_, a, b⟩; exact absurd a (unhide HD0); exact ⟨a, b⟩); have HS2 := hide (And.intro hs2 hl2); clear hs2 hl2 hx2))
            go_roundg (P.ms ⟨s.tr ++ [D], s.tu ++ [(s.tr.length, P.lk s.tr s.lk)], P.lk s.tr s.lk⟩ + 1)
            case measure => have := unhide HMS; omega
            case rel => exact ⟨k + 1, _, _, tv2, uv2, hide ((unhide HPa).next (unhide HE4)), hsp, by omega, HS2⟩
        · have hu1 : (su != 0) = true := by simpa using hu0
          have HE4 := hide (unhide HE1 hu0)
          have HMS := hide (P.ms_next (unhide HOK) (unhide HI) (unhide HE4))
          have cD := hide (fun w1 (h : Sm P w0 bb kb sb vb lo B (c + P.cost s.tr) ca qa cc qc s.tr s tv uv w1) (hl : lo ≤ w1.heap.size) => set_any (unhide HOK) h (len_snoc (unhide HI) (unhide HU hu0).1 (unhide HU hu0).2) hl su (unhide HU hu0).1 (unhide HU hu0).2)
          clear HE1 HE2 HE3 HU HV hu0 c2
          go_wp2_with (first | (go_at_call 60; refine (unhide cS).mono ?_; rintro x1 w1 ⟨rfl, hs1, hl1⟩; have HS1 := hide (show Sm P w0 bb kb sb vb lo B (c + P.cost s.tr) ca qa cc qc s.tr s tv uv (w1.alloc (.cells #[.bool false, .int .i64 su, .int .i64 sp] 97)) ∧ lo ≤ (w1.alloc (.cells #[.bool false, .int .i64 su, .int .i64 sp] 97)).heap.size from ⟨hs1.later ((Below.refl w1.heap.size w1).alloc (Nat.le_refl _) _), Nat.le_trans hl1 (by simp)⟩); clear hs1 hl1) | (go_at_call 62; refine (unhide cD _ (unhide HS1).1 (unhide HS1).2).mono ?_; rintro x2 w2 ⟨rfl, tv2, hs2, hl2⟩; have HS2 := hide (And.intro hs2 hl2); clear hs2 hl2))
          go_roundg (P.ms ⟨s.tr ++ [su], s.tu, s.lk⟩ + 1)
          case measure => have := unhide HMS; omega
          case rel => exact ⟨k + 1, _, _, tv2, uv, hide ((unhide HPa).next (unhide HE4)), hsp, by omega, HS2⟩
      · clear c2
        have cS := hide (show Calls Try.prog 60 #[.pointer (some ⟨sb, 0, none⟩), .func (.func 58) #[] #[.pointer (some ⟨kb, 0, none⟩), .pointer (some ⟨bb, 0, none⟩)]] wr (fun x w' => x = .returned (.tuple #[.agg #[.bool true, .int .i64 0, .int .i64 0], .bool true]) ∧ Sm P w0 bb kb sb vb lo B (c + P.cost s.tr) ca qa cc qc s.tr s tv uv w' ∧ lo ≤ w'.heap.size) from (unhide c1 s tv uv wr c hc (unhide HSm).1 (unhide HSm).2).mono fun x w' hx => by
          obtain ⟨hl, ⟨q1, q2, q3⟩ | ⟨q1, q2, q3⟩⟩ := hx
          · rcases q3 with ⟨_, z⟩ | ⟨z, _⟩
            · exact ⟨z, q2, hl⟩
            · exact absurd z hff
          · omega)
        clear c1
        cases hgl : s.tu.getLast? with
        | none =>
          have hu : s.tu = [] := by simpa using hgl
          have HE4 := hide (step_none hff hu)
          have cD := hide (fun w1 (h : Sm P w0 bb kb sb vb lo B (c + P.cost s.tr) ca qa cc qc s.tr s tv uv w1) => back_none h hu)
          clear hgl hu hff
          go_wp2_with (first | (go_at_call 60; refine (unhide cS).mono ?_; rintro x1 w1 ⟨rfl, hs1, hl1⟩; have HS1 := hide (show Sm P w0 bb kb sb vb lo B (c + P.cost s.tr) ca qa cc qc s.tr s tv uv (w1.alloc (.cells #[.bool true, .int .i64 0, .int .i64 0] 97)) ∧ lo ≤ (w1.alloc (.cells #[.bool true, .int .i64 0, .int .i64 0] 97)).heap.size from ⟨hs1.later ((Below.refl w1.heap.size w1).alloc (Nat.le_refl _) _), Nat.le_trans hl1 (by simp)⟩); clear hs1 hl1) | (go_at_call 61; refine (unhide cD _ (unhide HS1).1).mono ?_; rintro x2 w2 ⟨rfl, hb2⟩; have HS2 := hide (show Sm P w0 bb kb sb vb lo B (c + P.cost s.tr) ca qa cc qc s.tr s tv uv w2 ∧ lo ≤ w2.heap.size from ⟨(unhide HS1).1.later hb2, Nat.le_trans (unhide HS1).2 hb2.size⟩); clear hb2))
          go_ret
          exact ⟨2, s, _, tv, uv, ⟨k, s, c, unhide HPa, .inl ⟨unhide HE4, rfl, rfl, hsp⟩⟩, rfl, (unhide HS2).1, (unhide HS2).2⟩
        | some tt =>
          have hu := getLast_app hgl
          have HE4 := hide (step_back hff hu)
          have HMS := hide (P.ms_next (unhide HOK) (unhide HI) (unhide HE4))
          have cD := hide (fun w1 (h : Sm P w0 bb kb sb vb lo B (c + P.cost s.tr) ca qa cc qc s.tr s tv uv w1) (hl : lo ≤ w1.heap.size) => back_some (unhide HOK) h (unhide HI) hl hu)
          clear hgl hu hff
          go_wp2_with (first | (go_at_call 60; refine (unhide cS).mono ?_; rintro x1 w1 ⟨rfl, hs1, hl1⟩; have HS1 := hide (show Sm P w0 bb kb sb vb lo B (c + P.cost s.tr) ca qa cc qc s.tr s tv uv (w1.alloc (.cells #[.bool true, .int .i64 0, .int .i64 0] 97)) ∧ lo ≤ (w1.alloc (.cells #[.bool true, .int .i64 0, .int .i64 0] 97)).heap.size from ⟨hs1.later ((Below.refl w1.heap.size w1).alloc (Nat.le_refl _) _), Nat.le_trans hl1 (by simp)⟩); clear hs1 hl1) | (go_at_call 61; refine (unhide cD _ (unhide HS1).1 (unhide HS1).2).mono ?_; rintro x2 w2 ⟨rfl, hl2, tv2, uv2, hs2⟩; have HS2 := hide (And.intro hs2 hl2); clear hs2 hl2))
          go_roundg (P.ms ⟨s.tr.take tt.1 ++ [-(s.tr.getD tt.1 0)], s.tu.dropLast, tt.2⟩ + 1)
          case measure => have := unhide HMS; omega
          case rel => exact ⟨k + 1, _, _, tv2, uv2, hide ((unhide HPa).next (unhide HE4)), hsp, by omega, HS2⟩
    · clear c2
      have cS := hide (show Calls Try.prog 60 #[.pointer (some ⟨sb, 0, none⟩), .func (.func 58) #[] #[.pointer (some ⟨kb, 0, none⟩), .pointer (some ⟨bb, 0, none⟩)]] wr (fun x w' => x = .returned (.tuple #[.agg #[.bool false, .int .i64 0, .int .i64 0], .bool false]) ∧ Sm P w0 bb kb sb vb lo B B ca qa cc qc s.tr s tv uv w' ∧ lo ≤ w'.heap.size) from (unhide c1 s tv uv wr c hc (unhide HSm).1 (unhide HSm).2).mono fun x w' hx => by
        obtain ⟨hl, ⟨q1, q2, q3⟩ | ⟨q1, q2, q3⟩⟩ := hx
        · omega
        · exact ⟨q3, q2, hl⟩)
      clear c1
      go_wp2_with (go_at_call 60; refine (unhide cS).mono ?_; rintro x1 w1 ⟨rfl, hs1, hl1⟩; have HS1 := hide (show Sm P w0 bb kb sb vb lo B B ca qa cc qc s.tr s tv uv (w1.alloc (.cells #[.bool false, .int .i64 0, .int .i64 0] 97)) ∧ lo ≤ (w1.alloc (.cells #[.bool false, .int .i64 0, .int .i64 0] 97)).heap.size from ⟨hs1.later ((Below.refl w1.heap.size w1).alloc (Nat.le_refl _) _), Nat.le_trans hl1 (by simp)⟩); clear hs1 hl1)
      go_ret
      exact ⟨3, s, B, tv, uv, ⟨k, s, c, unhide HPa, .inr ⟨rfl, rfl, hc, by omega⟩⟩, rfl, (unhide HS1).1, (unhide HS1).2⟩
end Go.Proofs.Ytabjbppekijfiaa
