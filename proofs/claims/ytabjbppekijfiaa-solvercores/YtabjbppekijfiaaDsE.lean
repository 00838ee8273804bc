import Derived.Test.YtabjbppekijfiaaDsD
namespace Go.Proofs.Ytabjbppekijfiaa
open Go.RowKit

theorem lk_first {P : Pb} {tr : List Int} {i : Nat} (hi : i < P.m) (h : ∀ j, j < i → stn tr (P.f j) ≠ 0) (h0 : stn tr (P.f i) = 0) : P.dl0 tr = P.f i := by
  unfold Pb.dl0
  rw [lk_from (by omega) h, P.lk_here tr i hi h0, if_pos hi]
theorem lk_last {P : Pb} {tr : List Int} (h : ∀ j, j < P.m → stn tr (P.f j) ≠ 0) : P.dl0 tr = (P.sc tr P.N).2 := by
  unfold Pb.dl0
  rw [lk_from (Nat.le_refl _) h, P.lk_end tr P.m (Nat.le_refl _), if_neg (Nat.lt_irrefl _)]
theorem sc2_at {P : Pb} {tr : List Int} {i : Nat} (hi : i < P.N) (h : (P.sc tr i).2 = 0) (ht : (kd tr (P.ln i) (P.L i)).1 ≠ 1) (hp : (acc tr (P.L i) (P.ln i)).pr = true) (ho : (acc tr (P.L i) (P.ln i)).o ≠ 0) : (P.sc tr P.N).2 = (acc tr (P.L i) (P.ln i)).o := by
  have hT : P.tT tr i = false := by
    cases e : P.tT tr i with
    | false => rfl
    | true =>
      refine absurd ?_ ht
      unfold kd
      rw [if_pos (show isT tr (P.ln i) (P.L i) = true from e)]
  have e1 := sc2_next (P := P) (tr := tr) h
  rw [if_pos ⟨hT, hp⟩] at e1
  have e2 := sc2_stay (P := P) (tr := tr) (i := i + 1) (by rw [e1]; exact ho) (P.N - (i + 1))
  rw [show i + 1 + (P.N - (i + 1)) = P.N by omega] at e2
  rw [e2, e1]
  rfl
theorem sc2_not {P : Pb} {tr : List Int} {i : Nat} (h : (P.sc tr i).2 = 0) (hn : (kd tr (P.ln i) (P.L i)).1 = 1 ∨ (acc tr (P.L i) (P.ln i)).pr = false ∨ (acc tr (P.L i) (P.ln i)).o = 0) : (P.sc tr (i + 1)).2 = 0 := by
  rw [sc2_next h]
  by_cases q : P.tT tr i = false ∧ (P.ac tr i).pr = true
  · rw [if_pos q]
    rcases hn with e | e | e
    · exfalso
      unfold kd at e
      rw [if_neg (by rw [show isT tr (P.ln i) (P.L i) = false from q.1]; simp)] at e
      split at e
      · cases e
      · split at e <;> cases e
    · exact absurd (q.2.symm.trans e) (by simp)
    · exact e
  · rw [if_neg q]
set_option maxRecDepth 100000 in
set_option maxHeartbeats 4000000 in
theorem decision_any {P : Pb} (hP : P.Ok) {w0 : World} {sb vb vc B c : Nat} {out : Bool} {ca qa : Option Addr} {cc qc : Nat} {tr : List Int} {w : World} (hN : P.N ≤ 140737488355328) (hm : P.m ≤ 140737488355328) (hln : ∀ k, k < P.N → P.ln k ≤ 140737488355328) (hR : Rr w0 ca P.N P.ln P.L) (hQ : Ri w0 qa P.m P.f) (h : Sd P w0 sb vb B c out ca qa cc qc tr w) :
    Calls Try.prog 55 #[.pointer (some ⟨sb, 0, none⟩), .slice (some ⟨vb, 0, none⟩) P.n vc] w fun x w' => x = .returned (.int .i64 (P.dl0 tr)) ∧ Below w.heap.size w w' := by
  obtain ⟨C, D, hRv, hRi⟩ := hR
  have HRv := hide hRv
  have HRi := hide hRi
  have HQ := hide hQ
  have HS := hide h
  have HOK := hide hP
  have HLN := hide hln
  clear hRv hRi hQ h hP hln
  go_enter Try.func55, Try.ntmps55
  go_wp2_with fail
  go_loopg [5] P.m (fun g1 vi wr => ∃ i : Nat, vi = .int .i64 i ∧ i ≤ P.m ∧ P.m - i ≤ g1 ∧ Hid (∀ j, j < i → stn tr (P.f j) ≠ 0) ∧ Hid (Below w.heap.size w wr))
  case atStart => exact ⟨0, by go_num, by omega, by omega, hide (fun j hj => absurd hj (Nat.not_lt_zero _)), hide (Below.refl _ _)⟩
  case round =>
    obtain ⟨i, rfl, hi, hg, HA, HB⟩ := hrel
    have HS1 := hide ((unhide HS).later (unhide HB))
    obtain ⟨c0, c1, c2, c3, c4, fr⟩ := (unhide HS1).cells
    by_cases hlt : i < P.m
    · obtain ⟨b, o, rfl, _, hc0⟩ := (Ri.later (unhide HQ) (unhide HS1).bel).at hlt
      have hc : wr.cell? ⟨b, o + i, none⟩ = some (.int .i64 (P.f i)) := hc0
      clear hc0
      have cO := hide (fun vc => of_any (vc := vc) (unhide HOK).n (unhide HS1).val (P.f i) ((unhide HOK).pf i hlt))
      by_cases h0 : stn tr (P.f i) = 0
      · have HE := hide (lk_first hlt (unhide HA) h0)
        rw [h0, show ov 0 = 0 from rfl] at cO
        generalize P.f i = l at *
        go_wp2_with (go_at_call 66; refine (unhide cO _).mono ?_; rintro x1 w1 ⟨rfl, hw1⟩; rw [hw1]; clear hw1 w1)
        go_ret
        exact ⟨ret_i (unhide HE).symm, unhide HB⟩
      · have HA2 := hide (show ∀ j, j < i + 1 → stn tr (P.f j) ≠ 0 from fun j hj => by
          by_cases e : j = i
          · subst e; exact h0
          · exact unhide HA j (by omega))
        have hov : ov (stn tr (P.f i)) ≠ 0 := fun q => h0 (ov_zero.1 q)
        generalize ov (stn tr (P.f i)) = y at *
        obtain ⟨l, hl⟩ : ∃ l, l = P.f i := ⟨_, rfl⟩
        rw [← hl] at cO hc
        clear hl h0
        go_wp2_with (go_at_call 66; refine (unhide cO _).mono ?_; rintro x1 w1 ⟨rfl, hw1⟩; rw [hw1]; clear hw1 w1)
        go_roundg (P.m - (i + 1))
        case measure => omega
        case rel => exact ⟨i + 1, by go_num, by omega, by omega, HA2, HB⟩
    · obtain rfl : i = P.m := by omega
      have HE := hide (lk_last (unhide HA))
      clear HA hg hi
      go_wp2_with fail
      clear c0 c1 c2 c3 c4 fr HS1
      go_loopg [6] P.N (fun g2 vi wr => ∃ i : Nat, vi = .int .i64 i ∧ i ≤ P.N ∧ P.N - i ≤ g2 ∧ Hid ((P.sc tr i).2 = 0) ∧ Hid (Below w.heap.size w wr))
      case atStart => exact ⟨0, by go_num, by omega, by omega, hide rfl, HB⟩
      case round =>
        clear HB
        obtain ⟨i, rfl, hi, hg, HA, HB⟩ := hrel
        have HS1 := hide ((unhide HS).later (unhide HB))
        obtain ⟨c0, c1, c2, c3, c4, fr⟩ := (unhide HS1).cells
        by_cases hlt : i < P.N
        · obtain ⟨b, o, rfl, _, _⟩ := ((unhide HRv).later (unhide HS1).bel).at hlt
          have hri := Ri.later (unhide HRi i hlt) (unhide HS1).bel
          have cK := hide (fun vc => Kind_any (vc := vc) (c := D i) (unhide HOK).n (unhide HS1).val (unhide HLN i hlt) hri (fun j hj => (unhide HOK).cl i hlt j hj))
          have HYES := hide (fun (a1 : (kd tr (P.ln i) (P.L i)).1 ≠ 1) (a2 : (acc tr (P.L i) (P.ln i)).pr = true) (a3 : (acc tr (P.L i) (P.ln i)).o ≠ 0) => (unhide HE).trans (sc2_at hlt (unhide HA) a1 a2 a3))
          have HNO := hide (fun a => sc2_not (P := P) (tr := tr) (i := i) (unhide HA) a)
          have hln := unhide HLN i hlt
          have HOL := hide (fun j (hj : j < P.ln i) => (unhide HOK).cl i hlt j hj)
          have HRW := hide (show ∀ W, Below w.heap.size w W → W.cell? ⟨b, o + i, none⟩ = some (.slice (C i) (P.ln i) (D i)) ∧ Ri W (C i) (P.ln i) (P.L i) from fun W hW => by
            have hbel := bl_t (unhide HS).bel hW
            obtain ⟨b', o', e', _, hc'⟩ := ((unhide HRv).later hbel).at hlt
            cases e'
            exact ⟨hc', Ri.later (unhide HRi i hlt) hbel⟩)
          clear hri fr
          generalize C i = xa at *
          generalize D i = xc at *
          generalize (kd tr (P.ln i) (P.L i)).2 = k2 at *
          generalize (kd tr (P.ln i) (P.L i)).1 = k1 at *
          generalize P.ln i = m at *
          generalize P.L i = f at *
          have hx := (unhide HRW _ (unhide HB)).1
          go_upto_region 12 with (go_at_call 65; refine (unhide cK _).mono ?_; rintro x1 w1 ⟨rfl, hb1⟩; have HB1 := hide (bl_t (unhide HB) hb1); clear hb1)
          clear c0 c1 c2 c3 c4 hx
          have HLI := hide hlt
          go_wp2_with fail
          go_loopg [9, 10, 11] m (fun g3 vf vs vj wr => ∃ j : Nat, vj = .int .i64 j ∧ j ≤ m ∧ m - j ≤ g3 ∧ vf = .int .i64 (acc tr f j).o ∧ vs = .bool (!(acc tr f j).pr) ∧ Hid (Below w.heap.size w wr))
          case atStart => exact ⟨0, by go_num, by omega, by omega, rfl, rfl, HB1⟩
          case round =>
            clear HB1 HB HS1
            obtain ⟨j, rfl, hj, hgj, rfl, rfl, HB⟩ := hrel
            have HS1 := hide ((unhide HS).later (unhide HB))
            obtain ⟨c0, c1, c2, c3, c4, fr⟩ := (unhide HS1).cells
            obtain ⟨hx, hri⟩ := unhide HRW _ (unhide HB)
            by_cases hlj : j < m
            · obtain ⟨b2, o2, rfl, _, hy0⟩ := hri.at hlj
              have hy : wr.cell? ⟨b2, o2 + j, none⟩ = some (.int .i64 (f j)) := hy0
              clear hy0 hri
              have cO := hide (fun vc => of_any (vc := vc) (unhide HOK).n (unhide HS1).val (f j) (unhide HOL j hlj))
              have HAC := hide (show acc tr f (j + 1) = acN tr (acc tr f j) (f j) from rfl)
              have hne := okL_ne (unhide HOL j hlj)
              obtain ⟨⟨ao, aal, apr⟩, hac⟩ : ∃ A, A = acc tr f j := ⟨_, rfl⟩
              rw [← hac] at HAC ⊢
              clear hac
              by_cases h0 : stn tr (f j) = 0
              · rw [h0, show ov 0 = 0 from rfl] at cO
                rw [acN_open h0] at HAC
                obtain ⟨l, hl⟩ : ∃ l, l = f j := ⟨_, rfl⟩
                rw [← hl] at cO HAC hy hne
                clear hl h0
                by_cases ha : ao = 0
                · subst ha
                  by_cases hl : l < 0
                  · have hl2 : ¬ 0 < l := by omega
                    cases apr with
                    | true =>
                      go_wp2_with (go_at_call 66; refine (unhide cO _).mono ?_; rintro x1 w1 ⟨rfl, hw1⟩; rw [hw1]; clear hw1 w1)
                      go_roundg (m - (j + 1))
                      case measure => omega
                      case rel => exact ⟨j + 1, by go_num, by omega, by omega, by rw [unhide HAC]; rfl, by rw [unhide HAC]; (first | rfl | (simp [hl2]; done) | (simp [hl2]; omega)), HB⟩
                    | false =>
                      go_wp2_with (go_at_call 66; refine (unhide cO _).mono ?_; rintro x1 w1 ⟨rfl, hw1⟩; rw [hw1]; clear hw1 w1)
                      go_roundg (m - (j + 1))
                      case measure => omega
                      case rel => exact ⟨j + 1, by go_num, by omega, by omega, by rw [unhide HAC]; rfl, by rw [unhide HAC]; (first | rfl | (simp [hl2]; done) | (simp [hl2]; omega)), HB⟩
                  · have hl2 : 0 < l := by omega
                    cases apr with
                    | true =>
                      go_wp2_with (go_at_call 66; refine (unhide cO _).mono ?_; rintro x1 w1 ⟨rfl, hw1⟩; rw [hw1]; clear hw1 w1)
                      go_roundg (m - (j + 1))
                      case measure => omega
                      case rel => exact ⟨j + 1, by go_num, by omega, by omega, by rw [unhide HAC]; rfl, by rw [unhide HAC]; (first | rfl | (simp [hl2]; done) | (simp [hl2]; omega)), HB⟩
                    | false =>
                      go_wp2_with (go_at_call 66; refine (unhide cO _).mono ?_; rintro x1 w1 ⟨rfl, hw1⟩; rw [hw1]; clear hw1 w1)
                      go_roundg (m - (j + 1))
                      case measure => omega
                      case rel => exact ⟨j + 1, by go_num, by omega, by omega, by rw [unhide HAC]; rfl, by rw [unhide HAC]; (first | rfl | (simp [hl2]; done) | (simp [hl2]; omega)), HB⟩
                · have ha' : (ao == 0) = false := by simpa using ha
                  by_cases hl : l < 0
                  · have hl2 : ¬ 0 < l := by omega
                    cases apr with
                    | true =>
                      go_wp2_with (go_at_call 66; refine (unhide cO _).mono ?_; rintro x1 w1 ⟨rfl, hw1⟩; rw [hw1]; clear hw1 w1)
                      go_roundg (m - (j + 1))
                      case measure => omega
                      case rel => exact ⟨j + 1, by go_num, by omega, by omega, by rw [unhide HAC]; simp [ha], by rw [unhide HAC]; (first | rfl | (simp [hl2]; done) | (simp [hl2]; omega)), HB⟩
                    | false =>
                      go_wp2_with (go_at_call 66; refine (unhide cO _).mono ?_; rintro x1 w1 ⟨rfl, hw1⟩; rw [hw1]; clear hw1 w1)
                      go_roundg (m - (j + 1))
                      case measure => omega
                      case rel => exact ⟨j + 1, by go_num, by omega, by omega, by rw [unhide HAC]; simp [ha], by rw [unhide HAC]; (first | rfl | (simp [hl2]; done) | (simp [hl2]; omega)), HB⟩
                  · have hl2 : 0 < l := by omega
                    cases apr with
                    | true =>
                      go_wp2_with (go_at_call 66; refine (unhide cO _).mono ?_; rintro x1 w1 ⟨rfl, hw1⟩; rw [hw1]; clear hw1 w1)
                      go_roundg (m - (j + 1))
                      case measure => omega
                      case rel => exact ⟨j + 1, by go_num, by omega, by omega, by rw [unhide HAC]; simp [ha], by rw [unhide HAC]; (first | rfl | (simp [hl2]; done) | (simp [hl2]; omega)), HB⟩
                    | false =>
                      go_wp2_with (go_at_call 66; refine (unhide cO _).mono ?_; rintro x1 w1 ⟨rfl, hw1⟩; rw [hw1]; clear hw1 w1)
                      go_roundg (m - (j + 1))
                      case measure => omega
                      case rel => exact ⟨j + 1, by go_num, by omega, by omega, by rw [unhide HAC]; simp [ha], by rw [unhide HAC]; (first | rfl | (simp [hl2]; done) | (simp [hl2]; omega)), HB⟩
              · rw [acN_shut h0] at HAC
                have hov : ov (stn tr (f j)) ≠ 0 := fun q => h0 (ov_zero.1 q)
                generalize ov (stn tr (f j)) = y at *
                obtain ⟨l, hl⟩ : ∃ l, l = f j := ⟨_, rfl⟩
                rw [← hl] at cO hy
                clear hl h0 hne
                go_wp2_with (go_at_call 66; refine (unhide cO _).mono ?_; rintro x1 w1 ⟨rfl, hw1⟩; rw [hw1]; clear hw1 w1)
                go_roundg (m - (j + 1))
                case measure => omega
                case rel => exact ⟨j + 1, by go_num, by omega, by omega, by rw [unhide HAC], by rw [unhide HAC], HB⟩
            · obtain rfl : j = m := by omega
              obtain ⟨⟨ao, aal, apr⟩, hac⟩ : ∃ A, A = acc tr f j := ⟨_, rfl⟩
              rw [← hac] at HYES HNO ⊢
              clear hac hri
              by_cases hk : k1 = 1
              · have HN := hide (unhide HNO (.inl hk))
                subst hk
                clear HYES HNO
                go_wp2_with fail
                go_roundg (P.N - (i + 1))
                case measure => omega
                case rel => exact ⟨i + 1, by go_num, by omega, by omega, HN, HB⟩
              · have hk' : (k1 == 1) = false := by simpa using hk
                cases apr with
                | false =>
                  have HN := hide (unhide HNO (.inr (.inl rfl)))
                  clear HYES HNO
                  go_wp2_with fail
                  go_roundg (P.N - (i + 1))
                  case measure => omega
                  case rel => exact ⟨i + 1, by go_num, by omega, by omega, HN, HB⟩
                | true =>
                  by_cases ha : ao = 0
                  · have HN := hide (unhide HNO (.inr (.inr ha)))
                    subst ha
                    clear HYES HNO
                    go_wp2_with fail
                    go_roundg (P.N - (i + 1))
                    case measure => omega
                    case rel => exact ⟨i + 1, by go_num, by omega, by omega, HN, HB⟩
                  · have HY := hide (unhide HYES hk rfl ha)
                    have ha' : (ao == 0) = false := by simpa using ha
                    have ha2 : (ao != 0) = true := by simpa using ha
                    have hk2 : (k1 != 1) = true := by simpa using hk
                    clear HYES HNO
                    go_wp2_with fail
                    go_ret
                    exact ⟨ret_i (unhide HY).symm, unhide HB⟩
        · obtain rfl : i = P.N := by omega
          have HY := hide ((unhide HE).trans (unhide HA))
          go_wp2_with fail
          go_ret
          exact ⟨ret_i (unhide HY).symm, unhide HB⟩
end Go.Proofs.Ytabjbppekijfiaa
