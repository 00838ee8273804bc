import Derived.Test.YtohncccejlccbaaAsJ
namespace Go.Proofs.Ytohncccejlccbaa
open Go.RowKit Go.Shelf

set_option maxRecDepth 100000 in
set_option maxHeartbeats 4000000 in
theorem rSame_any (p q : List (List Gd)) (va ua : Option Addr) (vc uc : Nat) (w : World) (hl2 : q.length ≤ 16777216) (hls : ∀ x ∈ p, x.length ≤ 16777216 ∧ ∀ f ∈ x, f.ls.length ≤ 16777216) (hls2 : ∀ x ∈ q, x.length ≤ 16777216 ∧ ∀ f ∈ x, f.ls.length ≤ 16777216) (h1 : DocZ w (.slice va p.length vc) p) (h2 : DocZ w (.slice ua q.length uc) q) :
    Calls Try.prog 18 #[.slice va p.length vc, .slice ua q.length uc] w fun e w' => e = .returned (.bool (eqDz p q)) ∧ Below w.heap.size w w' := by
  have H1 := hide h1
  have H2 := hide h2
  have HL1 := hide hls
  have HL2 := hide hls2
  clear h1 h2 hls hls2
  obtain ⟨R, hR⟩ : ∃ R, eqDz p q = R := ⟨_, rfl⟩
  rw [hR]
  have HR := hide hR
  clear hR
  by_cases hlen : p.length = q.length
  · obtain ⟨N, hN⟩ : ∃ N, p.length = N := ⟨_, rfl⟩
    have hNq : q.length = N := by omega
    rw [hN] at H1
    rw [hNq] at hl2 H2
    rw [hN, hNq]
    have HN := hide hN
    have HNq := hide hNq
    clear hlen hN hNq
    go_enter Try.func18, Try.ntmps18
    go_wp2_with fail
    go_loopw [5] (fun iv wr => ∃ i n : Nat, i ≤ N ∧ iv = .int .i64 i ∧ Hid (∀ j f g, j < i → p[j]? = some f → q[j]? = some g → eqPz f g = true) ∧ wr = w.drewN n) (fun iv _ => N - (intOf iv).toNat)
    case atStart => exact ⟨0, 0, Nat.zero_le _, rfl, hide (fun j _ _ h => absurd h (Nat.not_lt_zero _)), rfl⟩
    case round =>
      obtain ⟨i, n, hi, rfl, HZ, rfl⟩ := hrel
      by_cases hlt : i < N
      · have hltz : (i : Int) < (N : Int) := by omega
        have hkp : i < p.length := by have := unhide HN; omega
        have hkq : i < q.length := by have := unhide HNq; omega
        obtain ⟨g1, o1, pa1, pc1, rfl, c1, hp1⟩ := (unhide H1).par i hkp
        obtain ⟨g2, o2, pa2, pc2, rfl, c2, hp2⟩ := (unhide H2).par i hkq
        have y1 := unhide HL1 p[i] (List.getElem_mem hkp)
        have y2 := unhide HL2 q[i] (List.getElem_mem hkq)
        have HPK := hide (show p[i]? = some p[i] from List.getElem?_eq_getElem hkp)
        have HQK := hide (show q[i]? = some q[i] from List.getElem?_eq_getElem hkq)
        have HP1 := hide hp1
        have HP2 := hide hp2
        have HY1 := hide y1.2
        have HY2 := hide y2.2
        have hyl := y2.1
        clear hp1 hp2 y1 y2
        generalize p[i] = x at *
        generalize q[i] = y at *
        by_cases hxy : x.length = y.length
        · obtain ⟨L, hL⟩ : ∃ L, x.length = L := ⟨_, rfl⟩
          have hLy : y.length = L := by omega
          rw [hL] at c1 HP1
          rw [hLy] at c2 HP2 hyl
          have HLx := hide hL
          have HLy := hide hLy
          clear hxy hL hLy
          go_wp2_with fail
          go_quiet (fail)
          go_wp2_with fail
          go_loopw [6] (fun kv wr => ∃ k n : Nat, k ≤ L ∧ kv = .int .i64 k ∧ Hid (∀ j f g, j < k → x[j]? = some f → y[j]? = some g → eqG f g = true) ∧ wr = w.drewN n) (fun kv _ => L - (intOf kv).toNat)
          case atStart => exact ⟨0, _, Nat.zero_le _, rfl, hide (fun j _ _ h => absurd h (Nat.not_lt_zero _)), (drewN_two2 w _ _)⟩
          case round =>
            obtain ⟨k, n, hk, rfl, HV, rfl⟩ := hrel
            by_cases hlt2 : k < L
            · have hlt2z : (k : Int) < (L : Int) := by omega
              have hkx : k < x.length := by have := unhide HLx; omega
              have hky : k < y.length := by have := unhide HLy; omega
              obtain ⟨q1, r1, rfl, f1⟩ := (unhide HP1).fld k hkx
              obtain ⟨q2, r2, rfl, f2⟩ := (unhide HP2).fld k hky
              have z1 := unhide HY1 x[k] (List.getElem_mem hkx)
              have z2 := unhide HY2 y[k] (List.getElem_mem hky)
              have HXK := hide (show x[k]? = some x[k] from List.getElem?_eq_getElem hkx)
              have HYK := hide (show y[k]? = some y[k] from List.getElem?_eq_getElem hky)
              generalize x[k] = f at *
              generalize y[k] = g at *
              have n1 := f1.nm
              have n2 := f2.nm
              obtain ⟨la1, cc1, l1, _, m1⟩ := f1.ls
              obtain ⟨la2, cc2, l2, _, m2⟩ := f2.ls
              have HM1 := hide m1
              have HM2 := hide m2
              have HNO := hide (show eqG f g = false → R = false from fun h => by rw [← unhide HR]; exact eqDz_no (unhide HPK) (unhide HQK) (eqPz_no (unhide HXK) (unhide HYK) h))
              clear f1 f2 m1 m2
              obtain ⟨a, s, t⟩ := f
              obtain ⟨b, u, v⟩ := g
              simp only at n1 n2 l1 l2 z1 z2 HM1 HM2
              by_cases hab : a = b
              · subst hab
                by_cases hsu : s.length = u.length
                · obtain ⟨M, hM⟩ : ∃ M, s.length = M := ⟨_, rfl⟩
                  have hMu : u.length = M := by omega
                  rw [hM] at l1 z1
                  rw [hMu] at l2 z2
                  have HMs := hide hM
                  have HMu := hide hMu
                  clear hsu hM hMu
                  generalize ba a = nm at *
                  go_wp2_with fail
                  go_quiet (fail)
                  go_wp2_with fail
                  go_loopw [7] (fun mv wr => ∃ m n : Nat, m ≤ M ∧ mv = .int .i64 m ∧ Hid (∀ j c d, j < m → s[j]? = some c → u[j]? = some d → c = d) ∧ wr = w.drewN n) (fun mv _ => M - (intOf mv).toNat)
                  case atStart => exact ⟨0, _, Nat.zero_le _, rfl, hide (fun j _ _ h => absurd h (Nat.not_lt_zero _)), (drewN_two2 w _ _)⟩
                  case round =>
                    obtain ⟨m, n, hm, rfl, HU, rfl⟩ := hrel
                    by_cases hlt3 : m < M
                    · have hlt3z : (m : Int) < (M : Int) := by omega
                      have hms : m < s.length := by have := unhide HMs; omega
                      have hmu : m < u.length := by have := unhide HMu; omega
                      obtain ⟨b1, s1, rfl, y1⟩ := unhide HM1 (by rw [strs, List.length_map]; omega)
                      obtain ⟨b2, s2, rfl, y2⟩ := unhide HM2 (by rw [strs, List.length_map]; omega)
                      have x1 := y1 m (.string (ba s[m])) (by simp [strs, hms])
                      have x2 := y2 m (.string (ba u[m])) (by simp [strs, hmu])
                      have HSK := hide (show s[m]? = some s[m] from List.getElem?_eq_getElem hms)
                      have HUK := hide (show u[m]? = some u[m] from List.getElem?_eq_getElem hmu)
                      clear y1 y2
                      generalize s[m] = sm at *
                      generalize u[m] = um at *
                      by_cases hsm : sm = um
                      · subst hsm
                        have HU2 := hide (show ∀ j c d, j < m + 1 → s[j]? = some c → u[j]? = some d → c = d from fun j c d hj hc hd => by
                          by_cases e : j < m
                          · exact unhide HU j c d e hc hd
                          · obtain rfl : j = m := by omega
                            rw [unhide HSK] at hc
                            rw [unhide HUK] at hd
                            cases hc
                            cases hd
                            rfl)
                        clear HU
                        generalize ba sm = tx at *
                        go_wp2_with fail
                        go_quiet (fail)
                        go_wp2_with fail
                        go_roundw
                        case rel => exact ⟨m + 1, _, by omega, by go_num, HU2, rfl⟩
                        case measure => simp [intOf]; omega
                      · have hne : ((ba sm).toList == (ba um).toList) = false := by rw [ba_eq, beq_eq_false_iff_ne]; exact hsm
                        have HE := hide (unhide HNO (by
                          unfold eqG
                          simp only [beq_self_eq_true, Bool.true_and, beq_eq_false_iff_ne]
                          intro e
                          subst e
                          have h1 := unhide HSK
                          rw [unhide HUK] at h1
                          cases h1
                          exact hsm rfl))
                        clear HU hsm
                        generalize ba sm = tx at *
                        generalize ba um = ty at *
                        go_wp2_with fail
                        go_quiet (fail)
                        go_wp2_with fail
                        go_ret
                        exact ⟨ret_b (unhide HE).symm, by rw [drewN_two2]; exact bl_drewN w _⟩
                    · have hlt3z : ¬ (m : Int) < (M : Int) := by omega
                      have HV2 := hide (show ∀ j c d, j < k + 1 → x[j]? = some c → y[j]? = some d → eqG c d = true from fun j c d hj hc hd => by
                        by_cases e : j < k
                        · exact unhide HV j c d e hc hd
                        · obtain rfl : j = k := by omega
                          rw [unhide HXK] at hc
                          rw [unhide HYK] at hd
                          cases hc
                          cases hd
                          unfold eqG
                          simp only [beq_self_eq_true, Bool.true_and, beq_iff_eq]
                          refine List.ext_getElem (by have a := unhide HMs; have b := unhide HMu; omega) fun j h1 h2 => ?_
                          exact unhide HU j _ _ (by have a := unhide HMs; omega) (List.getElem?_eq_getElem h1) (List.getElem?_eq_getElem h2))
                      clear HV HU
                      go_wp2_with fail
                      go_roundw
                      case rel => exact ⟨k + 1, _, by omega, by go_num, HV2, rfl⟩
                      case measure => simp [intOf]; omega
                · have HE := hide (unhide HNO (by
                    unfold eqG
                    simp only [beq_self_eq_true, Bool.true_and, beq_eq_false_iff_ne]
                    intro e
                    exact hsu (by rw [e])))
                  have hsz : ¬ (s.length : Int) = (u.length : Int) := by omega
                  clear HV HZ
                  generalize ba a = nm at *
                  go_wp2_with fail
                  go_quiet (fail)
                  go_wp2_with fail
                  go_ret
                  exact ⟨ret_b (unhide HE).symm, by rw [drewN_two2]; exact bl_drewN w _⟩
              · have hne : ((ba a).toList == (ba b).toList) = false := by rw [ba_eq, beq_eq_false_iff_ne]; exact hab
                have HE := hide (unhide HNO (by
                  unfold eqG
                  rw [Bool.and_eq_false_iff]
                  left
                  rw [beq_eq_false_iff_ne]
                  exact hab))
                clear HV HZ hab
                generalize ba a = nm at *
                generalize ba b = nm2 at *
                go_wp2_with fail
                go_quiet (fail)
                go_wp2_with fail
                go_ret
                exact ⟨ret_b (unhide HE).symm, by rw [drewN_two2]; exact bl_drewN w _⟩
            · have hlt2z : ¬ (k : Int) < (L : Int) := by omega
              have HZ2 := hide (show ∀ j a b, j < i + 1 → p[j]? = some a → q[j]? = some b → eqPz a b = true from fun j a b hj ha hb => by
                by_cases e : j < i
                · exact unhide HZ j a b e ha hb
                · obtain rfl : j = i := by omega
                  rw [unhide HPK] at ha
                  rw [unhide HQK] at hb
                  cases ha
                  cases hb
                  exact eqPz_yes (by have a := unhide HLx; have b := unhide HLy; omega) fun m f g h1 h2 => unhide HV m f g (by have a := unhide HLx; have := (List.getElem?_eq_some_iff.1 h1).1; omega) h1 h2)
              clear HZ HV
              go_wp2_with fail
              go_roundw
              case rel => exact ⟨i + 1, _, by omega, by go_num, HZ2, rfl⟩
              case measure => simp [intOf]; omega
        · have HE := hide (show R = false by rw [← unhide HR]; exact eqDz_no (unhide HPK) (unhide HQK) (eqPz_len hxy))
          have hxz : ¬ (x.length : Int) = (y.length : Int) := by omega
          clear HZ
          go_wp2_with fail
          go_quiet (fail)
          go_wp2_with fail
          go_ret
          exact ⟨ret_b (unhide HE).symm, by rw [drewN_two2]; exact bl_drewN w _⟩
      · have HE := hide (show R = true by
          rw [← unhide HR]
          exact eqDz_yes (by have a := unhide HN; have b := unhide HNq; omega) fun j f g h1 h2 => unhide HZ j f g (by have a := unhide HN; have := (List.getElem?_eq_some_iff.1 h1).1; omega) h1 h2)
        have hltz : ¬ (i : Int) < (N : Int) := by omega
        clear HZ
        go_wp2_with fail
        go_ret
        exact ⟨ret_b (unhide HE).symm, bl_drewN w _⟩
  · have HE := hide (show R = false by rw [← unhide HR]; exact eqDz_len hlen)
    rw [unhide HE]
    have hz : ¬ (p.length : Int) = (q.length : Int) := by omega
    go_enter Try.func18, Try.ntmps18
    go_wp2_with fail
    go_ret
    exact ⟨rfl, Below.refl _ _⟩
end Go.Proofs.Ytohncccejlccbaa
