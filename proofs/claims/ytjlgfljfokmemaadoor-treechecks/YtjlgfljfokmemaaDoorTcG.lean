import Derived.Test.YtjlgfljfokmemaaDoorTcF
namespace Go.Proofs.YtjlgfljfokmemaaDoor
open Go.RowKit Go.Maps Go.Shelf

theorem mb_eq (x : Stp) : mb x = ((decide (x.k = 1) && decide (kd x.f = 2) && decide (kd x.t = 1)) || (decide (x.k = 2) && decide (x.f.toList = []) && decide (kd x.t = 1))) := by
  unfold mb
  by_cases h1 : x.k = 1
  · rw [if_pos h1]
    simp [h1]
  · rw [if_neg h1]
    by_cases h2 : x.k = 2
    · rw [if_pos h2]
      simp [h2]
    · rw [if_neg h2]
      simp [h1, h2]

set_option maxRecDepth 100000 in
set_option maxHeartbeats 8000000 in
theorem rCheck_any (l : List Stp) (v : Value) (w : World) (h : Sps w v l) (hn : l.length ≤ 3518437208883) (hok : ∀ x ∈ l, SpOk x) :
    Calls Tryd.prog 16 #[v] w fun e w' => e = .returned (.int .i64 (ckS l)) ∧ Below w.heap.size w w' := by
  obtain ⟨va, vc, rfl⟩ := h.shape
  have H := hide h
  have HO := hide hok
  have HBad := hide (ckS_bad l)
  have HTw := hide (ckS_tw l)
  have HOk := hide (ckS_no l)
  obtain ⟨N, hN⟩ : ∃ N, l.length = N := ⟨_, rfl⟩
  rw [hN] at hn H ⊢
  clear h hok
  generalize ckS l = ck at *
  go_enter Tryd.func16, Tryd.ntmps16
  go_wp2_with fail
  go_loopw [3] (fun i wr => ∃ k : Nat, k ≤ N ∧ i = .int .i64 k ∧ Hid (Below w.heap.size w wr) ∧ Hid (∀ j (hj : j < l.length), j < k → mb l[j] = true)) (fun i _ => N - (intOf i).toNat)
  case atStart => exact ⟨0, Nat.zero_le _, rfl, hide (Below.refl _ _), hide (fun j _ h => absurd h (Nat.not_lt_zero _))⟩
  case round =>
    obtain ⟨k, hk, rfl, HB, HZ⟩ := hrel
    by_cases hlt : k < N
    · have hkl : k < l.length := by omega
      obtain ⟨b, o, rfl, hb, p0, p1, p2⟩ := ((unhide H).later (unhide HB)).elem k hkl
      have hx := unhide HO _ (List.getElem_mem hkl)
      have HBad' := hide (unhide HBad k hkl)
      have HN := hide (fun (h : mb l[k] = true) => show ∀ j (hj : j < l.length), j < k + 1 → mb l[j] = true from fun j hj hjk => by
        by_cases e : j < k
        · exact unhide HZ j hj e
        · obtain rfl : j = k := by omega
          exact h)
      have c1 := hide (fun w => rParse_any l[k].t w (by have := hx.2; omega))
      have c2 := hide (fun w => rParse_any l[k].f w (by have := hx.1; omega))
      have HE := hide (mb_eq l[k])
      unfold kd at HE
      generalize l[k] = x at *
      generalize mb x = m at *
      obtain ⟨xk, xf, xt⟩ := x
      simp only at c1 c2 HE p0 p1 p2
      generalize prs xt = pt at *
      generalize prs xf = pf at *
      obtain ⟨t1, t2, t3, t4⟩ := pt
      obtain ⟨f1, f2, f3, f4⟩ := pf
      simp only at c1 c2 HE
      have HA := hide (show Below w.heap.size w (wr.alloc (.cells #[.int .i64 xk, .string xf, .string xt] 41)) from (unhide HB).alloc (unhide HB).size _)
      clear HBad HTw HOk HZ HO hx
      by_cases h1 : xk = 1
      · subst h1
        by_cases h2 : f4 = 2
        · subst h2
          by_cases h4 : t4 = 1
          · subst h4
            have hm : m = true := by rw [unhide HE]; simp
            have HZ' := hide (unhide HN hm)
            clear HBad' HN HE
            go_wp2_with fail
            refine (unhide c1 _).mono ?_
            rintro e w1 ⟨rfl, rfl⟩
            go_wp2_with fail
            refine (unhide c2 _).mono ?_
            rintro e w1 ⟨rfl, rfl⟩
            go_wp2_with fail
            go_roundw
            case rel => exact ⟨k + 1, by omega, by go_num, HA, HZ'⟩
            case measure => simp [intOf]; omega
          · have h4b : (t4 == 1) = false := beq_eq_false_iff_ne.2 h4
            have hm : m = false := by rw [unhide HE]; simp [h4]
            have HF := hide (unhide HBad' hm)
            clear HBad' HN HE
            go_wp2_with fail
            refine (unhide c1 _).mono ?_
            rintro e w1 ⟨rfl, rfl⟩
            go_wp2_with fail
            refine (unhide c2 _).mono ?_
            rintro e w1 ⟨rfl, rfl⟩
            go_wp2_with fail
            go_ret
            rw [unhide HF]
            exact ⟨rfl, unhide HA⟩
        · have h2b : (f4 == 2) = false := beq_eq_false_iff_ne.2 h2
          have hm : m = false := by rw [unhide HE]; simp [h2]
          have HF := hide (unhide HBad' hm)
          clear HBad' HN HE
          go_wp2_with fail
          refine (unhide c1 _).mono ?_
          rintro e w1 ⟨rfl, rfl⟩
          go_wp2_with fail
          refine (unhide c2 _).mono ?_
          rintro e w1 ⟨rfl, rfl⟩
          go_wp2_with fail
          go_ret
          rw [unhide HF]
          exact ⟨rfl, unhide HA⟩
      · by_cases h5 : xk = 2
        · subst h5
          by_cases h3 : xf.toList = []
          · have h3b : (xf.toList == []) = true := by rw [h3]; rfl
            by_cases h4 : t4 = 1
            · subst h4
              have hm : m = true := by rw [unhide HE]; simp [h3]
              have HZ' := hide (unhide HN hm)
              clear HBad' HN HE
              go_wp2_with fail
              refine (unhide c1 _).mono ?_
              rintro e w1 ⟨rfl, rfl⟩
              go_wp2_with fail
              refine (unhide c2 _).mono ?_
              rintro e w1 ⟨rfl, rfl⟩
              go_wp2_with fail
              go_roundw
              case rel => exact ⟨k + 1, by omega, by go_num, HA, HZ'⟩
              case measure => simp [intOf]; omega
            · have h4b : (t4 == 1) = false := beq_eq_false_iff_ne.2 h4
              have hm : m = false := by rw [unhide HE]; simp [h4]
              have HF := hide (unhide HBad' hm)
              clear HBad' HN HE
              go_wp2_with fail
              refine (unhide c1 _).mono ?_
              rintro e w1 ⟨rfl, rfl⟩
              go_wp2_with fail
              refine (unhide c2 _).mono ?_
              rintro e w1 ⟨rfl, rfl⟩
              go_wp2_with fail
              go_ret
              rw [unhide HF]
              exact ⟨rfl, unhide HA⟩
          · have h3b : (xf.toList == []) = false := beq_eq_false_iff_ne.2 h3
            have hm : m = false := by rw [unhide HE]; simp [h3]
            have HF := hide (unhide HBad' hm)
            clear HBad' HN HE
            go_wp2_with fail
            refine (unhide c1 _).mono ?_
            rintro e w1 ⟨rfl, rfl⟩
            go_wp2_with fail
            refine (unhide c2 _).mono ?_
            rintro e w1 ⟨rfl, rfl⟩
            go_wp2_with fail
            go_ret
            rw [unhide HF]
            exact ⟨rfl, unhide HA⟩
        · have h1b : (xk == 1) = false := beq_eq_false_iff_ne.2 h1
          have h5b : (xk == 2) = false := beq_eq_false_iff_ne.2 h5
          have hm : m = false := by rw [unhide HE]; simp [h1, h5]
          have HF := hide (unhide HBad' hm)
          clear HBad' HN HE
          go_wp2_with fail
          refine (unhide c1 _).mono ?_
          rintro e w1 ⟨rfl, rfl⟩
          go_wp2_with fail
          refine (unhide c2 _).mono ?_
          rintro e w1 ⟨rfl, rfl⟩
          go_wp2_with fail
          go_ret
          rw [unhide HF]
          exact ⟨rfl, unhide HA⟩
    · have HM := hide (show ∀ j (hj : j < l.length), mb l[j] = true from fun j hj => unhide HZ j hj (by omega))
      have HTw' := hide (unhide HTw (unhide HM))
      have HOk' := hide (unhide HOk (unhide HM))
      clear HBad HTw HOk HZ HM HO
      go_wp2_with fail
      go_loopw [15] (fun i W => ∃ k : Nat, k ≤ N ∧ i = .int .i64 k ∧ Hid (Below w.heap.size w W) ∧ Hid (∀ i (hi : i < l.length) j (hj : j < l.length), i < k → j < i → tw l[i] l[j] = false)) (fun i _ => N - (intOf i).toNat)
      case atStart => exact ⟨0, Nat.zero_le _, rfl, HB, hide (fun i _ j _ h => absurd h (Nat.not_lt_zero _))⟩
      case round =>
        clear HB
        obtain ⟨i, hi, rfl, HB, HZ⟩ := hrel
        by_cases hlt : i < N
        · have hil : i < l.length := by omega
          go_wp2_with fail
          go_loopw [16] (fun j W => ∃ k : Nat, k ≤ i ∧ j = .int .i64 k ∧ Hid (Below w.heap.size w W) ∧ Hid (∀ j (hj : j < l.length), j < k → tw l[i] l[j] = false)) (fun j _ => i - (intOf j).toNat)
          case atStart => exact ⟨0, Nat.zero_le _, rfl, HB, hide (fun j _ h => absurd h (Nat.not_lt_zero _))⟩
          case round =>
            clear HB
            obtain ⟨k, hk, rfl, HB, HY⟩ := hrel
            by_cases hlk : k < i
            · have hkl : k < l.length := by omega
              obtain ⟨b, o, rfl, hb, p0, p1, p2⟩ := ((unhide H).later (unhide HB)).elem i hil
              obtain ⟨b', o', he, hb', q0, q1, q2⟩ := ((unhide H).later (unhide HB)).elem k hkl
              cases he
              have HT := hide (unhide HTw' i k hil hkl hlk)
              have HN := hide (fun (h : tw l[i] l[k] = false) => show ∀ j (hj : j < l.length), j < k + 1 → tw l[i] l[j] = false from fun j hj hjk => by
                by_cases e : j < k
                · exact unhide HY j hj e
                · obtain rfl : j = k := by omega
                  exact h)
              generalize l[i] = x at *
              generalize l[k] = y at *
              have HE : Hid (tw x y = ((x.t.toList == y.t.toList) || (!(x.f.toList == []) && x.f.toList == y.f.toList))) := hide rfl
              have HBd := hide (fun n => bl_t (unhide HB) (bl_drewN wr n))
              clear HY HZ HOk' HTw'
              by_cases e1 : x.t.toList = y.t.toList
              · have e1b : (x.t.toList == y.t.toList) = true := by rw [e1]; simp
                have HF := hide (unhide HT (by rw [unhide HE, e1b]; rfl))
                clear HT HN HE
                go_wp2_with fail
                go_quiet (fail)
                go_wp2
                go_ret
                rw [unhide HF]
                exact ⟨rfl, unhide HBd _⟩
              · have e1b : (x.t.toList == y.t.toList) = false := beq_eq_false_iff_ne.2 e1
                by_cases e2 : x.f.toList = []
                · have e2b : (x.f.toList == []) = true := by rw [e2]; rfl
                  have HY' := hide (unhide HN (by rw [unhide HE, e1b, e2b]; rfl))
                  clear HT HN HE
                  go_wp2_with fail
                  go_quiet (fail)
                  go_wp2
                  go_roundw
                  case rel => exact ⟨k + 1, by omega, by go_num, hide (unhide HBd _), HY'⟩
                  case measure => simp [intOf]; omega
                · have e2b : (x.f.toList == []) = false := beq_eq_false_iff_ne.2 e2
                  by_cases e3 : x.f.toList = y.f.toList
                  · have e3b : (x.f.toList == y.f.toList) = true := by rw [e3]; simp
                    have HF := hide (unhide HT (by rw [unhide HE, e1b, e2b, e3b]; rfl))
                    have e4 : x.f = y.f := ls_eq.1 e3b
                    rw [e4] at p1 e2 e2b
                    clear HT HN HE e3 e3b e4
                    go_wp2_with fail
                    go_quiet (fail)
                    go_wp2
                    go_ret
                    rw [unhide HF]
                    exact ⟨rfl, unhide HBd _⟩
                  · have e3b : (x.f.toList == y.f.toList) = false := beq_eq_false_iff_ne.2 e3
                    have HY' := hide (unhide HN (by rw [unhide HE, e1b, e2b, e3b]; rfl))
                    clear HT HN HE
                    go_wp2_with fail
                    go_quiet (fail)
                    go_wp2
                    go_roundw
                    case rel => exact ⟨k + 1, by omega, by go_num, hide (unhide HBd _), HY'⟩
                    case measure => simp [intOf]; omega
            · have HZ' := hide (show ∀ a (ha : a < l.length) j (hj : j < l.length), a < i + 1 → j < a → tw l[a] l[j] = false from fun a ha j hj hai hja => by
                by_cases e : a < i
                · exact unhide HZ a ha j hj e hja
                · obtain rfl : a = i := by omega
                  exact unhide HY j hj (by omega))
              clear HY HZ HOk' HTw'
              go_wp2_with fail
              go_roundw
              case rel => exact ⟨i + 1, by omega, by go_num, HB, HZ'⟩
              case measure => simp [intOf]; omega
        · have HF := hide (unhide HOk' (fun i hi j hj h => unhide HZ i hi j hj (by omega) h))
          clear HZ HOk' HTw'
          go_wp2_with fail
          go_ret
          rw [unhide HF]
          exact ⟨rfl, unhide HB⟩

end Go.Proofs.YtjlgfljfokmemaaDoor
