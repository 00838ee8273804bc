import Derived.Test.YtohncccejlccbaaSqD
namespace Go.Proofs.Ytohncccejlccbaa
open Go.RowKit Go.Shelf

set_option maxRecDepth 100000 in
set_option maxHeartbeats 8000000 in
theorem spoil_any (lo Pb pc : Nat) (d : Sd) (Nm : Nat → Nat → ByteArray) (L0 A0 : Nat → Nat → List Value) (w : World) (hS : Sp lo Pb d Nm L0 A0 w) (hlo : lo ≤ w.heap.size) (hn : d.n ≤ 1073741824) (hpl : ∀ i, i < d.n → d.pl i ≤ 1073741824) (hs : d.s d.n ≤ 1073741824) (hll : ∀ i k, i < d.n → k < d.pl i → d.ll i k ≤ 1073741824 ∧ d.al i k ≤ 1073741824) :
    Calls Try.prog 16 #[.slice (some ⟨Pb, 0, none⟩) d.n pc] w fun e w' => e = .returned (.bool true) ∧ Fr d w w' := by
  have HS := hide hS
  have HB0 := hide hS.bd0
  have HPL := hide hpl
  have HLL := hide hll
  have HSS := hide hs
  clear hS hpl hll
  obtain ⟨N, hN⟩ : ∃ N, d.n = N := ⟨_, rfl⟩
  rw [hN] at hn ⊢
  have HN := hide hN
  clear hN
  go_enter Try.func16, Try.ntmps16
  go_wp2_with fail
  go_loopg [3, 4] N (fun g1 nv iv wr => ∃ (i : Nat) (L A : Nat → Nat → List Value), i ≤ N ∧ N - i ≤ g1 ∧ nv = .int .i64 (d.s i) ∧ iv = .int .i64 i ∧ Hid (Sp lo Pb d Nm L A wr) ∧ Hid (Fr d w wr) ∧ Hid (Dn1 d L A i 0))
  case atStart => exact ⟨0, L0, A0, Nat.zero_le _, by omega, rfl, rfl, HS, hide (Fr.refl _ _), hide (fun a b ha hb h => by omega)⟩
  case round =>
    clear HS
    obtain ⟨i, L, A, hiN, hg1, rfl, rfl, HP, HF, HD⟩ := hrel
    by_cases hlt : i < N
    · have hltz : (i : Int) < (N : Int) := by omega
      have hid : i < d.n := by have := unhide HN; omega
      have hsi : d.s (i + 1) ≤ d.s d.n := d.s_le _ _ (by omega)
      have hpi := unhide HPL i hid
      have HSI := hide (show d.s (i + 1) = d.s i + d.pl i from rfl)
      have hsb : d.s i + d.pl i ≤ 1073741824 := by have := unhide HSS; have := unhide HSI; omega
      clear hsi
      go_wp2_with fail
      go_loopg [3, 5] (d.pl i) (fun g2 nv kv wr => ∃ (k : Nat) (L A : Nat → Nat → List Value), k ≤ d.pl i ∧ d.pl i - k ≤ g2 ∧ nv = .int .i64 ((d.s i + k : Nat) : Int) ∧ kv = .int .i64 k ∧ Hid (Sp lo Pb d Nm L A wr) ∧ Hid (Fr d w wr) ∧ Hid (Dn1 d L A i k))
      case atStart => exact ⟨0, L, A, Nat.zero_le _, by omega, by simp, rfl, HP, HF, HD⟩
      case round =>
        clear HP HF HD
        obtain ⟨k, L, A, hk, hg2, rfl, rfl, HP, HF, HD⟩ := hrel
        have c0 := (unhide HP).lst i hid
        unfold Sd.pv at c0
        by_cases hlt2 : k < d.pl i
        · have hlt2z : (k : Int) < (d.pl i : Int) := by omega
          have hllk := unhide HLL i k hid hlt2
          have hnn : ((d.s i : Int) + (k : Int) + 1) = ((d.s i + k + 1 : Nat) : Int) := by omega
          obtain ⟨q, hq⟩ : ∃ q, q = d.s i + k + 1 := ⟨_, rfl⟩
          have HQ := hide hq
          have cW := hide (fun w => word_any q (by omega) w)
          have hqb : q ≤ 1073741824 := by omega
          rw [← hq] at hnn
          have hqz : (d.s i : Int) + (k : Int) + 1 = (q : Int) := hnn
          clear hq
          go_wp2_with fail
          clear hnn
          go_loopg [6] (d.ll i k) (fun g3 mv wr => ∃ (m : Nat) (L : Nat → Nat → List Value), m ≤ d.ll i k ∧ d.ll i k - m ≤ g3 ∧ mv = .int .i64 m ∧ Hid (Sp lo Pb d Nm L A wr) ∧ Hid (Fr d w wr) ∧ Hid (Dn1 d L A i k) ∧ Hid (∀ x, x < m → (L i k)[x]? = some (.string (wd q))))
          case atStart => exact ⟨0, L, Nat.zero_le _, by omega, rfl, HP, HF, HD, hide (fun x hx => absurd hx (Nat.not_lt_zero _))⟩
          case round =>
            clear HP HF HD c0
            obtain ⟨m, L, hm, hg3, rfl, HP, HF, HD, HM⟩ := hrel
            have c0 := (unhide HP).lst i hid
            unfold Sd.pv at c0
            have c1 := ((unhide HP).cells hid hlt2).2.1
            unfold Sd.lv at c1
            by_cases hlt3 : m < d.ll i k
            · have hlt3z : (m : Int) < (d.ll i k : Int) := by omega
              have hz := (unhide HP).lzn hid hlt2 (by omega)
              rw [Sd.la_some hz] at c1
              obtain ⟨u, hu, cu, fu⟩ := own_place ((unhide HP).linS hid hlt2 hz) m hlt3
              obtain ⟨hP2, hF2⟩ := (unhide HP).setL (unhide HF) hid hlt2 hz m (.string (wd q))
              have HP2 := hide hP2
              have HF2 := hide hF2
              have hlen : (L i k).length = d.ll i k := by have := ((unhide HP).lin i k hid hlt2).1; omega
              have HD2 := hide (show Dn1 d (upd L i k ((L i k).set m (.string (wd q)))) A i k from fun a b ha hb h => by
                have := unhide HD a b ha hb h
                unfold upd
                rw [if_neg (by omega)]
                exact this)
              have HM2 := hide (show ∀ x, x < m + 1 → ((upd L i k ((L i k).set m (.string (wd q)))) i k)[x]? = some (.string (wd q)) from fun x hx => by
                unfold upd
                rw [if_pos ⟨rfl, rfl⟩, List.getElem?_set]
                by_cases e : m = x
                · rw [if_pos e, if_pos (by omega)]
                · rw [if_neg e]; exact unhide HM x (by omega))
              clear hP2 hF2 HP HF HD HM hu
              generalize wd q = wq at *
              generalize d.lb i k = lbk at *
              generalize d.pb i = pbi at *
              go_wp2_with fail
              go_region_law (first | (go_simp; go_at_call 30; refine (unhide cW _).mono ?_; rintro e w5 ⟨rfl, rfl⟩))
              all_goals
                have HP3 := hide ((unhide HP2).later (W2 := (wr.setCell ⟨lbk, m, none⟩ (.string wq)).drew) fun _ _ => rfl)
                have HF3 := hide ((unhide HF2).below ((Below.refl _ (wr.setCell ⟨lbk, m, none⟩ (.string wq))).drew))
                go_wp2_with fail
                go_roundg (d.ll i k - (m + 1))
                case measure => omega
                case rel => exact ⟨m + 1, _, by omega, by omega, by go_num, HP3, HF3, HD2, HM2⟩
            · have hlt3z : ¬ (m : Int) < (d.ll i k : Int) := by omega
              have HLk := hide (show L i k = List.replicate (d.ll i k) (.string (wd q)) from set_all (by have := ((unhide HP).lin i k hid hlt2).1; omega) (fun x hx => unhide HM x (by omega)))
              clear HM cW
              go_wp2_with fail
              go_loopg [7] (d.al i k) (fun g4 mv wr => ∃ (m : Nat) (A : Nat → Nat → List Value), m ≤ d.al i k ∧ d.al i k - m ≤ g4 ∧ mv = .int .i64 m ∧ Hid (Sp lo Pb d Nm L A wr) ∧ Hid (Fr d w wr) ∧ Hid (Dn1 d L A i k) ∧ Hid (∀ x, x < m → (A i k)[x]? = some (.int .i64 (-(q : Int)))))
              case atStart => exact ⟨0, A, Nat.zero_le _, by omega, rfl, HP, HF, HD, hide (fun x hx => absurd hx (Nat.not_lt_zero _))⟩
              case round =>
                clear HP HF HD c0 c1 hlt3 hlt3z hg3 hm
                obtain ⟨m, A, hm, hg4, rfl, HP, HF, HD, HM⟩ := hrel
                have c0 := (unhide HP).lst i hid
                unfold Sd.pv at c0
                have c1 := ((unhide HP).cells hid hlt2).2.2
                unfold Sd.av at c1
                by_cases hlt3 : m < d.al i k
                · have hlt3z : (m : Int) < (d.al i k : Int) := by omega
                  have hz := (unhide HP).azn hid hlt2 (by omega)
                  rw [Sd.aa_some hz] at c1
                  obtain ⟨u, hu, cu, fu⟩ := own_place ((unhide HP).numS hid hlt2 hz) m hlt3
                  obtain ⟨hP2, hF2⟩ := (unhide HP).setA (unhide HF) hid hlt2 hz m (.int .i64 (-(q : Int)))
                  have HP2 := hide hP2
                  have HF2 := hide hF2
                  have hlen : (A i k).length = d.al i k := by have := ((unhide HP).num i k hid hlt2).1; omega
                  have HD2 := hide (show Dn1 d L (upd A i k ((A i k).set m (.int .i64 (-(q : Int))))) i k from fun a b ha hb h => by
                    have := unhide HD a b ha hb h
                    unfold upd
                    rw [if_neg (by omega)]
                    exact this)
                  have HM2 := hide (show ∀ x, x < m + 1 → ((upd A i k ((A i k).set m (.int .i64 (-(q : Int))))) i k)[x]? = some (.int .i64 (-(q : Int))) from fun x hx => by
                    unfold upd
                    rw [if_pos ⟨rfl, rfl⟩, List.getElem?_set]
                    by_cases e : m = x
                    · rw [if_pos e, if_pos (by omega)]
                    · rw [if_neg e]; exact unhide HM x (by omega))
                  have hneg : IntKind.i64.wrap (-(q : Int)) = -(q : Int) := by rw [IntKind.wrap_i64]; omega
                  clear hP2 hF2 HP HF HD HM hu
                  generalize d.ab i k = abk at *
                  generalize d.pb i = pbi at *
                  go_wp2_with fail
                  go_roundg (d.al i k - (m + 1))
                  case measure => omega
                  case rel => exact ⟨m + 1, _, by omega, by omega, by go_num, HP2, HF2, HD2, HM2⟩
                · have hlt3z : ¬ (m : Int) < (d.al i k : Int) := by omega
                  have HAk := hide (show A i k = List.replicate (d.al i k) (.int .i64 (-(q : Int))) from set_all (by have := ((unhide HP).num i k hid hlt2).1; omega) (fun x hx => unhide HM x (by omega)))
                  have HD2 := hide (show Dn1 d L A i (k + 1) from fun a b ha hb h => by
                    by_cases e : a = i ∧ b = k
                    · rw [e.1, e.2, ← unhide HQ]
                      exact ⟨unhide HLk, unhide HAk⟩
                    · exact unhide HD a b ha hb (by omega))
                  have HQ2 := hide (show (q : Int) = ((d.s i + (k + 1) : Nat) : Int) by have := unhide HQ; omega)
                  clear HM HD HAk HLk
                  go_wp2_with fail
                  go_roundg (d.pl i - (k + 1))
                  case measure => omega
                  case rel => exact ⟨k + 1, L, A, by omega, by omega, congrArg (Value.int .i64) (unhide HQ2), by go_num, HP, HF, HD2⟩
        · have hlt2z : ¬ (k : Int) < (d.pl i : Int) := by omega
          obtain rfl : k = d.pl i := by omega
          have HD2 := hide (show Dn1 d L A (i + 1) 0 from fun a b ha hb h => unhide HD a b ha hb (by
            by_cases e : a = i
            · subst e; exact .inr ⟨rfl, hb⟩
            · exact .inl (by omega)))
          clear HD
          go_wp2_with fail
          go_roundg (N - (i + 1))
          case measure => omega
          case rel => exact ⟨i + 1, L, A, by omega, by omega, congrArg (Value.int .i64) (by rw [unhide HSI]; omega), by go_num, HP, HF, HD2⟩
    · have hltz : ¬ (i : Int) < (N : Int) := by omega
      obtain rfl : i = N := by omega
      have HALL := hide (show ∀ a b, a < d.n → b < d.pl a → L a b = List.replicate (d.ll a b) (.string (wd (d.s a + b + 1))) ∧ A a b = List.replicate (d.al a b) (.int .i64 (-((d.s a + b + 1 : Nat) : Int))) from fun a b ha hb => unhide HD a b ha hb (.inl (by have := unhide HN; omega)))
      clear HD
      go_wp2_with fail
      go_loopg [8, 9] i (fun g1 mv iv wr => ∃ (j M : Nat), j ≤ i ∧ i - j ≤ g1 ∧ mv = .int .i64 M ∧ iv = .int .i64 j ∧ 80 * d.s j ≤ M ∧ M ≤ d.s j * 4294967296 ∧ Hid (Sp lo Pb d Nm L A wr) ∧ Hid (Fr d w wr))
      case atStart => exact ⟨0, 0, Nat.zero_le _, by omega, rfl, rfl, Nat.le_refl _, Nat.zero_le _, HP, HF⟩
      case round =>
        clear HP HF
        obtain ⟨j, M, hjN, hg1, rfl, rfl, hM1, hM2, HP, HF⟩ := hrel
        by_cases hlt5 : j < i
        · have hlt5z : (j : Int) < (i : Int) := by omega
          have hjd : j < d.n := by have := unhide HN; omega
          have hsj : d.s (j + 1) ≤ d.s d.n := d.s_le _ _ (by omega)
          have HSJ := hide (show d.s (j + 1) = d.s j + d.pl j from rfl)
          have hsb : d.s j + d.pl j ≤ 1073741824 := by have := unhide HSS; have := unhide HSJ; omega
          clear hsj
          go_wp2_with fail
          go_loopg [8, 10] (d.pl j) (fun g2 mv kv wr => ∃ (k M : Nat), k ≤ d.pl j ∧ d.pl j - k ≤ g2 ∧ mv = .int .i64 M ∧ kv = .int .i64 k ∧ 80 * (d.s j + k) ≤ M ∧ M ≤ (d.s j + k) * 4294967296 ∧ Hid (Sp lo Pb d Nm L A wr) ∧ Hid (Fr d w wr))
          case atStart => exact ⟨0, M, Nat.zero_le _, by omega, rfl, rfl, by omega, by omega, HP, HF⟩
          case round =>
            clear HP HF hM1 hM2
            obtain ⟨k, M, hk, hg2, rfl, rfl, hM1, hM2, HP, HF⟩ := hrel
            have c0 := (unhide HP).lst j hjd
            unfold Sd.pv at c0
            by_cases hlt6 : k < d.pl j
            · have hlt6z : (k : Int) < (d.pl j : Int) := by omega
              have hllk := unhide HLL j k hjd hlt6
              have c1 := ((unhide HP).cells hjd hlt6).2.1
              have c2 := ((unhide HP).cells hjd hlt6).2.2
              unfold Sd.lv at c1
              unfold Sd.av at c2
              have HE0 := hide (Ex.start (B0 := w.heap.size) (show wr.ownsRow lo 9 1 (.slice (d.la j k) (d.ll j k) (d.lc j k)) (d.ll j k) (L j k) from (unhide HP).lin j k hjd hlt6))
              have HA0 := hide (Ex.start (B0 := w.heap.size) (show wr.ownsRow lo 3 1 (.slice (d.aa j k) (d.al j k) (d.ac j k)) (d.al j k) (A j k) from (unhide HP).num j k hjd hlt6))
              go_wp2_with fail
              go_loopg [11, 12, 13] 40 (fun g3 lv av mv wr => ∃ (m : Nat) (gl : Option Addr) (cl : Nat) (ga : Option Addr) (ca : Nat), m ≤ 40 ∧ 40 - m ≤ g3 ∧ lv = .slice gl (d.ll j k + m) cl ∧ av = .slice ga (d.al j k + m) ca ∧ mv = .int .i64 m ∧ Hid (Ex lo w.heap.size 9 (d.la j k) (d.ll j k) (d.lc j k) (L j k) wr gl cl m) ∧ Hid (Ex lo w.heap.size 3 (d.aa j k) (d.al j k) (d.ac j k) (A j k) wr ga ca m) ∧ Hid (Sp lo Pb d Nm L A wr) ∧ Hid (Fr d w wr))
              case atStart => exact ⟨0, _, _, _, _, Nat.zero_le _, by omega, rfl, rfl, rfl, HE0, HA0, HP, HF⟩
              case round =>
                clear HP HF HE0 HA0 c0 c1 c2
                obtain ⟨m, gl, cl, ga, ca, hm, hg3, rfl, rfl, rfl, HE, HA, HP, HF⟩ := hrel
                by_cases hlt7 : m < 40
                · have hlt7z : (m : Int) < 40 := by omega
                  obtain ⟨g2, cap2, W2, r1, s2, f2, e2, t2⟩ := stepL (unhide HP) (unhide HF) (unhide HB0) hlo hjd hlt6 (unhide HE) (by omega) (.string ⟨#[109, 111, 114, 101]⟩) rfl
                  obtain ⟨g3', cap3, W3, r2, s3, f3, e3, t3⟩ := stepA s2 f2 (unhide HB0) hlo hjd hlt6 (t2 _ _ _ (unhide HA)) (by omega) (.int .i64 99) rfl
                  have HP3 := hide s3
                  have HF3 := hide f3
                  have HA3 := hide e3
                  have HE3 := hide (t3 _ _ _ e2)
                  clear s2 f2 e2 t2 s3 f3 e3 t3 HE HA HP HF
                  go_wp2_with (first | ((with_reducible refine wpList_append_run (o := { dst := some 129, op := Op.call { callee := Callee.builtin Builtin.append, args := #[Operand.tmp 127, Operand.tmp 128], argTypes := #[27, 27] }, type := 27, pos := "law.go:190", after := #[{ on := 0, ground := Ground.data }, { on := 1, ground := Ground.data }], guard := none }) ?_ (.tmp 127) (.tmp 128) 27 ?_ _ _ ?_ ?_ r1 ?_); (next => rfl); (next => rfl); (next => rfl); (next => rfl)) | ((with_reducible refine wpList_append_run (o := { dst := some 132, op := Op.call { callee := Callee.builtin Builtin.append, args := #[Operand.tmp 130, Operand.tmp 131], argTypes := #[28, 28] }, type := 28, pos := "law.go:191", after := #[{ on := 0, ground := Ground.data }, { on := 1, ground := Ground.data }], guard := none }) ?_ (.tmp 130) (.tmp 131) 28 ?_ _ _ ?_ ?_ r2 ?_); (next => rfl); (next => rfl); (next => rfl); (next => rfl)))
                  go_roundg (40 - (m + 1))
                  case measure => omega
                  case rel => exact ⟨m + 1, some ⟨g2, 0, none⟩, cap2, some ⟨g3', 0, none⟩, cap3, by omega, by omega, rfl, rfl, by go_num, HE3, HA3, HP3, HF3⟩
                · have hlt7z : ¬ (m : Int) < 40 := by omega
                  obtain rfl : m = 40 := by omega
                  clear HE HA
                  obtain ⟨M2, hM⟩ : ∃ M2, M2 = M + (d.ll j k + 40) + (d.al j k + 40) := ⟨_, rfl⟩
                  have hMz : (M : Int) + ((d.ll j k + 40 : Nat) : Int) + ((d.al j k + 40 : Nat) : Int) = (M2 : Int) := by omega
                  have HMM := hide hM
                  clear hM
                  have hMz2 : (M : Int) + ((d.ll j k : Int) + 40) + ((d.al j k : Int) + 40) = (M2 : Int) := by have := unhide HMM; omega
                  clear hMz
                  go_wp2_with fail
                  go_roundg (d.pl j - (k + 1))
                  case measure => omega
                  case rel => exact ⟨k + 1, M2, by omega, by omega, rfl, by go_num, by have := unhide HMM; omega, by have := unhide HMM; omega, HP, HF⟩
            · have hlt6z : ¬ (k : Int) < (d.pl j : Int) := by omega
              obtain rfl : k = d.pl j := by omega
              go_wp2_with fail
              go_roundg (i - (j + 1))
              case measure => omega
              case rel => exact ⟨j + 1, M, by omega, by omega, rfl, by go_num, by rw [unhide HSJ]; omega, by rw [unhide HSJ]; omega, HP, HF⟩
        · have hlt5z : ¬ (j : Int) < (i : Int) := by omega
          obtain rfl : j = i := by omega
          have hM1' := hM1
          have hM2' := hM2
          clear hM1 hM2 hlt5 hlt5z hg1 hjN
          go_wp2_with fail
          go_loopg [3, 14] j (fun g1 nv iv wr => ∃ (i : Nat), i ≤ j ∧ j - i ≤ g1 ∧ nv = .int .i64 (d.s i) ∧ iv = .int .i64 i ∧ Hid (Sp lo Pb d Nm L A wr) ∧ Hid (Fr d w wr))
          case atStart => exact ⟨0, Nat.zero_le _, by omega, rfl, rfl, HP, HF⟩
          case round =>
            clear HP HF
            obtain ⟨i, hij, hg1, rfl, rfl, HP, HF⟩ := hrel
            by_cases hlt8 : i < j
            · have hlt8z : (i : Int) < (j : Int) := by omega
              have hid : i < d.n := by have := unhide HN; omega
              have hsi : d.s (i + 1) ≤ d.s d.n := d.s_le _ _ (by omega)
              have HSI := hide (show d.s (i + 1) = d.s i + d.pl i from rfl)
              have hsb : d.s i + d.pl i ≤ 1073741824 := by have := unhide HSS; have := unhide HSI; omega
              clear hsi
              go_wp2_with fail
              go_loopg [3, 15] (d.pl i) (fun g2 nv kv wr => ∃ (k : Nat), k ≤ d.pl i ∧ d.pl i - k ≤ g2 ∧ nv = .int .i64 ((d.s i + k : Nat) : Int) ∧ kv = .int .i64 k ∧ Hid (Sp lo Pb d Nm L A wr) ∧ Hid (Fr d w wr))
              case atStart => exact ⟨0, Nat.zero_le _, by omega, by simp, rfl, HP, HF⟩
              case round =>
                clear HP HF
                obtain ⟨k, hk, hg2, rfl, rfl, HP, HF⟩ := hrel
                have c0 := (unhide HP).lst i hid
                unfold Sd.pv at c0
                by_cases hlt9 : k < d.pl i
                · have hlt9z : (k : Int) < (d.pl i : Int) := by omega
                  have hllk := unhide HLL i k hid hlt9
                  obtain ⟨q, hq⟩ : ∃ q, q = d.s i + k + 1 := ⟨_, rfl⟩
                  have HQ := hide hq
                  have cW := hide (fun w => word_any q (by omega) w)
                  have hqb : q ≤ 1073741824 := by omega
                  have hqz : (d.s i : Int) + (k : Int) + 1 = (q : Int) := by omega
                  have HLA := hide (show L i k = List.replicate (d.ll i k) (.string (wd q)) ∧ A i k = List.replicate (d.al i k) (.int .i64 (-(q : Int))) by
                    have := unhide HALL i k hid hlt9
                    rw [← hq] at this
                    exact this)
                  clear hq
                  generalize wd q = wq at *
                  go_wp2_with fail
                  go_loopg [16] (d.ll i k) (fun g3 mv wr => ∃ (m : Nat), m ≤ d.ll i k ∧ d.ll i k - m ≤ g3 ∧ mv = .int .i64 m ∧ Hid (Sp lo Pb d Nm L A wr) ∧ Hid (Fr d w wr))
                  case atStart => exact ⟨0, Nat.zero_le _, by omega, rfl, HP, HF⟩
                  case round =>
                    clear HP HF c0
                    obtain ⟨m, hm, hg3, rfl, HP, HF⟩ := hrel
                    have c0 := (unhide HP).lst i hid
                    unfold Sd.pv at c0
                    have c1 := ((unhide HP).cells hid hlt9).2.1
                    unfold Sd.lv at c1
                    by_cases hlt10 : m < d.ll i k
                    · have hlt10z : (m : Int) < (d.ll i k : Int) := by omega
                      have hz := (unhide HP).lzn hid hlt9 (by omega)
                      rw [Sd.la_some hz] at c1
                      have cx := (row_cells3 ((unhide HP).linS hid hlt9 hz)).2.2 m (.string wq) (by rw [(unhide HLA).1, List.getElem?_replicate, if_pos hlt10])
                      go_wp2_with fail
                      go_quiet (first | (go_at_call 30; exact Calls.quiet_of_same (unhide cW _)))
                      go_wp2_with fail
                      go_roundg (d.ll i k - (m + 1))
                      case measure => omega
                      case rel => exact ⟨m + 1, by omega, by omega, by go_num, hide ((unhide HP).dr _), hide ((unhide HF).dr _)⟩
                    · have hlt10z : ¬ (m : Int) < (d.ll i k : Int) := by omega
                      go_wp2_with fail
                      go_loopg [17] (d.al i k) (fun g4 mv wr => ∃ (m : Nat), m ≤ d.al i k ∧ d.al i k - m ≤ g4 ∧ mv = .int .i64 m ∧ Hid (Sp lo Pb d Nm L A wr) ∧ Hid (Fr d w wr))
                      case atStart => exact ⟨0, Nat.zero_le _, by omega, rfl, HP, HF⟩
                      case round =>
                        clear HP HF c0 c1 hlt10 hlt10z hg3 hm
                        obtain ⟨m, hm, hg4, rfl, HP, HF⟩ := hrel
                        have c0 := (unhide HP).lst i hid
                        unfold Sd.pv at c0
                        have c1 := ((unhide HP).cells hid hlt9).2.2
                        unfold Sd.av at c1
                        by_cases hlt11 : m < d.al i k
                        · have hlt11z : (m : Int) < (d.al i k : Int) := by omega
                          have hz := (unhide HP).azn hid hlt9 (by omega)
                          rw [Sd.aa_some hz] at c1
                          have cx := (row_cells3 ((unhide HP).numS hid hlt9 hz)).2.2 m (.int .i64 (-(q : Int))) (by rw [(unhide HLA).2, List.getElem?_replicate, if_pos hlt11])
                          have hneg : IntKind.i64.wrap (-(q : Int)) = -(q : Int) := by rw [IntKind.wrap_i64]; omega
                          go_wp2_with fail
                          go_roundg (d.al i k - (m + 1))
                          case measure => omega
                          case rel => exact ⟨m + 1, by omega, by omega, by go_num, HP, HF⟩
                        · have hlt11z : ¬ (m : Int) < (d.al i k : Int) := by omega
                          have HQ2 := hide (show (q : Int) = ((d.s i + (k + 1) : Nat) : Int) by have := unhide HQ; omega)
                          go_wp2_with fail
                          go_roundg (d.pl i - (k + 1))
                          case measure => omega
                          case rel => exact ⟨k + 1, by omega, by omega, congrArg (Value.int .i64) (unhide HQ2), by go_num, HP, HF⟩
                · have hlt9z : ¬ (k : Int) < (d.pl i : Int) := by omega
                  obtain rfl : k = d.pl i := by omega
                  go_wp2_with fail
                  go_roundg (j - (i + 1))
                  case measure => omega
                  case rel => exact ⟨i + 1, by omega, by omega, congrArg (Value.int .i64) (by rw [unhide HSI]; omega), by go_num, HP, HF⟩
            · have hlt8z : ¬ (i : Int) < (j : Int) := by omega
              obtain rfl : i = j := by omega
              clear HALL hlt8 hlt8z hg1 hij
              go_wp2_with fail
              go_loopg [18] i (fun g1 iv wr => ∃ (a : Nat) (Nm : Nat → Nat → ByteArray), a ≤ i ∧ i - a ≤ g1 ∧ iv = .int .i64 a ∧ Hid (Sp lo Pb d Nm L A wr) ∧ Hid (Fr d w wr) ∧ Hid (∀ x y, x < a → y < d.pl x → Nm x y = wd x))
              case atStart => exact ⟨0, Nm, Nat.zero_le _, by omega, rfl, HP, HF, hide (fun x y hx => absurd hx (Nat.not_lt_zero _))⟩
              case round =>
                clear HP HF
                obtain ⟨a, Nm, hai, hg1, rfl, HP, HF, HW⟩ := hrel
                by_cases hlt12 : a < i
                · have hlt12z : (a : Int) < (i : Int) := by omega
                  have had : a < d.n := by have := unhide HN; omega
                  have hpa := unhide HPL a had
                  have cW := hide (fun w => word_any a (by omega) w)
                  go_wp2_with fail
                  go_loopg [19] (d.pl a) (fun g2 kv wr => ∃ (k : Nat) (Nm : Nat → Nat → ByteArray), k ≤ d.pl a ∧ d.pl a - k ≤ g2 ∧ kv = .int .i64 k ∧ Hid (Sp lo Pb d Nm L A wr) ∧ Hid (Fr d w wr) ∧ Hid (∀ x y, (x < a ∨ (x = a ∧ y < k)) → y < d.pl x → Nm x y = wd x))
                  case atStart => exact ⟨0, Nm, Nat.zero_le _, by omega, rfl, HP, HF, hide (fun x y hx hy => unhide HW x y (by omega) hy)⟩
                  case round =>
                    clear HP HF HW
                    obtain ⟨k, Nm, hk, hg2, rfl, HP, HF, HW⟩ := hrel
                    have c0 := (unhide HP).lst a had
                    unfold Sd.pv at c0
                    by_cases hlt13 : k < d.pl a
                    · have hlt13z : (k : Int) < (d.pl a : Int) := by omega
                      have c1 := ((unhide HP).cells had hlt13).1
                      obtain ⟨hP2, hF2, fz⟩ := (unhide HP).setN (unhide HF) had hlt13 (wd a)
                      have HP2 := hide hP2
                      have HF2 := hide hF2
                      have HW2 := hide (show ∀ x y, (x < a ∨ (x = a ∧ y < k + 1)) → y < d.pl x → upd Nm a k (wd a) x y = wd x from fun x y hx hy => by
                        unfold upd
                        by_cases e : x = a ∧ y = k
                        · rw [if_pos e, e.1]
                        · rw [if_neg e]; exact unhide HW x y (by omega) hy)
                      clear hP2 hF2 HP HF HW
                      generalize wd a = wq at *
                      generalize d.pb a = pba at *
                      go_wp2_with fail
                      go_region_law (first | (go_simp; go_at_call 30; refine (unhide cW _).mono ?_; rintro e w5 ⟨rfl, rfl⟩))
                      all_goals
                        have HP3 := hide ((unhide HP2).later (W2 := (wr.setCell ⟨pba, k * 3, none⟩ (.string wq)).drew) fun _ _ => rfl)
                        have HF3 := hide ((unhide HF2).below ((Below.refl _ (wr.setCell ⟨pba, k * 3, none⟩ (.string wq))).drew))
                        go_wp2_with fail
                        go_roundg (d.pl a - (k + 1))
                        case measure => omega
                        case rel => exact ⟨k + 1, _, by omega, by omega, by go_num, HP3, HF3, HW2⟩
                    · have hlt13z : ¬ (k : Int) < (d.pl a : Int) := by omega
                      have HW2 := hide (show ∀ x y, x < a + 1 → y < d.pl x → Nm x y = wd x from fun x y hx hy => unhide HW x y (by
                        by_cases e : x = a
                        · subst e; exact .inr ⟨rfl, by omega⟩
                        · exact .inl (by omega)) hy)
                      clear HW
                      go_wp2_with fail
                      go_roundg (i - (a + 1))
                      case measure => omega
                      case rel => exact ⟨a + 1, Nm, by omega, by omega, by go_num, HP, HF, HW2⟩
                · have hlt12z : ¬ (a : Int) < (i : Int) := by omega
                  obtain rfl : a = i := by omega
                  clear hlt12 hlt12z hg1 hai
                  have hsa : d.s a ≤ 1073741824 := by have h1 := d.s_le d.n a (by have := unhide HN; omega); have h2 := unhide HSS; omega
                  go_wp2_with fail
                  go_loopg [8, 20] a (fun g1 mv iv wr => ∃ (b M : Nat), b ≤ a ∧ a - b ≤ g1 ∧ mv = .int .i64 M ∧ iv = .int .i64 b ∧ 80 * d.s a ≤ M ∧ M ≤ d.s a * 4294967296 + b * 2147483648 ∧ Hid (Sp lo Pb d Nm L A wr) ∧ Hid (Fr d w wr))
                  case atStart => exact ⟨0, M, Nat.zero_le _, by omega, rfl, rfl, hM1', Nat.le_trans hM2' (Nat.le_add_right _ _), HP, HF⟩
                  case round =>
                    clear HP HF hM1' hM2'
                    obtain ⟨b, M, hba, hg1, rfl, rfl, hM1, hM2, HP, HF⟩ := hrel
                    by_cases hlt14 : b < a
                    · have hlt14z : (b : Int) < (a : Int) := by omega
                      have hbd : b < d.n := by have := unhide HN; omega
                      have hpb := unhide HPL b hbd
                      have c0 := (unhide HP).lst b hbd
                      unfold Sd.pv at c0
                      have HE0 := hide (ExP.start (B0 := w.heap.size) (show wr.ownsRow lo 30 3 (.slice (some ⟨d.pb b, 0, none⟩) (d.pl b) (d.pc b)) (d.pl b) (flat (d.ts Nm b)) from (unhide HP).par b hbd))
                      go_wp2_with fail
                      go_loopg [21, 22] 20 (fun g3 pv mv wr => ∃ (m g c : Nat), m ≤ 20 ∧ 20 - m ≤ g3 ∧ pv = .slice (some ⟨g, 0, none⟩) (d.pl b + m) c ∧ mv = .int .i64 m ∧ Hid (ExP lo w.heap.size (d.pb b) (d.pl b) (d.pc b) (flat (d.ts Nm b)) wr g c m) ∧ Hid (Sp lo Pb d Nm L A wr) ∧ Hid (Fr d w wr))
                      case atStart => exact ⟨0, _, _, Nat.zero_le _, by omega, rfl, rfl, HE0, HP, HF⟩
                      case round =>
                        clear HP HF HE0 c0
                        obtain ⟨m, g, c, hm, hg3, rfl, rfl, HE, HP, HF⟩ := hrel
                        by_cases hlt15 : m < 20
                        · have hlt15z : (m : Int) < 20 := by omega
                          obtain ⟨g2, cap2, W2, r1, s2, f2, e2⟩ := stepP (unhide HP) (unhide HF) (unhide HB0) hlo hbd (unhide HE) (by omega)
                          have HP3 := hide s2
                          have HF3 := hide f2
                          have HE3 := hide e2
                          clear s2 f2 e2 HE HP HF
                          go_wp2_with ((with_reducible refine wpList_append_run (o := { dst := some 252, op := Op.call { callee := Callee.builtin Builtin.append, args := #[Operand.tmp 249, Operand.tmp 251], argTypes := #[22, 22] }, type := 22, pos := "law.go:220", after := #[{ on := 0, ground := Ground.data }, { on := 2, ground := Ground.data }], guard := none }) ?_ (.tmp 249) (.tmp 251) 22 ?_ _ _ ?_ ?_ r1 ?_); (next => rfl); (next => rfl); (next => rfl); (next => rfl))
                          go_roundg (20 - (m + 1))
                          case measure => omega
                          case rel => exact ⟨m + 1, g2, cap2, by omega, by omega, rfl, by go_num, HE3, HP3, HF3⟩
                        · have hlt15z : ¬ (m : Int) < 20 := by omega
                          obtain rfl : m = 20 := by omega
                          clear HE
                          obtain ⟨M2, hM⟩ : ∃ M2, M2 = M + (d.pl b + 20) := ⟨_, rfl⟩
                          have hMz2 : (M : Int) + ((d.pl b : Int) + 20) = (M2 : Int) := by omega
                          have HMM := hide hM
                          clear hM
                          go_wp2_with fail
                          go_roundg (a - (b + 1))
                          case measure => omega
                          case rel => exact ⟨b + 1, M2, by omega, by omega, rfl, by go_num, by have := unhide HMM; omega, by have := unhide HMM; omega, HP, HF⟩
                    · have hlt14z : ¬ (b : Int) < (a : Int) := by omega
                      obtain rfl : b = a := by omega
                      clear hlt14 hlt14z hg1 hba
                      go_wp2_with fail
                      go_loopg [23] b (fun g1 iv wr => ∃ (a : Nat), a ≤ b ∧ b - a ≤ g1 ∧ iv = .int .i64 a ∧ Hid (Sp lo Pb d Nm L A wr) ∧ Hid (Fr d w wr))
                      case atStart => exact ⟨0, Nat.zero_le _, by omega, rfl, HP, HF⟩
                      case round =>
                        clear HP HF
                        obtain ⟨a, hab, hg1, rfl, HP, HF⟩ := hrel
                        by_cases hlt16 : a < b
                        · have hlt16z : (a : Int) < (b : Int) := by omega
                          have had : a < d.n := by have := unhide HN; omega
                          have hpa := unhide HPL a had
                          have cW := hide (fun w => word_any a (by omega) w)
                          go_wp2_with fail
                          go_loopg [24] (d.pl a) (fun g2 kv wr => ∃ (k : Nat), k ≤ d.pl a ∧ d.pl a - k ≤ g2 ∧ kv = .int .i64 k ∧ Hid (Sp lo Pb d Nm L A wr) ∧ Hid (Fr d w wr))
                          case atStart => exact ⟨0, Nat.zero_le _, by omega, rfl, HP, HF⟩
                          case round =>
                            clear HP HF
                            obtain ⟨k, hk, hg2, rfl, HP, HF⟩ := hrel
                            have c0 := (unhide HP).lst a had
                            unfold Sd.pv at c0
                            by_cases hlt17 : k < d.pl a
                            · have hlt17z : (k : Int) < (d.pl a : Int) := by omega
                              have c1 := ((unhide HP).cells had hlt17).1
                              rw [unhide HW a k hlt16 hlt17] at c1
                              generalize wd a = wq at *
                              go_wp2_with fail
                              go_quiet (first | (go_at_call 30; exact Calls.quiet_of_same (unhide cW _)))
                              go_wp2_with fail
                              go_roundg (d.pl a - (k + 1))
                              case measure => omega
                              case rel => exact ⟨k + 1, by omega, by omega, by go_num, hide ((unhide HP).dr _), hide ((unhide HF).dr _)⟩
                            · have hlt17z : ¬ (k : Int) < (d.pl a : Int) := by omega
                              go_wp2_with fail
                              go_roundg (b - (a + 1))
                              case measure => omega
                              case rel => exact ⟨a + 1, by omega, by omega, by go_num, HP, HF⟩
                        · have hlt16z : ¬ (a : Int) < (b : Int) := by omega
                          have hfin : (80 : Int) * (d.s b : Int) ≤ (M : Int) := by omega
                          have hmul : IntKind.i64.wrap ((80 : Int) * (d.s b : Int)) = 80 * (d.s b : Int) := by rw [IntKind.wrap_i64]; omega
                          have hdec : decide ((M : Int) ≥ 80 * (d.s b : Int)) = true := decide_eq_true hfin
                          go_wp2_with fail
                          go_ret
                          exact ⟨rfl, unhide HF⟩
end Go.Proofs.Ytohncccejlccbaa
