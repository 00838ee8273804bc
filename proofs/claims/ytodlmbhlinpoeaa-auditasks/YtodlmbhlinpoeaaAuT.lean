import Derived.Test.YtodlmbhlinpoeaaAuS
namespace Go.Proofs.Ytodlmbhlinpoeaa
open Go.RowKit

set_option maxRecDepth 100000 in
set_option maxHeartbeats 4000000 in
theorem rsummary_any {w : World} {v : Value} {fl : List (List Value)} (h : Rws 31 4 w v fl) (hl : fl.length ≤ 2513169434843) :
    Calls Try.prog 8 #[v] w fun e w' => e = .returned (ctV fl) ∧ Below w.heap.size w w' := by
  obtain ⟨a, c, rfl⟩ := h.form
  have HC := hide (show ∀ (U : World) (hU : Below w.heap.size w U) (k : Nat) (hk : k < fl.length), ∃ b o n, a = some ⟨b, o, none⟩ ∧ knd fl[k] = n ∧ U.cell? ⟨b, o + k * 4, none⟩ = some (.int .i64 n) from fun U hU k hk => by
    obtain ⟨b, o, e, l, hok, hr⟩ := h.at hk
    obtain ⟨n, hn⟩ := hok.kind
    exact ⟨b, o, n, e, knd_eq hn, (hU.cell (p := ⟨b, _, none⟩) l).trans (hr 0 _ hn)⟩)
  obtain ⟨N, hN⟩ : ∃ N, fl.length = N := ⟨_, rfl⟩
  have HN := hide hN
  rw [hN] at hl ⊢
  clear h hN
  go_enter Try.func8, Try.ntmps8
  go_wp2_with (first
    | ((with_reducible refine b_alloc (t := 34) (k := 7) zeroR rfl rfl ?_); intro w2 B1 k1 z1; have K1 := hide k1; guard_hyp k1 : Below w.heap.size w w2)
    | ((with_reducible refine b_alloc (t := 34) (k := 7) zeroR rfl rfl ?_); intro w3 B2 k2 z2; have P1 := hide (B1.later k2); have HZ := hide z1.1; have P2 := hide B2; have K2 := hide (bl_t (unhide K1) k2); clear B1 B2 k1 k2 z1 z2 K1))
  generalize w2.heap.size = CB at *
  go_loopg [4, 5] N (fun gq iv _ wr => ∃ i : Nat, iv = .int .i64 i ∧ i ≤ N ∧ N - i ≤ gq ∧ Hid (Below w.heap.size w wr) ∧ Hid (Bk 34 7 wr w.heap.size (ctL [])) ∧ Hid (Bk 34 7 wr CB (ctL (fl.take i))))
  case atStart => exact ⟨0, by go_num, by omega, by omega, K2, P1, P2⟩
  case round =>
    clear K2 P1 P2
    obtain ⟨i, rfl, hi, hg, HB, HR, HT⟩ := hrel
    by_cases hlt : i < N
    · have hin : (i : Int) < (N : Int) := by omega
      have hil : i < fl.length := by have := unhide HN; omega
      obtain ⟨b, o, n, rfl, hkn, c0⟩ := unhide HC wr (unhide HB) i hil
      have HTS := hide (take_snoc hil)
      have HKN := hide hkn
      have HLE := hide (show ∀ k, cnt (fl.take i) k ≤ N from fun k => Nat.le_trans (cnt_le _ _) (by rw [List.length_take]; omega))
      generalize fl[i] = r at *
      have HKX := hide (show ∀ m, kix r = m → ctL (fl.take (i + 1)) = (ctL (fl.take i)).set m (.int .i64 ((cnt (fl.take i) m : Nat) + 1 : Int)) from fun m hm => by rw [unhide HTS, ctL_snoc _ _ hm])
      clear hkn HC
      by_cases hk : 1 ≤ n ∧ n ≤ 6
      · obtain ⟨m, rfl⟩ : ∃ m : Nat, n = (m : Int) := ⟨n.toNat, by omega⟩
        have hm1 : ¬ (m : Int) < 1 := by omega
        have hm6 : ¬ (m : Int) > 6 := by omega
        have hm7 : m < 7 := by omega
        have hm0 : (0 : Int) ≤ (m : Int) := by omega
        have hm8 : (m : Int) < 7 := by omega
        have HKM := hide (unhide HKX m (by unfold kix; rw [unhide HKN, if_pos hk]; omega))
        have c5 := (unhide HT).cell (ctL_at (fl.take i) hm7)
        have hcl := unhide HLE m
        generalize cnt (fl.take i) m = z at *
        have hw : IntKind.i64.wrap ((z : Int) + 1) = (z : Int) + 1 := IntWalk.i64_in _ (by omega)
        clear hk HKX HLE HKN
        go_wp2_with (first
          | ((with_reducible refine b_set (t := 34) (k := 7) 3 _ _ rfl rfl CB m rfl (.int .i64 ((z : Int) + 1)) (st3 _ _ _ _) rfl rfl _ (unhide HT) hm7 ?_); intro w6 B6 o6 k6 z6; have H6 := hide (And.intro B6 (And.intro o6 k6)); clear B6 o6 k6 z6 c5))
        have HX := hide (show Below w.heap.size w w6 ∧ Bk 34 7 w6 w.heap.size (ctL []) ∧ Bk 34 7 w6 CB (ctL (fl.take (i + 1))) from ⟨(unhide HB).trans ((unhide H6).2.2 _ (by have := unhide HZ; omega)), (unhide HR).of ((unhide H6).2.1 _ (by have := unhide HZ; omega)), by rw [unhide HKM]; exact (unhide H6).1⟩)
        go_roundg (N - (i + 1))
        case measure => omega
        case rel => exact ⟨i + 1, by go_num, by omega, by omega, hide (unhide HX).1, hide (unhide HX).2.1, hide (unhide HX).2.2⟩
      · have HKM := hide (unhide HKX 0 (by unfold kix; rw [unhide HKN, if_neg hk]))
        have c5 := (unhide HT).cell (ctL_at (fl.take i) (show 0 < 7 by decide))
        have hcl := unhide HLE 0
        generalize cnt (fl.take i) 0 = z at *
        have hw : IntKind.i64.wrap ((z : Int) + 1) = (z : Int) + 1 := IntWalk.i64_in _ (by omega)
        clear HKX HLE HKN
        by_cases hk1 : n < 1
        · clear hk
          go_wp2_with (first
            | ((with_reducible refine b_set (t := 34) (k := 7) 3 _ _ rfl rfl CB 0 rfl (.int .i64 ((z : Int) + 1)) (st3 _ _ _ _) rfl rfl _ (unhide HT) (by decide) ?_); intro w6 B6 o6 k6 z6; have H6 := hide (And.intro B6 (And.intro o6 k6)); clear B6 o6 k6 z6 c5))
          have HX := hide (show Below w.heap.size w w6 ∧ Bk 34 7 w6 w.heap.size (ctL []) ∧ Bk 34 7 w6 CB (ctL (fl.take (i + 1))) from ⟨(unhide HB).trans ((unhide H6).2.2 _ (by have := unhide HZ; omega)), (unhide HR).of ((unhide H6).2.1 _ (by have := unhide HZ; omega)), by rw [unhide HKM]; exact (unhide H6).1⟩)
          go_roundg (N - (i + 1))
          case measure => omega
          case rel => exact ⟨i + 1, by go_num, by omega, by omega, hide (unhide HX).1, hide (unhide HX).2.1, hide (unhide HX).2.2⟩
        · have hk6 : n > 6 := by omega
          clear hk
          go_wp2_with (first
            | ((with_reducible refine b_set (t := 34) (k := 7) 3 _ _ rfl rfl CB 0 rfl (.int .i64 ((z : Int) + 1)) (st3 _ _ _ _) rfl rfl _ (unhide HT) (by decide) ?_); intro w6 B6 o6 k6 z6; have H6 := hide (And.intro B6 (And.intro o6 k6)); clear B6 o6 k6 z6 c5))
          have HX := hide (show Below w.heap.size w w6 ∧ Bk 34 7 w6 w.heap.size (ctL []) ∧ Bk 34 7 w6 CB (ctL (fl.take (i + 1))) from ⟨(unhide HB).trans ((unhide H6).2.2 _ (by have := unhide HZ; omega)), (unhide HR).of ((unhide H6).2.1 _ (by have := unhide HZ; omega)), by rw [unhide HKM]; exact (unhide H6).1⟩)
          go_roundg (N - (i + 1))
          case measure => omega
          case rel => exact ⟨i + 1, by go_num, by omega, by omega, hide (unhide HX).1, hide (unhide HX).2.1, hide (unhide HX).2.2⟩
    · obtain rfl : i = N := by omega
      have HF := hide (show fl.take i = fl from by rw [← unhide HN]; exact List.take_length)
      rw [unhide HF] at HT
      go_wp2_with (first
        | ((with_reducible refine m_load (t := 34) (k := 7) Try.underlying34 rfl infoR _ rfl rfl CB 0 rfl (ctL fl) (unhide HT).range (ctL_len _) ?_))
        | ((with_reducible refine b_store (t := 34) (k := 7) infoR _ _ rfl rfl w.heap.size rfl (ctL fl) rfl (ctL_len _) (ctL_one _) _ (unhide HR) ?_); intro w6 B6 o6 k6 z6; have K6 := hide ((unhide HB).trans (k6 _ (Nat.le_refl _))); have B7 := hide B6; clear B6 o6 k6 z6))
      have q0 := (unhide B7).cell (ctL_at fl (show 0 < 7 by decide))
      have q1 := (unhide B7).cell (ctL_at fl (show 1 < 7 by decide))
      have q2 := (unhide B7).cell (ctL_at fl (show 2 < 7 by decide))
      have q3 := (unhide B7).cell (ctL_at fl (show 3 < 7 by decide))
      have q4 := (unhide B7).cell (ctL_at fl (show 4 < 7 by decide))
      have q5 := (unhide B7).cell (ctL_at fl (show 5 < 7 by decide))
      have q6 := (unhide B7).cell (ctL_at fl (show 6 < 7 by decide))
      exact bodyPost_ret (v := ctV fl) (by simp [results, Try.results8, go_sem, q0, q1, q2, q3, q4, q5, q6, ctV]) rfl ⟨rfl, unhide K6⟩
end Go.Proofs.Ytodlmbhlinpoeaa
