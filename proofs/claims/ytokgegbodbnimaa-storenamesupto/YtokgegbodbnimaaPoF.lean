import Derived.Test.YtokgegbodbnimaaPoE
namespace Go.Proofs.Ytokgegbodbnimaa
open Go.RowKit Go.Maps

set_option maxRecDepth 100000 in
set_option maxHeartbeats 16000000 in
theorem played_any {W : World} {pa : Option Addr} {sc : List Sp} (pc : Nat) (hs : Rs W pa sc) (hK : Ks sc sc.length ≤ 1099511627776) (hl : sc.length ≤ 1099511627776) :
    Calls Try.prog 18 #[.slice pa sc.length pc] W fun v W' => v = .returned (.tuple #[.pointer (some ⟨W.heap.size, 0, none⟩), .bool true]) ∧ St W.heap.size (W.heap.size + 1) (runs sc sc.length) (Ks sc sc.length) W' ∧ Below W.heap.size W W' := by
  obtain ⟨N, hN⟩ : ∃ n, n = sc.length := ⟨_, rfl⟩
  have HN := hide hN
  have HS := hide hs
  have HK := hide hK
  rw [← hN] at hl ⊢
  have HI := hide (fun W1 (e : W1 = W.alloc (.cells (st0 1073741824) 75)) => show St W.heap.size (W.heap.size + 1) (runs sc 0) (Ks sc 0) W1 ∧ Below W.heap.size W W1 from by
    obtain ⟨M, q1, q2, q3, q4⟩ := Sto_new W 1073741824
    rw [e]
    exact ⟨⟨M, q1.mono (fun b _ q => .inl q) (Nat.le_refl _) (by show 0 ≤ _; omega), by rw [q2]; rfl, q3, q4⟩, (Below.refl _ W).alloc (Nat.le_refl _) _⟩)
  clear hs hK hN
  go_enter Try.func18, Try.ntmps18
  go_wp2_with (first | (go_at_call 10; refine (New_any 1073741824 (by decide) _).mono ?_; rintro x1 w1 ⟨rfl, hw1⟩; obtain ⟨q1, q2⟩ := unhide HI w1 hw1; have HST := hide q1; have HB := hide q2; clear q1 q2 hw1 HI) | (go_at_call 11; refine (num_any _ _).mono ?_; rintro x8 w8 ⟨rfl, rfl⟩))
  go_loopg [6, 7] N (fun g1 vi _ wr => ∃ i : Nat, vi = .int .i64 i ∧ i ≤ N ∧ N - i ≤ g1 ∧ Hid (St W.heap.size (W.heap.size + 1) (runs sc i) (Ks sc i) wr) ∧ Hid (Below W.heap.size W wr))
  case atStart => exact ⟨0, by go_num, by omega, by omega, HST, HB⟩
  case round =>
    clear HST HB
    obtain ⟨i, rfl, hi, hg, HST, HB⟩ := hrel
    by_cases hlt : i < N
    · have hlt2 : (i : Int) < (N : Int) := by omega
      have hip : i < sc.length := by have := unhide HN; omega
      obtain ⟨er, ek⟩ := runs_next hip
      have hkk : Ks sc i + sc[i].ds.length + 2 ≤ 1099511627776 := by
        have q := Ks_mono sc (i + 1) sc.length (by omega)
        have := unhide HK
        omega
      obtain ⟨b, of, rfl, hbl, hcs, hpd0, hp0, hpn, hpt⟩ : ∃ b of, pa = some ⟨b, of, none⟩ ∧ b < W.heap.size ∧ (∀ (j : Nat) u, sc[i].cs[j]? = some u → W.cell? ⟨b, of + i * 6 + j, none⟩ = some u) ∧ Rb W sc[i].da sc[i].ds ∧ (sc[i].da = none → sc[i].ds = []) ∧ sc[i].nm.size ≤ maxLen ∧ sc[i].to.size ≤ maxLen := by
        rcases unhide HS with q | ⟨b, of, q1, q2, q3⟩
        · rw [q] at hip; cases hip
        · obtain ⟨q4, q5, q6, q7, q8⟩ := q3 i hip
          exact ⟨b, of, q1, q2, q4, q5, q6, q7, q8⟩
      generalize sc[i] = p at *
      have bw := unhide HB
      have cc : ∀ (j : Nat) u, p.cs[j]? = some u → wr.cell? ⟨b, of + i * 6 + j, none⟩ = some u := fun j u hj => (bw.cell (p := ⟨b, of + i * 6 + j, none⟩) hbl).trans (hcs j u hj)
      have c0 := cc 0 _ rfl
      have c1 := cc 1 _ rfl
      have c2 := cc 2 _ rfl
      have c3 := cc 3 _ rfl
      have c4 := cc 4 _ rfl
      have c5 := cc 5 _ rfl
      rw [Nat.add_zero] at c0
      obtain ⟨W1, hW1⟩ : ∃ w, w = wr.alloc (.cells #[.int .i64 p.kd, .string p.nm, .string p.to, .slice p.da p.ds.length p.dc, .int .i64 p.n, .slice p.ka p.kn p.kc] 57) := ⟨_, rfl⟩
      have b1 : Below wr.heap.size wr W1 := by rw [hW1]; exact (Below.refl _ wr).alloc (Nat.le_refl _) _
      have d0 : W1.cell? ⟨wr.heap.size, 0, none⟩ = some (.int .i64 p.kd) := by rw [hW1]; go_simp
      have d1 : W1.cell? ⟨wr.heap.size, 1, none⟩ = some (.string p.nm) := by rw [hW1]; go_simp
      have d2 : W1.cell? ⟨wr.heap.size, 2, none⟩ = some (.string p.to) := by rw [hW1]; go_simp
      have d3 : W1.cell? ⟨wr.heap.size, 3, none⟩ = some (.slice p.da p.ds.length p.dc) := by rw [hW1]; go_simp
      have d4 : W1.cell? ⟨wr.heap.size, 4, none⟩ = some (.int .i64 p.n) := by rw [hW1]; go_simp
      have st1 := (unhide HST).later b1
      have bw1 := bl_t bw b1
      have hpd := hpd0.later bw1
      have hn0 : W.heap.size + 1 ≤ W1.heap.size := by
        obtain ⟨M, q, _⟩ := st1
        have := blk_lt q.blk
        omega
      have HNX := hide (fun W2 (q : St W.heap.size (W.heap.size + 1) ((runs sc i).step p) (Ks sc i + p.ds.length + 2) W2 ∧ Fx (Ob W.heap.size (W.heap.size + 1)) W1 W2) => show St W.heap.size (W.heap.size + 1) (runs sc (i + 1)) (Ks sc (i + 1)) W2 ∧ Below W.heap.size W W2 from by
        rw [er, ek]
        exact ⟨q.1, bw1.trans (q.2.below (s := W.heap.size) (by omega) fun b h1 q => by rcases q with q | q <;> omega)⟩)
      go_upto_region 8 with fail
      rw [← hW1]
      clear hW1 cc c0 c1 c2 c3 c4 c5 hcs hpd0 HST HB bw b1
      by_cases hk1 : p.kd = 1
      · skip
        have C := st_wr st1 hn0 p hkk hk1 hpd hp0 hpn
        clear st1 hpd hp0 hpn hpt er ek hkk
        go_wp2_with (first | (go_at_call 12; refine C.mono ?_; rintro x9 w9 ⟨⟨r9, rfl⟩, HE⟩; obtain ⟨q1, q2⟩ := unhide HNX w9 HE; have HS9 := hide q1; have HB9 := hide q2; clear q1 q2 HE C HNX))
        go_roundg (N - (i + 1))
        case measure => omega
        case rel => exact ⟨i + 1, by go_num, by omega, by omega, HS9, HB9⟩
      · skip
        by_cases hk2 : p.kd = 2
        · skip
          have C := st_ap st1 hn0 p hkk hk2 hpd hp0 hpn
          clear st1 hpd hp0 hpn hpt er ek hkk
          go_wp2_with (first | (go_at_call 15; refine C.mono ?_; rintro x9 w9 ⟨⟨r9, rfl⟩, HE⟩; obtain ⟨q1, q2⟩ := unhide HNX w9 HE; have HS9 := hide q1; have HB9 := hide q2; clear q1 q2 HE C HNX))
          go_roundg (N - (i + 1))
          case measure => omega
          case rel => exact ⟨i + 1, by go_num, by omega, by omega, HS9, HB9⟩
        · skip
          by_cases hk3 : p.kd = 3
          · skip
            have C := st_tr st1 hn0 p hkk hk3 hpn
            clear st1 hpd hp0 hpn hpt er ek hkk
            go_wp2_with (first | (go_at_call 27; refine C.mono ?_; rintro x9 w9 ⟨⟨r9, rfl⟩, HE⟩; obtain ⟨q1, q2⟩ := unhide HNX w9 HE; have HS9 := hide q1; have HB9 := hide q2; clear q1 q2 HE C HNX))
            go_roundg (N - (i + 1))
            case measure => omega
            case rel => exact ⟨i + 1, by go_num, by omega, by omega, HS9, HB9⟩
          · skip
            by_cases hk4 : p.kd = 4
            · skip
              have C := st_rn st1 hn0 p hkk hk4 hpn hpt
              clear st1 hpd hp0 hpn hpt er ek hkk
              go_wp2_with (first | (go_at_call 28; refine C.mono ?_; rintro x9 w9 ⟨⟨r9, rfl⟩, HE⟩; obtain ⟨q1, q2⟩ := unhide HNX w9 HE; have HS9 := hide q1; have HB9 := hide q2; clear q1 q2 HE C HNX))
              go_roundg (N - (i + 1))
              case measure => omega
              case rel => exact ⟨i + 1, by go_num, by omega, by omega, HS9, HB9⟩
            · skip
              by_cases hk5 : p.kd = 5
              · skip
                have C := st_rm st1 hn0 p hkk hk5 hpn
                clear st1 hpd hp0 hpn hpt er ek hkk
                go_wp2_with (first | (go_at_call 24; refine C.mono ?_; rintro x9 w9 ⟨⟨r9, rfl⟩, HE⟩; obtain ⟨q1, q2⟩ := unhide HNX w9 HE; have HS9 := hide q1; have HB9 := hide q2; clear q1 q2 HE C HNX))
                go_roundg (N - (i + 1))
                case measure => omega
                case rel => exact ⟨i + 1, by go_num, by omega, by omega, HS9, HB9⟩
              · skip
                by_cases hk6 : p.kd = 6
                · skip
                  have C := st_sy st1 hn0 p hkk hk6 
                  clear st1 hpd hp0 hpn hpt er ek hkk
                  go_wp2_with (first | (go_at_call 13; refine C.mono ?_; rintro x9 w9 ⟨⟨r9, rfl⟩, HE⟩; obtain ⟨q1, q2⟩ := unhide HNX w9 HE; have HS9 := hide q1; have HB9 := hide q2; clear q1 q2 HE C HNX))
                  go_roundg (N - (i + 1))
                  case measure => omega
                  case rel => exact ⟨i + 1, by go_num, by omega, by omega, HS9, HB9⟩
                · skip
                  have HE := unhide HNX W1 ⟨by rw [st_no hk1 hk2 hk3 hk4 hk5 hk6]; exact st1.mono (by omega) hkk, Fx.refl _ _⟩
                  have HS9 := hide HE.1
                  have HB9 := hide HE.2
                  clear st1 hpd hp0 hpn hpt er ek hkk HE HNX
                  go_wp2_with fail
                  go_roundg (N - (i + 1))
                  case measure => omega
                  case rel => exact ⟨i + 1, by go_num, by omega, by omega, HS9, HB9⟩
    · obtain rfl : i = N := by omega
      go_wp2_with fail
      go_ret2
      exact ⟨rfl, unhide HST, unhide HB⟩
end Go.Proofs.Ytokgegbodbnimaa
