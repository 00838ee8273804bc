import Derived.Test.YtcebpdcijpgkjaaGreatDoorZc25
import Derived.Test.YtcebpdcijpgkjaaGreatDoorZc21
import Derived.Test.YtcebpdcijpgkjaaGreatDoorZc22
import Derived.Deep.QuietTactic
import Derived.BigQuiet
namespace Go.Proofs.YtcebpdcijpgkjaaGreatDoor
open Go.RowKit Go.Maps Go.Sort

set_option maxRecDepth 100000 in
set_option maxHeartbeats 8000000 in
/-- WHO LEANS ON WHAT FELL: PLACES, EACH ONCE, RISING. -/
theorem leaning_any {w : World} {v r : Value} {ps : List Pk} {base ba ka lo : Nat} {HA : Nm → Option Hd} {L : List Nat} (b1 b2 : Nat) (sm : SmP ps) (pk : Pkl w v ps) (ma : Mi w base (.map (some ba)) HA (akP ps ps.length) ka) (ht : akK ps ps.length ≤ 1048576) (hr : Pl lo w r L) (hlen : L.length ≤ 1048576) (hL : ∀ p ∈ L, p < ps.length) :
    Calls Tryz.prog 44 #[.agg #[v, .map (some b1), .map (some b2)], .map (some ba), r] w fun e w' => ∃ u D, e = .returned u ∧ Pl w.heap.size w' u D ∧ D.Pairwise (· < ·) ∧ (∀ p, p ∈ D ↔ Ln ps L p) ∧ RowKit.Below w.heap.size w w' := by
  obtain ⟨i0, hi, hz0, hz1, hz2⟩ := info_parts2 infoI8
  obtain ⟨va, vc, rfl⟩ : ∃ a c, v = .slice a ps.length c := let ⟨a, c, e, _⟩ := pk; ⟨a, c, e⟩
  obtain ⟨ra, rk, rfl, hpl⟩ := hr
  have HR := hide hpl
  have HPK := hide pk
  have HSM := hide sm
  have HL := hide hL
  have HMA := hide ma
  have HAK := hide (fun (ss : List Nm) (hs : ss.Nodup) => Nat.le_trans (ak_sum ps ss hs ps.length) ht)
  have HLT := hide (show ∀ (x : Nm) (p : Nat), p ∈ akP ps ps.length x → p < ps.length from fun x p hp => ((akP_mem ps x p ps.length).1 hp).1)
  have HLN := hide (show ∀ p, Ln ps L p ↔ ∃ x ∈ nmL ps L, p ∈ akP ps ps.length x from fun p => by
    unfold Ln
    constructor
    · rintro ⟨f, hf, q, hq, x, hx, hp⟩
      have e : pAt ps f = q := by have := pAt_at (hL f hf); rw [hq] at this; exact (Option.some.inj this).symm
      exact ⟨x, (nmL_mem ps L x).2 ⟨f, hf, by rw [e]; exact hx⟩, hp⟩
    · rintro ⟨x, hx, hp⟩
      obtain ⟨f, hf, hx⟩ := (nmL_mem ps L x).1 hx
      exact ⟨f, hf, _, pAt_at (hL f hf), x, hx, hp⟩)
  have HST := hide (nl_start w #[.slice va ps.length vc, .map (some b1), .map (some b2)])
  obtain ⟨N, hN⟩ : ∃ N, N = L.length := ⟨_, rfl⟩
  have HN := hide hN
  rw [← hN] at hlen ⊢
  clear hpl pk sm hL ma ht hN
  generalize akP ps ps.length = F at *
  have hmm := @run_makeMap Tryz.prog
  go_enter Tryz.func44, Tryz.ntmps44
  go_wp2_with fail
  clear hmm
  go_loopg [9, 11, 17] N (fun gq _ _ iv wr => ∃ j : Nat, iv = .int .i64 j ∧ j ≤ N ∧ N - j ≤ gq ∧ Hid (Nl w wr #[.slice va ps.length vc, .map (some b1), .map (some b2)] (nmL ps (L.take j)) ∧ (nmL ps (L.take j)).length ≤ j * 1048577))
  case atStart => exact ⟨0, by go_num, by omega, by omega, hide ⟨unhide HST, by simp [nmL]⟩⟩
  case round =>
    clear HST
    obtain ⟨j, rfl, hj, hgj, HB⟩ := hrel
    by_cases hlt : j < N
    · have hjn : (j : Int) < (N : Int) := by omega
      have hjl : j < L.length := by have := unhide HN; omega
      have hp := unhide HL L[j] (List.getElem_mem hjl)
      have hpn : (L[j] : Int) < (ps.length : Int) := by omega
      obtain ⟨vb, vo, vc2, cs, dd, rr, cc, pv, ff, e, hvb, hrg, hpc, hll⟩ := (unhide HPK).at2 (pAt_at hp)
      injection e with e1 _ e3
      subst e1 e3
      obtain ⟨g, rfl, _, hgl, g0⟩ := unhide HR j L[j] (List.getElem?_eq_getElem hjl)
      have hsz := (unhide HSM).z _ (List.mem_of_getElem? (pAt_at hp))
      have hpvl : (pAt ps L[j]).pv.length ≤ 1048576 := Nat.le_trans (le_sum (fun p : Pk => p.pv.length) (List.mem_of_getElem? (pAt_at hp))) (unhide HSM).t
      have HTK := hide (nmL_snoc ps L j hjl)
      obtain ⟨hnl, hnb⟩ := unhide HB
      obtain ⟨W2, hup, hn2⟩ := hnl.put (x := (pAt ps L[j]).nm) (Nat.lt_of_le_of_lt hnb (by unfold maxLen; omega)) hsz.1
      have r0 := (hnl.bw.cell (p := ⟨g, j, none⟩) hgl).trans g0
      have s0 := (cell_blk hnl.s 0).1.trans (show #[Value.slice (some ⟨vb, vo, none⟩) ps.length vc, .map (some b1), .map (some b2)][0]? = some (.slice (some ⟨vb, vo, none⟩) ps.length vc) from rfl)
      have t0 := (cell_blk hn2.s 0).1.trans (show #[Value.slice (some ⟨vb, vo, none⟩) ps.length vc, .map (some b1), .map (some b2)][0]? = some (.slice (some ⟨vb, vo, none⟩) ps.length vc) from rfl)
      have c0 := (hnl.bw.cell (p := ⟨vb, vo + L[j] * 43, none⟩) hvb).trans (hrg 0 _ hpc.c0)
      have c6 := (hn2.bw.cell (p := ⟨vb, vo + L[j] * 43 + 6, none⟩) hvb).trans (hrg 6 _ hpc.c6)
      obtain ⟨pa, pc, e6⟩ : ∃ a c, pv = .slice a (pAt ps L[j]).pv.length c := let ⟨a, c, e, _⟩ := hll.vl; ⟨a, c, e⟩
      subst e6
      have HPV := hide (And.intro hll.vl hsz.2.2)
      have HN0 := hide (show Nl w W2 #[.slice (some ⟨vb, vo, none⟩) ps.length vc, .map (some b1), .map (some b2)] (nmL ps (L.take j) ++ [(pAt ps L[j]).nm] ++ (pAt ps L[j]).pv.take 0) from by rw [List.take_zero, List.append_nil]; exact hn2)
      clear hrg hpc hll hgl g0 hsz hnl hn2 HB
      generalize L[j] = p at *
      generalize (pAt ps p).nm = nm at *
      generalize (pAt ps p).pv = pl at *
      generalize nmL ps (L.take j) = l0 at *
      obtain ⟨M, hM⟩ : ∃ M, M = pl.length := ⟨_, rfl⟩
      rw [← hM] at c6 hpvl
      have HM := hide hM
      clear hM
      go_wp2_with fail
      clear r0 s0 t0 c0 c6 hup
      go_loopg [11, 36] M (fun g2 _ vi wx => ∃ i : Nat, vi = .int .i64 i ∧ i ≤ M ∧ M - i ≤ g2 ∧ Hid (Nl w wx #[.slice (some ⟨vb, vo, none⟩) ps.length vc, .map (some b1), .map (some b2)] (l0 ++ [nm] ++ pl.take i)))
      case atStart => exact ⟨0, by go_num, by omega, by omega, HN0⟩
      case round =>
        clear HN0
        obtain ⟨i, rfl, hi2, hgi, HI⟩ := hrel
        by_cases hit : i < M
        · have hin : (i : Int) < (M : Int) := by omega
          have hil : i < pl.length := by have := unhide HM; omega
          obtain ⟨sb, so, rfl, hsb, sc⟩ : ∃ b o, pa = some ⟨b, o, none⟩ ∧ b < w.heap.size ∧ w.cell? ⟨b, o + i, none⟩ = some (.string pl[i]) := by
            have h := (unhide HPV).1
            exact h.at (List.getElem?_eq_getElem hil)
          have hx := (unhide HPV).2 pl[i] (List.getElem_mem hil)
          have HTI := hide (show l0 ++ [nm] ++ pl.take (i + 1) = l0 ++ [nm] ++ pl.take i ++ [pl[i]] from by rw [List.take_add_one, List.getElem?_eq_getElem hil, ← List.append_assoc]; rfl)
          have hni := unhide HI
          have hlb : (l0 ++ [nm] ++ pl.take i).length < maxLen := by
            rw [List.length_append, List.length_append, List.length_singleton, List.length_take]
            unfold maxLen
            omega
          obtain ⟨W3, hup, hn3⟩ := hni.put hlb hx
          have k0 := (hni.bw.cell (p := ⟨sb, so + i, none⟩) hsb).trans sc
          have HF := hide hn3
          clear hni hn3 sc hlb hx
          generalize pl[i] = x at *
          go_wp2_with fail
          go_roundg (M - (i + 1))
          case measure => omega
          case rel => exact ⟨i + 1, by go_num, by omega, by omega, by rw [unhide HTI]; exact HF⟩
        · obtain rfl : i = M := by omega
          have HF := hide (show Nl w wr #[.slice (some ⟨vb, vo, none⟩) ps.length vc, .map (some b1), .map (some b2)] (nmL ps (L.take (j + 1))) ∧ (nmL ps (L.take (j + 1))).length ≤ (j + 1) * 1048577 from by
            have h := unhide HI
            rw [unhide HM, List.take_length] at h
            rw [unhide HTK]
            refine ⟨h, ?_⟩
            rw [List.length_append, List.length_append, List.length_singleton, ← unhide HM]
            omega)
          go_wp2_with fail
          go_roundg (N - (j + 1))
          case measure => omega
          case rel => exact ⟨j + 1, by go_num, by omega, by omega, HF⟩
    · obtain rfl : j = N := by omega
      rename World => Wm
      have hnl := (unhide HB).1
      rw [unhide HN, List.take_length] at hnl
      obtain ⟨D, hown, hrep⟩ := hnl.d
      have hbl := hnl.d.lt
      have HREP := hide hrep
      have HZ := hide hnl.z
      have HBW := hide hnl.bw
      generalize (nmL ps L).length = K at *
      generalize nmL ps L = nl at *
      clear hnl hrep HB HPK HSM HL HR
      go_wp2_with (first
        | (at_range; refine wpList_range_own _ rfl _ 106 rfl 9 107 law9 Tryz.underlying106 _ (w.heap.size + 1) K _ rfl hown ?_; intro w0 hrg0 hg0 hs0)
        | go_in)
      go_frame
      go_loopw [12, 13] (fun v _ wx => ∃ (left : Lit → Bool) (cnt : Nat) (ss : List (List UInt8)), wx.ranges Tryz.prog 9 raw (w.heap.size + 1) Wm.heap.size K D left cnt ∧ wx.ownsRow Wm.heap.size 3 1 v (asL F ss).length (ints (asL F ss)) ∧ Vi D nl left ss ∧ RowKit.Below Wm.heap.size Wm wx)
        (fun _ _ wx => wx.rangeLeft (w.heap.size + 1) Wm.heap.size)
      case atStart =>
        exact ⟨_, _, [], hrg0, World.ownsRow_nil _ _ _ _, Vi.start D nl, (Below.refl _ _).grown hg0 (Nat.le_refl _) (fun j hj => by cases hj)⟩
      case round =>
        obtain ⟨left, cnt, ss, hrg, hrow, hV, hnx⟩ := hrel
        have hlas : (asL F ss).length ≤ 1048576 := by rw [asL_len]; exact unhide HAK _ hV.nd2
        go_wp2_with (first
          | (at_next; refine wpList_next_ranges _ rfl _ rfl 9 law9 raw encStr (fun c : Value => c) (fun key kl hk => by obtain ⟨x, hx, _⟩ := Maps.keyOf_str Tryz.underlying9 hk; exact ⟨x, hx⟩) (fun v y _ => ⟨v, rfl⟩) (w.heap.size + 1) Wm.heap.size K _ _ _ rfl hrg ?_ ?_)
          | go_in)
        · intro hc0 hl0
          have HEND := hide (fun x => hV.mem (unhide HREP) (unhide HZ) hl0 x)
          have bwx := bl_t (unhide HBW) hnx
          have CS := hide (sort_row (w := w) (Nat.le_trans hlas (by decide)) (row_lo2 hrow (unhide HBW).size) bwx)
          have HMM := hide (show ∀ p, p ∈ asL F ss ↔ p ∈ (List.range ps.length).filter fun p => decide (p ∈ asL F ss) from fun p => by
            rw [List.mem_filter, List.mem_range]
            refine ⟨fun h => ⟨?_, decide_eq_true h⟩, fun h => of_decide_eq_true h.2⟩
            obtain ⟨x, _, hx⟩ := (asL_mem F ss p).1 h
            exact unhide HLT x p hx)
          have HAL := hide hlas
          have HSM2 := hide (asL_mem F ss)
          clear hrow hV hnx hrg bwx hlas hown
          generalize asL F ss = AL at *
          go_wp2_with (first
            | (go_at_call 68; refine (unhide CS).mono ?_; rintro e w3 ⟨rfl, hb3, hso⟩; have C3 := hide (compact_any (w0 := w) (Nat.le_trans (unhide HAL) (by decide)) hso (List.Pairwise.filter (fun p => decide (p ∈ AL)) (List.pairwise_lt_range (n := ps.length))) (unhide HMM) hb3); clear hb3 hso CS)
            | (go_at_call 69; refine (unhide C3).mono ?_; rintro e w4 ⟨r4, rfl, hb4, hp4⟩; have H4 := hide (And.intro hb4 hp4); clear hb4 hp4 C3)
            | go_in)
          go_ret
          refine ⟨_, _, rfl, (unhide H4).2, List.Pairwise.filter _ List.pairwise_lt_range, fun p => ?_, (unhide H4).1⟩
          rw [← unhide HMM p, unhide HSM2 p, unhide HLN p]
          constructor
          · rintro ⟨x, hx, hp⟩; exact ⟨x, (unhide HEND x).1 hx, hp⟩
          · rintro ⟨x, hx, hp⟩; exact ⟨x, (unhide HEND x).2 hx, hp⟩
        · intro x c kl2 yd yp w2 cnt2 hkey hlk hv hat hrg2 hlt2 hg2 hs2 hen
          obtain ⟨x', ex, rfl, hxl⟩ := Maps.keyOf_str Tryz.underlying9 hkey
          obtain rfl : x = x' := encStr_inj ex
          have hrow2 := hrow.kept hg2 (Or.inr (row_ne_iter hrow hrg).symm)
          have hxz : (⟨x.toArray⟩ : Nm).size ≤ maxLen := by show x.toArray.size ≤ maxLen; simpa using hxl
          have hxin : (⟨x.toArray⟩ : Nm) ∈ nl := by
            have h1 := (unhide HREP).has ⟨x.toArray⟩ hxz
            have h2 : Maps.has D (.string x) = true := has_true_of_atKey hat
            rw [show kl ⟨x.toArray⟩ = .string x from rfl, h2] at h1
            exact hsN_some h1.symm
          have hV2 := hV.step hlk hxin
          have bX := hnx.grown hg2 hnx.size (fun j hj => by cases hj; exact Nat.le_refl _)
          have m2 := (unhide HMA).later (bl_t (unhide HBW) bX)
          have lk := look1 m2.dm hxz
          have hown2 := m2.own ⟨x.toArray⟩
          have hFl : (asL F ss).length + (F ⟨x.toArray⟩).length ≤ 1048576 := by
            have := unhide HAK _ hV2.nd2
            rw [← asL_len, asL_snoc, List.length_append] at this
            exact this
          have hmeas : w2.rangeLeft (w.heap.size + 1) Wm.heap.size < wr.rangeLeft (w.heap.size + 1) Wm.heap.size := by rw [hrg2.left_eq, hrg.left_eq]; exact hlt2
          have hzx := bX.size
          clear hs2 ex hkey hlk hv hat hxin m2
          rcases hown2.2 with ⟨q1, q2⟩ | ⟨g, cap, cur, q1, _⟩
          · rw [q1] at lk
            have HE := hide (show asL F (ss ++ [x]) = asL F ss from by rw [asL_snoc, List.length_eq_zero_iff.1 q2, List.append_nil])
            clear hown2 q1 q2
            go_wp2_with (first
              | (at_builtin; go_must (refine wpList_append_own_none rfl _ _ 34 rfl Wm.heap.size 3 i0 1 Tryz.underlying34 hi _ _ _ rfl hrow2 rfl ?_))
              | go_in)
            go_roundw
            case rel => exact ⟨_, cnt2, ss ++ [x], hrg2, by rw [unhide HE]; exact hrow2, hV2, bX⟩
            case measure => exact hmeas
          · rw [q1] at lk
            have hcells := hown2.cells (g := g) (by rw [q1]; rfl)
            clear hown2 q1
            go_wp2_with (first
              | (at_builtin; go_must (refine wpList_append_own_at _ rfl _ _ 34 rfl Wm.heap.size 3 i0 (.int .i64 0) 1 8 Tryz.underlying34 hi hz0 hz1 hz2 rfl (by decide) _ _ _ rfl hrow2 ⟨g, 0, none⟩ (F ⟨x.toArray⟩).length cap (ints (F ⟨x.toArray⟩)) rfl (by rw [ints_len, Nat.mul_one]) hcells (fun u hu => by unfold ints at hu; obtain ⟨_, _, rfl⟩ := List.mem_map.1 hu; rfl) (by unfold maxLen; omega) (by omega) hzx ?_); intro v' w3 hown' hg3 hnil3 hat3; go_frame)
              | go_in)
            have hrg3 := hrg2.kept hg3 (row_ne_low hrow2 hbl) (row_ne_iter hrow2 hrg2)
            go_roundw
            case rel => exact ⟨_, cnt2, ss ++ [x], hrg3, by rw [asL_snoc, List.length_append, show ints (asL F ss ++ F ⟨x.toArray⟩) = ints (asL F ss) ++ ints (F ⟨x.toArray⟩) from by simp [ints]]; exact hown', hV2, bX.grown hg3 hzx (fun j hj => (hrow2.lt j hj).1)⟩
            case measure => rw [hrg3.left_eq, hrg.left_eq]; exact hlt2
end Go.Proofs.YtcebpdcijpgkjaaGreatDoor

namespace Go.Proofs.YtcebpdcijpgkjaaGreatDoor
open Go.RowKit Go.Maps

set_option maxRecDepth 100000 in
set_option maxHeartbeats 4000000 in
theorem without_own {w : World} {v : Value} {ps : List Pk} (sm : SmP ps) (pk : Pkl w v ps) :
    Calls Tryz.prog 45 #[v, .slice none 0 0] w fun e w' => e = .returned (.slice (some ⟨w.heap.size + 1, 0, none⟩) ps.length ps.length) ∧ Bb w' (w.heap.size + 1) ps.length (fun i => decide (i < ps.length)) ∧ RowKit.Below w.heap.size w w' := by
  obtain ⟨va, vc, rfl⟩ : ∃ a c, v = .slice a ps.length c := let ⟨a, c, e, _⟩ := pk; ⟨a, c, e⟩
  have hl := sm.l
  have HPK := hide (show ∀ X, RowKit.Below w.heap.size w X → ∀ (p : Nat), p < ps.length → ∃ (vb vo : Nat) (cs : List Value) (n u : Nm), va = some ⟨vb, vo, none⟩ ∧ vb < X.heap.size ∧ X.rangeAt vb (vo + p * 43) cs ∧ (Tryz.prog.info? 46).map (·.size) = some cs.length ∧ ∀ Y, Calls Tryz.prog 47 #[.agg cs.toArray] Y fun e w' => e = .returned (.agg #[.string n, .string u]) ∧ Below Y.heap.size Y w' from fun X hX p hp => by
    obtain ⟨vb, vo, vc2, cs, d, r, c, pv, f, e, hvb, hr, hpc, _⟩ := (pk.later hX).at2 (List.getElem?_eq_getElem hp)
    injection e with e _ _
    exact ⟨vb, vo, cs, _, _, e, hvb, hr, by rw [hpc.len]; kernel_rfl, fun Y => keyOf_any cs _ _ Y hpc.c0 hpc.c1⟩)
  obtain ⟨N, hN⟩ : ∃ N, N = ps.length := ⟨_, rfl⟩
  rw [← hN] at hl HPK ⊢
  have hmk := makeBl N hl
  have hmm := makeMk
  have HW := hide (wo_new w N)
  clear pk sm hN
  go_enter Tryz.func45, Tryz.ntmps45
  go_wp2_with fail
  refine wp_loop_rounds 1 ?_
  rw [rounds_succ]
  go_wp2_with fail
  clear hmm hmk
  go_loopw [30] (fun iv wr => ∃ i : Nat, iv = .int .i64 i ∧ i ≤ N ∧ Hid (Wo w wr N i)) (fun iv _ => N - (intOf iv).toNat)
  case atStart => exact ⟨0, rfl, Nat.zero_le _, HW⟩
  case round =>
    clear HW
    obtain ⟨i, rfl, hile, HU⟩ := hrel
    have hu := unhide HU
    by_cases hlt : i < N
    · have hlt2 : (i : Int) < (N : Int) := by omega
      obtain ⟨vb, vo, cs, n, u, rfl, hvb, hr, hinf, hk⟩ := unhide HPK wr hu.bw i hlt
      have HR := hide hr
      have HI2 := hide hinf
      have HK := hide (hk wr)
      clear hr hinf hk
      go_wp2_with (first | ((with_reducible refine wpList_load_p (op := { dst := some 38, op := Op.load 46 (Operand.tmp 37), type := 46, pos := "part.go:24", after := #[{ on := 3, ground := Ground.data }], guard := none }) ?wxa 46 (.tmp 37) ?wxb vb (vo + i * 43) ?wxc cs _ (unhide HR) Tryz.underlying46 ?wxd (unhide HI2) ?wxe); (case wxa => rfl); (case wxb => rfl); (case wxc => rfl); (case wxd => rfl)) | (go_at_call 47; refine (unhide HK).mono ?_; rintro e w5 ⟨rfl, hb5⟩; have HU5 := hide (hu.later hb5); have lk := lookE (unhide HU5).m n u; obtain ⟨c0, f0⟩ := (unhide HU5).b.cell hlt; have hz5 := (unhide HU5).b.lt; clear hb5 HK))
      have HU6 := hide (((unhide HU5).set hlt).later ((Below.refl _ (w5.setCell ⟨w.heap.size + 1, i, none⟩ (.bool true))).alloc (Nat.le_refl _) (.cells #[] 107)))
      go_roundw
      case rel => exact ⟨i + 1, by go_num, by omega, HU6⟩
      case measure => simp [intOf]; omega
    · obtain rfl : i = N := by omega
      go_wp2_with fail
      go_ret
      exact ⟨rfl, hu.b, hu.bw⟩
theorem allOf_own {w : World} {v : Value} {ps : List Pk} (sm : SmP ps) (pk : Pkl w v ps) :
    Calls Tryz.prog 41 #[v] w fun e w' => e = .returned (.slice (some ⟨w.heap.size + 1, 0, none⟩) ps.length ps.length) ∧ Bb w' (w.heap.size + 1) ps.length (fun i => decide (i < ps.length)) ∧ RowKit.Below w.heap.size w w' := by
  have C := hide (without_own sm pk)
  clear sm pk
  go_enter Tryz.func41, Tryz.ntmps41
  go_wp2_with (go_at_call 45; refine (unhide C).mono ?_; rintro e w2 ⟨rfl, h1, h2⟩; have H := hide (And.intro h1 h2); clear h1 h2 C)
  go_ret
  exact ⟨rfl, unhide H⟩
/-- RISING PLACES BELOW A NUMBER ARE NO MORE THAN IT. -/
theorem rise_len : ∀ (l : List Nat) (k n : Nat), l.Pairwise (· < ·) → (∀ x ∈ l, k ≤ x ∧ x < n) → l.length ≤ n - k
  | [], _, _, _, _ => Nat.zero_le _
  | a :: l, k, n, h, hb => by
    obtain ⟨h1, h2⟩ := List.pairwise_cons.1 h
    have ha := hb a List.mem_cons_self
    have := rise_len l (a + 1) n h2 fun x hx => ⟨h1 x hx, (hb x (List.mem_cons_of_mem _ hx)).2⟩
    rw [List.length_cons]
    omega
end Go.Proofs.YtcebpdcijpgkjaaGreatDoor

namespace Go.Proofs.YtcebpdcijpgkjaaGreatDoor
open Go.RowKit Go.Maps

/-- BETWEEN THE ROUNDS, AS IT LIES. -/
structure Cw (X wr : World) (ps : List Pk) (gi : Nat) (u : Value) (inn : Nat → Bool) (D : List Nat) : Prop where
  b : Bb wr gi ps.length inn
  row : ∃ lo, gi < lo ∧ Pl lo wr u D
  len : D.length ≤ 1048576
  cr : Cr ps inn D
  bw : RowKit.Below X.heap.size X wr
set_option maxRecDepth 100000 in
set_option maxHeartbeats 4000000 in
/-- CLOSED: THE GREATEST PART THAT IS CLOSED. -/
theorem Closed_any {w : World} {v : Value} {ps : List Pk} (sm : SmP ps) (pk : Pkl w v ps) (ht : akK ps ps.length ≤ 1048576) :
    Calls Tryz.prog 15 #[v] w fun e w' => ∃ r inn, e = .returned r ∧ w'.ownsRow w.heap.size 3 1 r (plL inn ps.length).length (ints (plL inn ps.length)) ∧ (Clo ps inn ∧ (∀ G, Clo ps G → ∀ p, p < ps.length → G p = true → inn p = true) ∧ ∀ p, inn p = true → p < ps.length) ∧ RowKit.Below w.heap.size w w' := by
  obtain ⟨xs, hxs, hsim⟩ := sim_of pk (fun p hp => (sm.z p hp).2.1)
  obtain ⟨va, vc, rfl⟩ : ∃ a c, v = .slice a ps.length c := let ⟨a, c, e, _⟩ := pk; ⟨a, c, e⟩
  have hl := sm.l
  have htt := sm.tot hsim
  have C1 := hide (show ∀ X, RowKit.Below w.heap.size w X → Calls Tryz.prog 39 #[.slice va ps.length vc] X fun e w' => ∃ b1 b2, e = .returned (.agg #[.slice va ps.length vc, .map (some b1), .map (some b2)]) ∧ M2 (nmP xs xs.length) (pvP xs xs.length) w' b1 b2 ∧ RowKit.Below X.heap.size X w' from fun X hX => (setOf_any xs (.slice va ps.length vc) X (by rw [hsim.1]; omega) (by omega) (sm.sz hsim) (hxs.later hX)).mono fun e w' ⟨H1, k1, H2, k2, he, m1, m2, hb⟩ => ⟨_, _, he, ⟨_, H1, k1, H2, k2, m1, m2⟩, hb⟩)
  have HAS := hide (show ∀ X, RowKit.Below w.heap.size w X → Calls Tryz.prog 40 #[.slice va ps.length vc] X fun e w' => ∃ ba H k, e = .returned (.map (some ba)) ∧ Mi w' (X.heap.size + 1) (.map (some ba)) H (akP ps ps.length) k ∧ RowKit.Below X.heap.size X w' from fun X hX => (askingOf_any sm (pk.later hX) ht).mono fun e w' ⟨H, k, he, hm, hb⟩ => ⟨_, H, k, he, hm, hb⟩)
  have HALL := hide (show ∀ X, RowKit.Below w.heap.size w X → Calls Tryz.prog 41 #[.slice va ps.length vc] X fun e w' => e = .returned (.slice (some ⟨X.heap.size + 1, 0, none⟩) ps.length ps.length) ∧ Bb w' (X.heap.size + 1) ps.length (fun i => decide (i < ps.length)) ∧ RowKit.Below X.heap.size X w' from fun X hX => allOf_own sm (pk.later hX))
  have HPL := hide (show ∀ X gi inn, Bb X gi ps.length inn → Calls Tryz.prog 42 #[.slice (some ⟨gi, 0, none⟩) ps.length ps.length] X fun e w' => ∃ u, e = .returned u ∧ w'.ownsRow X.heap.size 3 1 u (plL inn ps.length).length (ints (plL inn ps.length)) ∧ RowKit.Below X.heap.size X w' from fun X gi inn hb => places_any (by omega) hb.bls)
  have HDR := hide (show ∀ (Z Y : World) (b1 b2 gi : Nat) (u : Value) (inn : Nat → Bool) (D : List Nat), RowKit.Below w.heap.size w Z → M2 (nmP xs xs.length) (pvP xs xs.length) Z b1 b2 → Z.heap.size ≤ gi → Cw Z Y ps gi u inn D → Calls Tryz.prog 43 #[.agg #[.slice va ps.length vc, .map (some b1), .map (some b2)], .slice (some ⟨gi, 0, none⟩) ps.length ps.length, u] Y fun e w' => ∃ u inn' L, e = .returned u ∧ w'.ownsRow Y.heap.size 3 1 u L.length (ints L) ∧ Bb w' gi ps.length inn' ∧ Dp ps inn D inn' L ∧ Fx (fun c => c = gi) Y w' from fun Z Y b1 b2 gi u inn D hZ hM hg hc => by
    obtain ⟨base, H1, k1, H2, k2, m1, m2⟩ := hM
    obtain ⟨lo, hlo, hpl⟩ := hc.row
    exact drop_any inn m1 m2 (hxs.later hZ) hsim sm (pk.later hZ) hc.bw hg hc.b hpl hlo hc.len hc.cr.lt)
  have HLE := hide (show ∀ (Y : World) (b1 b2 ba base ka lo : Nat) (HA : Nm → Option Hd) (u : Value) (L : List Nat), RowKit.Below w.heap.size w Y → Mi Y base (.map (some ba)) HA (akP ps ps.length) ka → Pl lo Y u L → L.length ≤ 1048576 → (∀ p ∈ L, p < ps.length) → Calls Tryz.prog 44 #[.agg #[.slice va ps.length vc, .map (some b1), .map (some b2)], .map (some ba), u] Y fun e w' => ∃ u D, e = .returned u ∧ Pl Y.heap.size w' u D ∧ D.Pairwise (· < ·) ∧ (∀ p, p ∈ D ↔ Ln ps L p) ∧ RowKit.Below Y.heap.size Y w' from fun Y b1 b2 ba base ka lo HA u L hY hm hp hl2 hlt => leaning_any b1 b2 sm (pk.later hY) hm ht hp hl2 hlt)
  have HCR := hide (Cr.start ps)
  clear sm pk ht hxs hsim htt
  generalize nmP xs xs.length = F1 at *
  generalize pvP xs xs.length = F2 at *
  generalize akP ps ps.length = FA at *
  go_enter Tryz.func15, Tryz.ntmps15
  go_wp2_with fail
  go_step3
  go_wp2_with (first
    | (go_at_call 39; refine (unhide C1 _ (Below.refl _ _)).mono ?_; rintro e w1 ⟨b1, b2, rfl, hM, hb1⟩; have HM := hide (And.intro hM hb1); clear hM hb1 C1)
    | (go_at_call 40; refine (unhide HAS _ (unhide HM).2).mono ?_; rintro e w2 ⟨ba, HA, ka, rfl, hma, hb2⟩; obtain ⟨X, hX⟩ : ∃ W, W = w2.alloc (.cells #[.slice va ps.length vc, .map (some b1), .map (some b2)] 62) := ⟨_, rfl⟩; have HX := hide (show M2 F1 F2 X b1 b2 ∧ X.heap[w2.heap.size]? = some (.cells #[.slice va ps.length vc, .map (some b1), .map (some b2)] 62 (0, 0)) ∧ RowKit.Below w.heap.size w X ∧ Mi X (w1.heap.size + 1) (.map (some ba)) HA FA ka from (by have h2 : RowKit.Below w2.heap.size w2 X := (by rw [hX]; exact (Below.refl _ w2).alloc (Nat.le_refl _) _); have h3 := bl_t hb2 h2; exact ⟨(unhide HM).1.mono fun j hj => h3.block j hj, by rw [hX]; exact World.alloc_heap_new w2 _, bl_t (unhide HM).2 h3, hma.later h2⟩)); clear hb2 hma HAS)
    | (go_at_call 41; rw [← hX]; clear hX; refine (unhide HALL _ (unhide HX).2.2.1).mono ?_; rintro e w4 ⟨rfl, hbl, hb4⟩; have H4 := hide (And.intro hbl hb4); clear hbl hb4)
    | (go_at_call 42; refine (unhide HPL _ _ _ (unhide H4).1).mono ?_; rintro e w5 ⟨u5, rfl, hu5, hb5⟩; have H5 := hide (And.intro hu5 hb5); clear hu5 hb5))
  have HC0 := hide (show Cw X w5 ps (X.heap.size + 1) u5 (fun i => decide (i < ps.length)) (List.range ps.length) from by
    have e : plL (fun i => decide (i < ps.length)) ps.length = List.range ps.length := by
      unfold plL
      exact List.filter_eq_self.2 fun x hx => decide_eq_true (List.mem_range.1 hx)
    have h5 := (unhide H5).1
    rw [e] at h5
    exact ⟨(unhide H4).1.later (unhide H5).2, ⟨_, (unhide H4).1.lt, own_pl h5⟩, by rw [List.length_range]; omega, unhide HCR, bl_t (unhide H4).2 (unhide H5).2⟩)
  have HW5 := hide (bl_t (unhide HX).2.2.1 (bl_t (unhide H4).2 (unhide H5).2))
  clear H4 H5 HM HALL HCR
  go_step3
  go_wp2_with fail
  go_loopg [6, 7] (ps.length + 1) (fun gq uv _ wr => ∃ (inn : Nat → Bool) (D : List Nat), (plL inn ps.length).length + 1 ≤ gq ∧ Hid (Cw X wr ps (X.heap.size + 1) uv inn D))
  case atStart => exact ⟨_, _, Nat.add_le_add_right (plL_len _ _) 1, HC0⟩
  case round =>
    clear HC0
    obtain ⟨inn, D, hgq, HC⟩ := hrel
    have hc := unhide HC
    have bwX := hc.bw
    have hblk := (bwX.block _ (blk_lt (unhide HX).2.1)).trans (unhide HX).2.1
    obtain ⟨s0, s1, s2, _, _, _⟩ := three hblk
    have CD := hide (unhide HDR X wr b1 b2 (X.heap.size + 1) _ inn D (unhide HX).2.2.1 (unhide HX).1 (by omega) hc)
    clear hc bwX hblk
    go_upto_region 5 with (go_at_call 43; refine (unhide CD).mono ?_; rintro e w6 ⟨u6, inn', L, rfl, hu6, hb6, hd6, hf6⟩; obtain ⟨⟨la, ln, lk⟩, rfl, hln⟩ := slice_hd hu6; simp only at hln; subst hln; unfold hv; have H6 := hide (And.intro hu6 (And.intro hb6 (And.intro hd6 hf6))); clear hu6 hb6 hd6 hf6 CD s0 s1 s2)
    have hbX6 := fx_below (unhide HC).bw (unhide H6).2.2.2 (Nat.le_succ _)
    by_cases h0 : L.length = 0
    · have hL0 : L = [] := List.length_eq_zero_iff.1 h0
      have hz : ((L.length : Int) == 0) = true := by rw [h0]; rfl
      have HEND := hide (show Clo ps inn' ∧ (∀ G, Clo ps G → ∀ p, p < ps.length → G p = true → inn' p = true) ∧ ∀ p, inn' p = true → p < ps.length from by
        have hd := (unhide H6).2.2.1
        rw [hL0] at hd
        exact (unhide HC).cr.stop hd)
      clear h0 hL0
      go_wp2_with (go_at_call 42; refine (unhide HPL _ _ _ (unhide H6).2.1).mono ?_; rintro e w7 ⟨u7, rfl, hu7, hb7⟩; have H7 := hide (And.intro hu7 hb7); clear hu7 hb7)
      rw [Exit.noGoto_ret]
      go_ret
      have hbw6 := bl_t (unhide HX).2.2.1 hbX6
      exact ⟨_, inn', rfl, row_lo2 (unhide H7).1 hbw6.size, unhide HEND, bl_t hbw6 (unhide H7).2⟩
    · have hz : ((L.length : Int) == 0) = false := by simpa using h0
      have hblk := (hbX6.block _ (blk_lt (unhide HX).2.1)).trans (unhide HX).2.1
      obtain ⟨s0, s1, s2, _, _, _⟩ := three hblk
      have hbw6 := bl_t (unhide HX).2.2.1 hbX6
      have hd6 := (unhide H6).2.2.1
      have CL := hide (unhide HLE w6 b1 b2 ba _ ka _ HA _ L hbw6 ((unhide HX).2.2.2.later hbX6) (own_pl (unhide H6).1) (Nat.le_trans hd6.len (unhide HC).len) (fun p hp => (unhide HC).cr.lt p (hd6.fal p hp).1))
      obtain ⟨f, hf⟩ : ∃ f, f ∈ L := by
        cases L with
        | nil => exact absurd rfl h0
        | cons f L => exact ⟨f, List.mem_cons_self⟩
      have hless := plL_less hd6.sub ((unhide HC).cr.lt f (hd6.fal f hf).1) (hd6.fal f hf).2.1 (hd6.fal f hf).2.2
      have HB6 := hide hbX6
      clear hblk hbw6 hd6 hf h0 hbX6
      go_wp2_with (go_at_call 44; refine (unhide CL).mono ?_; rintro e w7 ⟨u7, D7, rfl, hp7, hs7, hm7, hb7⟩; have H7 := hide (And.intro hp7 (And.intro hs7 (And.intro hm7 hb7))); clear hp7 hs7 hm7 hb7 CL s0 s1 s2)
      go_roundg ((plL inn' ps.length).length + 1)
      case measure => omega
      case rel =>
        refine ⟨inn', D7, Nat.le_refl _, hide ?_⟩
        have hcr := (unhide HC).cr.next (unhide H6).2.2.1 (unhide H7).2.2.1
        refine ⟨(unhide H6).2.1.later (unhide H7).2.2.2, ⟨_, (unhide H6).2.1.lt, (unhide H7).1⟩, ?_, hcr, bl_t (unhide HB6) (unhide H7).2.2.2⟩
        have := rise_len D7 0 ps.length (unhide H7).2.1 fun x hx => ⟨Nat.zero_le _, hcr.lt x hx⟩
        omega
end Go.Proofs.YtcebpdcijpgkjaaGreatDoor

namespace Go.Proofs.YtcebpdcijpgkjaaGreatDoor
open Go.RowKit Go.Maps

theorem Pl.at {lo : Nat} {w X : World} {a : Option Addr} {n c : Nat} {l : List Nat} (h : Pl lo w (.slice a n c) l) (hb : RowKit.Below w.heap.size w X) {i p : Nat} (hp : l[i]? = some p) : ∃ g, a = some ⟨g, 0, none⟩ ∧ X.cell? ⟨g, i, none⟩ = some (.int .i64 (p : Int)) := by
  obtain ⟨a2, c2, e, h2⟩ := h
  injection e with e
  obtain ⟨g, q1, _, q3, q4⟩ := h2 i p hp
  exact ⟨g, e.trans q1, (hb.cell (p := ⟨g, i, none⟩) q3).trans q4⟩
theorem makeBB (n : Nat) (hn : n ≤ 262144) (u : World) : (Instr.makeSlice 51 (.int .i64 (n : Int)) (.int .i64 (n : Int))).run Tryz.prog u = .ok (.slice (some ⟨u.heap.size, 0, none⟩) n n) (u.alloc (.cells (madeCells #[.bool false] n) 4)) := by
  obtain ⟨i0, hi, hz0, hz1, hz2⟩ := info_parts2 infoBo
  have h := run_make (P := Tryz.prog) u 51 4 i0 (.bool false) Tryz.underlying51 hi hz0 .i64 .i64 (n : Int) (n : Int) (by omega) (Int.le_refl _) (by rw [hz2]; omega) (by omega)
  simpa [hz1, Value.cells] using h
/-- FLAGS WHILE THEY ARE SET. -/
structure Gf (W wr : World) (n : Nat) (l : List Nat) : Prop where
  b : Bb wr W.heap.size n (fun p => decide (p ∈ l))
  bw : RowKit.Below W.heap.size W wr
theorem Gf.start (W : World) (n : Nat) : Gf W (W.alloc (.cells (madeCells #[.bool false] n) 4)) n [] := by
  refine ⟨?_, (Below.refl _ W).alloc (Nat.le_refl _) _⟩
  have := bb_new W n
  rw [show (fun p : Nat => decide (p ∈ ([] : List Nat))) = (fun _ => false) from by funext p; simp]
  exact this
theorem Gf.later {W wr X : World} {n : Nat} {l : List Nat} (h : Gf W wr n l) (hb : RowKit.Below wr.heap.size wr X) : Gf W X n l := ⟨h.b.later hb, bl_t h.bw hb⟩
theorem Gf.set {W wr : World} {n : Nat} {l : List Nat} (h : Gf W wr n l) {p : Nat} (hp : p < n) : Gf W (wr.setCell ⟨W.heap.size, p, none⟩ (.bool true)) n (l ++ [p]) := by
  refine ⟨?_, h.bw.setCell (p := ⟨W.heap.size, p, none⟩) (Nat.le_refl _) _⟩
  have := h.b.set hp true
  rw [show (fun x => decide (x ∈ l ++ [p])) = (fun i => if i = p then true else decide (i ∈ l)) from by
    funext i
    by_cases e : i = p
    · rw [if_pos e]; exact decide_eq_true (by simp [e])
    · rw [if_neg e]; exact decide_eq_decide.2 (by simp [e])]
  exact this
end Go.Proofs.YtcebpdcijpgkjaaGreatDoor

