import Derived.Test.YtcdajbfoneifaaaDoorRfS
namespace Go.Proofs.YtcdajbfoneifaaaDoor
open Go.RowKit

theorem infoV5 : (Tryd.prog.info? 29).map (fun i => (i.zero, i.size, i.bytes)) = some (some (.agg #[.string ⟨#[]⟩, .string ⟨#[]⟩, .string ⟨#[]⟩, .bool false, .bool false]), 5, 56) := infoV
theorem owns_form {W : World} {base e size m : Nat} {v : Value} {xs : List Value} (h : W.ownsRow base e size v m xs) : ∃ a c, v = .slice a m c := by
  rcases h.2 with ⟨h1, h2⟩ | ⟨g, cap, cur, h1, _⟩
  · exact ⟨none, 0, by rw [h1, h2]⟩
  · exact ⟨_, _, h1⟩

/-- THE PLACES SO FAR, AND THE VERSIONS. -/
structure R2 (w : World) (pv ov : Value) (n m : Nat) (vs : Nat → Ver) (h : Nat → Nat) (W : World) : Prop where
  par : W.ownsRow w.heap.size 29 5 pv n (FV vs n)
  out : W.ownsRow w.heap.size 3 1 ov m (IV h m)
  bel : Below w.heap.size w W
theorem R2.later {w : World} {pv ov : Value} {n m : Nat} {vs : Nat → Ver} {h : Nat → Nat} {W W' : World} (r : R2 w pv ov n m vs h W) (hb : Below W.heap.size W W') : R2 w pv ov n m vs h W' :=
  ⟨owns_below r.par hb, owns_below r.out hb, r.bel.trans (hb.mono r.bel.size)⟩
theorem R2.swap {w : World} {pv : Value} {n m g cap : Nat} {vs : Nat → Ver} {h : Nat → Nat} {W : World} (r : R2 w pv (.slice (some ⟨g, 0, none⟩) m cap) n m vs h W) (i j : Nat) (hi : i < m) (hj : j < m) :
    R2 w pv (.slice (some ⟨g, 0, none⟩) m cap) n m vs (sw h i j) ((W.setCell ⟨g, i, none⟩ (.int .i64 (h j))).setCell ⟨g, j, none⟩ (.int .i64 (h i))) := by
  obtain ⟨s1, g1⟩ := r.out.stored i (.int .i64 (h j))
  obtain ⟨s2, g2⟩ := s1.stored j (.int .i64 (h i))
  rw [IV_sw h m i j hi hj] at s2
  have hg : w.heap.size ≤ g := (r.out.lt g rfl).1
  have ht : pv.ownBlock = none ∨ pv.ownBlock ≠ some g := owns_two (by decide) r.par r.out
  exact ⟨(r.par.kept g1 ht).kept g2 ht, s2, (r.bel.setCell (p := ⟨g, i, none⟩) hg _).setCell (p := ⟨g, j, none⟩) hg _⟩

theorem cell_one_newJ (w : World) (v : Value) (t : TypeId) : ∀ j u, ([v] : List Value)[j]? = some u → (w.alloc (.cells #[v] t)).cell? ((⟨w.heap.size, 0, none⟩ : Addr).add j) = some u := fun j u hj => by
  have e : j = 0 := by
    cases j with
    | zero => rfl
    | succ j => simp at hj
  subst e
  simp at hj
  subst hj
  simp [Addr.add]
set_option maxRecDepth 100000 in
set_option maxHeartbeats 4000000 in
theorem rSort_any (l : List ByteArray) (pa : Option Addr) (lc : Nat) (w : World) (hl : l.length ≤ 1073741824) (hz : ∀ k, k < l.length → (l.getD k nob).size ≤ maxLen) (hL : Ls w pa l) :
    Calls Tryd.prog 9 #[.slice pa l.length lc] w fun e w' => Below w.heap.size w w' ∧
      ((∃ ov g, e = .returned (.tuple #[ov, .int .i64 0]) ∧ (∀ k, k < l.length → erOf l k = 0) ∧ w'.ownsRow w.heap.size 3 1 ov l.length (IV g l.length) ∧ Pm idn g 0 l.length ∧ Srt (Sv (vsOf l)) g 0 l.length)
       ∨ (∃ k, k < l.length ∧ erOf l k ≠ 0 ∧ (∀ j, j < k → erOf l j = 0) ∧ e = .returned (.tuple #[.slice none 0 0, .int .i64 (erOf l k)]))) := by
  have HL : Aside (Ls w pa l) := hL
  have HZ : Aside _ := hz
  clear hL hz
  obtain ⟨n, hn⟩ : ∃ n, n = l.length := ⟨_, rfl⟩
  rw [← hn] at hl ⊢
  have HN : Hid (n = l.length) := hn
  clear hn
  obtain ⟨i0, hi0, hz0, hz1, hz2⟩ := info_parts infoI
  obtain ⟨i1, hi1, hy0, hy1, hy2⟩ := info_parts infoV5
  go_enter Tryd.func9, Tryd.ntmps9
  go_wp2
  go_loopg [4, 5] n (fun g1 vp vi wr => ∃ (k : Nat) (a : Option Addr) (c : Nat), vp = .slice a k c ∧ vi = .int .i64 k ∧ k ≤ n ∧ n - k ≤ g1 ∧ Hid (∀ i, i < k → erOf l i = 0) ∧ Hid (wr.ownsRow w.heap.size 29 5 (.slice a k c) k (FV (vsOf l) k)) ∧ Hid (Below w.heap.size w wr))
  case atStart => exact ⟨0, none, 0, rfl, by go_num, by omega, by omega, (show Hid _ from fun i hi => absurd hi (Nat.not_lt_zero _)), hide (World.ownsRow_nil _ _ _ _), hide (Below.refl _ _)⟩
  case round =>
    obtain ⟨k, a, c, rfl, rfl, hk, hg1, HE, HP, HB⟩ := hrel
    by_cases hlt : k < n
    · have hltz : (k : Int) < (n : Int) := by omega
      have hkl : k < l.length := by have := HN.out; omega
      obtain ⟨lb, lo, rfl, hlb, hlc⟩ := HL.out k hkl
      have hc0 : wr.cell? ⟨lb, lo + k, none⟩ = some (.string (l.getD k nob)) := ((unhide HB).cell (p := ⟨lb, lo + k, none⟩) hlb).trans hlc
      rcases hp : parse (l.getD k nob) with ⟨⟨e, u, r, c', d⟩, er⟩
      have c1 := hide (fun w' => rParse_any (l.getD k nob) (HZ.out k hkl) e u r c' d er hp w')
      have HVS : Hid (vsOf l k = ⟨e, u, r, c', d⟩ ∧ erOf l k = er) := ⟨by unfold vsOf; rw [hp], by unfold erOf; rw [hp]⟩
      generalize l.getD k nob = sk at *
      clear hlc hp
      by_cases her : er = 0
      · subst her
        go_upto_if 26 with (go_at_call 20; refine (unhide c1 _).mono ?_; rintro x1 w1 ⟨rfl, hb1⟩; have HB1 := hide hb1; clear hb1)
        have hbl : w.heap.size ≤ w1.heap.size := Nat.le_trans (unhide HB).size (unhide HB1).size
        have HO := hide (owns_below (owns_below (owns_below (unhide HP) (unhide HB1)) ((Below.refl w1.heap.size w1).alloc (Nat.le_refl _) (.cells #[.string e, .string u, .string r, .bool c', .bool d] 29))) ((Below.refl (w1.alloc (.cells #[.string e, .string u, .string r, .bool c', .bool d] 29)).heap.size (w1.alloc (.cells #[.string e, .string u, .string r, .bool c', .bool d] 29))).alloc (Nat.le_refl _) (.cells #[.string e, .string u, .string r, .bool c', .bool d] 29)))
        have HB2 := hide ((((unhide HB).trans ((unhide HB1).mono (unhide HB).size)).alloc hbl (.cells #[.string e, .string u, .string r, .bool c', .bool d] 29)).alloc (by simp; omega) (.cells #[.string e, .string u, .string r, .bool c', .bool d] 29))
        clear HP HB HB1 c1 hc0
        go_wp2_with (at_builtin; go_must (refine wpList_append_lies _ rfl _ _ 44 rfl w.heap.size 29 i1 (.agg #[.string ⟨#[]⟩, .string ⟨#[]⟩, .string ⟨#[]⟩, .bool false, .bool false]) 5 56 Tryd.underlying44 hi1 hy0 hy1 hy2 rfl (by decide) _ k _ rfl (unhide HO) ⟨_, 0, none⟩ 1 1 [.string e, .string u, .string r, .bool c', .bool d] rfl rfl (by simpa using cells5_new (w1.alloc _) _ _ _ _ _ _) (by simp [Value.oneCell']) (by decide) (by unfold maxLen; omega) (by omega) (by simp; omega) _ rfl ?_); intro G cap w7 hown' hgrow hat _; have HO7 := hide hown'; have HB7 := hide ((unhide HB2).grown hgrow (by simp; omega) (fun j e => ((unhide HO).lt j e).1)); clear hown' hgrow hat)
        go_roundg (n - (k + 1))
        case measure => omega
        case rel => exact ⟨k + 1, _, _, rfl, by go_num, by omega, by omega, (show Hid _ from fun i hi => by
            by_cases ei : i = k
            · subst ei; exact HVS.out.2
            · exact HE.out i (by omega)), (by have h7 := unhide HO7; refine hide ?_; rw [FV, HVS.out.1]; exact h7), HB7⟩
      · have hne : (er != 0) = true := by simpa using her
        have HER : Hid (erOf l k ≠ 0) := by rw [HVS.out.2]; exact her
        go_wp2_with (go_at_call 20; refine (unhide c1 _).mono ?_; rintro x1 w1 ⟨rfl, hb1⟩; have HB1 := hide hb1; clear hb1)
        go_ret2
        refine ⟨((unhide HB).trans ((unhide HB1).mono (unhide HB).size)).alloc (Nat.le_trans (unhide HB).size (unhide HB1).size) _, Or.inr ⟨k, hlt, HER.out, HE.out, ?_⟩⟩
        rw [HVS.out.2]
        rfl
    · have hltz : ¬ (k : Int) < (n : Int) := by omega
      obtain rfl : k = n := by omega
      have HD : Hid (∀ i, i < k → Dg (vsOf l i) ∧ (vsOf l i).e.size ≤ 256) := fun i hi => by
        have hz := HZ.out i (by have := HN.out; omega)
        have d1 := parse_size (l.getD i nob) hz
        exact ⟨⟨d1.1, d1.2.1, d1.2.2, parse_dig (l.getD i nob)⟩, parse_small (l.getD i nob)⟩
      clear HL HZ
      go_wp2_with fail
      have HR0 := hide (show R2 w (.slice a k c) (.slice none 0 0) k 0 (vsOf l) idn wr from ⟨unhide HP, World.ownsRow_nil _ _ _ _, unhide HB⟩)
      clear HP HB
      go_loopg [8, 9] k (fun g2 vo vi wr2 => ∃ (m : Nat) (a2 : Option Addr) (c2 : Nat) (h : Nat → Nat), vo = .slice a2 m c2 ∧ vi = .int .i64 m ∧ m ≤ k ∧ k - m ≤ g2 ∧ Hid (R2 w (.slice a k c) (.slice a2 m c2) k m (vsOf l) h wr2) ∧ Hid (Pm idn h 0 m ∧ Srt (Sv (vsOf l)) h 0 m))
      case atStart => exact ⟨0, none, 0, idn, rfl, by go_num, by omega, by omega, HR0, hide ⟨Pm.refl _ _ _, fun i j h1 h2 h3 => by omega⟩⟩
      case round =>
        clear HR0
        obtain ⟨m, a2, c2, h, rfl, rfl, hm, hg2, HR, HS⟩ := hrel
        by_cases hltm : m < k
        · have hltmz : (m : Int) < (k : Int) := by omega
          have hbl : w.heap.size ≤ wr.heap.size := (unhide HR).bel.size
          have HR1 := hide ((unhide HR).later ((Below.refl wr.heap.size wr).alloc (Nat.le_refl _) (.cells #[.int .i64 (m : Int)] 3)))
          have hhm : h m = m := (unhide HS).1.out m (Or.inr (Nat.le_refl _))
          have HHM := hide hhm
          clear hhm HR
          obtain ⟨pb, hpa⟩ : ∃ g, a = some ⟨g, 0, none⟩ := by
            rcases (unhide HR1).par.2 with ⟨_, e2⟩ | ⟨g, cap, cur, e, _⟩
            · omega
            · injection e with e3 e4 e5
              exact ⟨g, e3⟩
          subst hpa
          go_upto_region 14 with (at_builtin; go_must (refine wpList_append_lies _ rfl _ _ 24 rfl w.heap.size 3 i0 (.int .i64 0) 1 8 Tryd.underlying24 hi0 hz0 hz1 hz2 rfl (by decide) _ m _ rfl (unhide HR1).out ⟨_, 0, none⟩ 1 1 [.int .i64 (m : Int)] rfl rfl (by simpa using cell_one_newJ _ _ _) (by simp [Value.oneCell']) (by decide) (by unfold maxLen; omega) (by omega) (by simp; omega) _ rfl ?_); intro G cap w7 hown' hgrow hat _; have HR7 := hide (show R2 w (.slice (some ⟨pb, 0, none⟩) k c) (.slice (some ⟨G, 0, none⟩) (m + 1) cap) k (m + 1) (vsOf l) h w7 from ⟨(unhide HR1).par.kept hgrow (owns_two (by decide) (unhide HR1).par (unhide HR1).out), by rw [IV_succ, unhide HHM]; exact hown', (unhide HR1).bel.grown hgrow (by simp; omega) (fun j e => ((unhide HR1).out.lt j e).1)⟩); clear hown' hgrow hat)
          clear HR1
          have HJ0 := hide (show Ins (Sv (vsOf l)) h 0 m m ∧ Pm idn h 0 (m + 1) ∧ h m = m from ⟨Ins.start (unhide HS).2 (fun x _ h2 => by rw [unhide HHM]; exact pm_vals (unhide HS).1 x h2), (unhide HS).1.mono (Nat.le_refl _) (by omega), unhide HHM⟩)
          clear HS HHM
          go_wp2_with fail
          go_loopg [10] m (fun g3 vj wr3 => ∃ (j : Nat) (h' : Nat → Nat), vj = .int .i64 j ∧ j ≤ m ∧ j ≤ g3 ∧ Hid (R2 w (.slice (some ⟨pb, 0, none⟩) k c) (.slice (some ⟨G, 0, none⟩) (m + 1) cap) k (m + 1) (vsOf l) h' wr3) ∧ Hid (Ins (Sv (vsOf l)) h' 0 m j ∧ Pm idn h' 0 (m + 1) ∧ h' j = m))
          case atStart => exact ⟨m, h, by go_num, Nat.le_refl _, Nat.le_refl _, HR7, HJ0⟩
          case round =>
            clear HR7 HJ0
            obtain ⟨j, h', rfl, hjm, hg3, HR, HJ⟩ := hrel
            by_cases hj0 : 0 < j
            · obtain ⟨jp, hjp⟩ : ∃ q, j = q + 1 := ⟨j - 1, by omega⟩
              subst hjp
              have hjz : (0 : Int) < (jp : Int) + 1 := by omega
              have hjd : decide ((jp : Int) + 1 > 0) = true := decide_eq_true (by omega)
              obtain ⟨p, hp⟩ : ∃ q, q = jp + 1 := ⟨_, rfl⟩
              have ea : ((jp : Int) + 1).toNat = p := by omega
              have pa0 : (0 : Int) ≤ (jp : Int) + 1 := by omega
              have ba : (jp : Int) + 1 < (m : Int) + 1 := by omega
              have bc : (jp : Int) < (m : Int) + 1 := by omega
              have rc : IntKind.i64.wrap (jp : Int) = (jp : Int) := by rw [IntKind.wrap_i64]; omega
              have hq : h' jp < m + 1 := pm_vals (unhide HJ).2.1 jp (by omega)
              have hqlt : h' jp < h' (jp + 1) := (unhide HJ).1.great jp (by omega) (by omega) (by omega)
              rw [(unhide HJ).2.2] at hqlt
              have HY : Hid (0 < ordV (vsOf l (h' jp)) (vsOf l m) → Sv (vsOf l) m (h' jp)) := fun q => by
                have := pre_ordV.anti (vsOf l (h' jp)) (vsOf l m)
                exact Or.inl (by omega)
              have HNo : Hid (¬ 0 < ordV (vsOf l (h' jp)) (vsOf l m) → Sv (vsOf l) (h' jp) m) := fun q => by
                unfold Sv
                omega
              have HSw := hide (fun (w' : World) (hb : Below wr.heap.size wr w') => (unhide HR).later hb)
              have B0 := hide ((Below.refl wr.heap.size wr).drew)
              have hd1 := (unhide HD) (h' jp) (by omega)
              have hd2 := (unhide HD) m hltm
              have c3 := hide (fun w' => rOrder_any (vsOf l (h' jp)).e (vsOf l (h' jp)).u (vsOf l (h' jp)).r (vsOf l (h' jp)).c (vsOf l (h' jp)).d (vsOf l m).e (vsOf l m).u (vsOf l m).r (vsOf l m).c (vsOf l m).d (by omega) hd1.1.2.1 hd1.1.2.2.1 (by omega) hd2.1.2.1 hd2.1.2.2.1 w')
              rw [show ordG ⟨(vsOf l (h' jp)).e, (vsOf l (h' jp)).u, (vsOf l (h' jp)).r, (vsOf l (h' jp)).c, (vsOf l (h' jp)).d⟩ ⟨(vsOf l m).e, (vsOf l m).u, (vsOf l m).r, (vsOf l m).c, (vsOf l m).d⟩ = ordV (vsOf l (h' jp)) (vsOf l m) from ordG_dig _ _ hd1.1.2.2.2 hd2.1.2.2.2] at c3
              have HPp := hide (fun (w' : World) (hb : Below wr.heap.size wr w') => And.intro (owns_at ((unhide HR).later hb).out jp _ (IV_at h' (m + 1) jp (by omega))) (And.intro (owns_ver ((unhide HR).later hb).par (h' jp) (by omega)) (owns_ver ((unhide HR).later hb).par m hltm)))
              simp only [Vr, and_assoc] at HPp
              obtain ⟨x0, hx0⟩ : ∃ q, q = ordV (vsOf l (h' jp)) (vsOf l m) := ⟨_, rfl⟩
              rw [← hx0] at c3 HY HNo
              clear hx0 hd1 hd2
              generalize (vsOf l (h' jp)).e = e1 at c3 HPp
              generalize (vsOf l (h' jp)).u = u1 at c3 HPp
              generalize (vsOf l (h' jp)).r = r1 at c3 HPp
              generalize (vsOf l (h' jp)).c = c1 at c3 HPp
              generalize (vsOf l (h' jp)).d = d1 at c3 HPp
              generalize (vsOf l m).e = e2 at c3 HPp
              generalize (vsOf l m).u = u2 at c3 HPp
              generalize (vsOf l m).r = r2 at c3 HPp
              generalize (vsOf l m).c = c2' at c3 HPp
              generalize (vsOf l m).d = d2 at c3 HPp
              have HE1 := hide hp
              obtain ⟨q, hqq⟩ : ∃ q, q = h' jp := ⟨_, rfl⟩
              have HQ := hide hqq
              rw [← hqq] at HPp HY HNo hq
              clear hqq hp hqlt
              have bq : (q : Int) < (k : Int) := by omega
              clear HR
              by_cases hlv : 0 < x0
              · have hd : decide (x0 > 0) = true := decide_eq_true hlv
                have y := HY.out hlv
                have HYY := hide y
                clear y HY HNo
                go_wp2_with fail
                go_region_held3 (fun w' => w'.cell? ⟨G, jp, none⟩ = some (.int .i64 q) ∧ w'.cell? ⟨pb, q * 5, none⟩ = some (.string e1) ∧ w'.cell? ⟨pb, q * 5 + 1, none⟩ = some (.string u1) ∧ w'.cell? ⟨pb, q * 5 + 2, none⟩ = some (.string r1) ∧ w'.cell? ⟨pb, q * 5 + 3, none⟩ = some (.bool c1) ∧ w'.cell? ⟨pb, q * 5 + 4, none⟩ = some (.bool d1) ∧ w'.cell? ⟨pb, m * 5, none⟩ = some (.string e2) ∧ w'.cell? ⟨pb, m * 5 + 1, none⟩ = some (.string u2) ∧ w'.cell? ⟨pb, m * 5 + 2, none⟩ = some (.string r2) ∧ w'.cell? ⟨pb, m * 5 + 3, none⟩ = some (.bool c2') ∧ w'.cell? ⟨pb, m * 5 + 4, none⟩ = some (.bool d2)) (first | exact unhide HPp _ (unhide B0) | exact unhide HPp _ (unhide B1)) (first | (go_at_call 21; refine (unhide c3 _).mono ?_; rintro x w11 ⟨rfl, hb11⟩; have B1 := hide ((unhide B0).trans (hb11.mono (unhide B0).size)); clear hb11))
                have S3 := unhide HSw _ (unhide B1)
                have S4 := S3.swap p jp (by have := unhide HE1; omega) (by omega)
                have k1 := owns_at S3.out p _ (IV_at h' (m + 1) p (by have := unhide HE1; omega))
                have k2 := owns_at S3.out jp _ (IV_at h' (m + 1) jp (by omega))
                have f1 := S3.out.frozenAt p
                have f2 := S3.out.frozenAt jp
                have hpm : h' p = m := by rw [unhide HE1]; exact (unhide HJ).2.2
                rw [hpm, ← unhide HQ] at S4
                rw [hpm] at k1
                rw [← unhide HQ] at k2
                have HS4 := hide S4
                have hne : p ≠ jp := by have := unhide HE1; omega
                have k3 : (w11.setCell ⟨G, p, none⟩ (.int .i64 q)).cell? ⟨G, jp, none⟩ = some (.int .i64 q) := (set_ne _ (Or.inr hne.symm)).trans k2
                clear S3 S4 HPp c3 HSw B0 B1 hpm
                rename_i hHeld
                clear hHeld
                go_wp2_with fail
                generalize ((w11.setCell ⟨G, p, none⟩ (.int .i64 q)).setCell ⟨G, jp, none⟩ (.int .i64 m)) = w3 at *
                clear k1 k2 k3 f1 f2 ea
                go_roundg jp
                case measure => omega
                case rel => exact ⟨jp, sw h' p jp, by go_num, by omega, Nat.le_refl _, HS4, (show Hid _ from by
                    have e1 := unhide HE1
                    have e2 := unhide HQ
                    have y := unhide HYY
                    have j2 := (unhide HJ).2.2
                    subst e1
                    rw [e2, ← j2] at y
                    refine ⟨(unhide HJ).1.step (by omega) hjm y, (unhide HJ).2.1.trans (Pm.sw (by omega) (by omega)), ?_⟩
                    unfold sw
                    rw [if_neg (by omega), if_pos rfl]
                    exact j2)⟩
              · have hd : decide (x0 > 0) = false := decide_eq_false hlv
                have HS1 : Hid (Pm idn h' 0 (m + 1) ∧ Srt (Sv (vsOf l)) h' 0 (m + 1)) := by
                  have y := HNo.out hlv
                  have j2 := (unhide HJ).2.2
                  rw [unhide HQ] at y
                  refine ⟨(unhide HJ).2.1, (unhide HJ).1.stop (ord_sv (vsOf l) k).tr (by omega) hjm (Or.inr ?_)⟩
                  rw [j2]
                  exact y
                clear HY HNo
                go_wp2_with fail
                go_region_held3 (fun w' => w'.cell? ⟨G, jp, none⟩ = some (.int .i64 q) ∧ w'.cell? ⟨pb, q * 5, none⟩ = some (.string e1) ∧ w'.cell? ⟨pb, q * 5 + 1, none⟩ = some (.string u1) ∧ w'.cell? ⟨pb, q * 5 + 2, none⟩ = some (.string r1) ∧ w'.cell? ⟨pb, q * 5 + 3, none⟩ = some (.bool c1) ∧ w'.cell? ⟨pb, q * 5 + 4, none⟩ = some (.bool d1) ∧ w'.cell? ⟨pb, m * 5, none⟩ = some (.string e2) ∧ w'.cell? ⟨pb, m * 5 + 1, none⟩ = some (.string u2) ∧ w'.cell? ⟨pb, m * 5 + 2, none⟩ = some (.string r2) ∧ w'.cell? ⟨pb, m * 5 + 3, none⟩ = some (.bool c2') ∧ w'.cell? ⟨pb, m * 5 + 4, none⟩ = some (.bool d2)) (first | exact unhide HPp _ (unhide B0) | exact unhide HPp _ (unhide B1)) (first | (go_at_call 21; refine (unhide c3 _).mono ?_; rintro x w11 ⟨rfl, hb11⟩; have B1 := hide ((unhide B0).trans (hb11.mono (unhide B0).size)); clear hb11))
                have HR1 := hide (unhide HSw _ (unhide B1))
                clear HPp c3 HSw B0 B1 HJ ea
                go_wp2_with fail
                go_roundg (k - (m + 1))
                case measure => omega
                case rel => exact ⟨m + 1, _, _, h', rfl, by go_num, by omega, by omega, HR1, HS1⟩
            · have hjz : ¬ (0 : Int) < (j : Int) := by omega
              have hjd : decide ((j : Int) > 0) = false := decide_eq_false (by omega)
              have HS1 : Hid (Pm idn h' 0 (m + 1) ∧ Srt (Sv (vsOf l)) h' 0 (m + 1)) := ⟨(unhide HJ).2.1, (unhide HJ).1.stop (ord_sv (vsOf l) k).tr (by omega) hjm (Or.inl (by omega))⟩
              have HR1 := hide ((unhide HR).later ((Below.refl wr.heap.size wr).drew))
              clear HJ HR
              go_wp2_with fail
              go_big_region
              generalize wr.drew = w3 at *
              go_wp2_with fail
              go_roundg (k - (m + 1))
              case measure => omega
              case rel => exact ⟨m + 1, _, _, h', rfl, by go_num, by omega, by omega, HR1, HS1⟩
        · have hltmz : ¬ (m : Int) < (k : Int) := by omega
          obtain rfl : m = k := by omega
          go_wp2_with fail
          go_ret2
          exact ⟨(unhide HR).bel, Or.inl ⟨_, rfl, HE.out, h, (unhide HR).out, (unhide HS).1, (unhide HS).2⟩⟩
end Go.Proofs.YtcdajbfoneifaaaDoor
