import Derived.Test.YtocjcbdkihbbiaaDoorRsI
import Derived.Test.YtocjcbdkihbbiaaDoorStW
import Derived.Test.YtocjcbdkihbbiaaDoorSbC
import Derived.Deep.QuietTactic
import Derived.BigQuiet
import Derived.Deep.RegionHeld3
namespace Go.Proofs.YtocjcbdkihbbiaaDoor
open Go.RowKit Go.Shelf

theorem drewN_two (w : World) (a b : Nat) : (w.drewN a).drewN b = w.drewN (a + b) := by
  unfold World.drewN
  simp [Nat.add_assoc]
/-- What is asked of the i-th paragraph and its k-th field, as it lies. -/
theorem DocC.par {W : World} {a : Option Addr} {n c : Nat} {ps : List (List Fd)} (h : DocC W (.slice a n c) ps) (i : Nat) (hi : i < ps.length) : ∃ g o pa pc, a = some ⟨g, o, none⟩ ∧ W.cell? ⟨g, o + i, none⟩ = some (.slice pa ps[i].length pc) ∧ ParC W (.slice pa ps[i].length pc) ps[i] := by
  obtain ⟨a', c', e, h2⟩ := h
  cases e
  obtain ⟨g, o, rfl, h3⟩ := h2 (by omega)
  obtain ⟨u, hu, hp⟩ := h3 i ps[i] (List.getElem?_eq_getElem hi)
  obtain ⟨pa, pc, rfl, hq⟩ := hp
  exact ⟨g, o, pa, pc, rfl, hu, ⟨pa, pc, rfl, hq⟩⟩
theorem DocC.len {W : World} {a : Option Addr} {n c : Nat} {ps : List (List Fd)} (h : DocC W (.slice a n c) ps) : n = ps.length := by
  obtain ⟨a', c', e, _⟩ := h
  cases e
  rfl
theorem ParC.fld {W : World} {a : Option Addr} {n c : Nat} {p : List Fd} (h : ParC W (.slice a n c) p) (k : Nat) (hk : k < p.length) : ∃ g o, a = some ⟨g, o, none⟩ ∧ FdC W g (o + k * 3) p[k] := by
  obtain ⟨a', c', e, h2⟩ := h
  cases e
  obtain ⟨g, o, rfl, h3⟩ := h2 (by omega)
  exact ⟨g, o, rfl, h3 k p[k] (List.getElem?_eq_getElem hk)⟩

set_option maxRecDepth 100000 in
set_option maxHeartbeats 4000000 in
theorem rSame_yes (ps : List (List Fd)) (va ua : Option Addr) (vc uc : Nat) (w : World) (hl : ps.length ≤ 16777217) (hls : ∀ p ∈ ps, p.length ≤ 16777216 ∧ ∀ f ∈ p, f.ls.length ≤ 16777216) (h1 : DocC w (.slice va ps.length vc) ps) (h2 : DocC w (.slice ua ps.length uc) ps) :
    Calls Tryd.prog 51 #[.slice va ps.length vc, .slice ua ps.length uc] w fun e w' => e = .returned (.bool true) ∧ ∃ n, w' = w.drewN n := by
  have H1 := hide h1
  have H2 := hide h2
  have HLS := hide hls
  obtain ⟨N, hN⟩ : ∃ N, ps.length = N := ⟨_, rfl⟩
  rw [hN] at hl ⊢
  have HN := hide hN
  clear h1 h2 hls hN
  go_enter Tryd.func51, Tryd.ntmps51
  go_wp2_with fail
  go_loopw [5] (fun iv wr => ∃ i n : Nat, i ≤ N ∧ iv = .int .i64 i ∧ wr = w.drewN n) (fun iv _ => N - (intOf iv).toNat)
  case atStart => exact ⟨0, 0, Nat.zero_le _, rfl, rfl⟩
  case round =>
    obtain ⟨i, n, hi, rfl, rfl⟩ := hrel
    by_cases hlt : i < N
    · have hltz : (i : Int) < (N : Int) := by omega
      have hip : i < ps.length := by have := unhide HN; omega
      obtain ⟨g1, o1, pa1, pc1, rfl, c1, hp1⟩ := (unhide H1).par i hip
      obtain ⟨g2, o2, pa2, pc2, rfl, c2, hp2⟩ := (unhide H2).par i hip
      have hq := unhide HLS ps[i] (List.getElem_mem hip)
      have HP1 := hide hp1
      have HP2 := hide hp2
      have HQ := hide hq.2
      have hpl := hq.1
      clear hp1 hp2 hq
      generalize ps[i] = p at *
      obtain ⟨L, hL⟩ : ∃ L, p.length = L := ⟨_, rfl⟩
      rw [hL] at c1 c2 HP1 HP2 hpl
      have HL := hide hL
      clear hL
      go_wp2_with fail
      go_quiet (fail)
      go_wp2_with fail
      go_loopw [6] (fun kv wr => ∃ k n : Nat, k ≤ L ∧ kv = .int .i64 k ∧ wr = w.drewN n) (fun kv _ => L - (intOf kv).toNat)
      case atStart => exact ⟨0, _, Nat.zero_le _, rfl, (drewN_two w _ _)⟩
      case round =>
        obtain ⟨k, n, hk, rfl, rfl⟩ := hrel
        by_cases hlt2 : k < L
        · have hlt2z : (k : Int) < (L : Int) := by omega
          have hkp : k < p.length := by have := unhide HL; omega
          obtain ⟨q1, r1, rfl, f1⟩ := (unhide HP1).fld k hkp
          obtain ⟨q2, r2, rfl, f2⟩ := (unhide HP2).fld k hkp
          have hfl := unhide HQ p[k] (List.getElem_mem hkp)
          have n1 := f1.nm
          have n2 := f2.nm
          obtain ⟨b1, s1, cc1, l1, _, _, m1⟩ := f1.ls
          obtain ⟨b2, s2, cc2, l2, _, _, m2⟩ := f2.ls
          have HM1 := hide m1
          have HM2 := hide m2
          clear f1 f2 m1 m2
          generalize p[k] = f at *
          obtain ⟨M, hM⟩ : ∃ M, f.ls.length = M := ⟨_, rfl⟩
          rw [hM] at l1 l2 hfl
          have HM := hide hM
          generalize ba f.nm = nm at *
          clear hM
          go_wp2_with fail
          go_quiet (fail)
          go_wp2_with fail
          go_loopw [7] (fun mv wr => ∃ m n : Nat, m ≤ M ∧ mv = .int .i64 m ∧ wr = w.drewN n) (fun mv _ => M - (intOf mv).toNat)
          case atStart => exact ⟨0, _, Nat.zero_le _, rfl, (drewN_two w _ _)⟩
          case round =>
            obtain ⟨m, n, hm, rfl, rfl⟩ := hrel
            by_cases hlt3 : m < M
            · have hlt3z : (m : Int) < (M : Int) := by omega
              have hmf : m < f.ls.length := by have := unhide HM; omega
              have x1 := unhide HM1 m (.string (ba f.ls[m])) (by simp [strs, hmf])
              have x2 := unhide HM2 m (.string (ba f.ls[m])) (by simp [strs, hmf])
              generalize ba f.ls[m] = tx at *
              go_wp2_with fail
              go_quiet (fail)
              go_wp2_with fail
              go_roundw
              case rel => exact ⟨m + 1, _, by omega, by go_num, rfl⟩
              case measure => simp [intOf]; omega
            · have hlt3z : ¬ (m : Int) < (M : Int) := by omega
              go_wp2_with fail
              go_roundw
              case rel => exact ⟨k + 1, _, by omega, by go_num, rfl⟩
              case measure => simp [intOf]; omega
        · have hlt2z : ¬ (k : Int) < (L : Int) := by omega
          go_wp2_with fail
          go_roundw
          case rel => exact ⟨i + 1, _, by omega, by go_num, rfl⟩
          case measure => simp [intOf]; omega
    · have hltz : ¬ (i : Int) < (N : Int) := by omega
      go_wp2_with fail
      go_ret
      exact ⟨rfl, _, rfl⟩

theorem RP.parC {lo : Nat} {W : World} {v : Value} {p : List Fd} {ts : List Tv} (h : RP lo W v p ts) : ParC W v p := by
  obtain ⟨a, c, rfl⟩ := h.shape
  refine ⟨a, c, rfl, fun h0 => ?_⟩
  obtain ⟨g, rfl, hg, _, _⟩ := h.blk h0
  refine ⟨g, 0, rfl, fun i f hf => ?_⟩
  have hi : i < p.length := (List.getElem?_eq_some_iff.1 hf).1
  have hit : i < ts.length := by rw [h.len]; exact hi
  have hF := h.each i ts[i] f (List.getElem?_eq_getElem hit) hf
  obtain ⟨c0, c1, c2⟩ := h.cellA i ts[i] (List.getElem?_eq_getElem hit)
  obtain ⟨lb, lc, e1, hlr⟩ := hF.ls
  obtain ⟨ab, ac, e2, har⟩ := hF.ns
  obtain ⟨hlb, hlc, hlcell⟩ := row_cells hlr
  obtain ⟨hab, _, hacell⟩ := row_cells har
  rw [hF.nm] at c0
  rw [e1] at c1
  rw [e2] at c2
  rw [Nat.zero_add]
  exact ⟨c0, ⟨lb, 0, lc, c1, hlc, hlb, fun j u hj => by rw [Nat.zero_add]; exact hlcell j u hj⟩, ⟨_, _, c2, fun _ => ⟨ab, 0, rfl, fun j u hj => by rw [Nat.zero_add]; exact hacell j u hj⟩⟩⟩
theorem RD.docC {base : Nat} {W : World} {v : Value} {ps : List (List Fd)} {vs : List Value} (h : RD base W v ps vs) : DocC W v ps := by
  obtain ⟨a, c, rfl⟩ := h.shape
  refine ⟨a, c, rfl, fun h0 => ?_⟩
  rcases h.row.2 with ⟨_, e2⟩ | ⟨g, cap, cur, e, _, hg, hc, _⟩
  · omega
  · cases e
    refine ⟨g, 0, rfl, fun i p hp => ?_⟩
    have hi : i < ps.length := (List.getElem?_eq_some_iff.1 hp).1
    have hiv : i < vs.length := by rw [h.len]; exact hi
    obtain ⟨ts, ht⟩ := h.each i vs[i] p (List.getElem?_eq_getElem hiv) hp
    refine ⟨vs[i], ?_, ht.parC⟩
    have := h.row.cells (g := g) rfl i vs[i] (List.getElem?_eq_getElem hiv)
    rw [Addr.add_mid] at this
    exact this

set_option maxRecDepth 100000 in
set_option maxHeartbeats 4000000 in
theorem alike_yes (ps : List (List Fd)) (va ua : Option Addr) (vc uc : Nat) (w : World) (hl : ps.length ≤ 16777217) (hls : ∀ p ∈ ps, p.length ≤ 16777216 ∧ ∀ f ∈ p, f.ls.length ≤ 16777216 ∧ f.ns.length ≤ 16777216) (h1 : DocC w (.slice va ps.length vc) ps) (h2 : DocC w (.slice ua ps.length uc) ps) :
    Calls Tryd.prog 26 #[.slice va ps.length vc, .slice ua ps.length uc] w fun e w' => e = .returned (.bool true) ∧ Below w.heap.size w w' := by
  have cS := hide (rSame_yes ps va ua vc uc w hl (fun p hp => ⟨(hls p hp).1, fun f hf => ((hls p hp).2 f hf).1⟩) h1 h2)
  have H1 := hide (fun (W : World) (hb : Below w.heap.size w W) => h1.later hb)
  have H2 := hide (fun (W : World) (hb : Below w.heap.size w W) => h2.later hb)
  have HLS := hide hls
  obtain ⟨N, hN⟩ : ∃ N, ps.length = N := ⟨_, rfl⟩
  rw [hN] at hl cS H1 H2 ⊢
  have HN := hide hN
  clear h1 h2 hls hN
  go_enter Tryd.func26, Tryd.ntmps26
  go_wp2_with (go_at_call 51; refine (unhide cS).mono ?_; rintro e w1 ⟨rfl, q, rfl⟩; have HB1 := hide (bl_drewN w q))
  go_loopw [5] (fun iv wr => ∃ i : Nat, i ≤ N ∧ iv = .int .i64 i ∧ Hid (Below w.heap.size w wr)) (fun iv _ => N - (intOf iv).toNat)
  case atStart => exact ⟨0, Nat.zero_le _, rfl, HB1⟩
  case round =>
    clear HB1 cS
    obtain ⟨i, hi, rfl, HB⟩ := hrel
    by_cases hlt : i < N
    · have hltz : (i : Int) < (N : Int) := by omega
      have hip : i < ps.length := by have := unhide HN; omega
      have hq := unhide HLS ps[i] (List.getElem_mem hip)
      obtain ⟨L, hL⟩ : ∃ L, ps[i].length = L := ⟨_, rfl⟩
      go_wp2_with fail
      go_loopw [6] (fun kv wr => ∃ k : Nat, k ≤ L ∧ kv = .int .i64 k ∧ Hid (Below w.heap.size w wr)) (fun kv _ => L - (intOf kv).toNat)
      case atStart => exact ⟨0, Nat.zero_le _, rfl, HB⟩
      case round =>
        clear HB
        obtain ⟨k, hk, rfl, HB⟩ := hrel
        obtain ⟨g1, o1, pa1, pc1, rfl, c1, hp1⟩ := (unhide H1 wr (unhide HB)).par i hip
        obtain ⟨g2, o2, pa2, pc2, rfl, c2, hp2⟩ := (unhide H2 wr (unhide HB)).par i hip
        rw [hL] at c1 c2
        by_cases hlt2 : k < L
        · have hlt2z : (k : Int) < (L : Int) := by omega
          have hkp : k < ps[i].length := by omega
          obtain ⟨q1, r1, rfl, f1⟩ := hp1.fld k hkp
          obtain ⟨q2, r2, rfl, f2⟩ := hp2.fld k hkp
          have hfl := hq.2 ps[i][k] (List.getElem_mem hkp)
          obtain ⟨na1, nc1, n1, m1⟩ := f1.ns
          obtain ⟨na2, nc2, n2, m2⟩ := f2.ns
          have cM := hide (fun (w2 : World) (hb : Below wr.heap.size wr w2) => numbers_same ps[i][k].ns na1 na2 nc1 nc2 w2 hfl.2 (m1.later hb) (m2.later hb))
          have HPp := hide (fun (w2 : World) (hb : Below wr.heap.size wr w2) => show w2.cell? ⟨g1, o1 + i, none⟩ = some (.slice (some ⟨q1, r1, none⟩) L pc1) ∧ w2.cell? ⟨g2, o2 + i, none⟩ = some (.slice (some ⟨q2, r2, none⟩) L pc2) ∧ w2.cell? ⟨q1, r1 + k * 3 + 2, none⟩ = some (.slice na1 ps[i][k].ns.length nc1) ∧ w2.cell? ⟨q2, r2 + k * 3 + 2, none⟩ = some (.slice na2 ps[i][k].ns.length nc2) from ⟨cell_later c1 hb, cell_later c2 hb, cell_later n1 hb, cell_later n2 hb⟩)
          clear hp1 hp2 f1 f2 m1 m2 hfl
          generalize ps[i][k].ns.length = M at *
          have B0 := hide ((Below.refl wr.heap.size wr).drew)
          go_wp2_with fail
          go_region_held3 (fun w2 => w2.cell? ⟨g1, o1 + i, none⟩ = some (.slice (some ⟨q1, r1, none⟩) L pc1) ∧ w2.cell? ⟨g2, o2 + i, none⟩ = some (.slice (some ⟨q2, r2, none⟩) L pc2) ∧ w2.cell? ⟨q1, r1 + k * 3 + 2, none⟩ = some (.slice na1 M nc1) ∧ w2.cell? ⟨q2, r2 + k * 3 + 2, none⟩ = some (.slice na2 M nc2)) (first | exact unhide HPp _ (unhide B0) | exact unhide HPp _ (unhide B5)) (first | (go_at_call 34; refine (unhide cM _ (unhide B0)).mono ?_; rintro x5 w5 ⟨rfl, hb5⟩; have B5 := hide ((unhide B0).trans (hb5.mono (unhide B0).size)); clear hb5))
          go_wp2_with fail
          have HB6 := hide (bl_t (unhide HB) (unhide B5))
          go_roundw
          case rel => exact ⟨k + 1, by omega, by go_num, HB6⟩
          case measure => simp [intOf]; omega
        · have hlt2z : ¬ (k : Int) < (L : Int) := by omega
          go_wp2_with fail
          go_roundw
          case rel => exact ⟨i + 1, by omega, by go_num, HB⟩
          case measure => simp [intOf]; omega
    · have hltz : ¬ (i : Int) < (N : Int) := by omega
      go_wp2_with fail
      go_ret
      exact ⟨rfl, unhide HB⟩
end Go.Proofs.YtocjcbdkihbbiaaDoor
