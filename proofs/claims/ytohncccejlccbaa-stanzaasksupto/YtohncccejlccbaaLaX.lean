import Derived.Deep.QuietTactic
import Derived.BigQuiet
import Derived.Deep.RegionHeld3
import Derived.Test.YtohncccejlccbaaAsB
import Derived.Deep.AppendLies
namespace Go.Proofs.Ytohncccejlccbaa
open Go.RowKit

/-- A FIELD WITH WHATEVER NUMBERS. -/
structure Gd where
  nm : Bs
  ls : List Bs
  ns : List Int
def intz (l : List Int) : List Value := l.map fun n => Value.int .i64 n
structure FdZ (W : World) (g o : Nat) (f : Gd) : Prop where
  nm : W.cell? ⟨g, o, none⟩ = some (.string (ba f.nm))
  ls : ∃ pa c, W.cell? ⟨g, o + 1, none⟩ = some (.slice pa f.ls.length c) ∧ f.ls.length ≤ c ∧ Cl W pa (strs f.ls)
  ns : ∃ na nc, W.cell? ⟨g, o + 2, none⟩ = some (.slice na f.ns.length nc) ∧ Cl W na (intz f.ns)
theorem FdZ.later {W W2 : World} {g o : Nat} {f : Gd} (h : FdZ W g o f) (hb : Below W.heap.size W W2) : FdZ W2 g o f := by
  obtain ⟨pa, c, h1, h2, h3⟩ := h.ls
  obtain ⟨na, nc, h5, h6⟩ := h.ns
  exact ⟨cell_later h.nm hb, ⟨pa, c, cell_later h1 hb, h2, h3.later hb⟩, ⟨na, nc, cell_later h5 hb, h6.later hb⟩⟩
def ParZ (W : World) (v : Value) (p : List Gd) : Prop :=
  ∃ pa c, v = .slice pa p.length c ∧ p.length ≤ c ∧ (0 < p.length → ∃ g o, pa = some ⟨g, o, none⟩ ∧ ∀ i f, p[i]? = some f → FdZ W g (o + i * 3) f)
theorem ParZ.later {W W2 : World} {v : Value} {p : List Gd} (h : ParZ W v p) (hb : Below W.heap.size W W2) : ParZ W2 v p := by
  obtain ⟨pa, c, h1, hc, h2⟩ := h
  refine ⟨pa, c, h1, hc, fun h0 => ?_⟩
  obtain ⟨g, o, h3, h4⟩ := h2 h0
  exact ⟨g, o, h3, fun i f hi => (h4 i f hi).later hb⟩
def DocZ (W : World) (v : Value) (ps : List (List Gd)) : Prop :=
  ∃ pa c, v = .slice pa ps.length c ∧ (0 < ps.length → ∃ g o, pa = some ⟨g, o, none⟩ ∧ ∀ i p, ps[i]? = some p → ∃ u, W.cell? ⟨g, o + i, none⟩ = some u ∧ ParZ W u p)
theorem DocZ.later {W W2 : World} {v : Value} {ps : List (List Gd)} (h : DocZ W v ps) (hb : Below W.heap.size W W2) : DocZ W2 v ps := by
  obtain ⟨pa, c, h1, h2⟩ := h
  refine ⟨pa, c, h1, fun h0 => ?_⟩
  obtain ⟨g, o, h3, h4⟩ := h2 h0
  refine ⟨g, o, h3, fun i p hi => ?_⟩
  obtain ⟨u, h5, h6⟩ := h4 i p hi
  exact ⟨u, cell_later h5 hb, h6.later hb⟩
theorem drewN_two2 (w : World) (a b : Nat) : (w.drewN a).drewN b = w.drewN (a + b) := by
  unfold World.drewN
  simp [Nat.add_assoc]

set_option maxRecDepth 100000 in
set_option maxHeartbeats 2000000 in
theorem numbers_z (l : List Int) (pa qa : Option Addr) (pc qc : Nat) (w : World) (hl : l.length ≤ 16777216) (h1 : Cl w pa (intz l)) (h2 : Cl w qa (intz l)) :
    Calls Try.prog 25 #[.slice pa l.length pc, .slice qa l.length qc] w fun e w' => e = .returned (.bool true) ∧ Below w.heap.size w w' := by
  have H1 := hide h1
  have H2 := hide h2
  clear h1 h2
  go_enter Try.func25, Try.ntmps25
  go_wp2
  go_loopw [5] (fun iv wr => ∃ k : Nat, k ≤ l.length ∧ iv = .int .i64 k ∧ Hid (Below w.heap.size w wr)) (fun iv _ => l.length - (intOf iv).toNat)
  case atStart => exact ⟨0, Nat.zero_le _, rfl, hide (Below.refl _ _)⟩
  case round =>
    obtain ⟨k, hk, rfl, HB⟩ := hrel
    by_cases hlt : k < l.length
    · have hs : (intz l)[k]? = some (.int .i64 l[k]) := by simp [intz, hlt]
      have h0 : 0 < (intz l).length := by simp [intz]; omega
      obtain ⟨b, o, rfl, hc1⟩ := (unhide H1).later (unhide HB) h0
      obtain ⟨b2, o2, rfl, hc2⟩ := (unhide H2).later (unhide HB) h0
      have d1 := hc1 k _ hs
      have d2 := hc2 k _ hs
      generalize l[k] = tk at *
      clear hc1 hc2 hs h0
      go_wp2
      go_region
      go_wp2
      go_roundw
      case rel => exact ⟨k + 1, by omega, by go_num, hide ((unhide HB).drew)⟩
      case measure => simp [intOf]; omega
    · go_wp2
      go_ret
      exact ⟨rfl, unhide HB⟩


/-- What is asked of the i-th paragraph and its k-th field, as it lies. -/
theorem DocZ.par {W : World} {a : Option Addr} {n c : Nat} {ps : List (List Gd)} (h : DocZ W (.slice a n c) ps) (i : Nat) (hi : i < ps.length) : ∃ g o pa pc, a = some ⟨g, o, none⟩ ∧ W.cell? ⟨g, o + i, none⟩ = some (.slice pa ps[i].length pc) ∧ ParZ W (.slice pa ps[i].length pc) ps[i] := by
  obtain ⟨a', c', e, h2⟩ := h
  cases e
  obtain ⟨g, o, rfl, h3⟩ := h2 (by omega)
  obtain ⟨u, hu, hp⟩ := h3 i ps[i] (List.getElem?_eq_getElem hi)
  obtain ⟨pa, pc, rfl, hq⟩ := hp
  exact ⟨g, o, pa, pc, rfl, hu, ⟨pa, pc, rfl, hq⟩⟩
theorem DocZ.len {W : World} {a : Option Addr} {n c : Nat} {ps : List (List Gd)} (h : DocZ W (.slice a n c) ps) : n = ps.length := by
  obtain ⟨a', c', e, _⟩ := h
  cases e
  rfl
theorem ParZ.fld {W : World} {a : Option Addr} {n c : Nat} {p : List Gd} (h : ParZ W (.slice a n c) p) (k : Nat) (hk : k < p.length) : ∃ g o, a = some ⟨g, o, none⟩ ∧ FdZ W g (o + k * 3) p[k] := by
  obtain ⟨a', c', e, _, h2⟩ := h
  cases e
  obtain ⟨g, o, rfl, h3⟩ := h2 (by omega)
  exact ⟨g, o, rfl, h3 k p[k] (List.getElem?_eq_getElem hk)⟩

set_option maxRecDepth 100000 in
set_option maxHeartbeats 4000000 in
theorem rSame_z (ps : List (List Gd)) (va ua : Option Addr) (vc uc : Nat) (w : World) (hl : ps.length ≤ 16777217) (hls : ∀ p ∈ ps, p.length ≤ 16777216 ∧ ∀ f ∈ p, f.ls.length ≤ 16777216) (h1 : DocZ w (.slice va ps.length vc) ps) (h2 : DocZ w (.slice ua ps.length uc) ps) :
    Calls Try.prog 18 #[.slice va ps.length vc, .slice ua ps.length uc] w fun e w' => e = .returned (.bool true) ∧ ∃ n, w' = w.drewN n := by
  have H1 := hide h1
  have H2 := hide h2
  have HLS := hide hls
  obtain ⟨N, hN⟩ : ∃ N, ps.length = N := ⟨_, rfl⟩
  rw [hN] at hl ⊢
  have HN := hide hN
  clear h1 h2 hls hN
  go_enter Try.func18, Try.ntmps18
  go_wp2_with fail
  go_loopw [5] (fun iv wr => ∃ i n : Nat, i ≤ N ∧ iv = .int .i64 i ∧ wr = w.drewN n) (fun iv _ => N - (intOf iv).toNat)
  case atStart => exact ⟨0, 0, Nat.zero_le _, rfl, rfl⟩
  case round =>
    obtain ⟨i, n, hi, rfl, rfl⟩ := hrel
    by_cases hlt : i < N
    · have hltz : (i : Int) < (N : Int) := by omega
      have hip : i < ps.length := by have := unhide HN; omega
      obtain ⟨g1, o1, pa1, pc1, rfl, c1, hp1⟩ := (unhide H1).par i hip
      obtain ⟨g2, o2, pa2, pc2, rfl, c2, hp2⟩ := (unhide H2).par i hip
      have hq := unhide HLS ps[i] (List.getElem_mem hip)
      have HP1 := hide hp1
      have HP2 := hide hp2
      have HQ := hide hq.2
      have hpl := hq.1
      clear hp1 hp2 hq
      generalize ps[i] = p at *
      obtain ⟨L, hL⟩ : ∃ L, p.length = L := ⟨_, rfl⟩
      rw [hL] at c1 c2 HP1 HP2 hpl
      have HL := hide hL
      clear hL
      go_wp2_with fail
      go_quiet (fail)
      go_wp2_with fail
      go_loopw [6] (fun kv wr => ∃ k n : Nat, k ≤ L ∧ kv = .int .i64 k ∧ wr = w.drewN n) (fun kv _ => L - (intOf kv).toNat)
      case atStart => exact ⟨0, _, Nat.zero_le _, rfl, (drewN_two2 w _ _)⟩
      case round =>
        obtain ⟨k, n, hk, rfl, rfl⟩ := hrel
        by_cases hlt2 : k < L
        · have hlt2z : (k : Int) < (L : Int) := by omega
          have hkp : k < p.length := by have := unhide HL; omega
          obtain ⟨q1, r1, rfl, f1⟩ := (unhide HP1).fld k hkp
          obtain ⟨q2, r2, rfl, f2⟩ := (unhide HP2).fld k hkp
          have hfl := unhide HQ p[k] (List.getElem_mem hkp)
          have n1 := f1.nm
          have n2 := f2.nm
          obtain ⟨la1, cc1, l1, _, m1⟩ := f1.ls
          obtain ⟨la2, cc2, l2, _, m2⟩ := f2.ls
          have HM1 := hide m1
          have HM2 := hide m2
          clear f1 f2 m1 m2
          generalize p[k] = f at *
          obtain ⟨M, hM⟩ : ∃ M, f.ls.length = M := ⟨_, rfl⟩
          rw [hM] at l1 l2 hfl
          have HM := hide hM
          generalize ba f.nm = nm at *
          clear hM
          go_wp2_with fail
          go_quiet (fail)
          go_wp2_with fail
          go_loopw [7] (fun mv wr => ∃ m n : Nat, m ≤ M ∧ mv = .int .i64 m ∧ wr = w.drewN n) (fun mv _ => M - (intOf mv).toNat)
          case atStart => exact ⟨0, _, Nat.zero_le _, rfl, (drewN_two2 w _ _)⟩
          case round =>
            obtain ⟨m, n, hm, rfl, rfl⟩ := hrel
            by_cases hlt3 : m < M
            · have hlt3z : (m : Int) < (M : Int) := by omega
              have hmf : m < f.ls.length := by have := unhide HM; omega
              have h0 : 0 < (strs f.ls).length := by rw [strs, List.length_map]; omega
              obtain ⟨b1, s1, rfl, y1⟩ := unhide HM1 h0
              obtain ⟨b2, s2, rfl, y2⟩ := unhide HM2 h0
              have x1 := y1 m (.string (ba f.ls[m])) (by simp [strs, hmf])
              have x2 := y2 m (.string (ba f.ls[m])) (by simp [strs, hmf])
              clear y1 y2 h0 HM1 HM2
              generalize ba f.ls[m] = tx at *
              go_wp2_with fail
              go_quiet (fail)
              go_wp2_with fail
              go_roundw
              case rel => exact ⟨m + 1, _, by omega, by go_num, rfl⟩
              case measure => simp [intOf]; omega
            · have hlt3z : ¬ (m : Int) < (M : Int) := by omega
              go_wp2_with fail
              go_roundw
              case rel => exact ⟨k + 1, _, by omega, by go_num, rfl⟩
              case measure => simp [intOf]; omega
        · have hlt2z : ¬ (k : Int) < (L : Int) := by omega
          go_wp2_with fail
          go_roundw
          case rel => exact ⟨i + 1, _, by omega, by go_num, rfl⟩
          case measure => simp [intOf]; omega
    · have hltz : ¬ (i : Int) < (N : Int) := by omega
      go_wp2_with fail
      go_ret
      exact ⟨rfl, _, rfl⟩

set_option maxRecDepth 100000 in
set_option maxHeartbeats 4000000 in
theorem alike_z (ps : List (List Gd)) (va ua : Option Addr) (vc uc : Nat) (w : World) (hl : ps.length ≤ 16777217) (hls : ∀ p ∈ ps, p.length ≤ 16777216 ∧ ∀ f ∈ p, f.ls.length ≤ 16777216 ∧ f.ns.length ≤ 16777216) (h1 : DocZ w (.slice va ps.length vc) ps) (h2 : DocZ w (.slice ua ps.length uc) ps) :
    Calls Try.prog 7 #[.slice va ps.length vc, .slice ua ps.length uc] w fun e w' => e = .returned (.bool true) ∧ Below w.heap.size w w' := by
  have cS := hide (rSame_z ps va ua vc uc w hl (fun p hp => ⟨(hls p hp).1, fun f hf => ((hls p hp).2 f hf).1⟩) h1 h2)
  have H1 := hide (fun (W : World) (hb : Below w.heap.size w W) => h1.later hb)
  have H2 := hide (fun (W : World) (hb : Below w.heap.size w W) => h2.later hb)
  have HLS := hide hls
  obtain ⟨N, hN⟩ : ∃ N, ps.length = N := ⟨_, rfl⟩
  rw [hN] at hl cS H1 H2 ⊢
  have HN := hide hN
  clear h1 h2 hls hN
  go_enter Try.func7, Try.ntmps7
  go_wp2_with (go_at_call 18; refine (unhide cS).mono ?_; rintro e w1 ⟨rfl, q, rfl⟩; have HB1 := hide (bl_drewN w q))
  go_loopw [5] (fun iv wr => ∃ i : Nat, i ≤ N ∧ iv = .int .i64 i ∧ Hid (Below w.heap.size w wr)) (fun iv _ => N - (intOf iv).toNat)
  case atStart => exact ⟨0, Nat.zero_le _, rfl, HB1⟩
  case round =>
    clear HB1 cS
    obtain ⟨i, hi, rfl, HB⟩ := hrel
    by_cases hlt : i < N
    · have hltz : (i : Int) < (N : Int) := by omega
      have hip : i < ps.length := by have := unhide HN; omega
      have hq := unhide HLS ps[i] (List.getElem_mem hip)
      obtain ⟨L, hL⟩ : ∃ L, ps[i].length = L := ⟨_, rfl⟩
      go_wp2_with fail
      go_loopw [6] (fun kv wr => ∃ k : Nat, k ≤ L ∧ kv = .int .i64 k ∧ Hid (Below w.heap.size w wr)) (fun kv _ => L - (intOf kv).toNat)
      case atStart => exact ⟨0, Nat.zero_le _, rfl, HB⟩
      case round =>
        clear HB
        obtain ⟨k, hk, rfl, HB⟩ := hrel
        obtain ⟨g1, o1, pa1, pc1, rfl, c1, hp1⟩ := (unhide H1 wr (unhide HB)).par i hip
        obtain ⟨g2, o2, pa2, pc2, rfl, c2, hp2⟩ := (unhide H2 wr (unhide HB)).par i hip
        rw [hL] at c1 c2
        by_cases hlt2 : k < L
        · have hlt2z : (k : Int) < (L : Int) := by omega
          have hkp : k < ps[i].length := by omega
          obtain ⟨q1, r1, rfl, f1⟩ := hp1.fld k hkp
          obtain ⟨q2, r2, rfl, f2⟩ := hp2.fld k hkp
          have hfl := hq.2 ps[i][k] (List.getElem_mem hkp)
          obtain ⟨na1, nc1, n1, m1⟩ := f1.ns
          obtain ⟨na2, nc2, n2, m2⟩ := f2.ns
          have cM := hide (fun (w2 : World) (hb : Below wr.heap.size wr w2) => numbers_z ps[i][k].ns na1 na2 nc1 nc2 w2 hfl.2 (m1.later hb) (m2.later hb))
          have HPp := hide (fun (w2 : World) (hb : Below wr.heap.size wr w2) => show w2.cell? ⟨g1, o1 + i, none⟩ = some (.slice (some ⟨q1, r1, none⟩) L pc1) ∧ w2.cell? ⟨g2, o2 + i, none⟩ = some (.slice (some ⟨q2, r2, none⟩) L pc2) ∧ w2.cell? ⟨q1, r1 + k * 3 + 2, none⟩ = some (.slice na1 ps[i][k].ns.length nc1) ∧ w2.cell? ⟨q2, r2 + k * 3 + 2, none⟩ = some (.slice na2 ps[i][k].ns.length nc2) from ⟨cell_later c1 hb, cell_later c2 hb, cell_later n1 hb, cell_later n2 hb⟩)
          clear hp1 hp2 f1 f2 m1 m2 hfl
          generalize ps[i][k].ns.length = M at *
          have B0 := hide ((Below.refl wr.heap.size wr).drew)
          go_wp2_with fail
          go_region_held3 (fun w2 => w2.cell? ⟨g1, o1 + i, none⟩ = some (.slice (some ⟨q1, r1, none⟩) L pc1) ∧ w2.cell? ⟨g2, o2 + i, none⟩ = some (.slice (some ⟨q2, r2, none⟩) L pc2) ∧ w2.cell? ⟨q1, r1 + k * 3 + 2, none⟩ = some (.slice na1 M nc1) ∧ w2.cell? ⟨q2, r2 + k * 3 + 2, none⟩ = some (.slice na2 M nc2)) (first | exact unhide HPp _ (unhide B0) | exact unhide HPp _ (unhide B5)) (first | (go_at_call 25; refine (unhide cM _ (unhide B0)).mono ?_; rintro x5 w5 ⟨rfl, hb5⟩; have B5 := hide ((unhide B0).trans (hb5.mono (unhide B0).size)); clear hb5))
          go_wp2_with fail
          have HB6 := hide (bl_t (unhide HB) (unhide B5))
          go_roundw
          case rel => exact ⟨k + 1, by omega, by go_num, HB6⟩
          case measure => simp [intOf]; omega
        · have hlt2z : ¬ (k : Int) < (L : Int) := by omega
          go_wp2_with fail
          go_roundw
          case rel => exact ⟨i + 1, by omega, by go_num, HB⟩
          case measure => simp [intOf]; omega
    · have hltz : ¬ (i : Int) < (N : Int) := by omega
      go_wp2_with fail
      go_ret
      exact ⟨rfl, unhide HB⟩
end Go.Proofs.Ytohncccejlccbaa

namespace Go.Proofs.Ytohncccejlccbaa
open Go.RowKit

/-! twin, with the numbers kept (by mktwz.py, out of SgE and SgF). -/
structure FtZ where
  f : Gd
  lv : Value
  av : Value
def cellsZ (x : FtZ) : List Value := [.string (ba x.f.nm), x.lv, x.av]
structure FtokZ (W : World) (x : FtZ) : Prop where
  l : W.ownsRow 0 9 1 x.lv x.f.ls.length (strs x.f.ls)
  a : W.ownsRow 0 3 1 x.av x.f.ns.length (intz x.f.ns)
def PTZ (b0 : Nat) (W : World) (v : Value) (p : List Gd) : Prop := ∃ xs : List FtZ, xs.map (·.f) = p ∧ W.ownsRow b0 30 3 v xs.length (xs.flatMap cellsZ) ∧ ∀ x ∈ xs, FtokZ W x
theorem cellsZ_get : ∀ (xs : List FtZ) (i : Nat) (x : FtZ) (j : Nat) (u : Value), xs[i]? = some x → (cellsZ x)[j]? = some u → (xs.flatMap cellsZ)[i * 3 + j]? = some u
  | [], i, x, j, u, h, _ => by cases h
  | y :: r, 0, x, j, u, h, hu => by
    cases h
    have hj : j < (cellsZ y).length := (List.getElem?_eq_some_iff.1 hu).1
    rw [List.flatMap_cons, Nat.zero_mul, Nat.zero_add, List.getElem?_append_left hj]
    exact hu
  | y :: r, i + 1, x, j, u, h, hu => by
    have ih := cellsZ_get r i x j u h hu
    rw [List.flatMap_cons, show (i + 1) * 3 + j = (cellsZ y).length + (i * 3 + j) by simp [cellsZ]; omega, List.getElem?_append_right (by omega), Nat.add_sub_cancel_left]
    exact ih
theorem PTZ.parZ {b0 : Nat} {W : World} {v : Value} {p : List Gd} (h : PTZ b0 W v p) : ParZ W v p := by
  obtain ⟨xs, h1, h2, h3⟩ := h
  have hl : p.length = xs.length := by rw [← h1]; simp
  rcases h2.2 with ⟨e1, e2⟩ | ⟨g, cap, cur, e1, _, hg, hcp, _, _, htk⟩
  · exact ⟨none, 0, by rw [hl, e2]; exact e1, by omega, fun h0 => by omega⟩
  · refine ⟨some ⟨g, 0, none⟩, cap, by rw [hl]; exact e1, by omega, fun _ => ⟨g, 0, rfl, fun i f hi => ?_⟩⟩
    have hx : ∃ x, xs[i]? = some x ∧ x.f = f := by
      rw [← h1, List.getElem?_map] at hi
      cases hq : xs[i]? with
      | none => rw [hq] at hi; cases hi
      | some x => rw [hq] at hi; exact ⟨x, rfl, by simpa using hi⟩
    obtain ⟨x, hx, rfl⟩ := hx
    have hk := h3 x (List.mem_of_getElem? hx)
    have hc : ∀ j u, (cellsZ x)[j]? = some u → W.cell? ⟨g, 0 + i * 3 + j, none⟩ = some u := fun j u hu => by
      have e : W.cell? ⟨g, 0 + i * 3 + j, none⟩ = cur[0 + i * 3 + j]? := by simp [World.cell?, hg]
      rw [e, Nat.zero_add]
      exact take_get' htk (cellsZ_get xs i x j u hx hu)
    obtain ⟨pa, c, q1, q2, q3⟩ := own_cap hk.l
    obtain ⟨na, nc, q4, _, q5⟩ := own_cap hk.a
    exact ⟨hc 0 _ rfl, ⟨pa, c, by rw [← q1]; exact hc 1 _ rfl, q2, q3⟩, ⟨na, nc, by rw [← q4]; exact hc 2 _ rfl, q5⟩⟩
theorem PTZ.keep {b0 B0 : Nat} (hB : B0 ≤ b0) {W W' : World} {v : Value} {p : List Gd} (h : PTZ b0 W v p) (hk : ∀ (k : Nat) (c : Array Value) (t : TypeId), (t = 30 ∨ t = 9 ∨ t = 3) → W.heap[k]? = some (Obj.cells c t (0, 0)) → W'.heap[k]? = W.heap[k]?) : PTZ B0 W' v p := by
  obtain ⟨xs, h1, h2, h3⟩ := h
  exact ⟨xs, h1, (ownsRow_same h2 fun g c _ hg => hk g c 30 (.inl rfl) hg).mono hB, fun x hx => ⟨ownsRow_same (h3 x hx).l fun g c _ hg => hk g c 9 (.inr (.inl rfl)) hg, ownsRow_same (h3 x hx).a fun g c _ hg => hk g c 3 (.inr (.inr rfl)) hg⟩⟩
theorem PTZ_more {W2 W w8 : World} {vs : List Value} {ps : List (List Gd)} {i b0 B0 : Nat} (hB : B0 ≤ b0) {v1 : Value} {p1 : List Gd} (he : ∀ (j : Nat) v p, vs[j]? = some v → ps[j]? = some p → PTZ B0 W2 v p) (hb : Below W2.heap.size W2 W) (hp : PTZ b0 W v1 p1) (hvs : vs.length = i) (hpi : ps[i]? = some p1)
    (hk : ∀ (k : Nat) (c : Array Value) (t : TypeId), (t = 30 ∨ t = 9 ∨ t = 3) → W.heap[k]? = some (Obj.cells c t (0, 0)) → w8.heap[k]? = W.heap[k]?) : ∀ (j : Nat) v p, (vs ++ [v1])[j]? = some v → ps[j]? = some p → PTZ B0 w8 v p := by
  intro j v p h1 h2
  by_cases hj : j < vs.length
  · rw [List.getElem?_append_left hj] at h1
    have h := he j v p h1 h2
    have h' : PTZ B0 W v p := h.keep (Nat.le_refl _) fun k c t _ hc => hb.block k (Array.getElem?_eq_some_iff.1 hc).1
    exact h'.keep (Nat.le_refl _) hk
  · rw [List.getElem?_append_right (by omega)] at h1
    have hj0 : j - vs.length = 0 := by
      have := (List.getElem?_eq_some_iff.1 h1).1
      simp at this
      omega
    rw [hj0] at h1
    cases h1
    obtain rfl : j = i := by omega
    rw [hpi] at h2
    cases h2
    exact hp.keep hB hk
theorem docZ_of {b : Nat} {W : World} {lv : Value} {vs : List Value} {ps : List (List Gd)} (hl : vs.length = ps.length) (hr : W.ownsRow b 22 1 lv vs.length vs) (he : ∀ (i : Nat) v p, vs[i]? = some v → ps[i]? = some p → ParZ W v p) : DocZ W lv ps := by
  obtain ⟨pa, c, hv, _, hC⟩ := own_cap hr
  refine ⟨pa, c, by rw [← hl]; exact hv, fun h0 => ?_⟩
  obtain ⟨g, o, h1, h2⟩ := hC (by omega)
  refine ⟨g, o, h1, fun i p hi => ?_⟩
  have hlt : i < vs.length := by have := (List.getElem?_eq_some_iff.1 hi).1; omega
  exact ⟨vs[i], h2 i _ (List.getElem?_eq_getElem hlt), he i _ p (List.getElem?_eq_getElem hlt) hi⟩

/-- Paragraphs in new memory. -/
def TwO (b : Nat) (W : World) (u : Value) (ps : List (List Gd)) : Prop := ∃ vs : List Value, vs.length = ps.length ∧ W.ownsRow b 22 1 u vs.length vs ∧ ∀ (j : Nat) v p, vs[j]? = some v → ps[j]? = some p → PTZ b W v p
theorem twin_fieldZ (base : Nat) (W w2 w4 w7 : World) (pv pv' : Value) (xs : List FtZ) (f : Gd) (lv av : Value) (o1 o3 : Obj) (hb : base ≤ W.heap.size)
    (hrow : W.ownsRow base 30 3 pv xs.length (xs.flatMap cellsZ)) (hok : ∀ x ∈ xs, FtokZ W x)
    (b2 : Below (W.heap.size + 1) (W.alloc o1) w2) (hO2 : w2.ownsRow base 9 1 lv f.ls.length (strs f.ls)) (e2 : lv.ownBlock = none ∨ lv.ownBlock = some (W.heap.size + 1))
    (b4 : Below w2.heap.size (w2.setCell ⟨W.heap.size, 1, none⟩ lv) w4) (hO4 : w4.ownsRow base 3 1 av f.ns.length (intz f.ns)) (e4 : av.ownBlock = none ∨ av.ownBlock = some w2.heap.size)
    (hg7 : ((w4.setCell ⟨W.heap.size, 2, none⟩ av).alloc o3).grownBy w7 pv.ownBlock)
    (hO7 : w7.ownsRow base 30 3 pv' (xs.length + 1) (xs.flatMap cellsZ ++ [.string (ba f.nm), lv, av])) :
    PTZ base w7 pv' (xs.map (·.f) ++ [f]) ∧ Below base W w7 := by
  have z2 : W.heap.size + 1 ≤ w2.heap.size := by have := b2.size; simpa using this
  have z4 : w2.heap.size ≤ w4.heap.size := by have := b4.size; rw [set_size] at this; exact this
  have z7 : w4.heap.size + 1 ≤ w7.heap.size := by have := hg7.size; rw [World.size_alloc, set_size] at this; exact this
  have hpb : ∀ g, pv.ownBlock = some g → base ≤ g ∧ g < W.heap.size := fun g hg => (ownsRow_blk hrow hg).choose_spec.2
  have k7 : ∀ k, k < w4.heap.size → k ≠ W.heap.size → some k ≠ pv.ownBlock → w7.heap[k]? = w4.heap[k]? := fun k h1 h2 h3 =>
    (hg7.block k (by rw [World.size_alloc, set_size]; omega) h3).trans ((Below.heap_alloc _ _ k (by rw [set_size]; exact h1)).trans (set_other _ _ _ _ _ h2))
  have k4 : ∀ k, k < w2.heap.size → k ≠ W.heap.size → w4.heap[k]? = w2.heap[k]? := fun k h1 h2 => (b4.block k h1).trans (set_other _ _ _ _ _ h2)
  have k0 : ∀ k, k < W.heap.size → some k ≠ pv.ownBlock → w7.heap[k]? = W.heap[k]? := fun k h1 h3 =>
    (k7 k (by omega) (by omega) h3).trans ((k4 k (by omega) (by omega)).trans ((b2.block k (by omega)).trans (Below.heap_alloc W o1 k h1)))
  refine ⟨⟨xs ++ [⟨f, lv, av⟩], by simp, ?_, ?_⟩, ?_⟩
  · rw [List.length_append, List.flatMap_append]
    simpa [cellsZ] using hO7
  · intro x hx
    rcases List.mem_append.1 hx with hx | hx
    · have h := hok x hx
      have hne : ∀ (g : Nat) (t : TypeId) (c : Array Value), t ≠ 30 → W.heap[g]? = some (.cells c t (0, 0)) → some g ≠ pv.ownBlock := fun g t c ht hg e => by
        obtain ⟨c', h1, _⟩ := ownsRow_blk hrow e.symm
        rw [hg] at h1
        cases h1
        exact ht rfl
      exact ⟨ownsRow_same h.l fun g c hg hc => k0 g (Array.getElem?_eq_some_iff.1 hc).1 (hne g 9 c (by decide) hc), ownsRow_same h.a fun g c hg hc => k0 g (Array.getElem?_eq_some_iff.1 hc).1 (hne g 3 c (by decide) hc)⟩
    · rw [List.mem_singleton.1 hx]
      refine ⟨(ownsRow_same hO2 fun g c hg hc => ?_).mono (Nat.zero_le _), (ownsRow_same hO4 fun g c hg hc => ?_).mono (Nat.zero_le _)⟩
      · have e : g = W.heap.size + 1 := by
          rcases e2 with e2 | e2
          · rw [e2] at hg; cases hg
          · rw [e2] at hg; cases hg; rfl
        have glt : g < w2.heap.size := (Array.getElem?_eq_some_iff.1 hc).1
        exact (k7 g (by omega) (by omega) (fun e' => by have := (hpb g e'.symm).2; omega)).trans (k4 g glt (by omega))
      · have e : g = w2.heap.size := by
          rcases e4 with e4 | e4
          · rw [e4] at hg; cases hg
          · rw [e4] at hg; cases hg; rfl
        have glt : g < w4.heap.size := (Array.getElem?_eq_some_iff.1 hc).1
        exact k7 g glt (by omega) (fun e' => by have := (hpb g e'.symm).2; omega)
  · have bA : Below base W (W.alloc o1) := (Below.refl _ _).alloc hb _
    have bB := bA.trans (b2.mono (by omega))
    have bC : Below base W (w2.setCell ⟨W.heap.size, 1, none⟩ lv) := ⟨bB.os, bB.tape, bB.output, by rw [set_size]; exact bB.size, fun k hk => (set_other _ _ _ _ _ (by omega)).trans (bB.block k hk)⟩
    have bD := bC.trans (b4.mono (by omega))
    have bE : Below base W (w4.setCell ⟨W.heap.size, 2, none⟩ av) := ⟨bD.os, bD.tape, bD.output, by rw [set_size]; exact bD.size, fun k hk => (set_other _ _ _ _ _ (by omega)).trans (bD.block k hk)⟩
    have bF := bE.alloc (Nat.le_trans hb bE.size) o3
    exact bF.grown hg7 (Nat.le_trans hb bF.size) fun g hg => (hpb g hg).1

attribute [local go_sem] World.cell?_alloc_some

set_option maxRecDepth 100000 in
set_option maxHeartbeats 8000000 in
theorem twin_o (ps : List (List Gd)) (v : Value) (w : World) (hl : ps.length ≤ 16777216) (hls : ∀ x ∈ ps, x.length ≤ 16777216 ∧ ∀ f ∈ x, f.ls.length ≤ 16777216 ∧ f.ns.length ≤ 16777216) (hD : DocZ w v ps) :
    Calls Try.prog 19 #[v] w fun e w' => ∃ u, e = .returned u ∧ TwO w.heap.size w' u ps ∧ Below w.heap.size w w' := by
  obtain ⟨i9, hi9, z9a, z9b, z9c⟩ := info_parts info9
  obtain ⟨i3, hi3, z3a, z3b, z3c⟩ := info_parts info3
  obtain ⟨i49, hi49, z49a, z49b, z49c⟩ := info_parts info49
  obtain ⟨i39, hi39, z39a, z39b, z39c⟩ := info_parts info39
  obtain ⟨va, vc, rfl, hD⟩ := hD
  have HD := hide hD
  have HLS := hide hls
  clear hD hls
  go_enter Try.func19, Try.ntmps19
  go_wp2
  go_loopw [3, 4] (fun lv iv wr => ∃ (i : Nat) (l : Value) (vs : List Value), i ≤ ps.length ∧ iv = .int .i64 i ∧ lv = l ∧ vs.length = i ∧ Hid (wr.ownsRow w.heap.size 22 1 l i vs) ∧ Hid (∀ (j : Nat) v p, vs[j]? = some v → ps[j]? = some p → PTZ w.heap.size wr v p) ∧ Hid (Below w.heap.size w wr)) (fun _ iv _ => ps.length - (intOf iv).toNat)
  case atStart => exact ⟨0, .slice none 0 0, [], Nat.zero_le _, rfl, rfl, rfl, hide (World.ownsRow_nil _ _ _ _), hide (fun j v p h => by cases h), hide (Below.refl _ _)⟩
  case round =>
    obtain ⟨i, l, vs, hi, rfl, rfl, hvs, HO, HE, HB⟩ := hrel
    rename World => W2
    by_cases hlt : i < ps.length
    · obtain ⟨g, o, rfl, hd⟩ := unhide HD (by omega)
      obtain ⟨u, u1, u2⟩ := hd i _ (List.getElem?_eq_getElem hlt)
      obtain ⟨q1, q2⟩ := unhide HLS _ (List.getElem_mem hlt)
      obtain ⟨ua, uc, rfl, -, hf⟩ := u2
      have HU := hide u1
      have HF := hide hf
      have HQ := hide q2
      have HP := hide (show ps[i]? = some ps[i] from List.getElem?_eq_getElem hlt)
      have hz2 := (unhide HB).size
      clear hd hf u1 q2
      generalize ps[i] = p at *
      go_wp2
      go_loopw [5, 6] (fun pv iv wr => ∃ (k : Nat) (q : Value), k ≤ p.length ∧ iv = .int .i64 k ∧ pv = q ∧ Hid (PTZ W2.heap.size wr q (p.take k)) ∧ Hid (Below W2.heap.size W2 wr)) (fun _ iv _ => p.length - (intOf iv).toNat)
      case atStart => exact ⟨0, _, Nat.zero_le _, rfl, rfl, hide ⟨[], rfl, World.ownsRow_nil _ _ _ _, fun x hx => by cases hx⟩, hide (Below.refl _ _)⟩
      case round =>
        obtain ⟨k, q, hk, rfl, rfl, HPO, HB2⟩ := hrel
        rename World => W
        have dU := cell_later (cell_later (unhide HU) (unhide HB)) (unhide HB2)
        by_cases hlt2 : k < p.length
        · obtain ⟨gg, oo, rfl, hf⟩ := unhide HF (by omega)
          have fc := ((hf k _ (List.getElem?_eq_getElem hlt2)).later (unhide HB)).later (unhide HB2)
          have f1 := unhide HQ _ (List.getElem_mem hlt2)
          have HT := hide (show p.take (k + 1) = p.take k ++ [p[k]] from List.take_succ_eq_append_getElem hlt2)
          obtain ⟨xs, x1, x2, x3⟩ := unhide HPO
          have hxl : xs.length = k := by have := congrArg List.length x1; rw [List.length_map, List.length_take] at this; omega
          have HX := hide (And.intro x2 x3)
          have HX1 := hide x1
          clear hf x1 x2 x3
          generalize p[k] = f at *
          obtain ⟨nm, ls, ns⟩ := f
          simp only at f1
          have e0 := fc.nm
          obtain ⟨la, lc, e1, _, es⟩ := fc.ls
          obtain ⟨f1, ez⟩ := f1
          obtain ⟨na, nc, e5, en⟩ := fc.ns
          have eo : ∀ u ∈ intz ns, u.oneCell' = true := by simp [intz, Value.oneCell']
          have hil : (intz ns).length = ns.length := by simp [intz]
          simp only at e0 e1 e5 es en
          have HIL := hide hil
          clear hil
          have HES := hide es
          have HEN := hide en
          have HEO := hide eo
          have hz3 := (unhide HB2).size
          clear fc es en eo
          generalize hnl : ls.length = nl at *
          have HNL := hide hnl
          clear hnl
          generalize hnn : ns.length = nn at *
          have HNN := hide hnn
          clear hnn
          go_wp2
          have HBW1 := hide (show Below W.heap.size W (W.alloc (.cells #[.string (ba nm), .slice none 0 0, .slice none 0 0] 30)) from (Below.refl _ _).alloc (Nat.le_refl _) _)
          have HBX1 := hide (World.alloc_heap_new W (.cells #[.string (ba nm), .slice none 0 0, .slice none 0 0] 30))
          have HS1 := hide (show (W.alloc (.cells #[.string (ba nm), .slice none 0 0, .slice none 0 0] 30)).heap.size = W.heap.size + 1 by simp)
          have HW1 := hide (show W.alloc (.cells #[.string (ba nm), .slice none 0 0, .slice none 0 0] 30) = W.alloc (.cells #[.string (ba nm), .slice none 0 0, .slice none 0 0] 30) from rfl)
          generalize hW1 : W.alloc (.cells #[.string (ba nm), .slice none 0 0, .slice none 0 0] 30) = W1 at *
          replace HW1 := hide hW1
          clear hW1
          have d1U := cell_later dU (unhide HBW1)
          have d11 := cell_later e1 (unhide HBW1)
          have d15 := (cell_blk (unhide HBX1) 1).1
          go_region_law (refine step_app (by rfl) _ _ 27 (by rfl) W2.heap.size 9 i9 (.string ⟨#[]⟩) 16 Try.underlying27 hi9 z9a z9b z9c rfl (by rfl) la nl lc (strs ls) (by rfl) (by rw [strs, List.length_map]; exact unhide HNL) (show Cl W1 la (strs ls) from (unhide HES).later (unhide HBW1)) (by simp [strs, Value.oneCell']) (by unfold maxLen; omega) (by omega) (by show W2.heap.size ≤ W1.heap.size; have := unhide HS1; omega) ?_; intro v2 w2 hown2 hgrow2 hv2; have HBX2 := hide ((hgrow2.block W.heap.size (by show W.heap.size < W1.heap.size; have := unhide HS1; omega) (by simp)).trans (unhide HBX1)); have d2 := (cell_blk (unhide HBX2) 1).1; have f2 := (cell_blk (unhide HBX2) 1).2; have HO2 := hide (show w2.ownsRow W2.heap.size 9 1 v2 nl (strs ls) from hown2); have HB12 := hide (show Below W1.heap.size W1 w2 from ⟨hgrow2.os, hgrow2.tape, hgrow2.output, hgrow2.size, fun k hk => hgrow2.block k hk (by simp)⟩); have HV2 := hide (show v2.ownBlock = none ∨ v2.ownBlock = some W1.heap.size from hv2); obtain ⟨a2, cap2, rfl, -, -⟩ := own_cap (unhide HO2); clear hown2 hgrow2 hv2)
          all_goals
            have HG2 := hide (show (Value.slice a2 nl cap2).ownBlock = none ∨ (Value.slice a2 nl cap2).ownBlock = some (W.heap.size + 1) by
              rw [← unhide HS1]; exact unhide HV2)
            have HB2a := hide (show Below (W.heap.size + 1) (W.alloc (.cells #[.string (ba nm), .slice none 0 0, .slice none 0 0] 30)) w2 by
              rw [unhide HW1, ← unhide HS1]; exact unhide HB12)
            have HBW3 := hide (show Below W.heap.size W (w2.setCell ⟨W.heap.size, 1, none⟩ (.slice a2 nl cap2)) from by
              have b := bl_t (unhide HBW1) (unhide HB12)
              exact ⟨b.os, b.tape, b.output, by rw [set_size]; exact b.size, fun k hk => (set_other _ _ _ _ _ (by omega)).trans (b.block k hk)⟩)
            have HBX3 := hide (show (w2.setCell ⟨W.heap.size, 1, none⟩ (.slice a2 nl cap2)).heap[W.heap.size]? = some (.cells #[.string (ba nm), .slice a2 nl cap2, .slice none 0 0] 30 (0, 0)) from set_blk (unhide HBX2) 1 _)
            have HS3 := hide (set_size w2 W.heap.size 1 (.slice a2 nl cap2))
            have HZ12 := hide (show W.heap.size + 1 ≤ w2.heap.size by have h := (unhide HB12).size; rw [unhide HS1] at h; exact h)
            clear HBX1 HBX2 d1U d11 d15 d2 f2 HBW1 HB12 HV2
            generalize hW3 : w2.setCell ⟨W.heap.size, 1, none⟩ (.slice a2 nl cap2) = W3 at *
            have HW3 := hide hW3
            clear hW3
            have d3U := cell_later dU (unhide HBW3)
            have d35 := cell_later e5 (unhide HBW3)
            have d32 := (cell_blk (unhide HBX3) 2).1
            go_wp2
            go_region_law (refine step_app (by rfl) _ _ 28 (by rfl) W2.heap.size 3 i3 (.int .i64 0) 8 Try.underlying28 hi3 z3a z3b z3c rfl (by rfl) na nn nc (intz ns) (by rfl) (unhide HIL) (show Cl W3 na (intz ns) from (unhide HEN).later (unhide HBW3)) (unhide HEO) (by unfold maxLen; omega) (by omega) (by show W2.heap.size ≤ W3.heap.size; have h1 := unhide HS3; have h2 := unhide HZ12; omega) ?_; intro v4 w4 hown4 hgrow4 hv4; have HBX4 := hide ((hgrow4.block W.heap.size (by show W.heap.size < W3.heap.size; have h1 := unhide HS3; have h2 := unhide HZ12; omega) (by simp)).trans (unhide HBX3)); have d4 := (cell_blk (unhide HBX4) 2).1; have f4 := (cell_blk (unhide HBX4) 2).2; have HO4 := hide (show w4.ownsRow W2.heap.size 3 1 v4 nn (intz ns) from hown4); have HB34 := hide (show Below W3.heap.size W3 w4 from ⟨hgrow4.os, hgrow4.tape, hgrow4.output, hgrow4.size, fun k hk => hgrow4.block k hk (by simp)⟩); have HV4 := hide (show v4.ownBlock = none ∨ v4.ownBlock = some W3.heap.size from hv4); obtain ⟨a4, cap4, rfl, -, -⟩ := own_cap (unhide HO4); clear hown4 hgrow4 hv4)
            all_goals
              have HG4 := hide (show (Value.slice a4 nn cap4).ownBlock = none ∨ (Value.slice a4 nn cap4).ownBlock = some w2.heap.size by
                rw [← unhide HS3]; exact unhide HV4)
              have HB4a := hide (show Below w2.heap.size (w2.setCell ⟨W.heap.size, 1, none⟩ (.slice a2 nl cap2)) w4 by
                rw [unhide HW3, ← unhide HS3]; exact unhide HB34)
              have HBW5 := hide (show Below W.heap.size W (w4.setCell ⟨W.heap.size, 2, none⟩ (.slice a4 nn cap4)) from by
                have b := bl_t (unhide HBW3) (unhide HB34)
                exact ⟨b.os, b.tape, b.output, by rw [set_size]; exact b.size, fun k hk => (set_other _ _ _ _ _ (by omega)).trans (b.block k hk)⟩)
              have HBX5 := hide (show (w4.setCell ⟨W.heap.size, 2, none⟩ (.slice a4 nn cap4)).heap[W.heap.size]? = some (.cells #[.string (ba nm), .slice a2 nl cap2, .slice a4 nn cap4] 30 (0, 0)) from set_blk (unhide HBX4) 2 _)
              clear HBX3 HBX4 d3U d35 d32 d4 f4 HBW3 HB34 HV4 HS3
              generalize hW5 : w4.setCell ⟨W.heap.size, 2, none⟩ (.slice a4 nn cap4) = W5 at *
              have HW5 := hide hW5
              clear hW5
              have y0 := (cell_blk (unhide HBX5) 0).1
              have y1 := (cell_blk (unhide HBX5) 1).1
              have y2 := (cell_blk (unhide HBX5) 2).1
              have HR5 := hide (ownsRow_bl (unhide HX).1 (unhide HBW5))
              have hz5 : W2.heap.size ≤ W5.heap.size := Nat.le_trans hz3 (unhide HBW5).size
              clear HBX5
              go_wp2_with (at_builtin; go_must (refine wpList_append_own _ rfl _ _ 22 rfl W2.heap.size 30 i49 (.agg #[.string ⟨#[]⟩, .slice none 0 0, .slice none 0 0]) 3 64 Try.underlying22 hi49 z49a z49b z49c rfl (by decide) _ _ _ rfl ((unhide HR5).alloc _) ⟨_, 0, none⟩ 1 1 [.string (ba nm), .slice a2 nl cap2, .slice a4 nn cap4] rfl rfl (cells3_new _ _ _ _ _) (by simp [Value.oneCell']) (by unfold maxLen; omega) (by omega) (by simp; omega) ?_); intro v7 w7 hown7 hgrow7 _; have HF7 := hide (twin_fieldZ W2.heap.size W w2 w4 w7 _ v7 xs ⟨nm, ls, ns⟩ _ _ _ _ hz3 (unhide HX).1 (unhide HX).2 (unhide HB2a) (by show w2.ownsRow W2.heap.size 9 1 _ ls.length (strs ls); rw [unhide HNL]; exact unhide HO2) (unhide HG2) (unhide HB4a) (by show w4.ownsRow W2.heap.size 3 1 _ ns.length (intz ns); rw [unhide HNN]; exact unhide HO4) (unhide HG4) (by rw [unhide HW5]; exact hgrow7) hown7); clear hown7 hgrow7)
              go_roundw
              case rel => exact ⟨k + 1, v7, by omega, by go_num, rfl, hide (by rw [unhide HT, ← unhide HX1]; exact (unhide HF7).1), hide ((unhide HB2).trans (unhide HF7).2)⟩
              case measure => simp [intOf]; omega
        · obtain rfl : k = p.length := by omega
          have HPO2 := hide (show PTZ W2.heap.size W u5 p by have h := unhide HPO; rw [List.take_length] at h; exact h)
          clear HPO
          obtain ⟨pa5, c5, rfl, _⟩ := (unhide HPO2).parZ
          have HR3 := hide (ownsRow_bl (unhide HO) (unhide HB2))
          have hz3 := (unhide HB2).size
          go_wp2_with (at_builtin; go_must (refine wpList_append_own _ rfl _ _ 23 rfl w.heap.size 22 i39 (.slice none 0 0) 1 24 Try.underlying23 hi39 z39a z39b z39c rfl (by decide) _ _ _ rfl ((unhide HR3).alloc _) ⟨_, 0, none⟩ 1 1 [_] rfl rfl (cell_one_new _ _ _) (by simp [Value.oneCell']) (by unfold maxLen; omega) (by omega) (by simp; omega) ?_); intro v8 w8 hown8 hgrow8 _; have HO8 := hide hown8; have HK8 := hide (show ∀ (k : Nat) (c : Array Value) (t : TypeId), (t = 30 ∨ t = 9 ∨ t = 3) → W.heap[k]? = some (Obj.cells c t (0, 0)) → w8.heap[k]? = W.heap[k]? from fun k c t ht hc => (hgrow8.block k (by have := (Array.getElem?_eq_some_iff.1 hc).1; simp; omega) (fun e => by obtain ⟨c', h1, _⟩ := ownsRow_blk (unhide HR3) e.symm; rw [hc] at h1; cases h1; simp at ht)).trans (Below.heap_alloc W _ k (Array.getElem?_eq_some_iff.1 hc).1)); have HB8 := hide ((bl_t (unhide HB) (unhide HB2)).alloc (Nat.le_trans hz2 hz3) _ |>.grown hgrow8 (by simp; omega) (fun j e => ((unhide HR3).lt j e).1)); clear hown8 hgrow8)
          go_roundw
          case rel => exact ⟨i + 1, v8, vs ++ [.slice pa5 p.length c5], by omega, by go_num, rfl, by simp [hvs], HO8, hide (PTZ_more hz2 (unhide HE) (unhide HB2) (unhide HPO2) hvs (unhide HP) (unhide HK8)), HB8⟩
          case measure => simp [intOf]; omega
    · obtain rfl : i = ps.length := by omega
      go_wp2
      go_ret
      exact ⟨_, rfl, ⟨vs, hvs, by rw [hvs]; exact unhide HO, unhide HE⟩, unhide HB⟩
theorem TwO.docZ {b : Nat} {W : World} {u : Value} {ps : List (List Gd)} (h : TwO b W u ps) : DocZ W u ps := by
  obtain ⟨vs, h1, h2, h3⟩ := h
  exact docZ_of h1 h2 fun j v p q1 q2 => (h3 j v p q1 q2).parZ
theorem twin_z (ps : List (List Gd)) (v : Value) (w : World) (hl : ps.length ≤ 16777216) (hls : ∀ x ∈ ps, x.length ≤ 16777216 ∧ ∀ f ∈ x, f.ls.length ≤ 16777216 ∧ f.ns.length ≤ 16777216) (hD : DocZ w v ps) :
    Calls Try.prog 19 #[v] w fun e w' => ∃ u, e = .returned u ∧ DocZ w' u ps ∧ Below w.heap.size w w' := (twin_o ps v w hl hls hD).mono fun _ _ ⟨u, h1, h2, h3⟩ => ⟨u, h1, h2.docZ, h3⟩

end Go.Proofs.Ytohncccejlccbaa

namespace Go.Proofs.Ytohncccejlccbaa
open Go.RowKit

/-! lentAll: paragraphs in new memory, with marks behind every row. -/

structure Lf where
  f : Gd
  lb : Nat
  lc : Nat
  ab : Nat
  ac : Nat
def cellsL (x : Lf) : List Value := [.string (ba x.f.nm), .slice (some ⟨x.lb, 0, none⟩) x.f.ls.length x.lc, .slice (some ⟨x.ab, 0, none⟩) x.f.ns.length x.ac]
def markS : List Value := [.string ⟨#[42]⟩, .string ⟨#[42, 42]⟩]
def markN : List Value := [.int .i64 (-7), .int .i64 (-8)]
structure LfOk (W : World) (x : Lf) : Prop where
  l : W.ownsRow 0 9 1 (.slice (some ⟨x.lb, 0, none⟩) (x.f.ls.length + 2) x.lc) (x.f.ls.length + 2) (strs x.f.ls ++ markS)
  a : W.ownsRow 0 3 1 (.slice (some ⟨x.ab, 0, none⟩) (x.f.ns.length + 2) x.ac) (x.f.ns.length + 2) (intz x.f.ns ++ markN)

/-- What the inner loop has laid: the row p, the row own, the fields' rows. -/
structure LP (b0 : Nat) (W : World) (pv ov : Value) (xs : List Lf) : Prop where
  p : W.ownsRow b0 30 3 pv xs.length (xs.flatMap cellsL)
  o : W.ownsRow b0 30 3 ov xs.length (xs.flatMap cellsL)
  po : ∀ g, pv.ownBlock = some g → ov.ownBlock ≠ some g
  f : ∀ x ∈ xs, LfOk W x ∧ b0 ≤ x.lb ∧ x.lb < W.heap.size ∧ b0 ≤ x.ab
  s : (xs.map (·.lb)).Pairwise (· < ·)

theorem cells2_new (w : World) (a b : Value) (t : TypeId) : ∀ j u, [a, b][j]? = some u → (w.alloc (.cells #[a, b] t)).cell? ((⟨w.heap.size, 0, none⟩ : Addr).add j) = some u := by
  intro j u h
  rw [show (⟨w.heap.size, 0, none⟩ : Addr).add j = ⟨w.heap.size, 0 + j, none⟩ by unfold Addr.add; split <;> simp_all, Nat.zero_add, World.cell?_alloc_at _ _ _ _ rfl]
  simpa using h
/-- Several ways that come to one and the same: shown once. -/
theorem merge {T G : Prop} (h : Hid T → G) (k : T) : G := h (hide k)
theorem below_set {W W2 : World} (h : Below W.heap.size W W2) (b j : Nat) (u : Value) (hb : W.heap.size ≤ b) : Below W.heap.size W (W2.setCell ⟨b, j, none⟩ u) :=
  ⟨h.os, h.tape, h.output, by rw [set_size]; exact h.size, fun k hk => (set_other _ _ _ _ _ (by omega)).trans (h.block k hk)⟩

theorem LP_more {b0 : Nat} {W W13 w15 w17 : World} {pv ov : Value} {xs : List Lf} {x : Lf} {pb pcp ob ocp : Nat} {o1 o2 : Obj} (h : LP b0 W pv ov xs) (hb : b0 ≤ W.heap.size) (B : Below W.heap.size W W13)
    (hl : W13.ownsRow b0 9 1 (.slice (some ⟨x.lb, 0, none⟩) (x.f.ls.length + 2) x.lc) (x.f.ls.length + 2) (strs x.f.ls ++ markS))
    (ha : W13.ownsRow b0 3 1 (.slice (some ⟨x.ab, 0, none⟩) (x.f.ns.length + 2) x.ac) (x.f.ns.length + 2) (intz x.f.ns ++ markN))
    (hz : W.heap.size < x.lb ∧ W.heap.size < x.ab ∧ x.ab < W13.heap.size ∧ x.lb < W13.heap.size)
    (g15 : (W13.alloc o1).grownBy w15 pv.ownBlock) (r15 : w15.ownsRow b0 30 3 (.slice (some ⟨pb, 0, none⟩) (xs.length + 1) pcp) (xs.length + 1) (xs.flatMap cellsL ++ cellsL x)) (v15 : pv.ownBlock = some pb ∨ pb = W13.heap.size + 1)
    (g17 : (w15.alloc o2).grownBy w17 ov.ownBlock) (r17 : w17.ownsRow b0 30 3 (.slice (some ⟨ob, 0, none⟩) (xs.length + 1) ocp) (xs.length + 1) (xs.flatMap cellsL ++ cellsL x)) (v17 : ov.ownBlock = some ob ∨ ob = w15.heap.size + 1) :
    LP b0 w17 (.slice (some ⟨pb, 0, none⟩) (xs.length + 1) pcp) (.slice (some ⟨ob, 0, none⟩) (xs.length + 1) ocp) (xs ++ [x]) ∧ Below b0 W w17 := by
  have z13 := B.size
  have z15 : W13.heap.size + 1 ≤ w15.heap.size := by have := g15.size; simpa using this
  have z17 : w15.heap.size + 1 ≤ w17.heap.size := by have := g17.size; simpa using this
  have hpb : ∀ g, pv.ownBlock = some g → b0 ≤ g ∧ g < W.heap.size := fun g hg => (ownsRow_blk h.p hg).choose_spec.2
  have hob : ∀ g, ov.ownBlock = some g → b0 ≤ g ∧ g < W.heap.size := fun g hg => (ownsRow_blk h.o hg).choose_spec.2
  have k15 : ∀ k, k < W13.heap.size → some k ≠ pv.ownBlock → w15.heap[k]? = W13.heap[k]? := fun k h1 h2 => (g15.block k (by simp; omega) h2).trans (Below.heap_alloc W13 o1 k h1)
  have k17 : ∀ k, k < w15.heap.size → some k ≠ ov.ownBlock → w17.heap[k]? = w15.heap[k]? := fun k h1 h2 => (g17.block k (by simp; omega) h2).trans (Below.heap_alloc w15 o2 k h1)
  have kt : ∀ (k : Nat) (c : Array Value) (t : TypeId), t ≠ 30 → W13.heap[k]? = some (.cells c t (0, 0)) → w17.heap[k]? = W13.heap[k]? := fun k c t ht hk => by
    have hlt := (Array.getElem?_eq_some_iff.1 hk).1
    have hne : ∀ (v : Value), W.ownsRow b0 30 3 v xs.length (xs.flatMap cellsL) → some k ≠ v.ownBlock := fun v hv e => by
      obtain ⟨c', h1, _, h3⟩ := ownsRow_blk hv e.symm
      rw [← B.block k h3, hk] at h1
      cases h1
      exact ht rfl
    exact (k17 k (by omega) (hne ov h.o)).trans (k15 k hlt (hne pv h.p))
  have hpl : pb < w15.heap.size := (ownsRow_blk r15 rfl).choose_spec.2.2
  have hpo : some pb ≠ ov.ownBlock := fun e => by
    rcases v15 with q | q
    · exact h.po pb q e.symm
    · have := (hob pb e.symm).2
      omega
  refine ⟨⟨?_, ?_, ?_, ?_, ?_⟩, ?_⟩
  · rw [List.length_append, List.flatMap_append]
    refine ownsRow_same (xs := xs.flatMap cellsL ++ [x].flatMap cellsL) (by simpa using r15) fun g c hg hc => ?_
    cases hg
    exact k17 pb hpl hpo
  · rw [List.length_append, List.flatMap_append]
    simpa using r17
  · intro g hg e
    cases hg
    cases e
    rcases v17 with q | q
    · exact hpo q.symm
    · omega
  · intro y hy
    rcases List.mem_append.1 hy with hy | hy
    · obtain ⟨f1, f2, f3, f4⟩ := h.f y hy
      exact ⟨⟨ownsRow_same (ownsRow_bl f1.l B) fun g c hg hc => kt g c 9 (by decide) hc, ownsRow_same (ownsRow_bl f1.a B) fun g c hg hc => kt g c 3 (by decide) hc⟩, f2, by omega, f4⟩
    · rw [List.mem_singleton.1 hy]
      exact ⟨⟨(ownsRow_same hl fun g c hg hc => kt g c 9 (by decide) hc).mono (Nat.zero_le _), (ownsRow_same ha fun g c hg hc => kt g c 3 (by decide) hc).mono (Nat.zero_le _)⟩, by omega, by omega, by omega⟩
  · rw [List.map_append]
    refine List.pairwise_append.2 ⟨h.s, by simp, fun a ha b hb => ?_⟩
    obtain ⟨y, hy, rfl⟩ := List.mem_map.1 ha
    have := (h.f y hy).2.2.1
    simp at hb
    subst hb
    omega
  · have b1 := ((B.mono hb).alloc (Nat.le_trans hb z13) o1).grown g15 (by simp; omega) fun g hg => (hpb g hg).1
    exact (b1.alloc (by omega) o2).grown g17 (by simp; omega) fun g hg => (hob g hg).1

/-- A paragraph that was lent: its fields, its row with marks behind it, the row 'own'. -/
structure Lq where
  xs : List Lf
  pb : Nat
  pc : Nat
  ov : Value
def pcell (q : Lq) : Value := .slice (some ⟨q.pb, 0, none⟩) q.xs.length q.pc
def markF : List Value := [.string ⟨#[42]⟩, .slice none 0 0, .slice none 0 0, .string ⟨#[42, 42]⟩, .slice none 0 0, .slice none 0 0]
structure LqOk (lo : Nat) (W : World) (q : Lq) : Prop where
  p : W.ownsRow lo 30 3 (.slice (some ⟨q.pb, 0, none⟩) (q.xs.length + 2) q.pc) (q.xs.length + 2) (q.xs.flatMap cellsL ++ markF)
  o : W.ownsRow 0 30 3 q.ov q.xs.length (q.xs.flatMap cellsL)
  f : ∀ x ∈ q.xs, LfOk W x ∧ lo ≤ x.lb ∧ x.lb < W.heap.size ∧ lo ≤ x.ab
theorem LfOk.later {W W' : World} {x : Lf} (h : LfOk W x) (B : Below W.heap.size W W') : LfOk W' x := ⟨ownsRow_bl h.l B, ownsRow_bl h.a B⟩
theorem LqOk.later {lo : Nat} {W W' : World} {q : Lq} (h : LqOk lo W q) (B : Below W.heap.size W W') : LqOk lo W' q := ⟨ownsRow_bl h.p B, ownsRow_bl h.o B, fun x hx => ⟨(h.f x hx).1.later B, (h.f x hx).2.1, Nat.lt_of_lt_of_le (h.f x hx).2.2.1 B.size, (h.f x hx).2.2.2⟩⟩
/-- The same where blocks of the three kinds have not turned. -/
theorem LqOk.keep {lo : Nat} {W W' : World} {q : Lq} (h : LqOk lo W q) (hs : W.heap.size ≤ W'.heap.size) (hk : ∀ (k : Nat) (c : Array Value) (t : TypeId), (t = 30 ∨ t = 9 ∨ t = 3) → W.heap[k]? = some (Obj.cells c t (0, 0)) → W'.heap[k]? = W.heap[k]?) : LqOk lo W' q :=
  ⟨ownsRow_same h.p fun g c _ hc => hk g c 30 (.inl rfl) hc, ownsRow_same h.o fun g c _ hc => hk g c 30 (.inl rfl) hc, fun x hx =>
    ⟨⟨ownsRow_same (h.f x hx).1.l fun g c _ hc => hk g c 9 (.inr (.inl rfl)) hc, ownsRow_same (h.f x hx).1.a fun g c _ hc => hk g c 3 (.inr (.inr rfl)) hc⟩, (h.f x hx).2.1, Nat.lt_of_lt_of_le (h.f x hx).2.2.1 hs, (h.f x hx).2.2.2⟩⟩
/-- What lentAll has laid: the loan's own block X, its three rows, the paragraphs. -/
structure LL (b0 : Nat) (W : World) (X : Nat) (L P F : Value) (qs : List Lq) : Prop where
  x : W.heap[X]? = some (.cells #[L, P, F] 25 (0, 0))
  l : W.ownsRow b0 22 1 L qs.length (qs.map pcell)
  p : W.ownsRow b0 22 1 P qs.length (qs.map pcell)
  f : W.ownsRow b0 22 1 F qs.length (qs.map (·.ov))
  lp : ∀ g, L.ownBlock = some g → P.ownBlock ≠ some g ∧ F.ownBlock ≠ some g
  pf : ∀ g, P.ownBlock = some g → F.ownBlock ≠ some g
  q : ∀ q ∈ qs, LqOk b0 W q
  s : (qs.flatMap fun q => q.xs.map (·.lb)).Pairwise (· < ·)
theorem LL.later {b0 : Nat} {W W' : World} {X : Nat} {L P F : Value} {qs : List Lq} (h : LL b0 W X L P F qs) (B : Below W.heap.size W W') : LL b0 W' X L P F qs :=
  ⟨(B.block X (Array.getElem?_eq_some_iff.1 h.x).1).trans h.x, ownsRow_bl h.l B, ownsRow_bl h.p B, ownsRow_bl h.f B, h.lp, h.pf, fun q hq => (h.q q hq).later B, h.s⟩
/-- The inner loop's end, with the marks behind p. -/
theorem LP_end {b0 lo : Nat} {W w15 : World} {pv ov : Value} {xs : List Lf} {pb pcp : Nat} {o1 : Obj} (h : LP b0 W pv ov xs) (hlo : lo ≤ b0) (hb : b0 ≤ W.heap.size)
    (g15 : (W.alloc o1).grownBy w15 pv.ownBlock) (r15 : w15.ownsRow b0 30 3 (.slice (some ⟨pb, 0, none⟩) (xs.length + 2) pcp) (xs.length + 2) (xs.flatMap cellsL ++ markF)) :
    LqOk lo w15 ⟨xs, pb, pcp, ov⟩ ∧ Below b0 W w15 := by
  have z15 : W.heap.size + 1 ≤ w15.heap.size := by have := g15.size; simpa using this
  have k15 : ∀ k, k < W.heap.size → some k ≠ pv.ownBlock → w15.heap[k]? = W.heap[k]? := fun k h1 h2 => (g15.block k (by simp; omega) h2).trans (Below.heap_alloc W o1 k h1)
  have kt : ∀ (k : Nat) (c : Array Value) (t : TypeId), t ≠ 30 → W.heap[k]? = some (.cells c t (0, 0)) → w15.heap[k]? = W.heap[k]? := fun k c t ht hk => k15 k (Array.getElem?_eq_some_iff.1 hk).1 fun e => by
    obtain ⟨c', h1, _⟩ := ownsRow_blk h.p e.symm
    rw [hk] at h1
    cases h1
    exact ht rfl
  refine ⟨⟨r15.mono hlo, (ownsRow_same h.o fun g c hg hc => k15 g (Array.getElem?_eq_some_iff.1 hc).1 fun e => h.po g e.symm hg).mono (Nat.zero_le _), fun x hx => ?_⟩, ?_⟩
  · obtain ⟨f1, f2, f3, f4⟩ := h.f x hx
    exact ⟨⟨ownsRow_same f1.l fun g c _ hc => kt g c 9 (by decide) hc, ownsRow_same f1.a fun g c _ hc => kt g c 3 (by decide) hc⟩, by show lo ≤ x.lb; omega, by show x.lb < w15.heap.size; omega, by show lo ≤ x.ab; omega⟩
  · exact ((Below.refl b0 W).alloc hb o1).grown g15 (by simp; omega) fun g hg => (ownsRow_blk h.p hg).choose_spec.2.1

end Go.Proofs.Ytohncccejlccbaa

namespace Go.Proofs.Ytohncccejlccbaa
open Go.RowKit

/-- The loan's three rows, each at a length of its own. -/
structure LM (b0 : Nat) (W : World) (X : Nat) (L P F : Value) (la pa fa : List Value) (qs : List Lq) : Prop where
  x : W.heap[X]? = some (.cells #[L, P, F] 25 (0, 0))
  l : W.ownsRow b0 22 1 L la.length la
  p : W.ownsRow b0 22 1 P pa.length pa
  f : W.ownsRow b0 22 1 F fa.length fa
  lp : ∀ g, L.ownBlock = some g → P.ownBlock ≠ some g ∧ F.ownBlock ≠ some g
  pf : ∀ g, P.ownBlock = some g → F.ownBlock ≠ some g
  q : ∀ q ∈ qs, LqOk b0 W q
theorem LL.lm {b0 : Nat} {W : World} {X : Nat} {L P F : Value} {qs : List Lq} (h : LL b0 W X L P F qs) : LM b0 W X L P F (qs.map pcell) (qs.map pcell) (qs.map (·.ov)) qs :=
  ⟨h.x, by rw [List.length_map]; exact h.l, by rw [List.length_map]; exact h.p, by rw [List.length_map]; exact h.f, h.lp, h.pf, h.q⟩
theorem LM.ll {b0 : Nat} {W : World} {X : Nat} {L P F : Value} {qs : List Lq} (h : LM b0 W X L P F (qs.map pcell) (qs.map pcell) (qs.map (·.ov)) qs) (hs : (qs.flatMap fun q => q.xs.map (·.lb)).Pairwise (· < ·)) : LL b0 W X L P F qs :=
  ⟨h.x, by have := h.l; rwa [List.length_map] at this, by have := h.p; rwa [List.length_map] at this, by have := h.f; rwa [List.length_map] at this, h.lp, h.pf, h.q, hs⟩
theorem LM.drew {b0 : Nat} {W : World} {X : Nat} {L P F : Value} {la pa fa : List Value} {qs : List Lq} (h : LM b0 W X L P F la pa fa qs) : LM b0 W.drew X L P F la pa fa qs := ⟨h.x, h.l, h.p, h.f, h.lp, h.pf, fun q hq => ⟨(h.q q hq).p, (h.q q hq).o, fun x hx => ⟨⟨((h.q q hq).f x hx).1.l, ((h.q q hq).f x hx).1.a⟩, ((h.q q hq).f x hx).2⟩⟩⟩
theorem LM.appL {b0 B : Nat} {W w20 : World} {X : Nat} {L P F u : Value} {la pa fa : List Value} {qs : List Lq} {lg lgc : Nat} {o : Obj} (h : LM b0 W X L P F la pa fa qs) (hb : b0 ≤ W.heap.size) (hX : X < b0) (hB : B ≤ X) (g20 : (W.alloc o).grownBy w20 L.ownBlock) (r20 : w20.ownsRow b0 22 1 (.slice (some ⟨lg, 0, none⟩) (la.length + 1) lgc) (la.length + 1) (la ++ [u])) (v20 : L.ownBlock = some lg ∨ lg = W.heap.size + 1) :
    LM b0 (w20.setCell ⟨X, 0, none⟩ (.slice (some ⟨lg, 0, none⟩) (la.length + 1) lgc)) X (.slice (some ⟨lg, 0, none⟩) (la.length + 1) lgc) P F (la ++ [u]) pa fa qs ∧ Below B W (w20.setCell ⟨X, 0, none⟩ (.slice (some ⟨lg, 0, none⟩) (la.length + 1) lgc)) := by
  have z20 : W.heap.size + 1 ≤ w20.heap.size := by have := g20.size; simpa using this
  have hLb : ∀ g, L.ownBlock = some g → b0 ≤ g ∧ g < W.heap.size := fun g hg => (ownsRow_blk h.l hg).choose_spec.2
  have k20 : ∀ k, k < W.heap.size → some k ≠ L.ownBlock → w20.heap[k]? = W.heap[k]? := fun k h1 h2 => (g20.block k (by simp; omega) h2).trans (Below.heap_alloc W o k h1)
  have x20 : w20.heap[X]? = some (.cells #[L, P, F] 25 (0, 0)) := (k20 X (by omega) fun e => by have := (hLb X e.symm).1; omega).trans h.x
  have kt : ∀ (k : Nat) (c : Array Value) (t : TypeId), (t = 30 ∨ t = 9 ∨ t = 3) → W.heap[k]? = some (Obj.cells c t (0, 0)) → (w20.setCell ⟨X, 0, none⟩ (.slice (some ⟨lg, 0, none⟩) (la.length + 1) lgc)).heap[k]? = W.heap[k]? := fun k c t ht hk => by
    refine (set_other _ _ _ _ _ fun e => ?_).trans (k20 k (Array.getElem?_eq_some_iff.1 hk).1 fun e => ?_)
    · subst e
      rw [h.x] at hk
      cases hk
      simp at ht
    · obtain ⟨c', h1, _⟩ := ownsRow_blk h.l e.symm
      rw [hk] at h1
      cases h1
      simp at ht
  have ne1 : ∀ g, P.ownBlock = some g → L.ownBlock ≠ some g := fun g q e => (h.lp g e).1 q
  have kr1 : (w20.setCell ⟨X, 0, none⟩ (.slice (some ⟨lg, 0, none⟩) (la.length + 1) lgc)).ownsRow b0 22 1 P pa.length pa := ownsRow_same h.p fun g c hg hc => (set_other _ _ _ _ _ fun e => by have := (ownsRow_blk h.p hg).choose_spec.2.1; omega).trans (k20 g (Array.getElem?_eq_some_iff.1 hc).1 fun e => ne1 g hg e.symm)
  have nl1 : P.ownBlock ≠ some lg := fun e => by
    rcases v20 with q | q
    · exact ne1 lg e q
    · have := (ownsRow_blk h.p e).choose_spec.2.2
      omega
  have ne2 : ∀ g, F.ownBlock = some g → L.ownBlock ≠ some g := fun g q e => (h.lp g e).2 q
  have kr2 : (w20.setCell ⟨X, 0, none⟩ (.slice (some ⟨lg, 0, none⟩) (la.length + 1) lgc)).ownsRow b0 22 1 F fa.length fa := ownsRow_same h.f fun g c hg hc => (set_other _ _ _ _ _ fun e => by have := (ownsRow_blk h.f hg).choose_spec.2.1; omega).trans (k20 g (Array.getElem?_eq_some_iff.1 hc).1 fun e => ne2 g hg e.symm)
  have nl2 : F.ownBlock ≠ some lg := fun e => by
    rcases v20 with q | q
    · exact ne2 lg e q
    · have := (ownsRow_blk h.f e).choose_spec.2.2
      omega
  refine ⟨⟨?_, ?_, ?_, ?_, fun g hg => by cases hg; exact ⟨nl1, nl2⟩, h.pf, fun q hq => (h.q q hq).keep (by rw [set_size]; omega) kt⟩, ?_⟩
  · exact set_blk x20 0 _
  · rw [List.length_append]
    exact ownsRow_same r20 fun g c hg hc => set_other _ _ _ _ _ fun e => by
      have := (ownsRow_blk r20 hg).choose_spec.2.1
      omega
  · exact kr1
  · exact kr2
  · have b1 := ((Below.refl B W).alloc (by omega) o).grown g20 (by simp; omega) fun g hg => by have := (hLb g hg).1; omega
    exact ⟨b1.os, b1.tape, b1.output, by rw [set_size]; exact b1.size, fun k hk => (set_other _ _ _ _ _ (by omega)).trans (b1.block k hk)⟩

theorem LM.appP {b0 B : Nat} {W w20 : World} {X : Nat} {L P F u : Value} {la pa fa : List Value} {qs : List Lq} {lg lgc : Nat} {o : Obj} (h : LM b0 W X L P F la pa fa qs) (hb : b0 ≤ W.heap.size) (hX : X < b0) (hB : B ≤ X) (g20 : (W.alloc o).grownBy w20 P.ownBlock) (r20 : w20.ownsRow b0 22 1 (.slice (some ⟨lg, 0, none⟩) (pa.length + 1) lgc) (pa.length + 1) (pa ++ [u])) (v20 : P.ownBlock = some lg ∨ lg = W.heap.size + 1) :
    LM b0 (w20.setCell ⟨X, 1, none⟩ (.slice (some ⟨lg, 0, none⟩) (pa.length + 1) lgc)) X L (.slice (some ⟨lg, 0, none⟩) (pa.length + 1) lgc) F la (pa ++ [u]) fa qs ∧ Below B W (w20.setCell ⟨X, 1, none⟩ (.slice (some ⟨lg, 0, none⟩) (pa.length + 1) lgc)) := by
  have z20 : W.heap.size + 1 ≤ w20.heap.size := by have := g20.size; simpa using this
  have hLb : ∀ g, P.ownBlock = some g → b0 ≤ g ∧ g < W.heap.size := fun g hg => (ownsRow_blk h.p hg).choose_spec.2
  have k20 : ∀ k, k < W.heap.size → some k ≠ P.ownBlock → w20.heap[k]? = W.heap[k]? := fun k h1 h2 => (g20.block k (by simp; omega) h2).trans (Below.heap_alloc W o k h1)
  have x20 : w20.heap[X]? = some (.cells #[L, P, F] 25 (0, 0)) := (k20 X (by omega) fun e => by have := (hLb X e.symm).1; omega).trans h.x
  have kt : ∀ (k : Nat) (c : Array Value) (t : TypeId), (t = 30 ∨ t = 9 ∨ t = 3) → W.heap[k]? = some (Obj.cells c t (0, 0)) → (w20.setCell ⟨X, 1, none⟩ (.slice (some ⟨lg, 0, none⟩) (pa.length + 1) lgc)).heap[k]? = W.heap[k]? := fun k c t ht hk => by
    refine (set_other _ _ _ _ _ fun e => ?_).trans (k20 k (Array.getElem?_eq_some_iff.1 hk).1 fun e => ?_)
    · subst e
      rw [h.x] at hk
      cases hk
      simp at ht
    · obtain ⟨c', h1, _⟩ := ownsRow_blk h.p e.symm
      rw [hk] at h1
      cases h1
      simp at ht
  have ne0 : ∀ g, L.ownBlock = some g → P.ownBlock ≠ some g := fun g q e => (h.lp g q).1 e
  have kr0 : (w20.setCell ⟨X, 1, none⟩ (.slice (some ⟨lg, 0, none⟩) (pa.length + 1) lgc)).ownsRow b0 22 1 L la.length la := ownsRow_same h.l fun g c hg hc => (set_other _ _ _ _ _ fun e => by have := (ownsRow_blk h.l hg).choose_spec.2.1; omega).trans (k20 g (Array.getElem?_eq_some_iff.1 hc).1 fun e => ne0 g hg e.symm)
  have nl0 : L.ownBlock ≠ some lg := fun e => by
    rcases v20 with q | q
    · exact ne0 lg e q
    · have := (ownsRow_blk h.l e).choose_spec.2.2
      omega
  have ne2 : ∀ g, F.ownBlock = some g → P.ownBlock ≠ some g := fun g q e => h.pf g e q
  have kr2 : (w20.setCell ⟨X, 1, none⟩ (.slice (some ⟨lg, 0, none⟩) (pa.length + 1) lgc)).ownsRow b0 22 1 F fa.length fa := ownsRow_same h.f fun g c hg hc => (set_other _ _ _ _ _ fun e => by have := (ownsRow_blk h.f hg).choose_spec.2.1; omega).trans (k20 g (Array.getElem?_eq_some_iff.1 hc).1 fun e => ne2 g hg e.symm)
  have nl2 : F.ownBlock ≠ some lg := fun e => by
    rcases v20 with q | q
    · exact ne2 lg e q
    · have := (ownsRow_blk h.f e).choose_spec.2.2
      omega
  refine ⟨⟨?_, ?_, ?_, ?_, fun g hg => ⟨fun e => by cases e; exact nl0 hg, (h.lp g hg).2⟩, fun g hg => by cases hg; exact nl2, fun q hq => (h.q q hq).keep (by rw [set_size]; omega) kt⟩, ?_⟩
  · exact set_blk x20 1 _
  · exact kr0
  · rw [List.length_append]
    exact ownsRow_same r20 fun g c hg hc => set_other _ _ _ _ _ fun e => by
      have := (ownsRow_blk r20 hg).choose_spec.2.1
      omega
  · exact kr2
  · have b1 := ((Below.refl B W).alloc (by omega) o).grown g20 (by simp; omega) fun g hg => by have := (hLb g hg).1; omega
    exact ⟨b1.os, b1.tape, b1.output, by rw [set_size]; exact b1.size, fun k hk => (set_other _ _ _ _ _ (by omega)).trans (b1.block k hk)⟩

theorem LM.appF {b0 B : Nat} {W w20 : World} {X : Nat} {L P F u : Value} {la pa fa : List Value} {qs : List Lq} {lg lgc : Nat} {o : Obj} (h : LM b0 W X L P F la pa fa qs) (hb : b0 ≤ W.heap.size) (hX : X < b0) (hB : B ≤ X) (g20 : (W.alloc o).grownBy w20 F.ownBlock) (r20 : w20.ownsRow b0 22 1 (.slice (some ⟨lg, 0, none⟩) (fa.length + 1) lgc) (fa.length + 1) (fa ++ [u])) (v20 : F.ownBlock = some lg ∨ lg = W.heap.size + 1) :
    LM b0 (w20.setCell ⟨X, 2, none⟩ (.slice (some ⟨lg, 0, none⟩) (fa.length + 1) lgc)) X L P (.slice (some ⟨lg, 0, none⟩) (fa.length + 1) lgc) la pa (fa ++ [u]) qs ∧ Below B W (w20.setCell ⟨X, 2, none⟩ (.slice (some ⟨lg, 0, none⟩) (fa.length + 1) lgc)) := by
  have z20 : W.heap.size + 1 ≤ w20.heap.size := by have := g20.size; simpa using this
  have hLb : ∀ g, F.ownBlock = some g → b0 ≤ g ∧ g < W.heap.size := fun g hg => (ownsRow_blk h.f hg).choose_spec.2
  have k20 : ∀ k, k < W.heap.size → some k ≠ F.ownBlock → w20.heap[k]? = W.heap[k]? := fun k h1 h2 => (g20.block k (by simp; omega) h2).trans (Below.heap_alloc W o k h1)
  have x20 : w20.heap[X]? = some (.cells #[L, P, F] 25 (0, 0)) := (k20 X (by omega) fun e => by have := (hLb X e.symm).1; omega).trans h.x
  have kt : ∀ (k : Nat) (c : Array Value) (t : TypeId), (t = 30 ∨ t = 9 ∨ t = 3) → W.heap[k]? = some (Obj.cells c t (0, 0)) → (w20.setCell ⟨X, 2, none⟩ (.slice (some ⟨lg, 0, none⟩) (fa.length + 1) lgc)).heap[k]? = W.heap[k]? := fun k c t ht hk => by
    refine (set_other _ _ _ _ _ fun e => ?_).trans (k20 k (Array.getElem?_eq_some_iff.1 hk).1 fun e => ?_)
    · subst e
      rw [h.x] at hk
      cases hk
      simp at ht
    · obtain ⟨c', h1, _⟩ := ownsRow_blk h.f e.symm
      rw [hk] at h1
      cases h1
      simp at ht
  have ne0 : ∀ g, L.ownBlock = some g → F.ownBlock ≠ some g := fun g q e => (h.lp g q).2 e
  have kr0 : (w20.setCell ⟨X, 2, none⟩ (.slice (some ⟨lg, 0, none⟩) (fa.length + 1) lgc)).ownsRow b0 22 1 L la.length la := ownsRow_same h.l fun g c hg hc => (set_other _ _ _ _ _ fun e => by have := (ownsRow_blk h.l hg).choose_spec.2.1; omega).trans (k20 g (Array.getElem?_eq_some_iff.1 hc).1 fun e => ne0 g hg e.symm)
  have nl0 : L.ownBlock ≠ some lg := fun e => by
    rcases v20 with q | q
    · exact ne0 lg e q
    · have := (ownsRow_blk h.l e).choose_spec.2.2
      omega
  have ne1 : ∀ g, P.ownBlock = some g → F.ownBlock ≠ some g := fun g q e => h.pf g q e
  have kr1 : (w20.setCell ⟨X, 2, none⟩ (.slice (some ⟨lg, 0, none⟩) (fa.length + 1) lgc)).ownsRow b0 22 1 P pa.length pa := ownsRow_same h.p fun g c hg hc => (set_other _ _ _ _ _ fun e => by have := (ownsRow_blk h.p hg).choose_spec.2.1; omega).trans (k20 g (Array.getElem?_eq_some_iff.1 hc).1 fun e => ne1 g hg e.symm)
  have nl1 : P.ownBlock ≠ some lg := fun e => by
    rcases v20 with q | q
    · exact ne1 lg e q
    · have := (ownsRow_blk h.p e).choose_spec.2.2
      omega
  refine ⟨⟨?_, ?_, ?_, ?_, fun g hg => ⟨(h.lp g hg).1, fun e => by cases e; exact nl0 hg⟩, fun g hg e => by cases e; exact nl1 hg, fun q hq => (h.q q hq).keep (by rw [set_size]; omega) kt⟩, ?_⟩
  · exact set_blk x20 2 _
  · exact kr0
  · exact kr1
  · rw [List.length_append]
    exact ownsRow_same r20 fun g c hg hc => set_other _ _ _ _ _ fun e => by
      have := (ownsRow_blk r20 hg).choose_spec.2.1
      omega
  · have b1 := ((Below.refl B W).alloc (by omega) o).grown g20 (by simp; omega) fun g hg => by have := (hLb g hg).1; omega
    exact ⟨b1.os, b1.tape, b1.output, by rw [set_size]; exact b1.size, fun k hk => (set_other _ _ _ _ _ (by omega)).trans (b1.block k hk)⟩

end Go.Proofs.Ytohncccejlccbaa

namespace Go.Proofs.Ytohncccejlccbaa
open Go.RowKit

/-- What lentAll hands out: the row L with two marks behind it, P, F, the paragraphs. -/
structure LN (b0 : Nat) (W : World) (lg lgc : Nat) (P F : Value) (qs : List Lq) (m1 m2 : Nat) : Prop where
  l : W.ownsRow b0 22 1 (.slice (some ⟨lg, 0, none⟩) (qs.length + 2) lgc) (qs.length + 2) (qs.map pcell ++ [.slice (some ⟨m1, 0, none⟩) 1 1, .slice (some ⟨m2, 0, none⟩) 1 1])
  a1 : W.heap[m1]? = some (.cells #[.string ⟨#[42]⟩, .slice none 0 0, .slice none 0 0] 30 (0, 0))
  a2 : W.heap[m2]? = some (.cells #[.string ⟨#[42, 42]⟩, .slice none 0 0, .slice none 0 0] 30 (0, 0))
  p : W.ownsRow b0 22 1 P qs.length (qs.map pcell)
  f : W.ownsRow b0 22 1 F qs.length (qs.map (·.ov))
  q : ∀ q ∈ qs, LqOk b0 W q
  s : (qs.flatMap fun q => q.xs.map (·.lb)).Pairwise (· < ·)
theorem LN.later {b0 : Nat} {W W' : World} {lg lgc m1 m2 : Nat} {P F : Value} {qs : List Lq} (h : LN b0 W lg lgc P F qs m1 m2) (B : Below W.heap.size W W') : LN b0 W' lg lgc P F qs m1 m2 :=
  ⟨ownsRow_bl h.l B, (B.block m1 (Array.getElem?_eq_some_iff.1 h.a1).1).trans h.a1, (B.block m2 (Array.getElem?_eq_some_iff.1 h.a2).1).trans h.a2, ownsRow_bl h.p B, ownsRow_bl h.f B, fun q hq => (h.q q hq).later B, h.s⟩

theorem LL.fin {b0 : Nat} {W w24 W' : World} {X R : Nat} {L P F : Value} {qs : List Lq} {lg lgc : Nat} {o3 : Obj} {c : Array Value} (h : LL b0 W X L P F qs) (hb : b0 ≤ W.heap.size) (hX : X < b0) (hR : R < b0) (hRW : W.heap[R]? = some (.cells c 25 (0, 0)))
    (g24 : (((W.alloc (.cells #[.string ⟨#[42]⟩, .slice none 0 0, .slice none 0 0] 30)).alloc (.cells #[.string ⟨#[42, 42]⟩, .slice none 0 0, .slice none 0 0] 30)).alloc o3).grownBy w24 L.ownBlock)
    (r24 : w24.ownsRow b0 22 1 (.slice (some ⟨lg, 0, none⟩) (qs.length + 2) lgc) (qs.length + 2) (qs.map pcell ++ [.slice (some ⟨W.heap.size, 0, none⟩) 1 1, .slice (some ⟨W.heap.size + 1, 0, none⟩) 1 1]))
    (hk : ∀ k, k ≠ X → k ≠ R → W'.heap[k]? = w24.heap[k]?) (hs : W'.heap.size = w24.heap.size) :
    LN b0 W' lg lgc P F qs W.heap.size (W.heap.size + 1) := by
  have z24 : W.heap.size + 3 ≤ w24.heap.size := by have := g24.size; simpa using this
  have hLb : ∀ g, L.ownBlock = some g → b0 ≤ g ∧ g < W.heap.size := fun g hg => (ownsRow_blk h.l hg).choose_spec.2
  have k0 : ∀ k, k < W.heap.size + 2 → some k ≠ L.ownBlock → w24.heap[k]? = ((W.alloc (.cells #[.string ⟨#[42]⟩, .slice none 0 0, .slice none 0 0] 30)).alloc (.cells #[.string ⟨#[42, 42]⟩, .slice none 0 0, .slice none 0 0] 30)).heap[k]? := fun k h1 h2 =>
    (g24.block k (by simp; omega) h2).trans (Below.heap_alloc _ o3 k (by simp; omega))
  have k1 : ∀ k, k < W.heap.size → some k ≠ L.ownBlock → w24.heap[k]? = W.heap[k]? := fun k h1 h2 =>
    ((k0 k (by omega) h2).trans (Below.heap_alloc _ _ k (by simp; omega))).trans (Below.heap_alloc _ _ k h1)
  have kt : ∀ (k : Nat) (c : Array Value) (t : TypeId), (t = 30 ∨ t = 9 ∨ t = 3) → W.heap[k]? = some (Obj.cells c t (0, 0)) → W'.heap[k]? = W.heap[k]? := fun k c t ht hk' => by
    refine (hk k (fun e => ?_) (fun e => ?_)).trans (k1 k (Array.getElem?_eq_some_iff.1 hk').1 fun e => ?_)
    · subst e
      rw [h.x] at hk'
      cases hk'
      simp at ht
    · subst e
      rw [hRW] at hk'
      cases hk'
      simp at ht
    · obtain ⟨c', h1, _⟩ := ownsRow_blk h.l e.symm
      rw [hk'] at h1
      cases h1
      simp at ht
  refine ⟨ownsRow_same r24 fun g c hg hc => ?_, ?_, ?_, ownsRow_same h.p fun g c hg hc => ?_, ownsRow_same h.f fun g c hg hc => ?_, fun q hq => (h.q q hq).keep (by omega) kt, h.s⟩
  · have := (ownsRow_blk r24 hg).choose_spec.2.1
    exact hk g (by omega) (by omega)
  · refine (hk _ (by omega) (by omega)).trans ((k0 _ (by omega) fun e => by have := (hLb _ e.symm).2; omega).trans ?_)
    exact (Below.heap_alloc _ _ _ (by simp)).trans (World.alloc_heap_new W _)
  · refine (hk _ (by omega) (by omega)).trans ((k0 _ (by omega) fun e => by have := (hLb _ e.symm).2; omega).trans ?_)
    have := World.alloc_heap_new (W.alloc (.cells #[.string ⟨#[42]⟩, .slice none 0 0, .slice none 0 0] 30)) (.cells #[.string ⟨#[42, 42]⟩, .slice none 0 0, .slice none 0 0] 30)
    simpa using this
  · have := (ownsRow_blk h.p hg).choose_spec.2.1
    exact (hk g (by omega) (by omega)).trans (k1 g (Array.getElem?_eq_some_iff.1 hc).1 fun e => (h.lp g e.symm).1 hg)
  · have := (ownsRow_blk h.f hg).choose_spec.2.1
    exact (hk g (by omega) (by omega)).trans (k1 g (Array.getElem?_eq_some_iff.1 hc).1 fun e => (h.lp g e.symm).2 hg)

end Go.Proofs.Ytohncccejlccbaa

namespace Go.Proofs.Ytohncccejlccbaa
open Go.RowKit

/-- The cells of an own row. -/
theorem row_cells {W : World} {b : Nat} {e : TypeId} {s g n c m : Nat} {xs : List Value} (h : W.ownsRow b e s (.slice (some ⟨g, 0, none⟩) n c) m xs) : m ≤ c ∧ ∀ j u, xs[j]? = some u → W.cell? ⟨g, j, none⟩ = some u := by
  rcases h.2 with ⟨e1, _⟩ | ⟨g', cap, cur, e1, _, hg, hc, _, _, htk⟩
  · cases e1
  · cases e1
    refine ⟨hc, fun j u hu => ?_⟩
    have e : W.cell? ⟨g, j, none⟩ = cur[j]? := by simp [World.cell?, hg]
    rw [e]
    exact take_get' htk hu
theorem cellsL_get : ∀ (xs : List Lf) (i : Nat) (x : Lf) (j : Nat) (u : Value), xs[i]? = some x → (cellsL x)[j]? = some u → (xs.flatMap cellsL)[i * 3 + j]? = some u
  | [], _, _, _, _, h, _ => by cases h
  | y :: ys, 0, x, j, u, h, hu => by
    cases h
    have hj : j < 3 := by have := (List.getElem?_eq_some_iff.1 hu).1; simpa [cellsL] using this
    rw [List.flatMap_cons, List.getElem?_append_left (by simp [cellsL]; omega), Nat.zero_mul, Nat.zero_add]
    exact hu
  | y :: ys, i + 1, x, j, u, h, hu => by
    rw [List.flatMap_cons, List.getElem?_append_right (by simp [cellsL]; omega)]
    have := cellsL_get ys i x j u (by simpa using h) hu
    rw [show (i + 1) * 3 + j - (cellsL y).length = i * 3 + j by simp [cellsL]; omega]
    exact this
theorem cellsL_len (xs : List Lf) : (xs.flatMap cellsL).length = xs.length * 3 := by
  induction xs with
  | nil => rfl
  | cons y ys ih => rw [List.flatMap_cons, List.length_append, ih]; simp [cellsL]; omega

/-- What a field that was lent shows. -/
structure LfC (W : World) (x : Lf) : Prop where
  lc : x.f.ls.length + 2 ≤ x.lc
  ac : x.f.ns.length + 2 ≤ x.ac
  l : Cl W (some ⟨x.lb, 0, none⟩) (strs x.f.ls)
  a : Cl W (some ⟨x.ab, 0, none⟩) (intz x.f.ns)
  l1 : W.cell? ⟨x.lb, x.f.ls.length, none⟩ = some (.string ⟨#[42]⟩)
  l2 : W.cell? ⟨x.lb, x.f.ls.length + 1, none⟩ = some (.string ⟨#[42, 42]⟩)
  a1 : W.cell? ⟨x.ab, x.f.ns.length, none⟩ = some (.int .i64 (-7))
  a2 : W.cell? ⟨x.ab, x.f.ns.length + 1, none⟩ = some (.int .i64 (-8))
theorem cl_left {W : World} {b : Nat} {xs ys : List Value} (h : ∀ j u, (xs ++ ys)[j]? = some u → W.cell? ⟨b, j, none⟩ = some u) : Cl W (some ⟨b, 0, none⟩) xs := fun _ => ⟨b, 0, rfl, fun i u hi => by
  rw [Nat.zero_add]
  exact h i u (by rw [List.getElem?_append_left (List.getElem?_eq_some_iff.1 hi).1]; exact hi)⟩
theorem LfOk.c {W : World} {x : Lf} (h : LfOk W x) : LfC W x := by
  obtain ⟨h1, h2⟩ := row_cells h.l
  obtain ⟨h3, h4⟩ := row_cells h.a
  have e1 : (strs x.f.ls).length = x.f.ls.length := by simp [strs]
  have e2 : (intz x.f.ns).length = x.f.ns.length := by simp [intz]
  exact ⟨h1, h3, cl_left h2, cl_left h4,
    h2 _ _ (by rw [List.getElem?_append_right (by omega), e1, Nat.sub_self]; rfl),
    h2 _ _ (by rw [List.getElem?_append_right (by omega), e1, Nat.add_sub_cancel_left]; rfl),
    h4 _ _ (by rw [List.getElem?_append_right (by omega), e2, Nat.sub_self]; rfl),
    h4 _ _ (by rw [List.getElem?_append_right (by omega), e2, Nat.add_sub_cancel_left]; rfl)⟩
/-- What a paragraph that was lent shows. -/
structure LqC (W : World) (q : Lq) : Prop where
  pc : q.xs.length + 2 ≤ q.pc
  p : ∀ i x j u, q.xs[i]? = some x → (cellsL x)[j]? = some u → W.cell? ⟨q.pb, i * 3 + j, none⟩ = some u
  p1 : W.cell? ⟨q.pb, q.xs.length * 3, none⟩ = some (.string ⟨#[42]⟩)
  p2 : W.cell? ⟨q.pb, (q.xs.length + 1) * 3, none⟩ = some (.string ⟨#[42, 42]⟩)
  o : ∃ oa oc, q.ov = .slice oa q.xs.length oc ∧ (0 < q.xs.length → ∃ g, oa = some ⟨g, 0, none⟩ ∧ ∀ i x j u, q.xs[i]? = some x → (cellsL x)[j]? = some u → W.cell? ⟨g, i * 3 + j, none⟩ = some u)
  f : ∀ x ∈ q.xs, LfC W x
theorem LqOk.c {lo : Nat} {W : World} {q : Lq} (h : LqOk lo W q) : LqC W q := by
  obtain ⟨h1, h2⟩ := row_cells h.p
  have e1 := cellsL_len q.xs
  refine ⟨h1, fun i x j u hx hu => h2 _ _ ?_, h2 _ _ ?_, h2 _ _ ?_, ?_, fun x hx => (h.f x hx).1.c⟩
  · have := cellsL_get q.xs i x j u hx hu
    rw [List.getElem?_append_left (List.getElem?_eq_some_iff.1 this).1]
    exact this
  · rw [List.getElem?_append_right (by omega), e1, Nat.sub_self]; rfl
  · rw [List.getElem?_append_right (by omega), e1, show (q.xs.length + 1) * 3 - q.xs.length * 3 = 3 by omega]; rfl
  · rcases h.o.2 with ⟨h3, h4⟩ | ⟨g, cap, cur, h3, _⟩
    · exact ⟨none, 0, by rw [h3, h4], fun h0 => by omega⟩
    · refine ⟨_, _, h3, fun _ => ⟨g, rfl, fun i x j u hx hu => ?_⟩⟩
      have hr := h.o
      rw [h3] at hr
      exact (row_cells hr).2 _ _ (cellsL_get q.xs i x j u hx hu)
theorem LqC.parZ {W : World} {q : Lq} (h : LqC W q) : ParZ W (pcell q) (q.xs.map (·.f)) := by
  refine ⟨_, _, by rw [List.length_map]; rfl, by have := h.pc; rw [List.length_map]; omega, fun _ => ⟨q.pb, 0, rfl, fun i f hi => ?_⟩⟩
  rw [List.getElem?_map] at hi
  cases hx : q.xs[i]? with
  | none => rw [hx] at hi; cases hi
  | some x =>
    rw [hx] at hi
    cases hi
    have k := h.f x (List.mem_of_getElem? hx)
    have k1 := k.lc
    exact ⟨by have := h.p i x 0 _ hx rfl; rwa [Nat.zero_add], ⟨_, _, by have := h.p i x 1 _ hx rfl; rw [Nat.zero_add]; exact this, by show x.f.ls.length ≤ x.lc; omega, k.l⟩, ⟨_, _, by have := h.p i x 2 _ hx rfl; rw [Nat.zero_add]; exact this, k.a⟩⟩
theorem LN.docZ {b0 : Nat} {W : World} {lg lgc m1 m2 : Nat} {P F : Value} {qs : List Lq} (h : LN b0 W lg lgc P F qs m1 m2) : DocZ W (.slice (some ⟨lg, 0, none⟩) qs.length lgc) (qs.map fun q => q.xs.map (·.f)) := by
  refine ⟨_, _, by rw [List.length_map], fun _ => ⟨lg, 0, rfl, fun i p hi => ?_⟩⟩
  rw [List.getElem?_map] at hi
  cases hx : qs[i]? with
  | none => rw [hx] at hi; cases hi
  | some x =>
    rw [hx] at hi
    cases hi
    have hlt := (List.getElem?_eq_some_iff.1 hx).1
    refine ⟨pcell x, (row_cells h.l).2 _ _ ?_, (h.q x (List.mem_of_getElem? hx)).c.parZ⟩
    rw [Nat.zero_add, List.getElem?_append_left (by simpa using hlt), List.getElem?_map, hx]
    rfl
/-- What the whole loan shows. -/
structure LC (W : World) (lg lgc : Nat) (P F : Value) (qs : List Lq) (m1 m2 : Nat) : Prop where
  lc : qs.length + 2 ≤ lgc
  l : ∀ i q, qs[i]? = some q → W.cell? ⟨lg, i, none⟩ = some (pcell q)
  l1 : W.cell? ⟨lg, qs.length, none⟩ = some (.slice (some ⟨m1, 0, none⟩) 1 1)
  l2 : W.cell? ⟨lg, qs.length + 1, none⟩ = some (.slice (some ⟨m2, 0, none⟩) 1 1)
  a1 : W.cell? ⟨m1, 0, none⟩ = some (.string ⟨#[42]⟩)
  a2 : W.cell? ⟨m2, 0, none⟩ = some (.string ⟨#[42, 42]⟩)
  p : ∃ pa pc, P = .slice pa qs.length pc ∧ (0 < qs.length → ∃ g, pa = some ⟨g, 0, none⟩ ∧ ∀ i q, qs[i]? = some q → W.cell? ⟨g, i, none⟩ = some (pcell q))
  f : ∃ fa fc, F = .slice fa qs.length fc ∧ (0 < qs.length → ∃ g, fa = some ⟨g, 0, none⟩ ∧ ∀ i q, qs[i]? = some q → W.cell? ⟨g, i, none⟩ = some q.ov)
  q : ∀ q ∈ qs, LqC W q
theorem LN.c {b0 : Nat} {W : World} {lg lgc m1 m2 : Nat} {P F : Value} {qs : List Lq} (h : LN b0 W lg lgc P F qs m1 m2) : LC W lg lgc P F qs m1 m2 := by
  obtain ⟨h1, h2⟩ := row_cells h.l
  have e1 : (qs.map pcell).length = qs.length := by simp
  refine ⟨h1, fun i q hq => h2 _ _ ?_, h2 _ _ ?_, h2 _ _ ?_, (cell_blk h.a1 0).1, (cell_blk h.a2 0).1, ?_, ?_, fun q hq => (h.q q hq).c⟩
  · have hlt := (List.getElem?_eq_some_iff.1 hq).1
    rw [List.getElem?_append_left (by omega), List.getElem?_map, hq]; rfl
  · rw [List.getElem?_append_right (by omega), e1, Nat.sub_self]; rfl
  · rw [List.getElem?_append_right (by omega), e1, Nat.add_sub_cancel_left]; rfl
  · rcases h.p.2 with ⟨h3, h4⟩ | ⟨g, cap, cur, h3, _⟩
    · exact ⟨none, 0, by rw [h3, h4], fun h0 => by omega⟩
    · refine ⟨_, _, h3, fun _ => ⟨g, rfl, fun i q hq => ?_⟩⟩
      have hr := h.p
      rw [h3] at hr
      exact (row_cells hr).2 _ _ (by rw [List.getElem?_map, hq]; rfl)
  · rcases h.f.2 with ⟨h3, h4⟩ | ⟨g, cap, cur, h3, _⟩
    · exact ⟨none, 0, by rw [h3, h4], fun h0 => by omega⟩
    · refine ⟨_, _, h3, fun _ => ⟨g, rfl, fun i q hq => ?_⟩⟩
      have hr := h.f
      rw [h3] at hr
      exact (row_cells hr).2 _ _ (by rw [List.getElem?_map, hq]; rfl)

end Go.Proofs.Ytohncccejlccbaa

