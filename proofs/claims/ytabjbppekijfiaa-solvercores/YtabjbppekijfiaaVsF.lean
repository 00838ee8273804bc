import Derived.Test.YtabjbppekijfiaaVsE
import Derived.Test.YtabjbppekijfiaaSvI
namespace Go.Proofs.Ytabjbppekijfiaa
open Go.RowKit

theorem counted_any (B : Nat) (w : World) : Calls Try.prog 46 #[.int .i64 B] w fun x w' => x = .returned (.tuple #[.func (.func 58) #[] #[.pointer (some ⟨w.heap.size + 1, 0, none⟩), .pointer (some ⟨w.heap.size, 0, none⟩)], .func (.func 59) #[] #[.pointer (some ⟨w.heap.size + 1, 0, none⟩)]]) ∧ w' = (w.alloc (.cells #[.int .i64 B] 3)).alloc (.cells #[.int .i64 0] 3) := by
  go_enter Try.func46, Try.ntmps46
  go_wp2
  go_ret2
  exact ⟨rfl, rfl⟩
theorem made_any {P : Pb} {w0 : World} {bb kb sb vb lo B c : Nat} {ca qa : Option Addr} {cc qc : Nat} {vr : List Int} {s : Sx} {tv uv : Value} {w : World} (h : Sm P w0 bb kb sb vb lo B c ca qa cc qc vr s tv uv w) :
    Calls Try.prog 59 #[.pointer (some ⟨kb, 0, none⟩)] w fun x w' => x = .returned (.int .i64 c) ∧ w' = w := by
  have h1 := (cell_blk h.lks 0).1
  simp at h1
  clear h
  go_enter Try.func59, Try.ntmps59
  go_wp2
  go_ret
  exact ⟨rfl, rfl⟩
theorem infoV : (Try.prog.info? 101).map (fun i => (i.zero, i.size, i.bytes)) = some (some (.int .i8 0), 1, 1) := by kernel_rfl
theorem makeB (n : Nat) (hn : n ≤ 131071) (u : World) : (Instr.makeSlice 27 (.int .i64 (n : Int)) (.int .i64 (n : Int))).run Try.prog u = .ok (.slice (some ⟨u.heap.size, 0, none⟩) n n) (u.alloc (.cells (madeCells #[.bool false] n) 4)) := by
  obtain ⟨i0, hi, hz0, hz1, hz2⟩ := info_parts infoB
  have h := run_make (P := Try.prog) u 27 4 i0 (.bool false) Try.underlying27 hi hz0 .i64 .i64 (n : Int) (n : Int) (by omega) (Int.le_refl _) (by rw [hz2]; omega) (by omega)
  simpa [hz1, Value.cells] using h
theorem makeV (n : Nat) (hn : n ≤ 131071) (u : World) : (Instr.makeSlice 83 (.int .i64 (n : Int)) (.int .i64 (n : Int))).run Try.prog u = .ok (.slice (some ⟨u.heap.size, 0, none⟩) n n) (u.alloc (.cells (madeCells #[.int .i8 0] n) 101)) := by
  obtain ⟨i0, hi, hz0, hz1, hz2⟩ := info_parts infoV
  have h := run_make (P := Try.prog) u 83 101 i0 (.int .i8 0) Try.underlying83 hi hz0 .i64 .i64 (n : Int) (n : Int) (by omega) (Int.le_refl _) (by rw [hz2]; omega) (by omega)
  simpa [hz1, Value.cells] using h
theorem made_at (z : Value) (n k : Nat) (h : k < n) : (madeCells #[z] n)[k]? = some z := by
  rw [← Array.getElem?_toList, toList_madeCells_one]
  simp [h]
set_option maxRecDepth 100000 in
set_option maxHeartbeats 4000000 in
theorem model_any {P : Pb} (hP : P.Ok) {w0 : World} {bb kb sb vb lo B c : Nat} {ca qa : Option Addr} {cc qc : Nat} {s : Sx} {tv uv : Value} {w : World} (h : Sm P w0 bb kb sb vb lo B c ca qa cc qc s.tr s tv uv w) :
    Calls Try.prog 48 #[.pointer (some ⟨sb, 0, none⟩)] w fun x w' => ∃ g, x = .returned (.slice (some ⟨g, 0, none⟩) P.n P.n) ∧ w.heap.size ≤ g ∧ Mw g P.n (mv s.tr) w' ∧ Below w.heap.size w w' := by
  have hn := hP.n
  obtain ⟨_, _, _, c3, _⟩ := h.cells
  have HS := hide h
  have HV := hide (fun (W : World) (hb : Below w.heap.size w W) (v : Nat) (hv : v < P.n) => ((h.later hb).vcell hv).1)
  clear h hP
  generalize hnn : P.n = n at *
  have mk := makeB n hn
  have HM0 := hide (show Mw w.heap.size n (fun k => if k < 0 then mv s.tr k else false) (w.alloc (.cells (madeCells #[.bool false] n) 4)) from ⟨_, heap_new _ _, fun k hk => by rw [made_at _ _ _ hk]; simp⟩)
  have HB0 := hide ((Below.refl w.heap.size w).alloc (Nat.le_refl _) (.cells (madeCells #[.bool false] n) 4))
  have c3' : (w.alloc (.cells (madeCells #[.bool false] n) 4)).cell? ⟨sb, 3, none⟩ = some (.slice (some ⟨vb, 0, none⟩) n n) := ((unhide HB0).cell (p := ⟨sb, 3, none⟩) (blk_lt (unhide HS).str)).trans c3
  go_enter Try.func48, Try.ntmps48
  go_wp2_with fail
  generalize hW1 : w.alloc (.cells (madeCells #[.bool false] n) 4) = W1 at *
  generalize hgb : w.heap.size = gb at *
  go_wp2_with fail
  go_loopg [4, 5, 17] n (fun g1 _ _ vi wr => ∃ i : Nat, vi = .int .i64 i ∧ i ≤ n ∧ n - i ≤ g1 ∧ Hid (Mw gb n (fun k => if k < i then mv s.tr k else false) wr) ∧ Hid (Below gb w wr))
  case atStart => exact ⟨0, by go_num, by omega, by omega, HM0, HB0⟩
  case round =>
    clear HM0 HB0
    obtain ⟨i, rfl, hi, hg, HM, HB⟩ := hrel
    by_cases hlt : i < n
    · have ci := unhide HV wr (unhide HB) i hlt
      obtain ⟨cur, q1, q2⟩ := unhide HM
      have di := (cell_blk q1 i).1.trans (q2 i hlt)
      have fi := (cell_blk q1 i).2
      have HM2 := hide (show Mw gb n (fun k => if k < i + 1 then mv s.tr k else false) (wr.setCell ⟨gb, i, none⟩ (.bool (vt s.tr i == 1))) from by
        obtain ⟨c2, s1, s2⟩ := (unhide HM).set hlt (vt s.tr i == 1)
        refine ⟨c2, s1, fun k hk => ?_⟩
        rw [s2 k hk]
        show some (Value.bool (if k = i then (vt s.tr i == 1) else if k < i then mv s.tr k else false)) = some (Value.bool (if k < i + 1 then mv s.tr k else false))
        by_cases e : k = i
        · subst e; rw [if_pos rfl, if_pos (by omega)]; rfl
        · rw [if_neg e]
          by_cases e2 : k < i
          · rw [if_pos e2, if_pos (by omega)]
          · rw [if_neg e2, if_neg (by omega)])
      have HB2 := hide ((unhide HB).setCell (p := ⟨gb, i, none⟩) (Nat.le_refl _) (.bool (vt s.tr i == 1)))
      clear q1 q2 HM HB
      generalize (if i < i then mv s.tr i else false) = old at *
      generalize vt s.tr i = q at *
      go_wp2_with fail
      generalize wr.setCell ⟨gb, i, none⟩ (.bool (q == 1)) = W2 at *
      go_wp2_with fail
      go_roundg (n - (i + 1))
      case measure => omega
      case rel => exact ⟨i + 1, by go_num, by omega, by omega, HM2, HB2⟩
    · have HMF := hide (show Mw gb n (mv s.tr) wr from by
        obtain ⟨c2, s1, s2⟩ := unhide HM
        exact ⟨c2, s1, fun k hk => by rw [s2 k hk]; show some (Value.bool (if k < i then mv s.tr k else false)) = _; rw [if_pos (by omega)]⟩)
      go_wp2
      go_ret
      subst hgb
      exact ⟨w.heap.size, rfl, Nat.le_refl _, unhide HMF, unhide HB⟩
/-- The search as it begins. -/
theorem start_sm (P : Pb) (B : Nat) (ca qa : Option Addr) (cc qc : Nat) (w WA W1 W2 W3 W4 : World) (n : Nat) (hn : n = w.heap.size) (hA : WA = w.alloc (.cells #[.int .i64 0, .slice none 0 0, .int .i64 0] 29)) (h1 : W1 = WA.alloc (.cells #[.int .i64 B] 3)) (h2 : W2 = W1.alloc (.cells #[.int .i64 0] 3)) (h3 : W3 = W2.alloc (.cells (madeCells #[.int .i8 0] P.n) 101))
    (h4 : W4 = W3.alloc (.cells #[.slice ca P.N cc, .slice qa P.m qc, .int .i64 0, .slice (some ⟨n + 1 + 1 + 1, 0, none⟩) P.n P.n, .slice none 0 0, .slice none 0 0] 86)) :
    Sm P WA (n + 1) (n + 1 + 1) (n + 1 + 1 + 1 + 1) (n + 1 + 1 + 1) (n + 5) B 0 ca qa cc qc [] ⟨[], [], 0⟩ (.slice none 0 0) (.slice none 0 0) W4 ∧ n + 5 ≤ W4.heap.size ∧ WA.heap[n]? = some (.cells #[.int .i64 0, .slice none 0 0, .int .i64 0] 29 (0, 0)) := by
  have sA : WA.heap.size = n + 1 := by subst hA hn; simp
  have s1 : W1.heap.size = n + 2 := by subst h1; simp [sA]
  have s2 : W2.heap.size = n + 3 := by subst h2; simp [s1]
  have s3 : W3.heap.size = n + 4 := by subst h3; simp [s2]
  have s4 : W4.heap.size = n + 5 := by subst h4; simp [s3]
  have o1 : ∀ k, k < n + 1 → W1.heap[k]? = WA.heap[k]? := fun k hk => by rw [h1]; exact heap_old _ _ _ (by omega)
  have o2 : ∀ k, k < n + 2 → W2.heap[k]? = W1.heap[k]? := fun k hk => by rw [h2]; exact heap_old _ _ _ (by omega)
  have o3 : ∀ k, k < n + 3 → W3.heap[k]? = W2.heap[k]? := fun k hk => by rw [h3]; exact heap_old _ _ _ (by omega)
  have o4 : ∀ k, k < n + 4 → W4.heap[k]? = W3.heap[k]? := fun k hk => by rw [h4]; exact heap_old _ _ _ (by omega)
  have b1 : W1.heap[n + 1]? = some (.cells #[.int .i64 B] 3 (0, 0)) := by rw [h1, ← sA]; exact heap_new _ _
  have b2 : W2.heap[n + 2]? = some (.cells #[.int .i64 0] 3 (0, 0)) := by rw [h2, ← s1]; exact heap_new _ _
  have b3 : W3.heap[n + 3]? = some (.cells (madeCells #[.int .i8 0] P.n) 101 (0, 0)) := by rw [h3, ← s2]; exact heap_new _ _
  have b4 : W4.heap[n + 4]? = some (.cells #[.slice ca P.N cc, .slice qa P.m qc, .int .i64 0, .slice (some ⟨n + 1 + 1 + 1, 0, none⟩) P.n P.n, .slice none 0 0, .slice none 0 0] 86 (0, 0)) := by rw [h4, ← s3]; exact heap_new _ _
  refine ⟨⟨?_, ?_, b4, ⟨_, ?_, fun v hv => made_at (.int .i8 0) _ _ hv⟩, World.ownsRow_nil _ _ _ _, World.ownsRow_nil _ _ _ _, ⟨by omega, by omega, by omega, by omega, by omega⟩, ?_⟩, by omega, ?_⟩
  · rw [o4 _ (by omega), o3 _ (by omega), o2 _ (by omega)]; exact b1
  · rw [o4 _ (by omega), o3 _ (by omega)]; exact b2
  · rw [o4 _ (by omega)]; exact b3
  · subst h1 h2 h3 h4
    exact bl_t (bl_t (bl_t ((Below.refl _ WA).alloc (Nat.le_refl _) _) ((Below.refl _ _).alloc (Nat.le_refl _) _)) ((Below.refl _ _).alloc (Nat.le_refl _) _)) ((Below.refl _ _).alloc (Nat.le_refl _) _)
  · subst hA hn
    exact heap_new _ _
/-- What find holds. -/
structure Fh (P : Pb) (w WA : World) (bb kb sb vb lo B S : Nat) (ca qa : Option Addr) (cc qc : Nat) (s : Sx) (tv uv : Value) (fb rb : Nat) (x0 x1 x2 : Value) (W : World) : Prop where
  sm : Sm P WA bb kb sb vb lo B S ca qa cc qc s.tr s tv uv W
  fnd : W.heap[fb]? = some (.cells #[x0, x1, x2] 29 (0, 0))
  res : W.heap[rb]? = some (.cells #[.int .i64 0, .slice none 0 0, .int .i64 0] 29 (0, 0))
  ne : rb < fb
  ge : w.heap.size ≤ rb
  bel : Below w.heap.size w W
theorem Fh.later {P : Pb} {w WA : World} {bb kb sb vb lo B S : Nat} {ca qa : Option Addr} {cc qc : Nat} {s : Sx} {tv uv : Value} {fb rb : Nat} {x0 x1 x2 : Value} {W W2 : World} (h : Fh P w WA bb kb sb vb lo B S ca qa cc qc s tv uv fb rb x0 x1 x2 W) (hb : Below W.heap.size W W2) : Fh P w WA bb kb sb vb lo B S ca qa cc qc s tv uv fb rb x0 x1 x2 W2 :=
  ⟨h.sm.later hb, (hb.block _ (blk_lt h.fnd)).trans h.fnd, (hb.block _ (blk_lt h.res)).trans h.res, h.ne, h.ge, bl_t h.bel hb⟩
theorem sm_other {P : Pb} {w0 : World} {bb kb sb vb lo B c : Nat} {ca qa : Option Addr} {cc qc : Nat} {vr : List Int} {s : Sx} {tv uv : Value} {W : World} (h : Sm P w0 bb kb sb vb lo B c ca qa cc qc vr s tv uv W) {zb j : Nat} {cz : Array Value} (hz : W.heap[zb]? = some (.cells cz 29 (0, 0))) (hzw : w0.heap.size ≤ zb) (x : Value) : Sm P w0 bb kb sb vb lo B c ca qa cc qc vr s tv uv (W.setCell ⟨zb, j, none⟩ x) := by
  obtain ⟨cur, v1, v2⟩ := h.val
  have hb : ∀ q, q ≠ zb → (W.setCell ⟨zb, j, none⟩ x).heap[q]? = W.heap[q]? := fun q hq => set_other _ _ _ _ _ hq
  exact ⟨(hb _ (blk_ne (by decide) hz h.bud)).trans h.bud, (hb _ (blk_ne (by decide) hz h.lks)).trans h.lks, (hb _ (blk_ne (by decide) hz h.str)).trans h.str, ⟨cur, (hb _ (blk_ne (by decide) hz v1)).trans v1, v2⟩, own_set (by decide) hz h.trl, own_set (by decide) hz h.trn, h.ord, h.bel.setCell (p := ⟨zb, j, none⟩) hzw _⟩
theorem Fh.set {P : Pb} {w WA : World} {bb kb sb vb lo B S : Nat} {ca qa : Option Addr} {cc qc : Nat} {s : Sx} {tv uv : Value} {fb rb : Nat} {x0 x1 x2 : Value} {W : World} (h : Fh P w WA bb kb sb vb lo B S ca qa cc qc s tv uv fb rb x0 x1 x2 W) (hA : WA.heap.size ≤ fb) {j : Nat} {x y0 y1 y2 : Value} (hj : (#[x0, x1, x2] : Array Value).setIfInBounds j x = #[y0, y1, y2]) : Fh P w WA bb kb sb vb lo B S ca qa cc qc s tv uv fb rb y0 y1 y2 (W.setCell ⟨fb, j, none⟩ x) := by
  have := h.ne
  have := h.ge
  exact ⟨sm_other h.sm h.fnd hA x, hj ▸ set_blk h.fnd j x, (set_other _ _ _ _ _ (by omega)).trans h.res, h.ne, h.ge, h.bel.setCell (p := ⟨fb, j, none⟩) (by show w.heap.size ≤ fb; omega) _⟩
/-- The answer laid down. -/
theorem Fh.put {P : Pb} {w WA : World} {bb kb sb vb lo B S : Nat} {ca qa : Option Addr} {cc qc : Nat} {s : Sx} {tv uv : Value} {fb rb : Nat} {x0 x1 x2 : Value} {W : World} (h : Fh P w WA bb kb sb vb lo B S ca qa cc qc s tv uv fb rb x0 x1 x2 W) (y0 y1 y2 : Value) :
    (((W.setCell ⟨rb, 0, none⟩ y0).setCell ⟨rb, 1, none⟩ y1).setCell ⟨rb, 2, none⟩ y2).heap[rb]? = some (.cells #[y0, y1, y2] 29 (0, 0)) ∧ Below w.heap.size w (((W.setCell ⟨rb, 0, none⟩ y0).setCell ⟨rb, 1, none⟩ y1).setCell ⟨rb, 2, none⟩ y2) ∧ ∀ g n f, Mw g n f W → Mw g n f (((W.setCell ⟨rb, 0, none⟩ y0).setCell ⟨rb, 1, none⟩ y1).setCell ⟨rb, 2, none⟩ y2) := by
  have b0 := set_blk h.res 0 y0
  have b1 := set_blk b0 1 y1
  have b2 := set_blk b1 2 y2
  refine ⟨by rw [b2]; simp, ((h.bel.setCell (p := ⟨rb, 0, none⟩) h.ge _).setCell (p := ⟨rb, 1, none⟩) h.ge _).setCell (p := ⟨rb, 2, none⟩) h.ge _, fun g n f hm => ?_⟩
  obtain ⟨cur, m1, m2⟩ := hm
  have hne : g ≠ rb := blk_ne (by decide) h.res m1
  exact ⟨cur, (set_other _ _ _ _ _ hne).trans ((set_other _ _ _ _ _ hne).trans ((set_other _ _ _ _ _ hne).trans m1)), m2⟩
theorem mw_set {W : World} {g n : Nat} {f : Nat → Bool} (h : Mw g n f W) {fb j : Nat} {cz : Array Value} (hz : W.heap[fb]? = some (.cells cz 29 (0, 0))) (x : Value) : Mw g n f (W.setCell ⟨fb, j, none⟩ x) := by
  obtain ⟨cur, m1, m2⟩ := h
  exact ⟨cur, (set_other _ _ _ _ _ (blk_ne (by decide) hz m1)).trans m1, m2⟩
/-- WHAT Solve ANSWERS. -/
def Fo (P : Pb) (B : Nat) (w : World) (x : Ending) (w' : World) : Prop := ∃ v tr S vv, Rs P B v tr S ∧ x = .returned (.agg #[.int .i64 v, vv, .int .i64 S]) ∧ Below w.heap.size w w' ∧
  ((v ≠ 1 ∧ vv = .slice none 0 0) ∨ (v = 1 ∧ ∃ g, vv = .slice (some ⟨g, 0, none⟩) P.n P.n ∧ w.heap.size ≤ g ∧ Mw g P.n (mv tr) w'))
set_option maxRecDepth 100000 in
set_option maxHeartbeats 1000000 in
theorem find_any {P : Pb} (hP : P.Ok) {B : Nat} {ca qa : Option Addr} {cc qc : Nat} {w : World} (hB : B ≤ 1152921504606846976) (hN : P.N ≤ 140737488355328) (hm : P.m ≤ 140737488355328) (hln : ∀ k, k < P.N → P.ln k ≤ 140737488355328) (hR : Rr w ca P.N P.ln P.L) (hQ : Ri w qa P.m P.f) :
    Calls Try.prog 39 #[.int .i64 (P.n : Int), .slice ca P.N cc, .slice qa P.m qc, .int .i64 B] w fun x w' => Fo P B w x w' := by
  have hn := hP.n
  have mk := makeV P.n hn
  have HOK := hide hP
  obtain ⟨WA, hA⟩ : ∃ W, W = w.alloc (.cells #[.int .i64 0, .slice none 0 0, .int .i64 0] 29) := ⟨_, rfl⟩
  obtain ⟨q1, q2, q3⟩ := start_sm P B ca qa cc qc w WA _ _ _ _ w.heap.size rfl hA rfl rfl rfl rfl
  have hbA : Below w.heap.size w WA := by rw [hA]; exact (Below.refl _ _).alloc (Nat.le_refl _) _
  have cR := hide (run_any hP hB hN hm hln (hR.later hbA) (Ri.later hQ hbA) q1 q2)
  have HRB := hide (And.intro q3 hbA)
  have HSA := hide (show WA.heap.size = w.heap.size + 1 from by rw [hA]; simp)
  rw [hA] at cR
  have HA := hide hA
  clear hP hR hQ q1 q2 q3 hbA hA hln
  go_enter Try.func39, Try.ntmps39
  go_upto_region 4 with (first | (go_at_call 46; refine (counted_any B _).mono ?_; rintro x w2 ⟨rfl, hw2⟩; rw [hw2]; clear hw2 w2) | (go_at_call 47; refine (unhide cR).mono ?_; rintro x3 w3 ⟨v, s, S, tv, uv, hrs, rfl, hsm, hlo⟩; have HRS := hide hrs; have HSM := hide (And.intro hsm hlo); clear hrs hsm hlo))
  rw [← unhide HA] at HSM
  obtain ⟨rb, hrb⟩ : ∃ x, x = w.heap.size := ⟨_, rfl⟩
  have HF := hide (show Fh P w WA (rb + 1) (rb + 1 + 1) (rb + 1 + 1 + 1 + 1) (rb + 1 + 1 + 1) (rb + 5) B S ca qa cc qc s tv uv w3.heap.size rb (.int .i64 v) (.slice none 0 0) (.int .i64 0) (w3.alloc (.cells #[.int .i64 v, .slice none 0 0, .int .i64 0] 29)) from by
    have hb3 := (Below.refl w3.heap.size w3).alloc (Nat.le_refl _) (.cells #[.int .i64 v, .slice none 0 0, .int .i64 0] 29)
    have hsm := (unhide HSM).1
    have h1 := (unhide HSM).2
    have hlt : w.heap.size < WA.heap.size := by rw [unhide HSA]; omega
    rw [hrb]
    exact ⟨hsm.later hb3, heap_new _ _, (hb3.block _ (by omega)).trans ((hsm.bel.block _ hlt).trans (unhide HRB).1), by omega, by omega, bl_t (bl_t (unhide HRB).2 hsm.bel) hb3⟩)
  have HAF := hide (show WA.heap.size ≤ w3.heap.size from (unhide HSM).1.bel.size)
  rw [← hrb]
  clear HSM hrb
  generalize w3.heap.size = fb at *
  generalize w3.alloc (.cells #[.int .i64 v, .slice none 0 0, .int .i64 0] 29) = W4 at *
  have k0 := (cell_blk (unhide HF).fnd 0).1
  have k1 := (cell_blk (unhide HF).fnd 1).1
  have k2 := (cell_blk (unhide HF).fnd 2).1
  have y1 := (cell_blk (unhide HF).fnd 1).2
  have y2 := (cell_blk (unhide HF).fnd 2).2
  simp at k0 k1 k2
  by_cases hv : v = 1
  · have hv1 : (v == 1) = true := by simpa using hv
    have HV := hide hv
    clear hv
    have cM := hide (model_any (unhide HOK) (unhide HF).sm)
    go_upto_region 6 with (go_at_call 48; refine (unhide cM).mono ?_; rintro x5 w5 ⟨g, rfl, hg, hmw, hb5⟩; have HF5 := hide ((unhide HF).later hb5); have HMW := hide hmw; have HG := hide (show w.heap.size ≤ g from Nat.le_trans (unhide HF).bel.size hg); have k1 := (cell_blk (unhide HF5).fnd 1).1; have y1 := (cell_blk (unhide HF5).fnd 1).2; simp at k1; clear hmw hb5 hg)
    have HFB := hide ((unhide HF5).set (unhide HAF) (j := 1) (x := .slice (some ⟨g, 0, none⟩) P.n P.n) (y0 := .int .i64 v) (y1 := .slice (some ⟨g, 0, none⟩) P.n P.n) (y2 := .int .i64 0) (by simp))
    have HMW5 := hide (mw_set (unhide HMW) (unhide HF5).fnd (j := 1) (.slice (some ⟨g, 0, none⟩) P.n P.n))
    generalize w5.setCell ⟨fb, 1, none⟩ (.slice (some ⟨g, 0, none⟩) P.n P.n) = W5 at *
    clear k0 k1 k2 y1 y2 HF HF5 HMW
    have k2 := (cell_blk (unhide HFB).fnd 2).1
    have y2 := (cell_blk (unhide HFB).fnd 2).2
    simp at k2
    have cK := hide (made_any (unhide HFB).sm)
    have HF6 := hide ((unhide HFB).set (unhide HAF) (j := 2) (x := .int .i64 (S : Int)) (y0 := .int .i64 v) (y1 := .slice (some ⟨g, 0, none⟩) P.n P.n) (y2 := .int .i64 (S : Int)) (by simp))
    have HMW6 := hide (mw_set (unhide HMW5) (unhide HFB).fnd (j := 2) (.int .i64 (S : Int)))
    clear HFB HMW5
    go_upto_region 7 with (go_at_call 59; refine (unhide cK).mono ?_; rintro x6 w6 ⟨rfl, hw6⟩; rw [hw6]; clear hw6 w6)
    generalize W5.setCell ⟨fb, 2, none⟩ (.int .i64 (S : Int)) = W6 at *
    clear k2 y2
    have HST := hide ((unhide HF6).put (.int .i64 v) (.slice (some ⟨g, 0, none⟩) P.n P.n) (.int .i64 (S : Int)))
    have k0 := (cell_blk (unhide HF6).fnd 0).1
    have k1 := (cell_blk (unhide HF6).fnd 1).1
    have k2 := (cell_blk (unhide HF6).fnd 2).1
    have r0 := (cell_blk (unhide HF6).res 0).1
    have r1 := (cell_blk (unhide HF6).res 1).1
    have r2 := (cell_blk (unhide HF6).res 2).1
    have y0 := (cell_blk (unhide HF6).res 0).2
    have y1 := (cell_blk (unhide HF6).res 1).2
    have y2 := (cell_blk (unhide HF6).res 2).2
    simp at k0 k1 k2 r0 r1 r2
    go_wp2_with fail
    generalize ((W6.setCell ⟨rb, 0, none⟩ (.int .i64 v)).setCell ⟨rb, 1, none⟩ (.slice (some ⟨g, 0, none⟩) P.n P.n)).setCell ⟨rb, 2, none⟩ (.int .i64 (S : Int)) = W7 at HST ⊢
    have q0 := (cell_blk (unhide HST).1 0).1
    have q1 := (cell_blk (unhide HST).1 1).1
    have q2 := (cell_blk (unhide HST).1 2).1
    simp at q0 q1 q2
    exact bodyPost_ret (v := .agg #[.int .i64 v, .slice (some ⟨g, 0, none⟩) P.n P.n, .int .i64 (S : Int)]) (by simp [results, Try.results39, go_sem, q0, q1, q2]) rfl ⟨v, s.tr, S, _, unhide HRS, rfl, (unhide HST).2.1, .inr ⟨unhide HV, g, rfl, unhide HG, (unhide HST).2.2 _ _ _ (unhide HMW6)⟩⟩
  · have hv1 : (v == 1) = false := by simpa using hv
    have HV := hide hv
    clear hv
    have cK := hide (made_any (unhide HF).sm)
    have HF6 := hide ((unhide HF).set (unhide HAF) (j := 2) (x := .int .i64 (S : Int)) (y0 := .int .i64 v) (y1 := .slice none 0 0) (y2 := .int .i64 (S : Int)) (by simp))
    clear HF
    go_upto_region 7 with (go_at_call 59; refine (unhide cK).mono ?_; rintro x6 w6 ⟨rfl, hw6⟩; rw [hw6]; clear hw6 w6)
    generalize W4.setCell ⟨fb, 2, none⟩ (.int .i64 (S : Int)) = W6 at *
    clear k0 k1 k2 y1 y2
    have HST := hide ((unhide HF6).put (.int .i64 v) (.slice none 0 0) (.int .i64 (S : Int)))
    have k0 := (cell_blk (unhide HF6).fnd 0).1
    have k1 := (cell_blk (unhide HF6).fnd 1).1
    have k2 := (cell_blk (unhide HF6).fnd 2).1
    have r0 := (cell_blk (unhide HF6).res 0).1
    have r1 := (cell_blk (unhide HF6).res 1).1
    have r2 := (cell_blk (unhide HF6).res 2).1
    have y0 := (cell_blk (unhide HF6).res 0).2
    have y1 := (cell_blk (unhide HF6).res 1).2
    have y2 := (cell_blk (unhide HF6).res 2).2
    simp at k0 k1 k2 r0 r1 r2
    go_wp2_with fail
    generalize ((W6.setCell ⟨rb, 0, none⟩ (.int .i64 v)).setCell ⟨rb, 1, none⟩ (.slice none 0 0)).setCell ⟨rb, 2, none⟩ (.int .i64 (S : Int)) = W7 at HST ⊢
    have q0 := (cell_blk (unhide HST).1 0).1
    have q1 := (cell_blk (unhide HST).1 1).1
    have q2 := (cell_blk (unhide HST).1 2).1
    simp at q0 q1 q2
    exact bodyPost_ret (v := .agg #[.int .i64 v, .slice none 0 0, .int .i64 (S : Int)]) (by simp [results, Try.results39, go_sem, q0, q1, q2]) rfl ⟨v, s.tr, S, _, unhide HRS, rfl, (unhide HST).2.1, .inl ⟨unhide HV, rfl⟩⟩
end Go.Proofs.Ytabjbppekijfiaa
