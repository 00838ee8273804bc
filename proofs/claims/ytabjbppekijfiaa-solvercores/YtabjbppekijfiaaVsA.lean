import Derived.Test.YtabjbppekijfiaaSvH
import Derived.Test.YtabjbppekijfiaaVsS
namespace Go.Proofs.Ytabjbppekijfiaa
open Go.RowKit

def tV (tr : List Int) : List Value := tr.map fun l => .int .i64 l
def uV (tu : List (Nat × Nat)) : List Value := tu.flatMap fun t => [.int .i64 t.1, .int .i64 t.2]
/-- THE SEARCH AS IT LIES. -/
structure Sm (P : Pb) (w0 : World) (bb kb sb vb lo B c : Nat) (ca qa : Option Addr) (cc qc : Nat) (vr : List Int) (s : Sx) (tv uv : Value) (W : World) : Prop where
  bud : W.heap[bb]? = some (.cells #[.int .i64 B] 3 (0, 0))
  lks : W.heap[kb]? = some (.cells #[.int .i64 c] 3 (0, 0))
  str : W.heap[sb]? = some (.cells #[.slice ca P.N cc, .slice qa P.m qc, .int .i64 s.lk, .slice (some ⟨vb, 0, none⟩) P.n P.n, tv, uv] 86 (0, 0))
  val : ∃ cur, W.heap[vb]? = some (.cells cur 101 (0, 0)) ∧ ∀ v, v < P.n → cur[v]? = some (.int .i8 (vt vr v))
  trl : W.ownsRow lo 3 1 tv s.tr.length (tV s.tr)
  trn : W.ownsRow lo 107 2 uv s.tu.length (uV s.tu)
  ord : bb < kb ∧ kb < lo ∧ w0.heap.size ≤ bb ∧ w0.heap.size ≤ sb ∧ w0.heap.size ≤ vb
  bel : Below w0.heap.size w0 W
theorem Sm.later {P : Pb} {w0 : World} {bb kb sb vb lo B c : Nat} {ca qa : Option Addr} {cc qc : Nat} {vr : List Int} {s : Sx} {tv uv : Value} {W W2 : World} (h : Sm P w0 bb kb sb vb lo B c ca qa cc qc vr s tv uv W) (hb : Below W.heap.size W W2) : Sm P w0 bb kb sb vb lo B c ca qa cc qc vr s tv uv W2 := by
  obtain ⟨cur, v1, v2⟩ := h.val
  exact ⟨(hb.block _ (blk_lt h.bud)).trans h.bud, (hb.block _ (blk_lt h.lks)).trans h.lks, (hb.block _ (blk_lt h.str)).trans h.str, ⟨cur, (hb.block _ (blk_lt v1)).trans v1, v2⟩, owns_below h.trl hb, owns_below h.trn hb, h.ord, bl_t h.bel hb⟩
theorem Sm.cells {P : Pb} {w0 : World} {bb kb sb vb lo B c : Nat} {ca qa : Option Addr} {cc qc : Nat} {vr : List Int} {s : Sx} {tv uv : Value} {W : World} (h : Sm P w0 bb kb sb vb lo B c ca qa cc qc vr s tv uv W) :
    W.cell? ⟨sb, 0, none⟩ = some (.slice ca P.N cc) ∧ W.cell? ⟨sb, 1, none⟩ = some (.slice qa P.m qc) ∧ W.cell? ⟨sb, 2, none⟩ = some (.int .i64 s.lk) ∧ W.cell? ⟨sb, 3, none⟩ = some (.slice (some ⟨vb, 0, none⟩) P.n P.n) ∧ W.cell? ⟨sb, 4, none⟩ = some tv ∧ W.cell? ⟨sb, 5, none⟩ = some uv ∧ ∀ k, W.frozen? ⟨sb, k, none⟩ = false :=
  ⟨(cell_blk h.str 0).1, (cell_blk h.str 1).1, (cell_blk h.str 2).1, (cell_blk h.str 3).1, (cell_blk h.str 4).1, (cell_blk h.str 5).1, fun k => (cell_blk h.str k).2⟩
theorem Sm.vcell {P : Pb} {w0 : World} {bb kb sb vb lo B c : Nat} {ca qa : Option Addr} {cc qc : Nat} {vr : List Int} {s : Sx} {tv uv : Value} {W : World} (h : Sm P w0 bb kb sb vb lo B c ca qa cc qc vr s tv uv W) {v : Nat} (hv : v < P.n) : W.cell? ⟨vb, v, none⟩ = some (.int .i8 (vt vr v)) ∧ W.frozen? ⟨vb, v, none⟩ = false := by
  obtain ⟨cur, v1, v2⟩ := h.val
  exact ⟨(cell_blk v1 v).1.trans (v2 v hv), (cell_blk v1 v).2⟩
theorem ret_i8 {a b : Int} (h : a = b) : Ending.returned (.int .i8 a) = .returned (.int .i8 b) := by rw [h]
set_option maxHeartbeats 2000000 in
theorem stands_any {P : Pb} (hP : P.Ok) {w0 : World} {bb kb sb vb lo B c : Nat} {ca qa : Option Addr} {cc qc : Nat} {s : Sx} {tv uv : Value} {w : World} (h : Sm P w0 bb kb sb vb lo B c ca qa cc qc s.tr s tv uv w) (l : Int) (hl : okL P.n l = true) :
    Calls Try.prog 67 #[.pointer (some ⟨sb, 0, none⟩), .int .i64 l] w fun x w' => x = .returned (.int .i8 (stn s.tr l)) ∧ ∃ d, w' = w.drewN d := by
  obtain ⟨z1, z2, z3⟩ := (okL_iff _ _).1 hl
  have hn := hP.n
  obtain ⟨_, _, _, c3, _⟩ := h.cells
  obtain ⟨cv, _⟩ := h.vcell (v := l.natAbs - 1) (by omega)
  have cA := hide (fun w => variable_any l (by omega) (by omega) w)
  have i1 : (((l.natAbs : Int) - 1).toNat) = l.natAbs - 1 := by omega
  have i2 : (0 : Int) ≤ (l.natAbs : Int) - 1 := by omega
  have i3 : (l.natAbs : Int) - 1 < (P.n : Int) := by omega
  have hr := vt_range s.tr (l.natAbs - 1)
  have HS := hide (show stn s.tr l = if l < 0 then -(vt s.tr (l.natAbs - 1)) else vt s.tr (l.natAbs - 1) from rfl)
  generalize stn s.tr l = R at *
  generalize vt s.tr (l.natAbs - 1) = q at *
  clear h hP
  by_cases hneg : l < 0
  · rw [if_pos hneg] at HS
    have h8 : IntKind.i8.wrap (-q) = -q := by rcases hr with e | e | e <;> subst e <;> rfl
    generalize hm : l.natAbs = m at *
    generalize P.n = n at *
    go_enter Try.func67, Try.ntmps67
    go_wp2_with fail
    go_quiet (first | (go_at_call 49; exact Calls.quiet_of_same (unhide cA _)))
    go_wp2
    go_ret
    exact ⟨ret_i8 (unhide HS).symm, _, rfl⟩
  · rw [if_neg hneg] at HS
    generalize hm : l.natAbs = m at *
    generalize P.n = n at *
    go_enter Try.func67, Try.ntmps67
    go_wp2_with fail
    go_quiet (first | (go_at_call 49; exact Calls.quiet_of_same (unhide cA _)))
    go_wp2
    go_ret
    exact ⟨ret_i8 (unhide HS).symm, _, rfl⟩
theorem prefix_own {W : World} {lo e size g n cap p : Nat} {xs : List Value} (h : W.ownsRow lo e size (.slice (some ⟨g, 0, none⟩) n cap) n xs) (hp : p ≤ n) : W.ownsRow lo e size (.slice (some ⟨g, 0, none⟩) p cap) p (xs.take (p * size)) := by
  rcases h.2 with ⟨h1, _⟩ | ⟨g', cap', cur, h1, h2, h3, h4, h5, h6, h7⟩
  · cases h1
  · cases h1
    have hps : p * size ≤ n * size := Nat.mul_le_mul_right _ hp
    refine ⟨by rw [List.length_take, h.1]; omega, .inr ⟨g, cap, cur, rfl, h2, h3, Nat.le_trans hp h4, h5, h6, ?_⟩⟩
    rw [← h7, List.take_take, Nat.min_eq_left hps]
structure Bx (T : Prop) : Prop where
  out : T
theorem merge {T G : Prop} (h : Bx T → G) (k : T) : G := h ⟨k⟩
theorem own_set {W : World} {lo e size n vb v : Nat} {u x : Value} {xs : List Value} {cur : Array Value} {t : TypeId} (he : e ≠ t) (hv : W.heap[vb]? = some (.cells cur t (0, 0))) (ho : W.ownsRow lo e size u n xs) : (W.setCell ⟨vb, v, none⟩ x).ownsRow lo e size u n xs := by
  refine ⟨ho.1, ?_⟩
  rcases ho.2 with h' | ⟨g, cap, cr, h1, h2, h3, h4⟩
  · exact .inl h'
  · exact .inr ⟨g, cap, cr, h1, h2, (set_other _ _ _ _ _ (blk_ne (fun q => he q.symm) hv h3)).trans h3, h4⟩
/-- Behind a value that was written. -/
theorem Sm.setv {P : Pb} {w0 : World} {bb kb sb vb lo B c : Nat} {ca qa : Option Addr} {cc qc : Nat} {vr : List Int} {s : Sx} {tv uv : Value} {W : World} (h : Sm P w0 bb kb sb vb lo B c ca qa cc qc vr s tv uv W) (tr2 : List Int) {v : Nat} (hv : v < P.n) (x : Int) (hx : ∀ u, u < P.n → vt tr2 u = if u = v then x else vt vr u) :
    Sm P w0 bb kb sb vb lo B c ca qa cc qc tr2 s tv uv (W.setCell ⟨vb, v, none⟩ (.int .i8 x)) := by
  obtain ⟨cur, v1, v2⟩ := h.val
  have hb : ∀ q, q ≠ vb → (W.setCell ⟨vb, v, none⟩ (.int .i8 x)).heap[q]? = W.heap[q]? := fun q hq => set_other _ _ _ _ _ hq
  refine ⟨(hb _ (blk_ne (by decide) v1 h.bud)).trans h.bud, (hb _ (blk_ne (by decide) v1 h.lks)).trans h.lks, (hb _ (blk_ne (by decide) v1 h.str)).trans h.str, ⟨_, set_blk v1 v _, fun u hu => ?_⟩, own_set (by decide) v1 h.trl, own_set (by decide) v1 h.trn, h.ord, h.bel.setCell (p := ⟨vb, v, none⟩) h.ord.2.2.2.2 _⟩
  rw [hx u hu]
  by_cases e : u = v
  · subst e
    have hlt := (Array.getElem?_eq_some_iff.1 (v2 u hu)).1
    simp [hlt]
  · rw [if_neg e, Array.getElem?_setIfInBounds_ne (fun q => e q.symm)]
    exact v2 u hu
/-- Behind a field of the search that was written: the trail, the turns, how far prefer was gone through. -/
theorem Sm.sets {P : Pb} {w0 : World} {bb kb sb vb lo B c : Nat} {ca qa : Option Addr} {cc qc : Nat} {vr : List Int} {s : Sx} {tv uv : Value} {W : World} (h : Sm P w0 bb kb sb vb lo B c ca qa cc qc vr s tv uv W) {j : Nat} {x : Value} {tv2 uv2 : Value} {s2 : Sx}
    (hj : (#[.slice ca P.N cc, .slice qa P.m qc, .int .i64 s.lk, .slice (some ⟨vb, 0, none⟩) P.n P.n, tv, uv] : Array Value).setIfInBounds j x = #[.slice ca P.N cc, .slice qa P.m qc, .int .i64 s2.lk, .slice (some ⟨vb, 0, none⟩) P.n P.n, tv2, uv2])
    (ht : W.ownsRow lo 3 1 tv2 s2.tr.length (tV s2.tr)) (hu : W.ownsRow lo 107 2 uv2 s2.tu.length (uV s2.tu)) :
    Sm P w0 bb kb sb vb lo B c ca qa cc qc vr s2 tv2 uv2 (W.setCell ⟨sb, j, none⟩ x) := by
  obtain ⟨cur, v1, v2⟩ := h.val
  have hb : ∀ q, q ≠ sb → (W.setCell ⟨sb, j, none⟩ x).heap[q]? = W.heap[q]? := fun q hq => set_other _ _ _ _ _ hq
  exact ⟨(hb _ (blk_ne (by decide) h.str h.bud)).trans h.bud, (hb _ (blk_ne (by decide) h.str h.lks)).trans h.lks, hj ▸ set_blk h.str j _, ⟨cur, (hb _ (blk_ne (by decide) h.str v1)).trans v1, v2⟩, own_set (by decide) h.str ht, own_set (by decide) h.str hu, h.ord, h.bel.setCell (p := ⟨sb, j, none⟩) h.ord.2.2.2.1 _⟩
/-- Behind an append to one of its rows. -/
theorem Sm.grown {P : Pb} {w0 : World} {bb kb sb vb lo B c : Nat} {ca qa : Option Addr} {cc qc : Nat} {vr : List Int} {s : Sx} {tv uv : Value} {W W2 : World} (h : Sm P w0 bb kb sb vb lo B c ca qa cc qc vr s tv uv W) {row : Option Nat} (hg : W.grownBy W2 row) (hr : row = tv.ownBlock ∨ row = uv.ownBlock) :
    W2.heap[bb]? = some (.cells #[.int .i64 B] 3 (0, 0)) ∧ W2.heap[kb]? = some (.cells #[.int .i64 c] 3 (0, 0)) ∧ W2.heap[sb]? = some (.cells #[.slice ca P.N cc, .slice qa P.m qc, .int .i64 s.lk, .slice (some ⟨vb, 0, none⟩) P.n P.n, tv, uv] 86 (0, 0)) ∧ (∃ cur, W2.heap[vb]? = some (.cells cur 101 (0, 0)) ∧ ∀ v, v < P.n → cur[v]? = some (.int .i8 (vt vr v))) ∧ Below w0.heap.size w0 W2 := by
  obtain ⟨cur, v1, v2⟩ := h.val
  have hlo : ∀ k, row = some k → lo ≤ k ∧ (∃ cu, W.heap[k]? = some (.cells cu 3 (0, 0)) ∨ W.heap[k]? = some (.cells cu 107 (0, 0))) := fun k hk => by
    rcases hr with e | e
    · have h1 := h.trl.lt k (by rw [← e]; exact hk)
      rcases h.trl.2 with ⟨e1, _⟩ | ⟨g, cap, cu, e1, _, hg', _⟩
      · rw [e, e1] at hk; cases hk
      · rw [e, e1] at hk
        injection hk with hk
        have hk' : g = k := hk
        subst hk'
        exact ⟨h1.1, cu, .inl hg'⟩
    · have h1 := h.trn.lt k (by rw [← e]; exact hk)
      rcases h.trn.2 with ⟨e1, _⟩ | ⟨g, cap, cu, e1, _, hg', _⟩
      · rw [e, e1] at hk; cases hk
      · rw [e, e1] at hk
        injection hk with hk
        have hk' : g = k := hk
        subst hk'
        exact ⟨h1.1, cu, .inr hg'⟩
  obtain ⟨o1, o2, o3, o4, o5⟩ := h.ord
  have nb : some bb ≠ row := fun e => by have := (hlo bb e.symm).1; omega
  have nk : some kb ≠ row := fun e => by have := (hlo kb e.symm).1; omega
  have ns : some sb ≠ row := fun e => by
    obtain ⟨_, cu, q | q⟩ := hlo sb e.symm
    · exact blk_ne (by decide) h.str q rfl
    · exact blk_ne (by decide) h.str q rfl
  have nv : some vb ≠ row := fun e => by
    obtain ⟨_, cu, q | q⟩ := hlo vb e.symm
    · exact blk_ne (by decide) v1 q rfl
    · exact blk_ne (by decide) v1 q rfl
  exact ⟨(hg.block _ (blk_lt h.bud) nb).trans h.bud, (hg.block _ (blk_lt h.lks) nk).trans h.lks, (hg.block _ (blk_lt h.str) ns).trans h.str, ⟨cur, (hg.block _ (blk_lt v1) nv).trans v1, v2⟩, h.bel.grown hg h.bel.size (fun k e => Nat.le_trans (by omega) (hlo k e).1)⟩
/-- ROWS OF TWO TYPES ARE TWO BLOCKS. -/
theorem owns_two {W : World} {b1 b2 e1 e2 s1 s2 : Nat} (he : e1 ≠ e2) {v u : Value} {n m : Nat} {xs ys : List Value} (h : W.ownsRow b1 e1 s1 v n xs) (k : W.ownsRow b2 e2 s2 u m ys) : v.ownBlock = none ∨ v.ownBlock ≠ u.ownBlock := by
  rcases h.2 with ⟨rfl, _⟩ | ⟨g, cap, cur, rfl, _, hg, _⟩
  · exact .inl rfl
  · refine .inr fun e => ?_
    rcases k.2 with ⟨rfl, _⟩ | ⟨g', cap', cur', rfl, _, hg', _⟩
    · simp [Value.ownBlock] at e
    · obtain rfl : g = g' := by simpa [Value.ownBlock] using e
      exact blk_ne he hg hg' rfl
theorem Sm.app {P : Pb} {w0 : World} {bb kb sb vb lo B c : Nat} {ca qa : Option Addr} {cc qc : Nat} {vr : List Int} {s : Sx} {tv uv : Value} {W W2 : World} (h : Sm P w0 bb kb sb vb lo B c ca qa cc qc vr s tv uv W) {row : Option Nat} (hg : W.grownBy W2 row) (hr : row = tv.ownBlock ∨ row = uv.ownBlock) {j : Nat} {x : Value} {tv2 uv2 : Value} {s2 : Sx}
    (hj : (#[.slice ca P.N cc, .slice qa P.m qc, .int .i64 s.lk, .slice (some ⟨vb, 0, none⟩) P.n P.n, tv, uv] : Array Value).setIfInBounds j x = #[.slice ca P.N cc, .slice qa P.m qc, .int .i64 s2.lk, .slice (some ⟨vb, 0, none⟩) P.n P.n, tv2, uv2])
    (ht : W2.ownsRow lo 3 1 tv2 s2.tr.length (tV s2.tr)) (hu : W2.ownsRow lo 107 2 uv2 s2.tu.length (uV s2.tu)) :
    Sm P w0 bb kb sb vb lo B c ca qa cc qc vr s2 tv2 uv2 (W2.setCell ⟨sb, j, none⟩ x) := by
  obtain ⟨g1, g2, g3, ⟨cur, v1, v2⟩, g5⟩ := h.grown hg hr
  have hb : ∀ q, q ≠ sb → (W2.setCell ⟨sb, j, none⟩ x).heap[q]? = W2.heap[q]? := fun q hq => set_other _ _ _ _ _ hq
  exact ⟨(hb _ (blk_ne (by decide) g3 g1)).trans g1, (hb _ (blk_ne (by decide) g3 g2)).trans g2, hj ▸ set_blk g3 j _, ⟨cur, (hb _ (blk_ne (by decide) g3 v1)).trans v1, v2⟩, own_set (by decide) g3 ht, own_set (by decide) g3 hu, h.ord, g5.setCell (p := ⟨sb, j, none⟩) h.ord.2.2.2.1 _⟩
theorem tV_snoc (tr : List Int) (l : Int) : tV (tr ++ [l]) = tV tr ++ [.int .i64 l] := by simp [tV]
theorem uV_snoc (tu : List (Nat × Nat)) (t : Nat × Nat) : uV (tu ++ [t]) = uV tu ++ [.int .i64 t.1, .int .i64 t.2] := by simp [uV]
theorem Sm.appT {P : Pb} {w0 : World} {bb kb sb vb lo B c : Nat} {ca qa : Option Addr} {cc qc : Nat} {vr : List Int} {s : Sx} {tv uv tv2 : Value} {W W2 : World} {l : Int} (h : Sm P w0 bb kb sb vb lo B c ca qa cc qc vr s tv uv W) (hg : W.grownBy W2 tv.ownBlock) (ho : W2.ownsRow lo 3 1 tv2 (s.tr.length + 1) (tV s.tr ++ [.int .i64 l])) :
    Sm P w0 bb kb sb vb lo B c ca qa cc qc vr ⟨s.tr ++ [l], s.tu, s.lk⟩ tv2 uv (W2.setCell ⟨sb, 4, none⟩ tv2) :=
  h.app hg (.inl rfl) (s2 := ⟨s.tr ++ [l], s.tu, s.lk⟩) (by simp) (by rw [tV_snoc]; simpa using ho) (h.trn.kept hg (owns_two (by decide) h.trn h.trl))
set_option maxRecDepth 100000 in
set_option maxHeartbeats 4000000 in
theorem set_any {P : Pb} (hP : P.Ok) {w0 : World} {bb kb sb vb lo B c : Nat} {ca qa : Option Addr} {cc qc : Nat} {s : Sx} {tv uv : Value} {w : World} (h : Sm P w0 bb kb sb vb lo B c ca qa cc qc s.tr s tv uv w) (hlen : s.tr.length < P.n) (hlo : lo ≤ w.heap.size) (l : Int) (hl : okL P.n l = true) (ho : stn s.tr l = 0) :
    Calls Try.prog 62 #[.pointer (some ⟨sb, 0, none⟩), .int .i64 l] w fun x w' => x = .returned (.tuple #[]) ∧ ∃ tv', Sm P w0 bb kb sb vb lo B c ca qa cc qc (s.tr ++ [l]) ⟨s.tr ++ [l], s.tu, s.lk⟩ tv' uv w' ∧ lo ≤ w'.heap.size := by
  obtain ⟨z1, z2, z3⟩ := (okL_iff _ _).1 hl
  have hn := hP.n
  have HH := hide h
  obtain ⟨_, _, _, c3, c4, _, fr⟩ := h.cells
  obtain ⟨cv, fv⟩ := h.vcell (v := l.natAbs - 1) (by omega)
  have cA := hide (fun w => variable_any l (by omega) (by omega) w)
  have i1 : (((l.natAbs : Int) - 1).toNat) = l.natAbs - 1 := by omega
  have i2 : (0 : Int) ≤ (l.natAbs : Int) - 1 := by omega
  have i3 : (l.natAbs : Int) - 1 < (P.n : Int) := by omega
  obtain ⟨ta, tc, htv⟩ := owns_form h.trl
  subst htv
  have HW := hide (fun x (hx : x = sg l) => (h.setv (s.tr ++ [l]) (v := l.natAbs - 1) (by omega) x (fun u hu => by rw [vt_snoc z1 ho, hx])).later ((Below.refl _ _).drew))
  have HSZ := hide (fun x => show lo ≤ (w.setCell ⟨vb, l.natAbs - 1, none⟩ (.int .i8 x)).drew.heap.size from by rw [show (w.setCell ⟨vb, l.natAbs - 1, none⟩ (.int .i8 x)).drew.heap.size = w.heap.size from set_size _ _ _ _]; exact hlo)
  obtain ⟨i0, hi0, hz0, hz1, hz2⟩ := info_parts infoI
  clear h hP hlo
  generalize hm : l.natAbs = m at *
  generalize hk : s.tr.length = tl at *
  have HK := hide hk
  clear hk
  by_cases hneg : l < 0
  · have HW2 := hide (unhide HW (-1) (by unfold sg; rw [if_pos hneg]))
    clear HW
    go_enter Try.func62, Try.ntmps62
    go_wp2_with fail
    apply merge
    case h => intro KEY; go_region_with (first | (go_at_call 49; refine (unhide cA _).mono ?_; rintro x w2 ⟨rfl, hw2⟩; rw [hw2]; clear hw2 w2)); all_goals exact KEY.out
    have hlo := unhide HSZ (-1)
    generalize (w.setCell ⟨vb, m - 1, none⟩ (.int .i8 (-1))).drew = W2 at HW2 hlo ⊢
    clear c3 c4 fr cv fv HSZ
    obtain ⟨_, _, _, c3, c4, _, fr⟩ := (unhide HW2).cells
    have HA := hide ((unhide HW2).later ((Below.refl W2.heap.size W2).alloc (Nat.le_refl _) (.cells #[.int .i64 l] 3)))
    have f4 := fr 4
    clear fr
    go_wp2_with (at_builtin; go_must (refine wpList_append_lies _ rfl _ _ 23 rfl lo 3 i0 (.int .i64 0) 1 8 Try.underlying23 hi0 hz0 hz1 hz2 rfl (by decide) (.slice ta tl tc) tl (tV s.tr) rfl (by have := (unhide HA).trl; rw [unhide HK] at this; exact this) ⟨W2.heap.size, 0, none⟩ 1 1 [.int .i64 l] rfl rfl (cell_one_new _ _ _) (by simp [Value.oneCell']) (by decide) (by unfold maxLen; omega) (by omega) (by simp; omega) _ rfl ?_); intro gg c9 w9 hown hgrow hat _; have HX := hide ((unhide HA).appT hgrow (by rw [unhide HK]; exact hown)); have k4 := (cell_blk ((unhide HA).grown hgrow (.inl rfl)).2.2.1 4).1; have g4 := (cell_blk ((unhide HA).grown hgrow (.inl rfl)).2.2.1 4).2; have hl9 : lo ≤ w9.heap.size := Nat.le_trans (by simp; omega) hgrow.size; clear hown hgrow hat)
    go_end0
    exact ⟨rfl, _, unhide HX, by rw [set_size]; exact hl9⟩
  · have HW2 := hide (unhide HW 1 (by unfold sg; rw [if_neg hneg]))
    clear HW
    go_enter Try.func62, Try.ntmps62
    go_wp2_with fail
    apply merge
    case h => intro KEY; go_region_with (first | (go_at_call 49; refine (unhide cA _).mono ?_; rintro x w2 ⟨rfl, hw2⟩; rw [hw2]; clear hw2 w2)); all_goals exact KEY.out
    have hlo := unhide HSZ 1
    generalize (w.setCell ⟨vb, m - 1, none⟩ (.int .i8 1)).drew = W2 at HW2 hlo ⊢
    clear c3 c4 fr cv fv HSZ
    obtain ⟨_, _, _, c3, c4, _, fr⟩ := (unhide HW2).cells
    have HA := hide ((unhide HW2).later ((Below.refl W2.heap.size W2).alloc (Nat.le_refl _) (.cells #[.int .i64 l] 3)))
    have f4 := fr 4
    clear fr
    go_wp2_with (at_builtin; go_must (refine wpList_append_lies _ rfl _ _ 23 rfl lo 3 i0 (.int .i64 0) 1 8 Try.underlying23 hi0 hz0 hz1 hz2 rfl (by decide) (.slice ta tl tc) tl (tV s.tr) rfl (by have := (unhide HA).trl; rw [unhide HK] at this; exact this) ⟨W2.heap.size, 0, none⟩ 1 1 [.int .i64 l] rfl rfl (cell_one_new _ _ _) (by simp [Value.oneCell']) (by decide) (by unfold maxLen; omega) (by omega) (by simp; omega) _ rfl ?_); intro gg c9 w9 hown hgrow hat _; have HX := hide ((unhide HA).appT hgrow (by rw [unhide HK]; exact hown)); have k4 := (cell_blk ((unhide HA).grown hgrow (.inl rfl)).2.2.1 4).1; have g4 := (cell_blk ((unhide HA).grown hgrow (.inl rfl)).2.2.1 4).2; have hl9 : lo ≤ w9.heap.size := Nat.le_trans (by simp; omega) hgrow.size; clear hown hgrow hat)
    go_end0
    exact ⟨rfl, _, unhide HX, by rw [set_size]; exact hl9⟩
end Go.Proofs.Ytabjbppekijfiaa
