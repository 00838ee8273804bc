import Derived.Test.YtjnbnndocinicaaGreatDoorWvR3
import Derived.Sort.KeysCollected
import Derived.Maps.RangeWalk
import Derived.Maps.AppendAt
import Derived.Laws.AppendOwnNone
import Derived.Test.YtjnbnndocinicaaGreatDoorWvR1
import Derived.Test.YtjnbnndocinicaaGreatDoorWvR2
import Derived.Deep.QuietTactic
import Derived.BigQuiet
namespace Go.Proofs.YtjnbnndocinicaaGreatDoor
open Go.RowKit Go.Maps

/-- A PART AND WHAT FELL OUT OF IT, WHILE IT IS LOOKED THROUGH. -/
structure Dw (W wr : World) (gi n : Nat) (s : Value) (inn : Nat → Bool) (L : List Nat) : Prop where
  b : Bb wr gi n inn
  row : wr.ownsRow W.heap.size 3 1 s L.length (ints L)
  fx : Fx (fun c => c = gi) W wr
theorem Dw.later {W wr X : World} {gi n : Nat} {s : Value} {inn : Nat → Bool} {L : List Nat} (h : Dw W wr gi n s inn L) (hb : RowKit.Below wr.heap.size wr X) : Dw W X gi n s inn L :=
  ⟨h.b.later hb, own_same h.row fun b e => hb.block b (World.ownsRow.lt h.row b e).2, h.fx.trans (Fx.of hb)⟩
theorem Dw.set {W wr : World} {gi n : Nat} {s : Value} {inn : Nat → Bool} {L : List Nat} (h : Dw W wr gi n s inn L) (hg : gi < W.heap.size) {p : Nat} (hp : p < n) : Dw W (wr.setCell ⟨gi, p, none⟩ (.bool false)) gi n s (fun i => if i = p then false else inn i) L :=
  ⟨h.b.set hp false, own_same h.row fun b e => set_other wr gi p (.bool false) b (by have := (World.ownsRow.lt h.row b e).1; omega), h.fx.set rfl p (.bool false)⟩
theorem Dw.grow {W wr w9 : World} {gi n : Nat} {s v' : Value} {inn : Nat → Bool} {L : List Nat} {p : Nat} {o : Obj} (h : Dw W wr gi n s inn L) (hg : gi < W.heap.size) (hown : w9.ownsRow W.heap.size 3 1 v' (L.length + 1) (ints L ++ [.int .i64 (p : Int)])) (hgr : (wr.alloc o).grownBy w9 s.ownBlock) : Dw W w9 gi n v' inn (L ++ [p]) := by
  have hz := h.fx.size
  have b1 : RowKit.Below wr.heap.size wr (wr.alloc o) := (Below.refl _ wr).alloc (Nat.le_refl _) _
  have ne : ∀ c, c < W.heap.size → some c ≠ s.ownBlock := fun c hc e => by have := (World.ownsRow.lt h.row c e.symm).1; omega
  have kp : ∀ c, c < W.heap.size → w9.heap[c]? = wr.heap[c]? := fun c hc => (hgr.block c (by rw [World.size_alloc]; omega) (ne c hc)).trans (b1.block c (by omega))
  have b2 : RowKit.Below 0 wr w9 := (b1.mono (Nat.zero_le _)).grown hgr (Nat.zero_le _) (fun _ _ => Nat.zero_le _)
  refine ⟨?_, ?_, ⟨h.fx.bel.trans b2, fun c hc hn => (kp c hc).trans (h.fx.blk c hc hn)⟩⟩
  · obtain ⟨cur, h1, h2⟩ := h.b.blk
    exact ⟨cur, (kp gi hg).trans h1, h2⟩
  · rw [List.length_append, show ints (L ++ [p]) = ints L ++ [.int .i64 (p : Int)] from by simp [ints]]
    exact hown
theorem Bb.bls {W : World} {g n : Nat} {f : Nat → Bool} (h : Bb W g n f) : Bls W (.slice (some ⟨g, 0, none⟩) n n) f n := ⟨_, _, rfl, fun _ => ⟨g, rfl, h.lt, fun _ hi => (h.cell hi).1⟩⟩
theorem own_pl {lo : Nat} {w : World} {r : Value} {l : List Nat} (h : w.ownsRow lo 3 1 r l.length (ints l)) : Pl lo w r l := by
  rcases h.2 with ⟨q1, q2⟩ | ⟨g, cap, cur, q1, q2, q3, _⟩
  · refine ⟨none, 0, by rw [q1, q2], fun i p hp => ?_⟩
    have hl : l = [] := List.length_eq_zero_iff.1 q2
    subst hl
    simp at hp
  · refine ⟨some ⟨g, 0, none⟩, cap, q1, fun i p hp => ⟨g, rfl, q2, blk_lt q3, ?_⟩⟩
    have hc := h.cells (g := g) (by rw [q1]; rfl) i (.int .i64 (p : Int)) (by unfold ints; rw [List.getElem?_map, hp]; rfl)
    rw [Addr.add_mid, Nat.zero_add] at hc
    exact hc
theorem Pl.later {lo : Nat} {w w2 : World} {r : Value} {l : List Nat} (h : Pl lo w r l) (hb : RowKit.Below w.heap.size w w2) : Pl lo w2 r l := by
  obtain ⟨a, c, h1, h2⟩ := h
  refine ⟨a, c, h1, fun i p hp => ?_⟩
  obtain ⟨g, q1, q2, q3, q4⟩ := h2 i p hp
  exact ⟨g, q1, q2, Nat.lt_of_lt_of_le q3 hb.size, (hb.cell (p := ⟨g, i, none⟩) q3).trans q4⟩
theorem fx_below {w0 w w' : World} {gi : Nat} (h0 : RowKit.Below w0.heap.size w0 w) (hf : Fx (fun c => c = gi) w w') (hg : w0.heap.size ≤ gi) : RowKit.Below w0.heap.size w0 w' :=
  ⟨hf.bel.os.trans h0.os, hf.bel.tape.trans h0.tape, hf.bel.output.trans h0.output, Nat.le_trans h0.size hf.bel.size, fun c hc => (hf.blk c (Nat.lt_of_lt_of_le hc h0.size) (fun e => by omega)).trans (h0.block c hc)⟩
set_option maxRecDepth 100000 in
set_option maxHeartbeats 8000000 in
/-- WHAT FALLS, AND THE PART BEHIND IT. -/
theorem drop_any {w0 w : World} {b1 b2 : Nat} {v r : Value} {xs : List Pd} {ps : List Pk} {base lo gi : Nat} {H1 H2 : Nm → Option Hd} {k1 k2 : Nat} {D : List Nat} (inn : Nat → Bool) (m1 : Mi w0 base (.map (some b1)) H1 (nmP xs xs.length) k1) (m2 : Mi w0 base (.map (some b2)) H2 (pvP xs xs.length) k2) (pks : Pks w0 v xs) (hs : Sim xs ps) (sm : SmP ps) (pk : Pkl w0 v ps) (h0 : RowKit.Below w0.heap.size w0 w) (hg : w0.heap.size ≤ gi) (hin : Bb w gi ps.length inn) (hr : Pl lo w r D) (hlo : gi < lo) (hlen : D.length ≤ 1048576) (hD : ∀ p ∈ D, p < ps.length) :
    Calls Tryz.prog 16 #[.agg #[v, .map (some b1), .map (some b2)], .slice (some ⟨gi, 0, none⟩) ps.length ps.length, r] w fun e w' => ∃ u inn' L, e = .returned u ∧ w'.ownsRow w.heap.size 3 1 u L.length (ints L) ∧ Bb w' gi ps.length inn' ∧ Dp ps inn D inn' L ∧ Fx (fun c => c = gi) w w' := by
  obtain ⟨i0, hi, hz0, hz1, hz2⟩ := info_parts2 infoI8
  obtain ⟨va, vc, rfl⟩ : ∃ a c, v = .slice a ps.length c := let ⟨a, c, e, _⟩ := pk; ⟨a, c, e⟩
  obtain ⟨ra, rk, rfl, hpl⟩ := hr
  have HR := hide (show ∀ X, Fx (fun c => c = gi) w X → ∀ j (hj : j < D.length), ∃ g, ra = some ⟨g, 0, none⟩ ∧ X.cell? ⟨g, j, none⟩ = some (.int .i64 (D[j] : Int)) from fun X hX j hj => by
    obtain ⟨g, e1, e2, e3, e4⟩ := hpl j D[j] (List.getElem?_eq_getElem hj)
    refine ⟨g, e1, ?_⟩
    rw [← e4]
    unfold World.cell?
    rw [show X.heap[(⟨g, j, none⟩ : Addr).block]? = w.heap[(⟨g, j, none⟩ : Addr).block]? from hX.blk g e3 (fun q => by omega)])
  have HW := hide (show ∀ (X : World) (it : Nat → Bool), Fx (fun c => c = gi) w X → Bb X gi ps.length it → ∀ (p : Nat) (q : Pk), ps[p]? = some q → Calls Tryz.prog 28 #[.agg #[.slice va ps.length vc, .map (some b1), .map (some b2)], .int .i64 (p : Int), .slice (some ⟨gi, 0, none⟩) ps.length ps.length] X fun e w' => ∃ b : Bool, e = .returned (.bool b) ∧ (b = true ↔ Wh ps it p q) ∧ RowKit.Below X.heap.size X w' from fun X it hX hb p q hq => by
    have bX := fx_below h0 hX hg
    exact isWhole_any it (m1.later bX) (m2.later bX) (pks.later bX) hs sm (pk.later bX) hb.bls hq)
  obtain ⟨W1, hW1⟩ : ∃ W, W = w.alloc (.cells #[.slice va ps.length vc, .map (some b1), .map (some b2)] 44) := ⟨_, rfl⟩
  have hgw := hin.lt
  have bW : RowKit.Below w.heap.size w W1 := by rw [hW1]; exact (Below.refl _ w).alloc (Nat.le_refl _) _
  have HB1 := hide (show RowKit.Below w.heap.size w W1 ∧ W1.heap[w.heap.size]? = some (.cells #[.slice va ps.length vc, .map (some b1), .map (some b2)] 44 (0, 0)) from ⟨bW, by rw [hW1]; exact World.alloc_heap_new w _⟩)
  have hgW : gi < W1.heap.size := Nat.lt_of_lt_of_le hgw bW.size
  have HST := hide (show Dw W1 W1 gi ps.length (.slice none 0 0) inn [] ∧ Dp ps inn (D.take 0) inn [] from ⟨⟨hin.later bW, World.ownsRow_nil _ _ _ _, Fx.refl _ _⟩, by rw [List.take_zero]; exact Dp.start ps inn⟩)
  obtain ⟨N, hN⟩ : ∃ N, N = D.length := ⟨_, rfl⟩
  have HN := hide hN
  have HD := hide hD
  rw [← hN] at hlen
  rw [← hN]
  clear m1 m2 pks hs sm pk hin hpl hD hN bW
  have hpsl : ps.length ≤ 262144 ∨ True := .inr trivial
  clear hpsl
  go_enter Tryz.func16, Tryz.ntmps16
  go_wp2_with fail
  rw [← hW1]
  clear hW1
  go_loopg [7, 9, 12] N (fun gq sv _ iv wr => ∃ (j : Nat) (it : Nat → Bool) (L : List Nat), iv = .int .i64 j ∧ j ≤ N ∧ N - j ≤ gq ∧ Hid (Dw W1 wr gi ps.length sv it L ∧ Dp ps inn (D.take j) it L))
  case atStart => exact ⟨0, _, _, by go_num, by omega, by omega, HST⟩
  case round =>
    clear HST
    obtain ⟨j, it, L, rfl, hj, hgj, HB⟩ := hrel
    by_cases hlt : j < N
    · have hjn : (j : Int) < (N : Int) := by omega
      have hjl : j < D.length := by have := unhide HN; omega
      have fX : Fx (fun c => c = gi) w wr := (Fx.of (unhide HB1).1).next (unhide HB).1.fx (fun _ _ h => h)
      obtain ⟨g, rfl, c0⟩ := unhide HR wr fX j hjl
      have hp := unhide HD D[j] (List.getElem_mem hjl)
      have hpn : (D[j] : Int) < (ps.length : Int) := by omega
      obtain ⟨f0, z0⟩ := (unhide HB).1.b.cell hp
      obtain ⟨q, hq⟩ : ∃ q, ps[D[j]]? = some q := ⟨_, List.getElem?_eq_getElem hp⟩
      have HTK := hide (show D.take (j + 1) = D.take j ++ [D[j]] from by rw [List.take_add_one, List.getElem?_eq_getElem hjl]; rfl)
      have e1 := ((unhide HB).1.fx.blk _ (blk_lt (unhide HB1).2) (by have := (unhide HB1).1.size; intro h; have h2 := hgW; have := (unhide HB1).2; omega)).trans (unhide HB1).2
      have s0 := (cell_blk e1 0).1.trans (show #[Value.slice va ps.length vc, .map (some b1), .map (some b2)][0]? = some (.slice va ps.length vc) from rfl)
      have s1 := (cell_blk e1 1).1.trans (show #[Value.slice va ps.length vc, .map (some b1), .map (some b2)][1]? = some (.map (some b1)) from rfl)
      have s2 := (cell_blk e1 2).1.trans (show #[Value.slice va ps.length vc, .map (some b1), .map (some b2)][2]? = some (.map (some b2)) from rfl)
      have C := hide (unhide HW wr it fX (unhide HB).1.b D[j] q hq)
      have HQ := hide hq
      clear e1 fX hq
      generalize D[j] = p at *
      cases hf : it p with
      | false =>
        rw [hf] at f0
        have HF := hide ((unhide HB).2.out hf)
        clear C hf
        go_wp2_with fail
        go_roundg (N - (j + 1))
        case measure => omega
        case rel => exact ⟨j + 1, it, L, by go_num, by omega, by omega, hide ⟨(unhide HB).1, by rw [unhide HTK]; exact unhide HF⟩⟩
      | true =>
        rw [hf] at f0
        have HF := hide hf
        clear hf
        go_upto_region 6 with (go_at_call 28; refine (unhide C).mono ?_; rintro e w5 ⟨bw, rfl, hbw, hb5⟩; have HB5 := hide (And.intro hb5 hbw); clear hb5 hbw C c0 f0 z0 s0 s1 s2)
        · have hbq : (!bw) = true := by assumption
          obtain rfl : bw = false := by simpa using hbq
          have HDP := hide ((unhide HB).2.drop (unhide HF) (unhide HQ) fun h => by have := (unhide HB5).2.2 h; cases this)
          have dw5 := (unhide HB).1.later (unhide HB5).1
          obtain ⟨f0, z0⟩ := dw5.b.cell hp
          have HD5 := hide (dw5.set hgW hp)
          have hll := (unhide HB).2.len
          rw [List.length_take] at hll
          clear dw5 hbq
          go_upto_region 7 with fail
          clear f0 z0
          obtain ⟨W6, hW6⟩ : ∃ W, W = w5.setCell ⟨gi, p, none⟩ (.bool false) := ⟨_, rfl⟩
          rw [← hW6] at HD5 ⊢
          clear hW6
          have hz5 := (unhide HD5).fx.size
          go_wp2_with (at_builtin; go_must (refine wpList_append_own _ rfl _ _ 24 rfl W1.heap.size 3 i0 (.int .i64 0) 1 8 Tryz.underlying24 hi hz0 hz1 hz2 rfl (by decide) _ _ _ rfl (own_same (unhide HD5).row fun b e => Below.heap_alloc _ _ _ (World.ownsRow.lt (unhide HD5).row b e).2) ⟨W6.heap.size, 0, none⟩ 1 1 [.int .i64 (p : Int)] rfl rfl (fun k u hk => by rw [Addr.add_mid, Nat.zero_add, World.cell?_alloc_new]; simpa using hk) (fun u hu => by simp at hu; subst hu; rfl) (by unfold maxLen; omega) (by omega) (by rw [World.size_alloc]; omega) ?_); intro v' w9 hown hgrow _; have HF9 := hide ((unhide HD5).grow hgW hown hgrow); clear hown hgrow)
          go_roundg (N - (j + 1))
          case measure => omega
          case rel => exact ⟨j + 1, _, _, by go_num, by omega, by omega, hide ⟨unhide HF9, by rw [unhide HTK]; exact unhide HDP⟩⟩
        · have hbq : (!bw) = false := by assumption
          obtain rfl : bw = true := by simpa using hbq
          clear hbq
          have HF5 := hide (And.intro ((unhide HB).1.later (unhide HB5).1) ((unhide HB).2.keep (p := p) (fun q2 hq2 => by rw [unhide HQ] at hq2; cases hq2; exact (unhide HB5).2.1 rfl)))
          go_roundg (N - (j + 1))
          case measure => omega
          case rel => exact ⟨j + 1, it, L, by go_num, by omega, by omega, by rw [unhide HTK]; exact HF5⟩
    · obtain rfl : j = N := by omega
      have HE := hide (show Dp ps inn D it L from by
        have h := (unhide HB).2
        rw [unhide HN, List.take_length] at h
        exact h)
      go_wp2_with fail
      go_ret
      exact ⟨_, it, L, rfl, row_lo2 (unhide HB).1.row (unhide HB1).1.size, (unhide HB).1.b, unhide HE, (Fx.of (unhide HB1).1).next (unhide HB).1.fx (fun _ _ h => h)⟩
end Go.Proofs.YtjnbnndocinicaaGreatDoor
namespace Go.Proofs.YtjnbnndocinicaaGreatDoor
open Go.RowKit Go.Maps Go.Sort

/-- A SET OF NAMES. -/
def hsN (l : List Nm) : Nm → Option Value := fun x => if (l.any fun y => decide (y = x)) = true then some (.agg #[]) else none
theorem hsN_in {l : List Nm} {x : Nm} (h : x ∈ l) : hsN l x = some (.agg #[]) := if_pos (List.any_eq_true.2 ⟨x, h, decide_eq_true rfl⟩)
theorem hsN_out {l : List Nm} {x : Nm} (h : x ∉ l) : hsN l x = none := if_neg fun e => by
  obtain ⟨y, hy, e2⟩ := List.any_eq_true.1 e
  exact h (by rw [← of_decide_eq_true e2]; exact hy)
theorem hsN_some {l : List Nm} {x : Nm} (h : (hsN l x).isSome = true) : x ∈ l := Classical.byContradiction fun hn => by rw [hsN_out hn] at h; cases h
theorem hsN_snoc (l : List Nm) (x : Nm) : up (hsN l) x (some (.agg #[])) = hsN (l ++ [x]) := by
  funext y
  by_cases e : y = x
  · subst e
    rw [up_same, hsN_in (by simp)]
  · rw [up_other _ _ e]
    by_cases h : y ∈ l
    · rw [hsN_in h, hsN_in (by simp [h])]
    · rw [hsN_out h, hsN_out (by simp [h, e])]
theorem Dv.putS {W : World} {b k : Nat} {H : Nm → Option Value} (h : Dv W b H k) (hk : k < maxLen) {x : Nm} (hx : x.size ≤ maxLen) (f : Value) :
    ∃ W2, (Instr.mapUpdate 73 (.map (some b)) (.string x) f).run Tryz.prog W = .ok () W2 ∧ Dv W2 b (up H x (some f)) (k + 1) ∧ Fx (fun c => c = b) W W2 := by
  obtain ⟨D, ho, r⟩ := h
  obtain ⟨W2, hr, ho2, ht⟩ := ho.store law9 Tryz.underlying73 hk (key9 (x := x) hx) (val := f) (d := .held f) (ps := []) rfl
  have hg := ht.grown
  exact ⟨W2, hr, ⟨_, ho2, r.put ho.isMap f⟩, ⟨hg.1, hg.2, hg.3, hg.size, fun _ h => absurd h (Nat.not_lt_zero _)⟩, fun c hc hn => hg.block c hc (by intro q; cases q; exact hn rfl)⟩
/-- THE NAMES OF SOME, WHILE THEY ARE GATHERED. -/
structure Nl (w wr : World) (S : Array Value) (l : List Nm) : Prop where
  s : wr.heap[w.heap.size]? = some (.cells S 44 (0, 0))
  d : Dv wr (w.heap.size + 1) (hsN l) l.length
  bw : RowKit.Below w.heap.size w wr
  z : ∀ x ∈ l, x.size ≤ maxLen
theorem Nl.put {w wr : World} {S : Array Value} {l : List Nm} (h : Nl w wr S l) (hl : l.length < maxLen) {x : Nm} (hx : x.size ≤ maxLen) : ∃ W2, (Instr.mapUpdate 73 (.map (some (w.heap.size + 1))) (.string x) (.agg #[])).run Tryz.prog wr = .ok () W2 ∧ Nl w W2 S (l ++ [x]) := by
  obtain ⟨W2, hr, d2, f2⟩ := h.d.putS hl hx (.agg #[])
  have hz := h.bw.size
  have hz2 := h.d.lt
  rw [hsN_snoc] at d2
  refine ⟨W2, hr, (f2.blk _ (by omega) (by omega)).trans h.s, by rw [List.length_append]; exact d2, ⟨f2.bel.os.trans h.bw.os, f2.bel.tape.trans h.bw.tape, f2.bel.output.trans h.bw.output, Nat.le_trans hz f2.bel.size, fun c hc => (f2.blk c (by omega) (by omega)).trans (h.bw.block c hc)⟩, fun y hy => ?_⟩
  rcases List.mem_append.1 hy with hy | hy
  · exact h.z y hy
  · rw [List.mem_singleton] at hy; rw [hy]; exact hx
theorem nl_start (w : World) (S : Array Value) : Nl w ((w.alloc (.cells S 44)).alloc (.map #[] 0)) S [] := by
  have z1 : (w.alloc (.cells S 44)).heap.size = w.heap.size + 1 := World.size_alloc _ _
  have b1 : RowKit.Below w.heap.size w (w.alloc (.cells S 44)) := (Below.refl _ w).alloc (Nat.le_refl _) _
  have b2 : RowKit.Below (w.alloc (.cells S 44)).heap.size (w.alloc (.cells S 44)) ((w.alloc (.cells S 44)).alloc (.map #[] 0)) := (Below.refl _ _).alloc (Nat.le_refl _) _
  refine ⟨(b2.block _ (by omega)).trans (World.alloc_heap_new w _), ?_, bl_t b1 b2, fun x h => by cases h⟩
  have := Dv.make (w.alloc (.cells S 44))
  rw [z1] at this
  rw [show hsN [] = (fun _ => none) from by funext x; exact hsN_out (by simp)]
  exact this
/-- THE NAMES OF SOME. -/
def nmL (ps : List Pk) (L : List Nat) : List Nm := (L.map fun f => (pAt ps f).nm :: (pAt ps f).pv).flatten
theorem nmL_mem (ps : List Pk) (L : List Nat) (x : Nm) : x ∈ nmL ps L ↔ ∃ f ∈ L, x = (pAt ps f).nm ∨ x ∈ (pAt ps f).pv := by
  unfold nmL
  rw [List.mem_flatten]
  constructor
  · rintro ⟨l, hl, hx⟩
    obtain ⟨f, hf, rfl⟩ := List.mem_map.1 hl
    exact ⟨f, hf, List.mem_cons.1 hx⟩
  · rintro ⟨f, hf, hx⟩
    exact ⟨_, List.mem_map.2 ⟨f, hf, rfl⟩, List.mem_cons.2 hx⟩
theorem nmL_snoc (ps : List Pk) (L : List Nat) (j : Nat) (h : j < L.length) : nmL ps (L.take (j + 1)) = nmL ps (L.take j) ++ [(pAt ps L[j]).nm] ++ (pAt ps L[j]).pv := by
  unfold nmL
  rw [List.take_add_one, List.getElem?_eq_getElem h, List.map_append, List.flatten_append]
  simp
/-- HOW MANY ASK, ALL TOLD. -/
def cN (x : Nm) (l : List Nm) : Nat := (l.filter fun y => decide (y = x)).length
theorem cN_nil (x : Nm) : cN x [] = 0 := rfl
theorem cN_cons (x y : Nm) (l : List Nm) : cN x (y :: l) = cN x l + (if y = x then 1 else 0) := by
  unfold cN
  rw [List.filter_cons]
  by_cases e : y = x
  · rw [if_pos (by simp [e]), if_pos e]; rfl
  · rw [if_neg (by simp [e]), if_neg e]; rfl
theorem cN_one (y : Nm) : ∀ ss : List Nm, ss.Nodup → cN y ss ≤ 1 ∧ (y ∉ ss → cN y ss = 0)
  | [], _ => ⟨by rw [cN_nil]; omega, fun _ => rfl⟩
  | a :: ss, h => by
    obtain ⟨h1, h2⟩ := List.nodup_cons.1 h
    obtain ⟨i1, i2⟩ := cN_one y ss h2
    rw [cN_cons]
    by_cases e : a = y
    · subst e
      rw [i2 h1, if_pos rfl]
      exact ⟨by omega, fun hn => absurd List.mem_cons_self hn⟩
    · rw [if_neg e]
      exact ⟨by omega, fun hn => i2 fun hm => hn (List.mem_cons_of_mem _ hm)⟩
theorem count_sum (l : List Nm) : ∀ ss : List Nm, ss.Nodup → (ss.map fun x => cN x l).sum ≤ l.length := by
  induction l with
  | nil =>
    intro ss _
    have : (ss.map fun x => cN x []).sum = 0 := by
      induction ss with
      | nil => rfl
      | cons a ss ih => rw [List.map_cons, List.sum_cons, cN_nil, ih (List.nodup_cons.1 (by assumption)).2]
    rw [this]
    exact Nat.zero_le _
  | cons y l ih =>
    intro ss hs
    have h1 := ih ss hs
    have h2 : (ss.map fun x => cN x (y :: l)).sum = (ss.map fun x => cN x l).sum + cN y ss := by
      clear hs h1
      induction ss with
      | nil => rfl
      | cons a ss ih2 =>
        rw [List.map_cons, List.sum_cons, List.map_cons, List.sum_cons, ih2, cN_cons, cN_cons]
        by_cases e : a = y
        · subst e; rw [if_pos rfl]; omega
        · rw [if_neg (fun h => e h.symm), if_neg e]; omega
    have h3 := (cN_one y ss hs).1
    rw [h2, List.length_cons]
    omega
theorem fo_count (F : Nm → List Nat) (i : Nat) (l : List Nm) (x : Nm) : (fo F i l x).length = (F x).length + cN x l := by
  induction l generalizing F with
  | nil => rfl
  | cons y l ih =>
    show (fo (upF F y (F y ++ [i])) i l x).length = _
    rw [ih, cN_cons]
    by_cases e : x = y
    · subst e; rw [upF_same, if_pos rfl, List.length_append, List.length_singleton]; omega
    · rw [upF_other _ _ e, if_neg (fun h => e h.symm)]; omega
theorem ak_sum (ps : List Pk) (ss : List Nm) (hs : ss.Nodup) : ∀ n, (ss.map fun x => (akP ps n x).length).sum ≤ akK ps n
  | 0 => by
    have : (ss.map fun x => (akP ps 0 x).length).sum = 0 := by
      clear hs
      induction ss with
      | nil => rfl
      | cons a ss ih => rw [List.map_cons, List.sum_cons, ih]; rfl
    omega
  | n + 1 => by
    have ih := ak_sum ps ss hs n
    cases e : ps[n]? with
    | none =>
      have e2 : akP ps (n + 1) = akP ps n := by rw [akP, e]
      have e3 : akK ps (n + 1) = akK ps n := by
        unfold akK
        rw [List.take_add_one, e]
        simp
      rw [e2, e3]
      exact ih
    | some q =>
      have e2 : akP ps (n + 1) = fo (akP ps n) n (akN q) := by rw [akP, e]
      rw [e2, akK_succ e]
      have h3 : (ss.map fun x => (fo (akP ps n) n (akN q) x).length).sum = (ss.map fun x => (akP ps n x).length).sum + (ss.map fun x => cN x (akN q)).sum := by
        clear hs ih
        induction ss with
        | nil => rfl
        | cons a ss ih2 => rw [List.map_cons, List.sum_cons, ih2, List.map_cons, List.sum_cons, List.map_cons, List.sum_cons, fo_count]; omega
      have h4 := count_sum (akN q) ss hs
      omega
/-- THE NAMES THAT HAVE COME. -/
structure Vi (D : DataW Value) (l : List Nm) (left : Lit → Bool) (ss : List (List UInt8)) : Prop where
  nd : ss.Nodup
  gone : ∀ s ∈ ss, left (.string s) = false
  of : ∀ s ∈ ss, (⟨s.toArray⟩ : Nm) ∈ l
  all : ∀ s, Maps.has D (.string s) = true → left (.string s) = false → s ∈ ss
theorem Vi.start (D : DataW Value) (l : List Nm) : Vi D l (Maps.has D) [] := ⟨List.nodup_nil, fun s h => (by cases h), fun s h => (by cases h), fun s h1 h2 => by rw [h1] at h2; cases h2⟩
theorem Vi.step {D : DataW Value} {l : List Nm} {left : Lit → Bool} {ss : List (List UInt8)} (h : Vi D l left ss) {x : List UInt8} (hl : left (.string x) = true) (hx : (⟨x.toArray⟩ : Nm) ∈ l) : Vi D l (fun z => left z && !z.sameKey (.string x)) (ss ++ [x]) := by
  have hnew : x ∉ ss := fun hm => by have := h.gone x hm; rw [hl] at this; cases this
  refine ⟨List.nodup_append.2 ⟨h.nd, by simp, fun a ha b hb => by simp at hb; subst hb; exact fun e => hnew (e ▸ ha)⟩, fun s hs => ?_, fun s hs => ?_, fun s h1 h2 => ?_⟩
  · rcases List.mem_append.1 hs with hs | hs
    · rw [h.gone s hs]; rfl
    · rw [List.mem_singleton] at hs; subst hs; simp [Lit.sameKey]
  · rcases List.mem_append.1 hs with hs | hs
    · exact h.of s hs
    · rw [List.mem_singleton] at hs; subst hs; exact hx
  · by_cases e : s = x
    · subst e; simp
    · refine List.mem_append.2 (.inl (h.all s h1 ?_))
      simpa [Lit.sameKey, e] using h2
theorem Vi.mem {D : DataW Value} {l : List Nm} {left : Lit → Bool} {ss : List (List UInt8)} (h : Vi D l left ss) (r : RepV D (hsN l)) (hz : ∀ x ∈ l, x.size ≤ maxLen) (he : ∀ k, left k = false) (x : Nm) : x ∈ ss.map (fun s => (⟨s.toArray⟩ : Nm)) ↔ x ∈ l := by
  constructor
  · intro hx
    obtain ⟨s, hs, rfl⟩ := List.mem_map.1 hx
    exact h.of s hs
  · intro hx
    refine List.mem_map.2 ⟨x.data.toList, h.all _ ?_ (he _), by simp⟩
    have := r.has x (hz x hx)
    unfold kl at this
    rw [this, hsN_in hx]
    rfl
theorem Vi.nd2 {D : DataW Value} {l : List Nm} {left : Lit → Bool} {ss : List (List UInt8)} (h : Vi D l left ss) : (ss.map (fun s => (⟨s.toArray⟩ : Nm))).Nodup := by
  refine List.Pairwise.map _ (fun a b hab e => hab ?_) h.nd
  injection e with e
  simpa using congrArg Array.toList e
/-- THOSE WHO ASK FOR SOME NAMES. -/
def asL (F : Nm → List Nat) (ss : List (List UInt8)) : List Nat := (ss.map fun s => F ⟨s.toArray⟩).flatten
theorem asL_snoc (F : Nm → List Nat) (ss : List (List UInt8)) (x : List UInt8) : asL F (ss ++ [x]) = asL F ss ++ F ⟨x.toArray⟩ := by
  unfold asL
  rw [List.map_append, List.flatten_append]
  simp
theorem asL_len (F : Nm → List Nat) (ss : List (List UInt8)) : (asL F ss).length = ((ss.map (fun s => (⟨s.toArray⟩ : Nm))).map fun x => (F x).length).sum := by
  unfold asL
  rw [List.length_flatten, List.map_map, List.map_map]
  rfl
theorem asL_mem (F : Nm → List Nat) (ss : List (List UInt8)) (p : Nat) : p ∈ asL F ss ↔ ∃ x ∈ ss.map (fun s => (⟨s.toArray⟩ : Nm)), p ∈ F x := by
  unfold asL
  rw [List.mem_flatten]
  constructor
  · rintro ⟨l, hl, hp⟩
    obtain ⟨s, hs, rfl⟩ := List.mem_map.1 hl
    exact ⟨_, List.mem_map.2 ⟨s, hs, rfl⟩, hp⟩
  · rintro ⟨x, hx, hp⟩
    obtain ⟨s, hs, rfl⟩ := List.mem_map.1 hx
    exact ⟨_, List.mem_map.2 ⟨s, hs, rfl⟩, hp⟩
/-- A ROW SORTED IN ITS PLACE. -/
theorem sort_row {w w2 : World} {r : Value} {L : List Nat} (hL : L.length ≤ 2097152) (hrow : w2.ownsRow w.heap.size 3 1 r L.length (ints L)) (hb : RowKit.Below w.heap.size w w2) :
    Calls Tryz.prog 29 #[r] w2 fun e w' => e = .returned (.tuple #[]) ∧ RowKit.Below w.heap.size w w' ∧ So w w' r L := by
  rcases hrow.2 with ⟨rfl, h0⟩ | ⟨g, cap, cur, rfl, hbase, hbl, h1, h2, h3, h4⟩
  · refine (sort_nil w2).mono ?_
    rintro e w3 ⟨rfl, rfl⟩
    exact ⟨rfl, hb, .inl ⟨rfl, List.length_eq_zero_iff.1 h0⟩⟩
  · rw [Nat.mul_one, ints_zs, ← zsI_len L] at h4
    have hH : Holds (Value.int .i64) w2 g 0 (zsI L).toArray := holds_of_blockI hbl h4
    have hgl := blk_lt hbl
    have hc := Any.slices_Sort_int Tryz.lays189 g 0 cap (zsI L) w2 hH hgl (by rw [zsI_len]; omega)
    rw [zsI_len] at hc
    have hc : Calls Tryz.prog 29 #[.slice (some ⟨g, 0, none⟩) L.length cap] w2 _ := hc
    refine hc.mono ?_
    rintro e w3 ⟨rfl, nn, os, rfl⟩
    have hgr := grownBy_sortedI (w := w2) (g := g) (n := nn) (os := os) ((zsI L).mergeSort fun x y => decide (x ≤ y)).toArray
    refine ⟨rfl, hb.grown hgr hb.size (fun j hj => by cases hj; exact hbase), .inr ⟨g, cap, rfl, h1, hbase, Nat.lt_of_lt_of_le hgl hgr.size, ?_⟩⟩
    have hown := ownsRow_sortedI (os := os) (n := nn) (ss := zsI L) (ts := (zsI L).mergeSort fun x y => decide (x ≤ y)) (by simp) hbase hbl (by rw [zsI_len]; exact h1) h2 h3
    rcases hown.2 with ⟨q, _⟩ | ⟨g2, cap2, cur2, q, _, q3, _, _, _, q4⟩
    · cases q
    · cases q
      rw [Nat.mul_one, show (zsI L).length = ((zsI L).mergeSort fun x y => decide (x ≤ y)).length by simp] at q4
      exact holds_of_blockI q3 q4
end Go.Proofs.YtjnbnndocinicaaGreatDoor
namespace Go.Proofs.YtjnbnndocinicaaGreatDoor
open Go.RowKit Go.Maps Go.Sort

set_option maxRecDepth 100000 in
set_option maxHeartbeats 8000000 in
/-- WHO LEANS ON WHAT FELL: PLACES, EACH ONCE, RISING. -/
theorem leaning_any {w : World} {v r : Value} {ps : List Pk} {base ba ka lo : Nat} {HA : Nm → Option Hd} {L : List Nat} (b1 b2 : Nat) (sm : SmP ps) (pk : Pkl w v ps) (ma : Mi w base (.map (some ba)) HA (akP ps ps.length) ka) (ht : akK ps ps.length ≤ 1048576) (hr : Pl lo w r L) (hlen : L.length ≤ 1048576) (hL : ∀ p ∈ L, p < ps.length) :
    Calls Tryz.prog 17 #[.agg #[v, .map (some b1), .map (some b2)], .map (some ba), r] w fun e w' => ∃ u D, e = .returned u ∧ Pl w.heap.size w' u D ∧ D.Pairwise (· < ·) ∧ (∀ p, p ∈ D ↔ Ln ps L p) ∧ RowKit.Below w.heap.size w w' := by
  obtain ⟨i0, hi, hz0, hz1, hz2⟩ := info_parts2 infoI8
  obtain ⟨va, vc, rfl⟩ : ∃ a c, v = .slice a ps.length c := let ⟨a, c, e, _⟩ := pk; ⟨a, c, e⟩
  obtain ⟨ra, rk, rfl, hpl⟩ := hr
  have HR := hide hpl
  have HPK := hide pk
  have HSM := hide sm
  have HL := hide hL
  have HMA := hide ma
  have HAK := hide (fun (ss : List Nm) (hs : ss.Nodup) => Nat.le_trans (ak_sum ps ss hs ps.length) ht)
  have HLT := hide (show ∀ (x : Nm) (p : Nat), p ∈ akP ps ps.length x → p < ps.length from fun x p hp => ((akP_mem ps x p ps.length).1 hp).1)
  have HLN := hide (show ∀ p, Ln ps L p ↔ ∃ x ∈ nmL ps L, p ∈ akP ps ps.length x from fun p => by
    unfold Ln
    constructor
    · rintro ⟨f, hf, q, hq, x, hx, hp⟩
      have e : pAt ps f = q := by have := pAt_at (hL f hf); rw [hq] at this; exact (Option.some.inj this).symm
      exact ⟨x, (nmL_mem ps L x).2 ⟨f, hf, by rw [e]; exact hx⟩, hp⟩
    · rintro ⟨x, hx, hp⟩
      obtain ⟨f, hf, hx⟩ := (nmL_mem ps L x).1 hx
      exact ⟨f, hf, _, pAt_at (hL f hf), x, hx, hp⟩)
  have HST := hide (nl_start w #[.slice va ps.length vc, .map (some b1), .map (some b2)])
  obtain ⟨N, hN⟩ : ∃ N, N = L.length := ⟨_, rfl⟩
  have HN := hide hN
  rw [← hN] at hlen ⊢
  clear hpl pk sm hL ma ht hN
  generalize akP ps ps.length = F at *
  have hmm := @run_makeMap Tryz.prog
  go_enter Tryz.func17, Tryz.ntmps17
  go_wp2_with fail
  clear hmm
  go_loopg [9, 11, 17] N (fun gq _ _ iv wr => ∃ j : Nat, iv = .int .i64 j ∧ j ≤ N ∧ N - j ≤ gq ∧ Hid (Nl w wr #[.slice va ps.length vc, .map (some b1), .map (some b2)] (nmL ps (L.take j)) ∧ (nmL ps (L.take j)).length ≤ j * 1048577))
  case atStart => exact ⟨0, by go_num, by omega, by omega, hide ⟨unhide HST, by simp [nmL]⟩⟩
  case round =>
    clear HST
    obtain ⟨j, rfl, hj, hgj, HB⟩ := hrel
    by_cases hlt : j < N
    · have hjn : (j : Int) < (N : Int) := by omega
      have hjl : j < L.length := by have := unhide HN; omega
      have hp := unhide HL L[j] (List.getElem_mem hjl)
      have hpn : (L[j] : Int) < (ps.length : Int) := by omega
      obtain ⟨vb, vo, vc2, cs, dd, rr, cc, pv, ff, e, hvb, hrg, hpc, hll⟩ := (unhide HPK).at2 (pAt_at hp)
      injection e with e1 _ e3
      subst e1 e3
      obtain ⟨g, rfl, _, hgl, g0⟩ := unhide HR j L[j] (List.getElem?_eq_getElem hjl)
      have hsz := (unhide HSM).z _ (List.mem_of_getElem? (pAt_at hp))
      have hpvl : (pAt ps L[j]).pv.length ≤ 1048576 := Nat.le_trans (le_sum (fun p : Pk => p.pv.length) (List.mem_of_getElem? (pAt_at hp))) (unhide HSM).t
      have HTK := hide (nmL_snoc ps L j hjl)
      obtain ⟨hnl, hnb⟩ := unhide HB
      obtain ⟨W2, hup, hn2⟩ := hnl.put (x := (pAt ps L[j]).nm) (Nat.lt_of_le_of_lt hnb (by unfold maxLen; omega)) hsz.1
      have r0 := (hnl.bw.cell (p := ⟨g, j, none⟩) hgl).trans g0
      have s0 := (cell_blk hnl.s 0).1.trans (show #[Value.slice (some ⟨vb, vo, none⟩) ps.length vc, .map (some b1), .map (some b2)][0]? = some (.slice (some ⟨vb, vo, none⟩) ps.length vc) from rfl)
      have t0 := (cell_blk hn2.s 0).1.trans (show #[Value.slice (some ⟨vb, vo, none⟩) ps.length vc, .map (some b1), .map (some b2)][0]? = some (.slice (some ⟨vb, vo, none⟩) ps.length vc) from rfl)
      have c0 := (hnl.bw.cell (p := ⟨vb, vo + L[j] * 43, none⟩) hvb).trans (hrg 0 _ hpc.c0)
      have c6 := (hn2.bw.cell (p := ⟨vb, vo + L[j] * 43 + 6, none⟩) hvb).trans (hrg 6 _ hpc.c6)
      obtain ⟨pa, pc, e6⟩ : ∃ a c, pv = .slice a (pAt ps L[j]).pv.length c := let ⟨a, c, e, _⟩ := hll.vl; ⟨a, c, e⟩
      subst e6
      have HPV := hide (And.intro hll.vl hsz.2.2)
      have HN0 := hide (show Nl w W2 #[.slice (some ⟨vb, vo, none⟩) ps.length vc, .map (some b1), .map (some b2)] (nmL ps (L.take j) ++ [(pAt ps L[j]).nm] ++ (pAt ps L[j]).pv.take 0) from by rw [List.take_zero, List.append_nil]; exact hn2)
      clear hrg hpc hll hgl g0 hsz hnl hn2 HB
      generalize L[j] = p at *
      generalize (pAt ps p).nm = nm at *
      generalize (pAt ps p).pv = pl at *
      generalize nmL ps (L.take j) = l0 at *
      obtain ⟨M, hM⟩ : ∃ M, M = pl.length := ⟨_, rfl⟩
      rw [← hM] at c6 hpvl
      have HM := hide hM
      clear hM
      go_wp2_with fail
      clear r0 s0 t0 c0 c6 hup
      go_loopg [11, 36] M (fun g2 _ vi wx => ∃ i : Nat, vi = .int .i64 i ∧ i ≤ M ∧ M - i ≤ g2 ∧ Hid (Nl w wx #[.slice (some ⟨vb, vo, none⟩) ps.length vc, .map (some b1), .map (some b2)] (l0 ++ [nm] ++ pl.take i)))
      case atStart => exact ⟨0, by go_num, by omega, by omega, HN0⟩
      case round =>
        clear HN0
        obtain ⟨i, rfl, hi2, hgi, HI⟩ := hrel
        by_cases hit : i < M
        · have hin : (i : Int) < (M : Int) := by omega
          have hil : i < pl.length := by have := unhide HM; omega
          obtain ⟨sb, so, rfl, hsb, sc⟩ : ∃ b o, pa = some ⟨b, o, none⟩ ∧ b < w.heap.size ∧ w.cell? ⟨b, o + i, none⟩ = some (.string pl[i]) := by
            have h := (unhide HPV).1
            exact h.at (List.getElem?_eq_getElem hil)
          have hx := (unhide HPV).2 pl[i] (List.getElem_mem hil)
          have HTI := hide (show l0 ++ [nm] ++ pl.take (i + 1) = l0 ++ [nm] ++ pl.take i ++ [pl[i]] from by rw [List.take_add_one, List.getElem?_eq_getElem hil, ← List.append_assoc]; rfl)
          have hni := unhide HI
          have hlb : (l0 ++ [nm] ++ pl.take i).length < maxLen := by
            rw [List.length_append, List.length_append, List.length_singleton, List.length_take]
            unfold maxLen
            omega
          obtain ⟨W3, hup, hn3⟩ := hni.put hlb hx
          have k0 := (hni.bw.cell (p := ⟨sb, so + i, none⟩) hsb).trans sc
          have HF := hide hn3
          clear hni hn3 sc hlb hx
          generalize pl[i] = x at *
          go_wp2_with fail
          go_roundg (M - (i + 1))
          case measure => omega
          case rel => exact ⟨i + 1, by go_num, by omega, by omega, by rw [unhide HTI]; exact HF⟩
        · obtain rfl : i = M := by omega
          have HF := hide (show Nl w wr #[.slice (some ⟨vb, vo, none⟩) ps.length vc, .map (some b1), .map (some b2)] (nmL ps (L.take (j + 1))) ∧ (nmL ps (L.take (j + 1))).length ≤ (j + 1) * 1048577 from by
            have h := unhide HI
            rw [unhide HM, List.take_length] at h
            rw [unhide HTK]
            refine ⟨h, ?_⟩
            rw [List.length_append, List.length_append, List.length_singleton, ← unhide HM]
            omega)
          go_wp2_with fail
          go_roundg (N - (j + 1))
          case measure => omega
          case rel => exact ⟨j + 1, by go_num, by omega, by omega, HF⟩
    · obtain rfl : j = N := by omega
      rename World => Wm
      have hnl := (unhide HB).1
      rw [unhide HN, List.take_length] at hnl
      obtain ⟨D, hown, hrep⟩ := hnl.d
      have hbl := hnl.d.lt
      have HREP := hide hrep
      have HZ := hide hnl.z
      have HBW := hide hnl.bw
      generalize (nmL ps L).length = K at *
      generalize nmL ps L = nl at *
      clear hnl hrep HB HPK HSM HL HR
      go_wp2_with (first
        | (at_range; refine wpList_range_own _ rfl _ 73 rfl 9 74 law9 Tryz.underlying73 _ (w.heap.size + 1) K _ rfl hown ?_; intro w0 hrg0 hg0 hs0)
        | go_in)
      go_frame
      go_loopw [12, 13] (fun v _ wx => ∃ (left : Lit → Bool) (cnt : Nat) (ss : List (List UInt8)), wx.ranges Tryz.prog 9 raw (w.heap.size + 1) Wm.heap.size K D left cnt ∧ wx.ownsRow Wm.heap.size 3 1 v (asL F ss).length (ints (asL F ss)) ∧ Vi D nl left ss ∧ RowKit.Below Wm.heap.size Wm wx)
        (fun _ _ wx => wx.rangeLeft (w.heap.size + 1) Wm.heap.size)
      case atStart =>
        exact ⟨_, _, [], hrg0, World.ownsRow_nil _ _ _ _, Vi.start D nl, (Below.refl _ _).grown hg0 (Nat.le_refl _) (fun j hj => by cases hj)⟩
      case round =>
        obtain ⟨left, cnt, ss, hrg, hrow, hV, hnx⟩ := hrel
        have hlas : (asL F ss).length ≤ 1048576 := by rw [asL_len]; exact unhide HAK _ hV.nd2
        go_wp2_with (first
          | (at_next; refine wpList_next_ranges _ rfl _ rfl 9 law9 raw encStr (fun c : Value => c) (fun key kl hk => by obtain ⟨x, hx, _⟩ := Maps.keyOf_str Tryz.underlying9 hk; exact ⟨x, hx⟩) (fun v y _ => ⟨v, rfl⟩) (w.heap.size + 1) Wm.heap.size K _ _ _ rfl hrg ?_ ?_)
          | go_in)
        · intro hc0 hl0
          have HEND := hide (fun x => hV.mem (unhide HREP) (unhide HZ) hl0 x)
          have bwx := bl_t (unhide HBW) hnx
          have CS := hide (sort_row (w := w) (Nat.le_trans hlas (by decide)) (row_lo2 hrow (unhide HBW).size) bwx)
          have HMM := hide (show ∀ p, p ∈ asL F ss ↔ p ∈ (List.range ps.length).filter fun p => decide (p ∈ asL F ss) from fun p => by
            rw [List.mem_filter, List.mem_range]
            refine ⟨fun h => ⟨?_, decide_eq_true h⟩, fun h => of_decide_eq_true h.2⟩
            obtain ⟨x, _, hx⟩ := (asL_mem F ss p).1 h
            exact unhide HLT x p hx)
          have HAL := hide hlas
          have HSM2 := hide (asL_mem F ss)
          clear hrow hV hnx hrg bwx hlas hown
          generalize asL F ss = AL at *
          go_wp2_with (first
            | (go_at_call 29; refine (unhide CS).mono ?_; rintro e w3 ⟨rfl, hb3, hso⟩; have C3 := hide (compact_any (w0 := w) (Nat.le_trans (unhide HAL) (by decide)) hso (List.Pairwise.filter (fun p => decide (p ∈ AL)) (List.pairwise_lt_range (n := ps.length))) (unhide HMM) hb3); clear hb3 hso CS)
            | (go_at_call 30; refine (unhide C3).mono ?_; rintro e w4 ⟨r4, rfl, hb4, hp4⟩; have H4 := hide (And.intro hb4 hp4); clear hb4 hp4 C3)
            | go_in)
          go_ret
          refine ⟨_, _, rfl, (unhide H4).2, List.Pairwise.filter _ List.pairwise_lt_range, fun p => ?_, (unhide H4).1⟩
          rw [← unhide HMM p, unhide HSM2 p, unhide HLN p]
          constructor
          · rintro ⟨x, hx, hp⟩; exact ⟨x, (unhide HEND x).1 hx, hp⟩
          · rintro ⟨x, hx, hp⟩; exact ⟨x, (unhide HEND x).2 hx, hp⟩
        · intro x c kl2 yd yp w2 cnt2 hkey hlk hv hat hrg2 hlt2 hg2 hs2 hen
          obtain ⟨x', ex, rfl, hxl⟩ := Maps.keyOf_str Tryz.underlying9 hkey
          obtain rfl : x = x' := encStr_inj ex
          have hrow2 := hrow.kept hg2 (Or.inr (row_ne_iter hrow hrg).symm)
          have hxz : (⟨x.toArray⟩ : Nm).size ≤ maxLen := by show x.toArray.size ≤ maxLen; simpa using hxl
          have hxin : (⟨x.toArray⟩ : Nm) ∈ nl := by
            have h1 := (unhide HREP).has ⟨x.toArray⟩ hxz
            have h2 : Maps.has D (.string x) = true := has_true_of_atKey hat
            rw [show kl ⟨x.toArray⟩ = .string x from rfl, h2] at h1
            exact hsN_some h1.symm
          have hV2 := hV.step hlk hxin
          have bX := hnx.grown hg2 hnx.size (fun j hj => by cases hj; exact Nat.le_refl _)
          have m2 := (unhide HMA).later (bl_t (unhide HBW) bX)
          have lk := look1 m2.dm hxz
          have hown2 := m2.own ⟨x.toArray⟩
          have hFl : (asL F ss).length + (F ⟨x.toArray⟩).length ≤ 1048576 := by
            have := unhide HAK _ hV2.nd2
            rw [← asL_len, asL_snoc, List.length_append] at this
            exact this
          have hmeas : w2.rangeLeft (w.heap.size + 1) Wm.heap.size < wr.rangeLeft (w.heap.size + 1) Wm.heap.size := by rw [hrg2.left_eq, hrg.left_eq]; exact hlt2
          have hzx := bX.size
          clear hs2 ex hkey hlk hv hat hxin m2
          rcases hown2.2 with ⟨q1, q2⟩ | ⟨g, cap, cur, q1, _⟩
          · rw [q1] at lk
            have HE := hide (show asL F (ss ++ [x]) = asL F ss from by rw [asL_snoc, List.length_eq_zero_iff.1 q2, List.append_nil])
            clear hown2 q1 q2
            go_wp2_with (first
              | (at_builtin; go_must (refine wpList_append_own_none rfl _ _ 24 rfl Wm.heap.size 3 i0 1 Tryz.underlying24 hi _ _ _ rfl hrow2 rfl ?_))
              | go_in)
            go_roundw
            case rel => exact ⟨_, cnt2, ss ++ [x], hrg2, by rw [unhide HE]; exact hrow2, hV2, bX⟩
            case measure => exact hmeas
          · rw [q1] at lk
            have hcells := hown2.cells (g := g) (by rw [q1]; rfl)
            clear hown2 q1
            go_wp2_with (first
              | (at_builtin; go_must (refine wpList_append_own_at _ rfl _ _ 24 rfl Wm.heap.size 3 i0 (.int .i64 0) 1 8 Tryz.underlying24 hi hz0 hz1 hz2 rfl (by decide) _ _ _ rfl hrow2 ⟨g, 0, none⟩ (F ⟨x.toArray⟩).length cap (ints (F ⟨x.toArray⟩)) rfl (by rw [ints_len, Nat.mul_one]) hcells (fun u hu => by unfold ints at hu; obtain ⟨_, _, rfl⟩ := List.mem_map.1 hu; rfl) (by unfold maxLen; omega) (by omega) hzx ?_); intro v' w3 hown' hg3 hnil3 hat3; go_frame)
              | go_in)
            have hrg3 := hrg2.kept hg3 (row_ne_low hrow2 hbl) (row_ne_iter hrow2 hrg2)
            go_roundw
            case rel => exact ⟨_, cnt2, ss ++ [x], hrg3, by rw [asL_snoc, List.length_append, show ints (asL F ss ++ F ⟨x.toArray⟩) = ints (asL F ss) ++ ints (F ⟨x.toArray⟩) from by simp [ints]]; exact hown', hV2, bX.grown hg3 hzx (fun j hj => (hrow2.lt j hj).1)⟩
            case measure => rw [hrg3.left_eq, hrg.left_eq]; exact hlt2
end Go.Proofs.YtjnbnndocinicaaGreatDoor
namespace Go.Proofs.YtjnbnndocinicaaGreatDoor
open Go.RowKit Go.Maps

set_option maxRecDepth 100000 in
set_option maxHeartbeats 4000000 in
theorem without_own {w : World} {v : Value} {ps : List Pk} (sm : SmP ps) (pk : Pkl w v ps) :
    Calls Tryz.prog 22 #[v, .slice none 0 0] w fun e w' => e = .returned (.slice (some ⟨w.heap.size + 1, 0, none⟩) ps.length ps.length) ∧ Bb w' (w.heap.size + 1) ps.length (fun i => decide (i < ps.length)) ∧ RowKit.Below w.heap.size w w' := by
  obtain ⟨va, vc, rfl⟩ : ∃ a c, v = .slice a ps.length c := let ⟨a, c, e, _⟩ := pk; ⟨a, c, e⟩
  have hl := sm.l
  have HPK := hide (show ∀ X, RowKit.Below w.heap.size w X → ∀ (p : Nat), p < ps.length → ∃ (vb vo : Nat) (cs : List Value) (n u : Nm), va = some ⟨vb, vo, none⟩ ∧ vb < X.heap.size ∧ X.rangeAt vb (vo + p * 43) cs ∧ (Tryz.prog.info? 38).map (·.size) = some cs.length ∧ ∀ Y, Calls Tryz.prog 24 #[.agg cs.toArray] Y fun e w' => e = .returned (.agg #[.string n, .string u]) ∧ Below Y.heap.size Y w' from fun X hX p hp => by
    obtain ⟨vb, vo, vc2, cs, d, r, c, pv, f, e, hvb, hr, hpc, _⟩ := (pk.later hX).at2 (List.getElem?_eq_getElem hp)
    injection e with e _ _
    exact ⟨vb, vo, cs, _, _, e, hvb, hr, by rw [hpc.len]; kernel_rfl, fun Y => keyOf_any cs _ _ Y hpc.c0 hpc.c1⟩)
  obtain ⟨N, hN⟩ : ∃ N, N = ps.length := ⟨_, rfl⟩
  rw [← hN] at hl HPK ⊢
  have hmk := makeBl N hl
  have hmm := makeMk
  have HW := hide (wo_new w N)
  clear pk sm hN
  go_enter Tryz.func22, Tryz.ntmps22
  go_wp2_with fail
  refine wp_loop_rounds 1 ?_
  rw [rounds_succ]
  go_wp2_with fail
  clear hmm hmk
  go_loopw [30] (fun iv wr => ∃ i : Nat, iv = .int .i64 i ∧ i ≤ N ∧ Hid (Wo w wr N i)) (fun iv _ => N - (intOf iv).toNat)
  case atStart => exact ⟨0, rfl, Nat.zero_le _, HW⟩
  case round =>
    clear HW
    obtain ⟨i, rfl, hile, HU⟩ := hrel
    have hu := unhide HU
    by_cases hlt : i < N
    · have hlt2 : (i : Int) < (N : Int) := by omega
      obtain ⟨vb, vo, cs, n, u, rfl, hvb, hr, hinf, hk⟩ := unhide HPK wr hu.bw i hlt
      have HR := hide hr
      have HI2 := hide hinf
      have HK := hide (hk wr)
      clear hr hinf hk
      go_wp2_with (first | ((with_reducible refine wpList_load_p (op := { dst := some 38, op := Op.load 38 (Operand.tmp 37), type := 38, pos := "part.go:24", after := #[{ on := 3, ground := Ground.data }], guard := none }) ?wxa 38 (.tmp 37) ?wxb vb (vo + i * 43) ?wxc cs _ (unhide HR) Tryz.underlying38 ?wxd (unhide HI2) ?wxe); (case wxa => rfl); (case wxb => rfl); (case wxc => rfl); (case wxd => rfl)) | (go_at_call 24; refine (unhide HK).mono ?_; rintro e w5 ⟨rfl, hb5⟩; have HU5 := hide (hu.later hb5); have lk := lookE (unhide HU5).m n u; obtain ⟨c0, f0⟩ := (unhide HU5).b.cell hlt; have hz5 := (unhide HU5).b.lt; clear hb5 HK))
      have HU6 := hide (((unhide HU5).set hlt).later ((Below.refl _ (w5.setCell ⟨w.heap.size + 1, i, none⟩ (.bool true))).alloc (Nat.le_refl _) (.cells #[] 74)))
      go_roundw
      case rel => exact ⟨i + 1, by go_num, by omega, HU6⟩
      case measure => simp [intOf]; omega
    · obtain rfl : i = N := by omega
      go_wp2_with fail
      go_ret
      exact ⟨rfl, hu.b, hu.bw⟩
theorem allOf_own {w : World} {v : Value} {ps : List Pk} (sm : SmP ps) (pk : Pkl w v ps) :
    Calls Tryz.prog 14 #[v] w fun e w' => e = .returned (.slice (some ⟨w.heap.size + 1, 0, none⟩) ps.length ps.length) ∧ Bb w' (w.heap.size + 1) ps.length (fun i => decide (i < ps.length)) ∧ RowKit.Below w.heap.size w w' := by
  have C := hide (without_own sm pk)
  clear sm pk
  go_enter Tryz.func14, Tryz.ntmps14
  go_wp2_with (go_at_call 22; refine (unhide C).mono ?_; rintro e w2 ⟨rfl, h1, h2⟩; have H := hide (And.intro h1 h2); clear h1 h2 C)
  go_ret
  exact ⟨rfl, unhide H⟩
/-- RISING PLACES BELOW A NUMBER ARE NO MORE THAN IT. -/
theorem rise_len : ∀ (l : List Nat) (k n : Nat), l.Pairwise (· < ·) → (∀ x ∈ l, k ≤ x ∧ x < n) → l.length ≤ n - k
  | [], _, _, _, _ => Nat.zero_le _
  | a :: l, k, n, h, hb => by
    obtain ⟨h1, h2⟩ := List.pairwise_cons.1 h
    have ha := hb a List.mem_cons_self
    have := rise_len l (a + 1) n h2 fun x hx => ⟨h1 x hx, (hb x (List.mem_cons_of_mem _ hx)).2⟩
    rw [List.length_cons]
    omega
end Go.Proofs.YtjnbnndocinicaaGreatDoor
namespace Go.Proofs.YtjnbnndocinicaaGreatDoor
open Go.RowKit Go.Maps

/-- BETWEEN THE ROUNDS, AS IT LIES. -/
structure Cw (X wr : World) (ps : List Pk) (gi : Nat) (u : Value) (inn : Nat → Bool) (D : List Nat) : Prop where
  b : Bb wr gi ps.length inn
  row : ∃ lo, gi < lo ∧ Pl lo wr u D
  len : D.length ≤ 1048576
  cr : Cr ps inn D
  bw : RowKit.Below X.heap.size X wr
set_option maxRecDepth 100000 in
set_option maxHeartbeats 4000000 in
/-- CLOSED: THE GREATEST PART THAT IS CLOSED. -/
theorem Closed_any {w : World} {v : Value} {ps : List Pk} (sm : SmP ps) (pk : Pkl w v ps) (ht : akK ps ps.length ≤ 1048576) :
    Calls Tryz.prog 5 #[v] w fun e w' => ∃ r inn, e = .returned r ∧ w'.ownsRow w.heap.size 3 1 r (plL inn ps.length).length (ints (plL inn ps.length)) ∧ (Clo ps inn ∧ (∀ G, Clo ps G → ∀ p, p < ps.length → G p = true → inn p = true) ∧ ∀ p, inn p = true → p < ps.length) ∧ RowKit.Below w.heap.size w w' := by
  obtain ⟨xs, hxs, hsim⟩ := sim_of pk (fun p hp => (sm.z p hp).2.1)
  obtain ⟨va, vc, rfl⟩ : ∃ a c, v = .slice a ps.length c := let ⟨a, c, e, _⟩ := pk; ⟨a, c, e⟩
  have hl := sm.l
  have htt := sm.tot hsim
  have C1 := hide (show ∀ X, RowKit.Below w.heap.size w X → Calls Tryz.prog 12 #[.slice va ps.length vc] X fun e w' => ∃ b1 b2, e = .returned (.agg #[.slice va ps.length vc, .map (some b1), .map (some b2)]) ∧ M2 (nmP xs xs.length) (pvP xs xs.length) w' b1 b2 ∧ RowKit.Below X.heap.size X w' from fun X hX => (setOf_any xs (.slice va ps.length vc) X (by rw [hsim.1]; omega) (by omega) (sm.sz hsim) (hxs.later hX)).mono fun e w' ⟨H1, k1, H2, k2, he, m1, m2, hb⟩ => ⟨_, _, he, ⟨_, H1, k1, H2, k2, m1, m2⟩, hb⟩)
  have HAS := hide (show ∀ X, RowKit.Below w.heap.size w X → Calls Tryz.prog 13 #[.slice va ps.length vc] X fun e w' => ∃ ba H k, e = .returned (.map (some ba)) ∧ Mi w' (X.heap.size + 1) (.map (some ba)) H (akP ps ps.length) k ∧ RowKit.Below X.heap.size X w' from fun X hX => (askingOf_any sm (pk.later hX) ht).mono fun e w' ⟨H, k, he, hm, hb⟩ => ⟨_, H, k, he, hm, hb⟩)
  have HALL := hide (show ∀ X, RowKit.Below w.heap.size w X → Calls Tryz.prog 14 #[.slice va ps.length vc] X fun e w' => e = .returned (.slice (some ⟨X.heap.size + 1, 0, none⟩) ps.length ps.length) ∧ Bb w' (X.heap.size + 1) ps.length (fun i => decide (i < ps.length)) ∧ RowKit.Below X.heap.size X w' from fun X hX => allOf_own sm (pk.later hX))
  have HPL := hide (show ∀ X gi inn, Bb X gi ps.length inn → Calls Tryz.prog 15 #[.slice (some ⟨gi, 0, none⟩) ps.length ps.length] X fun e w' => ∃ u, e = .returned u ∧ w'.ownsRow X.heap.size 3 1 u (plL inn ps.length).length (ints (plL inn ps.length)) ∧ RowKit.Below X.heap.size X w' from fun X gi inn hb => places_any (by omega) hb.bls)
  have HDR := hide (show ∀ (Z Y : World) (b1 b2 gi : Nat) (u : Value) (inn : Nat → Bool) (D : List Nat), RowKit.Below w.heap.size w Z → M2 (nmP xs xs.length) (pvP xs xs.length) Z b1 b2 → Z.heap.size ≤ gi → Cw Z Y ps gi u inn D → Calls Tryz.prog 16 #[.agg #[.slice va ps.length vc, .map (some b1), .map (some b2)], .slice (some ⟨gi, 0, none⟩) ps.length ps.length, u] Y fun e w' => ∃ u inn' L, e = .returned u ∧ w'.ownsRow Y.heap.size 3 1 u L.length (ints L) ∧ Bb w' gi ps.length inn' ∧ Dp ps inn D inn' L ∧ Fx (fun c => c = gi) Y w' from fun Z Y b1 b2 gi u inn D hZ hM hg hc => by
    obtain ⟨base, H1, k1, H2, k2, m1, m2⟩ := hM
    obtain ⟨lo, hlo, hpl⟩ := hc.row
    exact drop_any inn m1 m2 (hxs.later hZ) hsim sm (pk.later hZ) hc.bw hg hc.b hpl hlo hc.len hc.cr.lt)
  have HLE := hide (show ∀ (Y : World) (b1 b2 ba base ka lo : Nat) (HA : Nm → Option Hd) (u : Value) (L : List Nat), RowKit.Below w.heap.size w Y → Mi Y base (.map (some ba)) HA (akP ps ps.length) ka → Pl lo Y u L → L.length ≤ 1048576 → (∀ p ∈ L, p < ps.length) → Calls Tryz.prog 17 #[.agg #[.slice va ps.length vc, .map (some b1), .map (some b2)], .map (some ba), u] Y fun e w' => ∃ u D, e = .returned u ∧ Pl Y.heap.size w' u D ∧ D.Pairwise (· < ·) ∧ (∀ p, p ∈ D ↔ Ln ps L p) ∧ RowKit.Below Y.heap.size Y w' from fun Y b1 b2 ba base ka lo HA u L hY hm hp hl2 hlt => leaning_any b1 b2 sm (pk.later hY) hm ht hp hl2 hlt)
  have HCR := hide (Cr.start ps)
  clear sm pk ht hxs hsim htt
  generalize nmP xs xs.length = F1 at *
  generalize pvP xs xs.length = F2 at *
  generalize akP ps ps.length = FA at *
  go_enter Tryz.func5, Tryz.ntmps5
  go_wp2_with fail
  go_step3
  go_wp2_with (first
    | (go_at_call 12; refine (unhide C1 _ (Below.refl _ _)).mono ?_; rintro e w1 ⟨b1, b2, rfl, hM, hb1⟩; have HM := hide (And.intro hM hb1); clear hM hb1 C1)
    | (go_at_call 13; refine (unhide HAS _ (unhide HM).2).mono ?_; rintro e w2 ⟨ba, HA, ka, rfl, hma, hb2⟩; obtain ⟨X, hX⟩ : ∃ W, W = w2.alloc (.cells #[.slice va ps.length vc, .map (some b1), .map (some b2)] 44) := ⟨_, rfl⟩; have HX := hide (show M2 F1 F2 X b1 b2 ∧ X.heap[w2.heap.size]? = some (.cells #[.slice va ps.length vc, .map (some b1), .map (some b2)] 44 (0, 0)) ∧ RowKit.Below w.heap.size w X ∧ Mi X (w1.heap.size + 1) (.map (some ba)) HA FA ka from (by have h2 : RowKit.Below w2.heap.size w2 X := (by rw [hX]; exact (Below.refl _ w2).alloc (Nat.le_refl _) _); have h3 := bl_t hb2 h2; exact ⟨(unhide HM).1.mono fun j hj => h3.block j hj, by rw [hX]; exact World.alloc_heap_new w2 _, bl_t (unhide HM).2 h3, hma.later h2⟩)); clear hb2 hma HAS)
    | (go_at_call 14; rw [← hX]; clear hX; refine (unhide HALL _ (unhide HX).2.2.1).mono ?_; rintro e w4 ⟨rfl, hbl, hb4⟩; have H4 := hide (And.intro hbl hb4); clear hbl hb4)
    | (go_at_call 15; refine (unhide HPL _ _ _ (unhide H4).1).mono ?_; rintro e w5 ⟨u5, rfl, hu5, hb5⟩; have H5 := hide (And.intro hu5 hb5); clear hu5 hb5))
  have HC0 := hide (show Cw X w5 ps (X.heap.size + 1) u5 (fun i => decide (i < ps.length)) (List.range ps.length) from by
    have e : plL (fun i => decide (i < ps.length)) ps.length = List.range ps.length := by
      unfold plL
      exact List.filter_eq_self.2 fun x hx => decide_eq_true (List.mem_range.1 hx)
    have h5 := (unhide H5).1
    rw [e] at h5
    exact ⟨(unhide H4).1.later (unhide H5).2, ⟨_, (unhide H4).1.lt, own_pl h5⟩, by rw [List.length_range]; omega, unhide HCR, bl_t (unhide H4).2 (unhide H5).2⟩)
  have HW5 := hide (bl_t (unhide HX).2.2.1 (bl_t (unhide H4).2 (unhide H5).2))
  clear H4 H5 HM HALL HCR
  go_step3
  go_wp2_with fail
  go_loopg [6, 7] (ps.length + 1) (fun gq uv _ wr => ∃ (inn : Nat → Bool) (D : List Nat), (plL inn ps.length).length + 1 ≤ gq ∧ Hid (Cw X wr ps (X.heap.size + 1) uv inn D))
  case atStart => exact ⟨_, _, Nat.add_le_add_right (plL_len _ _) 1, HC0⟩
  case round =>
    clear HC0
    obtain ⟨inn, D, hgq, HC⟩ := hrel
    have hc := unhide HC
    have bwX := hc.bw
    have hblk := (bwX.block _ (blk_lt (unhide HX).2.1)).trans (unhide HX).2.1
    obtain ⟨s0, s1, s2, _, _, _⟩ := three hblk
    have CD := hide (unhide HDR X wr b1 b2 (X.heap.size + 1) _ inn D (unhide HX).2.2.1 (unhide HX).1 (by omega) hc)
    clear hc bwX hblk
    go_upto_region 5 with (go_at_call 16; refine (unhide CD).mono ?_; rintro e w6 ⟨u6, inn', L, rfl, hu6, hb6, hd6, hf6⟩; obtain ⟨⟨la, ln, lk⟩, rfl, hln⟩ := slice_hd hu6; simp only at hln; subst hln; unfold hv; have H6 := hide (And.intro hu6 (And.intro hb6 (And.intro hd6 hf6))); clear hu6 hb6 hd6 hf6 CD s0 s1 s2)
    have hbX6 := fx_below (unhide HC).bw (unhide H6).2.2.2 (Nat.le_succ _)
    by_cases h0 : L.length = 0
    · have hL0 : L = [] := List.length_eq_zero_iff.1 h0
      have hz : ((L.length : Int) == 0) = true := by rw [h0]; rfl
      have HEND := hide (show Clo ps inn' ∧ (∀ G, Clo ps G → ∀ p, p < ps.length → G p = true → inn' p = true) ∧ ∀ p, inn' p = true → p < ps.length from by
        have hd := (unhide H6).2.2.1
        rw [hL0] at hd
        exact (unhide HC).cr.stop hd)
      clear h0 hL0
      go_wp2_with (go_at_call 15; refine (unhide HPL _ _ _ (unhide H6).2.1).mono ?_; rintro e w7 ⟨u7, rfl, hu7, hb7⟩; have H7 := hide (And.intro hu7 hb7); clear hu7 hb7)
      rw [Exit.noGoto_ret]
      go_ret
      have hbw6 := bl_t (unhide HX).2.2.1 hbX6
      exact ⟨_, inn', rfl, row_lo2 (unhide H7).1 hbw6.size, unhide HEND, bl_t hbw6 (unhide H7).2⟩
    · have hz : ((L.length : Int) == 0) = false := by simpa using h0
      have hblk := (hbX6.block _ (blk_lt (unhide HX).2.1)).trans (unhide HX).2.1
      obtain ⟨s0, s1, s2, _, _, _⟩ := three hblk
      have hbw6 := bl_t (unhide HX).2.2.1 hbX6
      have hd6 := (unhide H6).2.2.1
      have CL := hide (unhide HLE w6 b1 b2 ba _ ka _ HA _ L hbw6 ((unhide HX).2.2.2.later hbX6) (own_pl (unhide H6).1) (Nat.le_trans hd6.len (unhide HC).len) (fun p hp => (unhide HC).cr.lt p (hd6.fal p hp).1))
      obtain ⟨f, hf⟩ : ∃ f, f ∈ L := by
        cases L with
        | nil => exact absurd rfl h0
        | cons f L => exact ⟨f, List.mem_cons_self⟩
      have hless := plL_less hd6.sub ((unhide HC).cr.lt f (hd6.fal f hf).1) (hd6.fal f hf).2.1 (hd6.fal f hf).2.2
      have HB6 := hide hbX6
      clear hblk hbw6 hd6 hf h0 hbX6
      go_wp2_with (go_at_call 17; refine (unhide CL).mono ?_; rintro e w7 ⟨u7, D7, rfl, hp7, hs7, hm7, hb7⟩; have H7 := hide (And.intro hp7 (And.intro hs7 (And.intro hm7 hb7))); clear hp7 hs7 hm7 hb7 CL s0 s1 s2)
      go_roundg ((plL inn' ps.length).length + 1)
      case measure => omega
      case rel =>
        refine ⟨inn', D7, Nat.le_refl _, hide ?_⟩
        have hcr := (unhide HC).cr.next (unhide H6).2.2.1 (unhide H7).2.2.1
        refine ⟨(unhide H6).2.1.later (unhide H7).2.2.2, ⟨_, (unhide H6).2.1.lt, (unhide H7).1⟩, ?_, hcr, bl_t (unhide HB6) (unhide H7).2.2.2⟩
        have := rise_len D7 0 ps.length (unhide H7).2.1 fun x hx => ⟨Nat.zero_le _, hcr.lt x hx⟩
        omega
end Go.Proofs.YtjnbnndocinicaaGreatDoor
namespace Go.Proofs.YtjnbnndocinicaaGreatDoor
open Go.RowKit Go.Maps

theorem Bfl.lat {w w2 : World} {v : Value} {fl : List Bool} (h : Bfl w v fl) (hb : RowKit.Below w.heap.size w w2) : Bfl w2 v fl := by
  obtain ⟨a, c, h1, h2⟩ := h
  refine ⟨a, c, h1, fun h0 => ?_⟩
  obtain ⟨b, o, h3, h4, h5⟩ := h2 h0
  exact ⟨b, o, h3, Nat.lt_of_lt_of_le h4 hb.size, fun i x hx => (hb.cell (p := ⟨b, o + i, none⟩) h4).trans (h5 i x hx)⟩
theorem Pl.at {lo : Nat} {w X : World} {a : Option Addr} {n c : Nat} {l : List Nat} (h : Pl lo w (.slice a n c) l) (hb : RowKit.Below w.heap.size w X) {i p : Nat} (hp : l[i]? = some p) : ∃ g, a = some ⟨g, 0, none⟩ ∧ X.cell? ⟨g, i, none⟩ = some (.int .i64 (p : Int)) := by
  obtain ⟨a2, c2, e, h2⟩ := h
  injection e with e
  obtain ⟨g, q1, _, q3, q4⟩ := h2 i p hp
  exact ⟨g, e.trans q1, (hb.cell (p := ⟨g, i, none⟩) q3).trans q4⟩
set_option maxRecDepth 100000 in
theorem has_any {lo : Nat} {w : World} {u : Value} {l : List Nat} (x : Nat) (hl : l.length ≤ 1048576) (h : Pl lo w u l) :
    Calls Tryz.prog 8 #[u, .int .i64 (x : Int)] w fun e w' => e = .returned (.bool (decide (x ∈ l))) ∧ RowKit.Below w.heap.size w w' := by
  obtain ⟨a, c, rfl⟩ : ∃ a c, u = .slice a l.length c := let ⟨a, c, e, _⟩ := h; ⟨a, c, e⟩
  have HP := hide (show ∀ i (hi : i < l.length), ∃ g, a = some ⟨g, 0, none⟩ ∧ w.cell? ⟨g, i, none⟩ = some (.int .i64 (l[i] : Int)) from fun i hi => h.at (Below.refl _ _) (List.getElem?_eq_getElem hi))
  obtain ⟨N, hN⟩ : ∃ N, N = l.length := ⟨_, rfl⟩
  have HN := hide hN
  rw [← hN] at hl ⊢
  clear h hN
  go_enter Tryz.func8, Tryz.ntmps8
  go_wp2_with fail
  go_loopg [5] N (fun gq iv wr => ∃ i : Nat, iv = .int .i64 i ∧ i ≤ N ∧ N - i ≤ gq ∧ wr = w ∧ Hid (x ∉ l.take i))
  case atStart => exact ⟨0, by go_num, by omega, by omega, rfl, hide (by simp)⟩
  case round =>
    obtain ⟨i, rfl, hi, hg, rfl, HX⟩ := hrel
    by_cases hlt : i < N
    · have hin : (i : Int) < (N : Int) := by omega
      have hil : i < l.length := by have := unhide HN; omega
      obtain ⟨g, rfl, c0⟩ := unhide HP i hil
      have HT := hide (show l.take (i + 1) = l.take i ++ [l[i]] from by rw [List.take_add_one, List.getElem?_eq_getElem hil]; rfl)
      by_cases e : l[i] = x
      · have HD := hide (show decide (x ∈ l) = true from decide_eq_true (by rw [← e]; exact List.getElem_mem hil))
        have h0 : ((l[i] : Int) == (x : Int)) = true := by rw [e]; exact beq_self_eq_true _
        generalize l[i] = y at *
        clear e
        go_wp2_with fail
        go_ret
        exact ⟨by rw [unhide HD]; rfl, Below.refl _ _⟩
      · have h0 : ((l[i] : Int) == (x : Int)) = false := beq_eq_false_iff_ne.2 (by omega)
        have HF := hide (show x ∉ l.take (i + 1) from by rw [unhide HT]; intro h; rcases List.mem_append.1 h with h | h; exact unhide HX h; rw [List.mem_singleton] at h; exact e h.symm)
        generalize l[i] = y at *
        clear e HT
        go_wp2_with fail
        go_roundg (N - (i + 1))
        case measure => omega
        case rel => exact ⟨i + 1, by go_num, by omega, by omega, rfl, HF⟩
    · obtain rfl : i = N := by omega
      have HD := hide (show decide (x ∈ l) = false from decide_eq_false (by have h := unhide HX; rw [unhide HN, List.take_length] at h; exact h))
      go_wp2_with fail
      go_ret
      exact ⟨by rw [unhide HD]; rfl, Below.refl _ _⟩
theorem makeBB (n : Nat) (hn : n ≤ 262144) (u : World) : (Instr.makeSlice 23 (.int .i64 (n : Int)) (.int .i64 (n : Int))).run Tryz.prog u = .ok (.slice (some ⟨u.heap.size, 0, none⟩) n n) (u.alloc (.cells (madeCells #[.bool false] n) 4)) := by
  obtain ⟨i0, hi, hz0, hz1, hz2⟩ := info_parts2 infoBo
  have h := run_make (P := Tryz.prog) u 23 4 i0 (.bool false) Tryz.underlying23 hi hz0 .i64 .i64 (n : Int) (n : Int) (by omega) (Int.le_refl _) (by rw [hz2]; omega) (by omega)
  simpa [hz1, Value.cells] using h
/-- FLAGS WHILE THEY ARE SET. -/
structure Gf (W wr : World) (n : Nat) (l : List Nat) : Prop where
  b : Bb wr W.heap.size n (fun p => decide (p ∈ l))
  bw : RowKit.Below W.heap.size W wr
theorem Gf.start (W : World) (n : Nat) : Gf W (W.alloc (.cells (madeCells #[.bool false] n) 4)) n [] := by
  refine ⟨?_, (Below.refl _ W).alloc (Nat.le_refl _) _⟩
  have := bb_new W n
  rw [show (fun p : Nat => decide (p ∈ ([] : List Nat))) = (fun _ => false) from by funext p; simp]
  exact this
theorem Gf.later {W wr X : World} {n : Nat} {l : List Nat} (h : Gf W wr n l) (hb : RowKit.Below wr.heap.size wr X) : Gf W X n l := ⟨h.b.later hb, bl_t h.bw hb⟩
theorem Gf.set {W wr : World} {n : Nat} {l : List Nat} (h : Gf W wr n l) {p : Nat} (hp : p < n) : Gf W (wr.setCell ⟨W.heap.size, p, none⟩ (.bool true)) n (l ++ [p]) := by
  refine ⟨?_, h.bw.setCell (p := ⟨W.heap.size, p, none⟩) (Nat.le_refl _) _⟩
  have := h.b.set hp true
  rw [show (fun x => decide (x ∈ l ++ [p])) = (fun i => if i = p then true else decide (i ∈ l)) from by
    funext i
    by_cases e : i = p
    · rw [if_pos e]; exact decide_eq_true (by simp [e])
    · rw [if_neg e]; exact decide_eq_decide.2 (by simp [e])]
  exact this
theorem Gf.bfl {W wr : World} {n : Nat} {l : List Nat} (h : Gf W wr n l) : Bfl wr (.slice (some ⟨W.heap.size, 0, none⟩) n n) ((List.range n).map fun p => decide (p ∈ l)) := by
  refine ⟨_, n, by simp, fun _ => ⟨W.heap.size, 0, rfl, h.b.lt, fun i x hx => ?_⟩⟩
  rw [List.getElem?_map] at hx
  obtain ⟨k, hk, rfl⟩ := Option.map_eq_some_iff.1 hx
  obtain ⟨hk1, hk2⟩ := List.getElem?_eq_some_iff.1 hk
  have hi : i < n := by simpa using hk1
  obtain rfl : i = k := by simpa using hk2
  rw [Nat.zero_add]
  exact (h.b.cell hi).1
theorem flags_eq {n : Nat} {inn : Nat → Bool} (hlt : ∀ p, inn p = true → p < n) : (fun i => ((List.range n).map fun p => decide (p ∈ plL inn n)).getD i false) = inn := by
  funext i
  rw [List.getD_eq_getElem?_getD, List.getElem?_map]
  by_cases h : i < n
  · rw [List.getElem?_range h]
    simp only [Option.map_some, Option.getD_some]
    cases e : inn i with
    | true => exact decide_eq_true (List.mem_filter.2 ⟨List.mem_range.2 h, e⟩)
    | false => exact decide_eq_false fun hm => by have := (List.mem_filter.1 hm).2; rw [e] at this; cases this
  · rw [List.getElem?_eq_none (by simp; omega)]
    cases e : inn i with
    | true => exact absurd (hlt i e) h
    | false => rfl
set_option maxRecDepth 100000 in
set_option maxHeartbeats 8000000 in
theorem greatest_walk {w : World} {v u : Value} {ps : List Pk} {fl : List Bool} (sm : SmP ps) (hfl : fl.length ≤ 1048576) (pk : Pkl w v ps) (hb : Bfl w u fl) (ht : akK ps ps.length ≤ 1048576) :
    Calls Tryz.prog 3 #[v, u] w fun e w' => e = .returned (.bool true) ∧ RowKit.Below w.heap.size w w' := by
  obtain ⟨va, vc, rfl⟩ : ∃ a c, v = .slice a ps.length c := let ⟨a, c, e, _⟩ := pk; ⟨a, c, e⟩
  obtain ⟨ua, uc, rfl⟩ : ∃ a c, u = .slice a fl.length c := let ⟨a, c, e, _⟩ := hb; ⟨a, c, e⟩
  have hl := sm.l
  obtain ⟨BF, hBF⟩ : ∃ b : Bool, b = true ↔ Clo ps (fun i => fl.getD i false) := by
    by_cases h : Clo ps (fun i => fl.getD i false)
    · exact ⟨true, fun _ => h, fun _ => rfl⟩
    · exact ⟨false, fun e => (by cases e), fun e => absurd e h⟩
  have C1 := hide (Closed_any sm pk ht)
  have HS1 := hide (show ∀ X (r : Value) (gl : List Bool), gl.length ≤ 1048576 → RowKit.Below w.heap.size w X → Bfl X r gl → Calls Tryz.prog 6 #[.slice va ps.length vc, r] X fun e w' => ∃ r, e = .returned r ∧ Pkl w' r ((flP ps.length gl).map (pAt ps)) ∧ RowKit.Below X.heap.size X w' from fun X r gl hg hX hB => some_any sm hg (pk.later hX) hB)
  have HCL := hide (show ∀ X r gl, Pkl X r ((flP ps.length gl).map (pAt ps)) → Calls Tryz.prog 7 #[r] X fun e w' => ∃ b : Bool, e = .returned (.bool b) ∧ (b = true ↔ Clo ps (fun i => gl.getD i false)) ∧ RowKit.Below X.heap.size X w' from fun X r gl hp => (closed_any (sm.part gl) hp).mono fun e w' ⟨b, he, hb, hB⟩ => ⟨b, he, hb.trans (cld_part ps gl), hB⟩)
  have HFB := hide hb
  have HFL := hide (show ∀ X, RowKit.Below w.heap.size w X → ∀ i (hi : i < fl.length), ∃ b o, ua = some ⟨b, o, none⟩ ∧ X.cell? ⟨b, o + i, none⟩ = some (.bool fl[i]) from fun X hX i hi => by
    obtain ⟨a, c, e, h2⟩ := hb.lat hX
    injection e with e
    obtain ⟨b, o, h3, _, h5⟩ := h2 (by omega)
    exact ⟨b, o, e.trans h3, h5 i _ (List.getElem?_eq_getElem hi)⟩)
  have hmk := makeBB ps.length hl
  clear sm pk hb ht
  go_enter Tryz.func3, Tryz.ntmps3
  go_wp2_with (go_at_call 5; refine (unhide C1).mono ?_; rintro e w1 ⟨r1, inn, rfl, hu1, hcl, hb1⟩; obtain ⟨⟨la, ln, lk⟩, rfl, hln⟩ := slice_hd hu1; simp only at hln; subst hln; unfold hv; have H1 := hide (And.intro hu1 (And.intro hcl hb1)); clear hu1 hcl hb1 C1)
  clear hmk
  have HPL := hide (show Pl w.heap.size w1 (.slice la (plL inn ps.length).length lk) (plL inn ps.length) from own_pl (unhide H1).1)
  have HRI := hide (show (plL inn ps.length).Pairwise (· < ·) ∧ ∀ p ∈ plL inn ps.length, p < ps.length from ⟨List.Pairwise.filter _ List.pairwise_lt_range, fun p hp => List.mem_range.1 (List.mem_filter.1 hp).1⟩)
  have hll := plL_len inn ps.length
  have HEQ := hide (flags_eq (unhide H1).2.1.2.2)
  have HIN := hide (show ∀ p, inn p = true → p ∈ plL inn ps.length from fun p hp => List.mem_filter.2 ⟨List.mem_range.2 ((unhide H1).2.1.2.2 p hp), hp⟩)
  have HG := hide (And.intro (unhide H1).2.1.1 (unhide H1).2.1.2.1)
  have HB1 := hide (unhide H1).2.2
  clear H1
  have HG0 := hide (Gf.start w1 ps.length)
  generalize plL inn ps.length = l at *
  obtain ⟨M, hM⟩ : ∃ M, M = l.length := ⟨_, rfl⟩
  have HM := hide hM
  rw [← hM] at hll HPL ⊢
  clear hM
  go_loopg [7] M (fun gq iv wr => ∃ i : Nat, iv = .int .i64 i ∧ i ≤ M ∧ M - i ≤ gq ∧ Hid (Gf w1 wr ps.length (l.take i)))
  case atStart => exact ⟨0, by go_num, by omega, by omega, by rw [List.take_zero]; exact HG0⟩
  case round =>
    clear HG0
    obtain ⟨i, rfl, hi, hgi, HW⟩ := hrel
    by_cases hlt : i < M
    · have hin : (i : Int) < (M : Int) := by omega
      have hil : i < l.length := by have := unhide HM; omega
      obtain ⟨g, rfl, c0⟩ := (unhide HPL).at (unhide HW).bw (List.getElem?_eq_getElem hil)
      have hp := (unhide HRI).2 l[i] (List.getElem_mem hil)
      have hpn : (l[i] : Int) < (ps.length : Int) := by omega
      have d1 : decide ((l[i] : Int) < 0) = false := decide_eq_false (by omega)
      have d2 : decide (ps.length ≤ l[i]) = false := decide_eq_false (by omega)
      have hz1 := (unhide HW).b.lt
      obtain ⟨f0, z0⟩ := (unhide HW).b.cell hp
      have HF := hide (show ∀ n, Gf w1 ((wr.drewN n).setCell ⟨w1.heap.size, l[i], none⟩ (.bool true)) ps.length (l.take (i + 1)) from fun n => by
        rw [List.take_add_one, List.getElem?_eq_getElem hil]
        exact ((unhide HW).later (bl_drewN wr n)).set hp)
      by_cases h0 : 0 < i
      · obtain ⟨k, hk⟩ : ∃ k, i = k + 1 := ⟨i - 1, by omega⟩
        have hkl : k < l.length := by omega
        obtain ⟨g2, e2, c1⟩ := (unhide HPL).at (unhide HW).bw (List.getElem?_eq_getElem hkl)
        cases e2
        have d3 : decide (l[i] ≤ l[k]) = false := decide_eq_false (by have := List.pairwise_iff_getElem.1 (unhide HRI).1 k i hkl hil (by omega); omega)
        have d4 : decide (0 < i) = true := decide_eq_true h0
        have hwk : IntKind.i64.wrap (k : Int) = (k : Int) := by rw [IntKind.wrap_i64]; omega
        have e1 : ((i : Int) - 1) = (k : Int) := by omega
        have hkm : (k : Int) < (M : Int) := by omega
        have HK := hide hk
        generalize l[i] = p at *
        generalize l[k] = p1 at *
        clear hk
        go_wp2_with fail
        go_quiet (fail)
        go_wp2_with fail
        go_roundg (M - (i + 1))
        case measure => omega
        case rel => exact ⟨i + 1, by go_num, by omega, by omega, hide (unhide HF _)⟩
      · have d4 : decide (0 < i) = false := decide_eq_false h0
        generalize l[i] = p at *
        go_wp2_with fail
        go_quiet (fail)
        go_wp2_with fail
        go_roundg (M - (i + 1))
        case measure => omega
        case rel => exact ⟨i + 1, by go_num, by omega, by omega, hide (unhide HF _)⟩
    · obtain rfl : i = M := by omega
      have hgf := unhide HW
      rw [unhide HM, List.take_length] at hgf
      rename World => Wm
      have bwm := bl_t (unhide HB1) hgf.bw
      have CS1 := hide (unhide HS1 Wm _ _ (by rw [List.length_map, List.length_range]; omega) bwm hgf.bfl)
      have HWM := hide (And.intro bwm hgf.bw)
      clear hgf bwm HW
      go_upto_region 15 with (first
        | (go_at_call 6; refine (unhide CS1).mono ?_; rintro e w2 ⟨r2, rfl, hp2, hb2⟩; have CC1 := hide (unhide HCL _ _ _ hp2); have B2 := hide hb2; clear hp2 hb2 CS1)
        | (go_at_call 7; refine (unhide CC1).mono ?_; rintro e w3 ⟨b3, rfl, hb3, hB3⟩; rw [unhide HEQ] at hb3; obtain rfl : b3 = true := hb3.2 (unhide HG).1; have B3 := hide (bl_t (unhide B2) hB3); have CS2 := hide (unhide HS1 w3 _ fl hfl (bl_t (unhide HWM).1 (unhide B3)) ((unhide HFB).lat (bl_t (unhide HWM).1 (unhide B3)))); clear hb3 hB3 CC1)
        | (go_at_call 6; refine (unhide CS2).mono ?_; rintro e w4 ⟨r4, rfl, hp4, hb4⟩; have CC2 := hide (unhide HCL _ _ _ hp4); have B4 := hide (bl_t (unhide B3) hb4); clear hp4 hb4 CS2)
        | (go_at_call 7; refine (unhide CC2).mono ?_; rintro e w5 ⟨b5, rfl, hb5, hB5⟩; have B5 := hide (bl_t (unhide B4) hB5); have HBB := hide hb5; clear hb5 hB5 CC2))
      have HW5 := hide (show RowKit.Below w.heap.size w w5 ∧ Pl w.heap.size w5 (.slice la i lk) l from ⟨bl_t (unhide HWM).1 (unhide B5), (unhide HPL).later (bl_t (unhide HWM).2 (unhide B5))⟩)
      have HYES := hide (show b5 = true → ∀ j, j < ps.length → fl.getD j false = true → decide (j ∈ l) = true from fun hb j hj hf => decide_eq_true (unhide HIN j ((unhide HG).2 _ ((unhide HBB).1 hb) j hj hf)))
      have HLL := hide (show l.length ≤ 1048576 from by have := unhide HM; omega)
      clear B2 B3 B4 B5 HBB HWM HS1 HCL HEQ HG HIN HRI HPL
      obtain ⟨N, hN⟩ : ∃ N, N = ps.length := ⟨_, rfl⟩
      rw [← hN] at hl HYES ⊢
      clear hN
      go_wp2_with fail
      go_loopg [12] N (fun gq iv wr => ∃ j : Nat, iv = .int .i64 j ∧ j ≤ N ∧ N - j ≤ gq ∧ Hid (RowKit.Below w5.heap.size w5 wr))
      case atStart => exact ⟨0, by go_num, by omega, by omega, hide (Below.refl _ _)⟩
      case round =>
        obtain ⟨j, rfl, hj, hgj, HB⟩ := hrel
        by_cases hlt : j < N
        · have hjn : (j : Int) < (N : Int) := by omega
          cases b5 with
          | false =>
            go_wp2_with (go_at_call 9; refine little_any.mono ?_; rintro e w9 ⟨rfl, hb9⟩; have X9 := hide (bl_t (bl_t (unhide HW5).1 (unhide HB)) hb9); clear hb9)
            go_ret
            exact ⟨rfl, unhide X9⟩
          | true =>
            by_cases hf : j < fl.length
            · have hjf : (j : Int) < (fl.length : Int) := by omega
              obtain ⟨fb, fo2, rfl, f0⟩ := unhide HFL wr (bl_t (unhide HW5).1 (unhide HB)) j hf
              cases hfv : fl[j] with
              | false =>
                rw [hfv] at f0
                clear hfv
                go_wp2_with fail
                go_roundg (N - (j + 1))
                case measure => omega
                case rel => exact ⟨j + 1, by go_num, by omega, by omega, HB⟩
              | true =>
                rw [hfv] at f0
                have hyes := unhide HYES rfl j hlt (by rw [List.getD_eq_getElem?_getD, List.getElem?_eq_getElem hf, hfv]; rfl)
                have CH := hide (has_any j (unhide HLL) ((unhide HW5).2.later (unhide HB)))
                have HH := hide hyes
                clear hfv hyes
                go_wp2_with (go_at_call 8; refine (unhide CH).mono ?_; rintro e w9 ⟨rfl, hb9⟩; have HB9 := hide (bl_t (unhide HB) hb9); rw [unhide HH]; clear hb9 CH)
                go_roundg (N - (j + 1))
                case measure => omega
                case rel => exact ⟨j + 1, by go_num, by omega, by omega, HB9⟩
            · have hjf : ¬ (j : Int) < (fl.length : Int) := by omega
              go_wp2_with fail
              go_roundg (N - (j + 1))
              case measure => omega
              case rel => exact ⟨j + 1, by go_num, by omega, by omega, HB⟩
        · obtain rfl : j = N := by omega
          go_wp2_with (go_at_call 9; refine little_any.mono ?_; rintro e w9 ⟨rfl, hb9⟩; have X9 := hide (bl_t (bl_t (unhide HW5).1 (unhide HB)) hb9); clear hb9)
          go_ret
          exact ⟨rfl, unhide X9⟩
end Go.Proofs.YtjnbnndocinicaaGreatDoor
