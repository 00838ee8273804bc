import Derived.Test.YtjnbnndocinicaaGreatDoorWvR3
import Derived.Sort.KeysCollected
import Derived.Maps.RangeWalk
import Derived.Maps.AppendAt
import Derived.Laws.AppendOwnNone
import Derived.Test.YtjnbnndocinicaaGreatDoorWvR1
import Derived.Test.YtjnbnndocinicaaGreatDoorWvR2
import Derived.Deep.QuietTactic
import Derived.BigQuiet
import Derived.DeepKeys4
import Derived.Deep.LoopGhost
import Derived.Deep.RegionHeld3
import Derived.Deep.RegionLaw
import Derived.Sort.Grow
import Derived.Shelf.SlGeneric
import Derived.Shelf.SlSortCmp.WholeK
import Derived.Test.YtjnbnndocinicaaGreatDoorProg
import Derived.Shelf.SlSortCmp.NoneTotal
import Derived.Laws.StructEq
namespace Go.Proofs.YtjnbnndocinicaaGreatDoor
open Go.RowKit Go.Maps

/-- A PART AND WHAT FELL OUT OF IT, WHILE IT IS LOOKED THROUGH. -/
structure Dw (W wr : World) (gi n : Nat) (s : Value) (inn : Nat → Bool) (L : List Nat) : Prop where
  b : Bb wr gi n inn
  row : wr.ownsRow W.heap.size 3 1 s L.length (ints L)
  fx : Fx (fun c => c = gi) W wr
theorem Dw.later {W wr X : World} {gi n : Nat} {s : Value} {inn : Nat → Bool} {L : List Nat} (h : Dw W wr gi n s inn L) (hb : RowKit.Below wr.heap.size wr X) : Dw W X gi n s inn L :=
  ⟨h.b.later hb, own_same h.row fun b e => hb.block b (World.ownsRow.lt h.row b e).2, h.fx.trans (Fx.of hb)⟩
theorem Dw.set {W wr : World} {gi n : Nat} {s : Value} {inn : Nat → Bool} {L : List Nat} (h : Dw W wr gi n s inn L) (hg : gi < W.heap.size) {p : Nat} (hp : p < n) : Dw W (wr.setCell ⟨gi, p, none⟩ (.bool false)) gi n s (fun i => if i = p then false else inn i) L :=
  ⟨h.b.set hp false, own_same h.row fun b e => set_other wr gi p (.bool false) b (by have := (World.ownsRow.lt h.row b e).1; omega), h.fx.set rfl p (.bool false)⟩
theorem Dw.grow {W wr w9 : World} {gi n : Nat} {s v' : Value} {inn : Nat → Bool} {L : List Nat} {p : Nat} {o : Obj} (h : Dw W wr gi n s inn L) (hg : gi < W.heap.size) (hown : w9.ownsRow W.heap.size 3 1 v' (L.length + 1) (ints L ++ [.int .i64 (p : Int)])) (hgr : (wr.alloc o).grownBy w9 s.ownBlock) : Dw W w9 gi n v' inn (L ++ [p]) := by
  have hz := h.fx.size
  have b1 : RowKit.Below wr.heap.size wr (wr.alloc o) := (Below.refl _ wr).alloc (Nat.le_refl _) _
  have ne : ∀ c, c < W.heap.size → some c ≠ s.ownBlock := fun c hc e => by have := (World.ownsRow.lt h.row c e.symm).1; omega
  have kp : ∀ c, c < W.heap.size → w9.heap[c]? = wr.heap[c]? := fun c hc => (hgr.block c (by rw [World.size_alloc]; omega) (ne c hc)).trans (b1.block c (by omega))
  have b2 : RowKit.Below 0 wr w9 := (b1.mono (Nat.zero_le _)).grown hgr (Nat.zero_le _) (fun _ _ => Nat.zero_le _)
  refine ⟨?_, ?_, ⟨h.fx.bel.trans b2, fun c hc hn => (kp c hc).trans (h.fx.blk c hc hn)⟩⟩
  · obtain ⟨cur, h1, h2⟩ := h.b.blk
    exact ⟨cur, (kp gi hg).trans h1, h2⟩
  · rw [List.length_append, show ints (L ++ [p]) = ints L ++ [.int .i64 (p : Int)] from by simp [ints]]
    exact hown
theorem Bb.bls {W : World} {g n : Nat} {f : Nat → Bool} (h : Bb W g n f) : Bls W (.slice (some ⟨g, 0, none⟩) n n) f n := ⟨_, _, rfl, fun _ => ⟨g, rfl, h.lt, fun _ hi => (h.cell hi).1⟩⟩
theorem own_pl {lo : Nat} {w : World} {r : Value} {l : List Nat} (h : w.ownsRow lo 3 1 r l.length (ints l)) : Pl lo w r l := by
  rcases h.2 with ⟨q1, q2⟩ | ⟨g, cap, cur, q1, q2, q3, _⟩
  · refine ⟨none, 0, by rw [q1, q2], fun i p hp => ?_⟩
    have hl : l = [] := List.length_eq_zero_iff.1 q2
    subst hl
    simp at hp
  · refine ⟨some ⟨g, 0, none⟩, cap, q1, fun i p hp => ⟨g, rfl, q2, blk_lt q3, ?_⟩⟩
    have hc := h.cells (g := g) (by rw [q1]; rfl) i (.int .i64 (p : Int)) (by unfold ints; rw [List.getElem?_map, hp]; rfl)
    rw [Addr.add_mid, Nat.zero_add] at hc
    exact hc
theorem Pl.later {lo : Nat} {w w2 : World} {r : Value} {l : List Nat} (h : Pl lo w r l) (hb : RowKit.Below w.heap.size w w2) : Pl lo w2 r l := by
  obtain ⟨a, c, h1, h2⟩ := h
  refine ⟨a, c, h1, fun i p hp => ?_⟩
  obtain ⟨g, q1, q2, q3, q4⟩ := h2 i p hp
  exact ⟨g, q1, q2, Nat.lt_of_lt_of_le q3 hb.size, (hb.cell (p := ⟨g, i, none⟩) q3).trans q4⟩
theorem fx_below {w0 w w' : World} {gi : Nat} (h0 : RowKit.Below w0.heap.size w0 w) (hf : Fx (fun c => c = gi) w w') (hg : w0.heap.size ≤ gi) : RowKit.Below w0.heap.size w0 w' :=
  ⟨hf.bel.os.trans h0.os, hf.bel.tape.trans h0.tape, hf.bel.output.trans h0.output, Nat.le_trans h0.size hf.bel.size, fun c hc => (hf.blk c (Nat.lt_of_lt_of_le hc h0.size) (fun e => by omega)).trans (h0.block c hc)⟩
set_option maxRecDepth 100000 in
set_option maxHeartbeats 8000000 in
/-- WHAT FALLS, AND THE PART BEHIND IT. -/
theorem drop_any {w0 w : World} {b1 b2 : Nat} {v r : Value} {xs : List Pd} {ps : List Pk} {base lo gi : Nat} {H1 H2 : Nm → Option Hd} {k1 k2 : Nat} {D : List Nat} (inn : Nat → Bool) (m1 : Mi w0 base (.map (some b1)) H1 (nmP xs xs.length) k1) (m2 : Mi w0 base (.map (some b2)) H2 (pvP xs xs.length) k2) (pks : Pks w0 v xs) (hs : Sim xs ps) (sm : SmP ps) (pk : Pkl w0 v ps) (h0 : RowKit.Below w0.heap.size w0 w) (hg : w0.heap.size ≤ gi) (hin : Bb w gi ps.length inn) (hr : Pl lo w r D) (hlo : gi < lo) (hlen : D.length ≤ 1048576) (hD : ∀ p ∈ D, p < ps.length) :
    Calls Tryz.prog 16 #[.agg #[v, .map (some b1), .map (some b2)], .slice (some ⟨gi, 0, none⟩) ps.length ps.length, r] w fun e w' => ∃ u inn' L, e = .returned u ∧ w'.ownsRow w.heap.size 3 1 u L.length (ints L) ∧ Bb w' gi ps.length inn' ∧ Dp ps inn D inn' L ∧ Fx (fun c => c = gi) w w' := by
  obtain ⟨i0, hi, hz0, hz1, hz2⟩ := info_parts2 infoI8
  obtain ⟨va, vc, rfl⟩ : ∃ a c, v = .slice a ps.length c := let ⟨a, c, e, _⟩ := pk; ⟨a, c, e⟩
  obtain ⟨ra, rk, rfl, hpl⟩ := hr
  have HR := hide (show ∀ X, Fx (fun c => c = gi) w X → ∀ j (hj : j < D.length), ∃ g, ra = some ⟨g, 0, none⟩ ∧ X.cell? ⟨g, j, none⟩ = some (.int .i64 (D[j] : Int)) from fun X hX j hj => by
    obtain ⟨g, e1, e2, e3, e4⟩ := hpl j D[j] (List.getElem?_eq_getElem hj)
    refine ⟨g, e1, ?_⟩
    rw [← e4]
    unfold World.cell?
    rw [show X.heap[(⟨g, j, none⟩ : Addr).block]? = w.heap[(⟨g, j, none⟩ : Addr).block]? from hX.blk g e3 (fun q => by omega)])
  have HW := hide (show ∀ (X : World) (it : Nat → Bool), Fx (fun c => c = gi) w X → Bb X gi ps.length it → ∀ (p : Nat) (q : Pk), ps[p]? = some q → Calls Tryz.prog 28 #[.agg #[.slice va ps.length vc, .map (some b1), .map (some b2)], .int .i64 (p : Int), .slice (some ⟨gi, 0, none⟩) ps.length ps.length] X fun e w' => ∃ b : Bool, e = .returned (.bool b) ∧ (b = true ↔ Wh ps it p q) ∧ RowKit.Below X.heap.size X w' from fun X it hX hb p q hq => by
    have bX := fx_below h0 hX hg
    exact isWhole_any it (m1.later bX) (m2.later bX) (pks.later bX) hs sm (pk.later bX) hb.bls hq)
  obtain ⟨W1, hW1⟩ : ∃ W, W = w.alloc (.cells #[.slice va ps.length vc, .map (some b1), .map (some b2)] 44) := ⟨_, rfl⟩
  have hgw := hin.lt
  have bW : RowKit.Below w.heap.size w W1 := by rw [hW1]; exact (Below.refl _ w).alloc (Nat.le_refl _) _
  have HB1 := hide (show RowKit.Below w.heap.size w W1 ∧ W1.heap[w.heap.size]? = some (.cells #[.slice va ps.length vc, .map (some b1), .map (some b2)] 44 (0, 0)) from ⟨bW, by rw [hW1]; exact World.alloc_heap_new w _⟩)
  have hgW : gi < W1.heap.size := Nat.lt_of_lt_of_le hgw bW.size
  have HST := hide (show Dw W1 W1 gi ps.length (.slice none 0 0) inn [] ∧ Dp ps inn (D.take 0) inn [] from ⟨⟨hin.later bW, World.ownsRow_nil _ _ _ _, Fx.refl _ _⟩, by rw [List.take_zero]; exact Dp.start ps inn⟩)
  obtain ⟨N, hN⟩ : ∃ N, N = D.length := ⟨_, rfl⟩
  have HN := hide hN
  have HD := hide hD
  rw [← hN] at hlen
  rw [← hN]
  clear m1 m2 pks hs sm pk hin hpl hD hN bW
  have hpsl : ps.length ≤ 262144 ∨ True := .inr trivial
  clear hpsl
  go_enter Tryz.func16, Tryz.ntmps16
  go_wp2_with fail
  rw [← hW1]
  clear hW1
  go_loopg [7, 9, 12] N (fun gq sv _ iv wr => ∃ (j : Nat) (it : Nat → Bool) (L : List Nat), iv = .int .i64 j ∧ j ≤ N ∧ N - j ≤ gq ∧ Hid (Dw W1 wr gi ps.length sv it L ∧ Dp ps inn (D.take j) it L))
  case atStart => exact ⟨0, _, _, by go_num, by omega, by omega, HST⟩
  case round =>
    clear HST
    obtain ⟨j, it, L, rfl, hj, hgj, HB⟩ := hrel
    by_cases hlt : j < N
    · have hjn : (j : Int) < (N : Int) := by omega
      have hjl : j < D.length := by have := unhide HN; omega
      have fX : Fx (fun c => c = gi) w wr := (Fx.of (unhide HB1).1).next (unhide HB).1.fx (fun _ _ h => h)
      obtain ⟨g, rfl, c0⟩ := unhide HR wr fX j hjl
      have hp := unhide HD D[j] (List.getElem_mem hjl)
      have hpn : (D[j] : Int) < (ps.length : Int) := by omega
      obtain ⟨f0, z0⟩ := (unhide HB).1.b.cell hp
      obtain ⟨q, hq⟩ : ∃ q, ps[D[j]]? = some q := ⟨_, List.getElem?_eq_getElem hp⟩
      have HTK := hide (show D.take (j + 1) = D.take j ++ [D[j]] from by rw [List.take_add_one, List.getElem?_eq_getElem hjl]; rfl)
      have e1 := ((unhide HB).1.fx.blk _ (blk_lt (unhide HB1).2) (by have := (unhide HB1).1.size; intro h; have h2 := hgW; have := (unhide HB1).2; omega)).trans (unhide HB1).2
      have s0 := (cell_blk e1 0).1.trans (show #[Value.slice va ps.length vc, .map (some b1), .map (some b2)][0]? = some (.slice va ps.length vc) from rfl)
      have s1 := (cell_blk e1 1).1.trans (show #[Value.slice va ps.length vc, .map (some b1), .map (some b2)][1]? = some (.map (some b1)) from rfl)
      have s2 := (cell_blk e1 2).1.trans (show #[Value.slice va ps.length vc, .map (some b1), .map (some b2)][2]? = some (.map (some b2)) from rfl)
      have C := hide (unhide HW wr it fX (unhide HB).1.b D[j] q hq)
      have HQ := hide hq
      clear e1 fX hq
      generalize D[j] = p at *
      cases hf : it p with
      | false =>
        rw [hf] at f0
        have HF := hide ((unhide HB).2.out hf)
        clear C hf
        go_wp2_with fail
        go_roundg (N - (j + 1))
        case measure => omega
        case rel => exact ⟨j + 1, it, L, by go_num, by omega, by omega, hide ⟨(unhide HB).1, by rw [unhide HTK]; exact unhide HF⟩⟩
      | true =>
        rw [hf] at f0
        have HF := hide hf
        clear hf
        go_upto_region 6 with (go_at_call 28; refine (unhide C).mono ?_; rintro e w5 ⟨bw, rfl, hbw, hb5⟩; have HB5 := hide (And.intro hb5 hbw); clear hb5 hbw C c0 f0 z0 s0 s1 s2)
        · have hbq : (!bw) = true := by assumption
          obtain rfl : bw = false := by simpa using hbq
          have HDP := hide ((unhide HB).2.drop (unhide HF) (unhide HQ) fun h => by have := (unhide HB5).2.2 h; cases this)
          have dw5 := (unhide HB).1.later (unhide HB5).1
          obtain ⟨f0, z0⟩ := dw5.b.cell hp
          have HD5 := hide (dw5.set hgW hp)
          have hll := (unhide HB).2.len
          rw [List.length_take] at hll
          clear dw5 hbq
          go_upto_region 7 with fail
          clear f0 z0
          obtain ⟨W6, hW6⟩ : ∃ W, W = w5.setCell ⟨gi, p, none⟩ (.bool false) := ⟨_, rfl⟩
          rw [← hW6] at HD5 ⊢
          clear hW6
          have hz5 := (unhide HD5).fx.size
          go_wp2_with (at_builtin; go_must (refine wpList_append_own _ rfl _ _ 24 rfl W1.heap.size 3 i0 (.int .i64 0) 1 8 Tryz.underlying24 hi hz0 hz1 hz2 rfl (by decide) _ _ _ rfl (own_same (unhide HD5).row fun b e => Below.heap_alloc _ _ _ (World.ownsRow.lt (unhide HD5).row b e).2) ⟨W6.heap.size, 0, none⟩ 1 1 [.int .i64 (p : Int)] rfl rfl (fun k u hk => by rw [Addr.add_mid, Nat.zero_add, World.cell?_alloc_new]; simpa using hk) (fun u hu => by simp at hu; subst hu; rfl) (by unfold maxLen; omega) (by omega) (by rw [World.size_alloc]; omega) ?_); intro v' w9 hown hgrow _; have HF9 := hide ((unhide HD5).grow hgW hown hgrow); clear hown hgrow)
          go_roundg (N - (j + 1))
          case measure => omega
          case rel => exact ⟨j + 1, _, _, by go_num, by omega, by omega, hide ⟨unhide HF9, by rw [unhide HTK]; exact unhide HDP⟩⟩
        · have hbq : (!bw) = false := by assumption
          obtain rfl : bw = true := by simpa using hbq
          clear hbq
          have HF5 := hide (And.intro ((unhide HB).1.later (unhide HB5).1) ((unhide HB).2.keep (p := p) (fun q2 hq2 => by rw [unhide HQ] at hq2; cases hq2; exact (unhide HB5).2.1 rfl)))
          go_roundg (N - (j + 1))
          case measure => omega
          case rel => exact ⟨j + 1, it, L, by go_num, by omega, by omega, by rw [unhide HTK]; exact HF5⟩
    · obtain rfl : j = N := by omega
      have HE := hide (show Dp ps inn D it L from by
        have h := (unhide HB).2
        rw [unhide HN, List.take_length] at h
        exact h)
      go_wp2_with fail
      go_ret
      exact ⟨_, it, L, rfl, row_lo2 (unhide HB).1.row (unhide HB1).1.size, (unhide HB).1.b, unhide HE, (Fx.of (unhide HB1).1).next (unhide HB).1.fx (fun _ _ h => h)⟩
end Go.Proofs.YtjnbnndocinicaaGreatDoor
namespace Go.Proofs.YtjnbnndocinicaaGreatDoor
open Go.RowKit Go.Maps Go.Sort

/-- A SET OF NAMES. -/
def hsN (l : List Nm) : Nm → Option Value := fun x => if (l.any fun y => decide (y = x)) = true then some (.agg #[]) else none
theorem hsN_in {l : List Nm} {x : Nm} (h : x ∈ l) : hsN l x = some (.agg #[]) := if_pos (List.any_eq_true.2 ⟨x, h, decide_eq_true rfl⟩)
theorem hsN_out {l : List Nm} {x : Nm} (h : x ∉ l) : hsN l x = none := if_neg fun e => by
  obtain ⟨y, hy, e2⟩ := List.any_eq_true.1 e
  exact h (by rw [← of_decide_eq_true e2]; exact hy)
theorem hsN_some {l : List Nm} {x : Nm} (h : (hsN l x).isSome = true) : x ∈ l := Classical.byContradiction fun hn => by rw [hsN_out hn] at h; cases h
theorem hsN_snoc (l : List Nm) (x : Nm) : up (hsN l) x (some (.agg #[])) = hsN (l ++ [x]) := by
  funext y
  by_cases e : y = x
  · subst e
    rw [up_same, hsN_in (by simp)]
  · rw [up_other _ _ e]
    by_cases h : y ∈ l
    · rw [hsN_in h, hsN_in (by simp [h])]
    · rw [hsN_out h, hsN_out (by simp [h, e])]
theorem Dv.putS {W : World} {b k : Nat} {H : Nm → Option Value} (h : Dv W b H k) (hk : k < maxLen) {x : Nm} (hx : x.size ≤ maxLen) (f : Value) :
    ∃ W2, (Instr.mapUpdate 73 (.map (some b)) (.string x) f).run Tryz.prog W = .ok () W2 ∧ Dv W2 b (up H x (some f)) (k + 1) ∧ Fx (fun c => c = b) W W2 := by
  obtain ⟨D, ho, r⟩ := h
  obtain ⟨W2, hr, ho2, ht⟩ := ho.store law9 Tryz.underlying73 hk (key9 (x := x) hx) (val := f) (d := .held f) (ps := []) rfl
  have hg := ht.grown
  exact ⟨W2, hr, ⟨_, ho2, r.put ho.isMap f⟩, ⟨hg.1, hg.2, hg.3, hg.size, fun _ h => absurd h (Nat.not_lt_zero _)⟩, fun c hc hn => hg.block c hc (by intro q; cases q; exact hn rfl)⟩
/-- THE NAMES OF SOME, WHILE THEY ARE GATHERED. -/
structure Nl (w wr : World) (S : Array Value) (l : List Nm) : Prop where
  s : wr.heap[w.heap.size]? = some (.cells S 44 (0, 0))
  d : Dv wr (w.heap.size + 1) (hsN l) l.length
  bw : RowKit.Below w.heap.size w wr
  z : ∀ x ∈ l, x.size ≤ maxLen
theorem Nl.put {w wr : World} {S : Array Value} {l : List Nm} (h : Nl w wr S l) (hl : l.length < maxLen) {x : Nm} (hx : x.size ≤ maxLen) : ∃ W2, (Instr.mapUpdate 73 (.map (some (w.heap.size + 1))) (.string x) (.agg #[])).run Tryz.prog wr = .ok () W2 ∧ Nl w W2 S (l ++ [x]) := by
  obtain ⟨W2, hr, d2, f2⟩ := h.d.putS hl hx (.agg #[])
  have hz := h.bw.size
  have hz2 := h.d.lt
  rw [hsN_snoc] at d2
  refine ⟨W2, hr, (f2.blk _ (by omega) (by omega)).trans h.s, by rw [List.length_append]; exact d2, ⟨f2.bel.os.trans h.bw.os, f2.bel.tape.trans h.bw.tape, f2.bel.output.trans h.bw.output, Nat.le_trans hz f2.bel.size, fun c hc => (f2.blk c (by omega) (by omega)).trans (h.bw.block c hc)⟩, fun y hy => ?_⟩
  rcases List.mem_append.1 hy with hy | hy
  · exact h.z y hy
  · rw [List.mem_singleton] at hy; rw [hy]; exact hx
theorem nl_start (w : World) (S : Array Value) : Nl w ((w.alloc (.cells S 44)).alloc (.map #[] 0)) S [] := by
  have z1 : (w.alloc (.cells S 44)).heap.size = w.heap.size + 1 := World.size_alloc _ _
  have b1 : RowKit.Below w.heap.size w (w.alloc (.cells S 44)) := (Below.refl _ w).alloc (Nat.le_refl _) _
  have b2 : RowKit.Below (w.alloc (.cells S 44)).heap.size (w.alloc (.cells S 44)) ((w.alloc (.cells S 44)).alloc (.map #[] 0)) := (Below.refl _ _).alloc (Nat.le_refl _) _
  refine ⟨(b2.block _ (by omega)).trans (World.alloc_heap_new w _), ?_, bl_t b1 b2, fun x h => by cases h⟩
  have := Dv.make (w.alloc (.cells S 44))
  rw [z1] at this
  rw [show hsN [] = (fun _ => none) from by funext x; exact hsN_out (by simp)]
  exact this
/-- THE NAMES OF SOME. -/
def nmL (ps : List Pk) (L : List Nat) : List Nm := (L.map fun f => (pAt ps f).nm :: (pAt ps f).pv).flatten
theorem nmL_mem (ps : List Pk) (L : List Nat) (x : Nm) : x ∈ nmL ps L ↔ ∃ f ∈ L, x = (pAt ps f).nm ∨ x ∈ (pAt ps f).pv := by
  unfold nmL
  rw [List.mem_flatten]
  constructor
  · rintro ⟨l, hl, hx⟩
    obtain ⟨f, hf, rfl⟩ := List.mem_map.1 hl
    exact ⟨f, hf, List.mem_cons.1 hx⟩
  · rintro ⟨f, hf, hx⟩
    exact ⟨_, List.mem_map.2 ⟨f, hf, rfl⟩, List.mem_cons.2 hx⟩
theorem nmL_snoc (ps : List Pk) (L : List Nat) (j : Nat) (h : j < L.length) : nmL ps (L.take (j + 1)) = nmL ps (L.take j) ++ [(pAt ps L[j]).nm] ++ (pAt ps L[j]).pv := by
  unfold nmL
  rw [List.take_add_one, List.getElem?_eq_getElem h, List.map_append, List.flatten_append]
  simp
/-- HOW MANY ASK, ALL TOLD. -/
def cN (x : Nm) (l : List Nm) : Nat := (l.filter fun y => decide (y = x)).length
theorem cN_nil (x : Nm) : cN x [] = 0 := rfl
theorem cN_cons (x y : Nm) (l : List Nm) : cN x (y :: l) = cN x l + (if y = x then 1 else 0) := by
  unfold cN
  rw [List.filter_cons]
  by_cases e : y = x
  · rw [if_pos (by simp [e]), if_pos e]; rfl
  · rw [if_neg (by simp [e]), if_neg e]; rfl
theorem cN_one (y : Nm) : ∀ ss : List Nm, ss.Nodup → cN y ss ≤ 1 ∧ (y ∉ ss → cN y ss = 0)
  | [], _ => ⟨by rw [cN_nil]; omega, fun _ => rfl⟩
  | a :: ss, h => by
    obtain ⟨h1, h2⟩ := List.nodup_cons.1 h
    obtain ⟨i1, i2⟩ := cN_one y ss h2
    rw [cN_cons]
    by_cases e : a = y
    · subst e
      rw [i2 h1, if_pos rfl]
      exact ⟨by omega, fun hn => absurd List.mem_cons_self hn⟩
    · rw [if_neg e]
      exact ⟨by omega, fun hn => i2 fun hm => hn (List.mem_cons_of_mem _ hm)⟩
theorem count_sum (l : List Nm) : ∀ ss : List Nm, ss.Nodup → (ss.map fun x => cN x l).sum ≤ l.length := by
  induction l with
  | nil =>
    intro ss _
    have : (ss.map fun x => cN x []).sum = 0 := by
      induction ss with
      | nil => rfl
      | cons a ss ih => rw [List.map_cons, List.sum_cons, cN_nil, ih (List.nodup_cons.1 (by assumption)).2]
    rw [this]
    exact Nat.zero_le _
  | cons y l ih =>
    intro ss hs
    have h1 := ih ss hs
    have h2 : (ss.map fun x => cN x (y :: l)).sum = (ss.map fun x => cN x l).sum + cN y ss := by
      clear hs h1
      induction ss with
      | nil => rfl
      | cons a ss ih2 =>
        rw [List.map_cons, List.sum_cons, List.map_cons, List.sum_cons, ih2, cN_cons, cN_cons]
        by_cases e : a = y
        · subst e; rw [if_pos rfl]; omega
        · rw [if_neg (fun h => e h.symm), if_neg e]; omega
    have h3 := (cN_one y ss hs).1
    rw [h2, List.length_cons]
    omega
theorem fo_count (F : Nm → List Nat) (i : Nat) (l : List Nm) (x : Nm) : (fo F i l x).length = (F x).length + cN x l := by
  induction l generalizing F with
  | nil => rfl
  | cons y l ih =>
    show (fo (upF F y (F y ++ [i])) i l x).length = _
    rw [ih, cN_cons]
    by_cases e : x = y
    · subst e; rw [upF_same, if_pos rfl, List.length_append, List.length_singleton]; omega
    · rw [upF_other _ _ e, if_neg (fun h => e h.symm)]; omega
theorem ak_sum (ps : List Pk) (ss : List Nm) (hs : ss.Nodup) : ∀ n, (ss.map fun x => (akP ps n x).length).sum ≤ akK ps n
  | 0 => by
    have : (ss.map fun x => (akP ps 0 x).length).sum = 0 := by
      clear hs
      induction ss with
      | nil => rfl
      | cons a ss ih => rw [List.map_cons, List.sum_cons, ih]; rfl
    omega
  | n + 1 => by
    have ih := ak_sum ps ss hs n
    cases e : ps[n]? with
    | none =>
      have e2 : akP ps (n + 1) = akP ps n := by rw [akP, e]
      have e3 : akK ps (n + 1) = akK ps n := by
        unfold akK
        rw [List.take_add_one, e]
        simp
      rw [e2, e3]
      exact ih
    | some q =>
      have e2 : akP ps (n + 1) = fo (akP ps n) n (akN q) := by rw [akP, e]
      rw [e2, akK_succ e]
      have h3 : (ss.map fun x => (fo (akP ps n) n (akN q) x).length).sum = (ss.map fun x => (akP ps n x).length).sum + (ss.map fun x => cN x (akN q)).sum := by
        clear hs ih
        induction ss with
        | nil => rfl
        | cons a ss ih2 => rw [List.map_cons, List.sum_cons, ih2, List.map_cons, List.sum_cons, List.map_cons, List.sum_cons, fo_count]; omega
      have h4 := count_sum (akN q) ss hs
      omega
/-- THE NAMES THAT HAVE COME. -/
structure Vi (D : DataW Value) (l : List Nm) (left : Lit → Bool) (ss : List (List UInt8)) : Prop where
  nd : ss.Nodup
  gone : ∀ s ∈ ss, left (.string s) = false
  of : ∀ s ∈ ss, (⟨s.toArray⟩ : Nm) ∈ l
  all : ∀ s, Maps.has D (.string s) = true → left (.string s) = false → s ∈ ss
theorem Vi.start (D : DataW Value) (l : List Nm) : Vi D l (Maps.has D) [] := ⟨List.nodup_nil, fun s h => (by cases h), fun s h => (by cases h), fun s h1 h2 => by rw [h1] at h2; cases h2⟩
theorem Vi.step {D : DataW Value} {l : List Nm} {left : Lit → Bool} {ss : List (List UInt8)} (h : Vi D l left ss) {x : List UInt8} (hl : left (.string x) = true) (hx : (⟨x.toArray⟩ : Nm) ∈ l) : Vi D l (fun z => left z && !z.sameKey (.string x)) (ss ++ [x]) := by
  have hnew : x ∉ ss := fun hm => by have := h.gone x hm; rw [hl] at this; cases this
  refine ⟨List.nodup_append.2 ⟨h.nd, by simp, fun a ha b hb => by simp at hb; subst hb; exact fun e => hnew (e ▸ ha)⟩, fun s hs => ?_, fun s hs => ?_, fun s h1 h2 => ?_⟩
  · rcases List.mem_append.1 hs with hs | hs
    · rw [h.gone s hs]; rfl
    · rw [List.mem_singleton] at hs; subst hs; simp [Lit.sameKey]
  · rcases List.mem_append.1 hs with hs | hs
    · exact h.of s hs
    · rw [List.mem_singleton] at hs; subst hs; exact hx
  · by_cases e : s = x
    · subst e; simp
    · refine List.mem_append.2 (.inl (h.all s h1 ?_))
      simpa [Lit.sameKey, e] using h2
theorem Vi.mem {D : DataW Value} {l : List Nm} {left : Lit → Bool} {ss : List (List UInt8)} (h : Vi D l left ss) (r : RepV D (hsN l)) (hz : ∀ x ∈ l, x.size ≤ maxLen) (he : ∀ k, left k = false) (x : Nm) : x ∈ ss.map (fun s => (⟨s.toArray⟩ : Nm)) ↔ x ∈ l := by
  constructor
  · intro hx
    obtain ⟨s, hs, rfl⟩ := List.mem_map.1 hx
    exact h.of s hs
  · intro hx
    refine List.mem_map.2 ⟨x.data.toList, h.all _ ?_ (he _), by simp⟩
    have := r.has x (hz x hx)
    unfold kl at this
    rw [this, hsN_in hx]
    rfl
theorem Vi.nd2 {D : DataW Value} {l : List Nm} {left : Lit → Bool} {ss : List (List UInt8)} (h : Vi D l left ss) : (ss.map (fun s => (⟨s.toArray⟩ : Nm))).Nodup := by
  refine List.Pairwise.map _ (fun a b hab e => hab ?_) h.nd
  injection e with e
  simpa using congrArg Array.toList e
/-- THOSE WHO ASK FOR SOME NAMES. -/
def asL (F : Nm → List Nat) (ss : List (List UInt8)) : List Nat := (ss.map fun s => F ⟨s.toArray⟩).flatten
theorem asL_snoc (F : Nm → List Nat) (ss : List (List UInt8)) (x : List UInt8) : asL F (ss ++ [x]) = asL F ss ++ F ⟨x.toArray⟩ := by
  unfold asL
  rw [List.map_append, List.flatten_append]
  simp
theorem asL_len (F : Nm → List Nat) (ss : List (List UInt8)) : (asL F ss).length = ((ss.map (fun s => (⟨s.toArray⟩ : Nm))).map fun x => (F x).length).sum := by
  unfold asL
  rw [List.length_flatten, List.map_map, List.map_map]
  rfl
theorem asL_mem (F : Nm → List Nat) (ss : List (List UInt8)) (p : Nat) : p ∈ asL F ss ↔ ∃ x ∈ ss.map (fun s => (⟨s.toArray⟩ : Nm)), p ∈ F x := by
  unfold asL
  rw [List.mem_flatten]
  constructor
  · rintro ⟨l, hl, hp⟩
    obtain ⟨s, hs, rfl⟩ := List.mem_map.1 hl
    exact ⟨_, List.mem_map.2 ⟨s, hs, rfl⟩, hp⟩
  · rintro ⟨x, hx, hp⟩
    obtain ⟨s, hs, rfl⟩ := List.mem_map.1 hx
    exact ⟨_, List.mem_map.2 ⟨s, hs, rfl⟩, hp⟩
/-- A ROW SORTED IN ITS PLACE. -/
theorem sort_row {w w2 : World} {r : Value} {L : List Nat} (hL : L.length ≤ 2097152) (hrow : w2.ownsRow w.heap.size 3 1 r L.length (ints L)) (hb : RowKit.Below w.heap.size w w2) :
    Calls Tryz.prog 29 #[r] w2 fun e w' => e = .returned (.tuple #[]) ∧ RowKit.Below w.heap.size w w' ∧ So w w' r L := by
  rcases hrow.2 with ⟨rfl, h0⟩ | ⟨g, cap, cur, rfl, hbase, hbl, h1, h2, h3, h4⟩
  · refine (sort_nil w2).mono ?_
    rintro e w3 ⟨rfl, rfl⟩
    exact ⟨rfl, hb, .inl ⟨rfl, List.length_eq_zero_iff.1 h0⟩⟩
  · rw [Nat.mul_one, ints_zs, ← zsI_len L] at h4
    have hH : Holds (Value.int .i64) w2 g 0 (zsI L).toArray := holds_of_blockI hbl h4
    have hgl := blk_lt hbl
    have hc := Any.slices_Sort_int Tryz.lays189 g 0 cap (zsI L) w2 hH hgl (by rw [zsI_len]; omega)
    rw [zsI_len] at hc
    have hc : Calls Tryz.prog 29 #[.slice (some ⟨g, 0, none⟩) L.length cap] w2 _ := hc
    refine hc.mono ?_
    rintro e w3 ⟨rfl, nn, os, rfl⟩
    have hgr := grownBy_sortedI (w := w2) (g := g) (n := nn) (os := os) ((zsI L).mergeSort fun x y => decide (x ≤ y)).toArray
    refine ⟨rfl, hb.grown hgr hb.size (fun j hj => by cases hj; exact hbase), .inr ⟨g, cap, rfl, h1, hbase, Nat.lt_of_lt_of_le hgl hgr.size, ?_⟩⟩
    have hown := ownsRow_sortedI (os := os) (n := nn) (ss := zsI L) (ts := (zsI L).mergeSort fun x y => decide (x ≤ y)) (by simp) hbase hbl (by rw [zsI_len]; exact h1) h2 h3
    rcases hown.2 with ⟨q, _⟩ | ⟨g2, cap2, cur2, q, _, q3, _, _, _, q4⟩
    · cases q
    · cases q
      rw [Nat.mul_one, show (zsI L).length = ((zsI L).mergeSort fun x y => decide (x ≤ y)).length by simp] at q4
      exact holds_of_blockI q3 q4
end Go.Proofs.YtjnbnndocinicaaGreatDoor
namespace Go.Proofs.YtjnbnndocinicaaGreatDoor
open Go.RowKit Go.Maps Go.Sort

set_option maxRecDepth 100000 in
set_option maxHeartbeats 8000000 in
/-- WHO LEANS ON WHAT FELL: PLACES, EACH ONCE, RISING. -/
theorem leaning_any {w : World} {v r : Value} {ps : List Pk} {base ba ka lo : Nat} {HA : Nm → Option Hd} {L : List Nat} (b1 b2 : Nat) (sm : SmP ps) (pk : Pkl w v ps) (ma : Mi w base (.map (some ba)) HA (akP ps ps.length) ka) (ht : akK ps ps.length ≤ 1048576) (hr : Pl lo w r L) (hlen : L.length ≤ 1048576) (hL : ∀ p ∈ L, p < ps.length) :
    Calls Tryz.prog 17 #[.agg #[v, .map (some b1), .map (some b2)], .map (some ba), r] w fun e w' => ∃ u D, e = .returned u ∧ Pl w.heap.size w' u D ∧ D.Pairwise (· < ·) ∧ (∀ p, p ∈ D ↔ Ln ps L p) ∧ RowKit.Below w.heap.size w w' := by
  obtain ⟨i0, hi, hz0, hz1, hz2⟩ := info_parts2 infoI8
  obtain ⟨va, vc, rfl⟩ : ∃ a c, v = .slice a ps.length c := let ⟨a, c, e, _⟩ := pk; ⟨a, c, e⟩
  obtain ⟨ra, rk, rfl, hpl⟩ := hr
  have HR := hide hpl
  have HPK := hide pk
  have HSM := hide sm
  have HL := hide hL
  have HMA := hide ma
  have HAK := hide (fun (ss : List Nm) (hs : ss.Nodup) => Nat.le_trans (ak_sum ps ss hs ps.length) ht)
  have HLT := hide (show ∀ (x : Nm) (p : Nat), p ∈ akP ps ps.length x → p < ps.length from fun x p hp => ((akP_mem ps x p ps.length).1 hp).1)
  have HLN := hide (show ∀ p, Ln ps L p ↔ ∃ x ∈ nmL ps L, p ∈ akP ps ps.length x from fun p => by
    unfold Ln
    constructor
    · rintro ⟨f, hf, q, hq, x, hx, hp⟩
      have e : pAt ps f = q := by have := pAt_at (hL f hf); rw [hq] at this; exact (Option.some.inj this).symm
      exact ⟨x, (nmL_mem ps L x).2 ⟨f, hf, by rw [e]; exact hx⟩, hp⟩
    · rintro ⟨x, hx, hp⟩
      obtain ⟨f, hf, hx⟩ := (nmL_mem ps L x).1 hx
      exact ⟨f, hf, _, pAt_at (hL f hf), x, hx, hp⟩)
  have HST := hide (nl_start w #[.slice va ps.length vc, .map (some b1), .map (some b2)])
  obtain ⟨N, hN⟩ : ∃ N, N = L.length := ⟨_, rfl⟩
  have HN := hide hN
  rw [← hN] at hlen ⊢
  clear hpl pk sm hL ma ht hN
  generalize akP ps ps.length = F at *
  have hmm := @run_makeMap Tryz.prog
  go_enter Tryz.func17, Tryz.ntmps17
  go_wp2_with fail
  clear hmm
  go_loopg [9, 11, 17] N (fun gq _ _ iv wr => ∃ j : Nat, iv = .int .i64 j ∧ j ≤ N ∧ N - j ≤ gq ∧ Hid (Nl w wr #[.slice va ps.length vc, .map (some b1), .map (some b2)] (nmL ps (L.take j)) ∧ (nmL ps (L.take j)).length ≤ j * 1048577))
  case atStart => exact ⟨0, by go_num, by omega, by omega, hide ⟨unhide HST, by simp [nmL]⟩⟩
  case round =>
    clear HST
    obtain ⟨j, rfl, hj, hgj, HB⟩ := hrel
    by_cases hlt : j < N
    · have hjn : (j : Int) < (N : Int) := by omega
      have hjl : j < L.length := by have := unhide HN; omega
      have hp := unhide HL L[j] (List.getElem_mem hjl)
      have hpn : (L[j] : Int) < (ps.length : Int) := by omega
      obtain ⟨vb, vo, vc2, cs, dd, rr, cc, pv, ff, e, hvb, hrg, hpc, hll⟩ := (unhide HPK).at2 (pAt_at hp)
      injection e with e1 _ e3
      subst e1 e3
      obtain ⟨g, rfl, _, hgl, g0⟩ := unhide HR j L[j] (List.getElem?_eq_getElem hjl)
      have hsz := (unhide HSM).z _ (List.mem_of_getElem? (pAt_at hp))
      have hpvl : (pAt ps L[j]).pv.length ≤ 1048576 := Nat.le_trans (le_sum (fun p : Pk => p.pv.length) (List.mem_of_getElem? (pAt_at hp))) (unhide HSM).t
      have HTK := hide (nmL_snoc ps L j hjl)
      obtain ⟨hnl, hnb⟩ := unhide HB
      obtain ⟨W2, hup, hn2⟩ := hnl.put (x := (pAt ps L[j]).nm) (Nat.lt_of_le_of_lt hnb (by unfold maxLen; omega)) hsz.1
      have r0 := (hnl.bw.cell (p := ⟨g, j, none⟩) hgl).trans g0
      have s0 := (cell_blk hnl.s 0).1.trans (show #[Value.slice (some ⟨vb, vo, none⟩) ps.length vc, .map (some b1), .map (some b2)][0]? = some (.slice (some ⟨vb, vo, none⟩) ps.length vc) from rfl)
      have t0 := (cell_blk hn2.s 0).1.trans (show #[Value.slice (some ⟨vb, vo, none⟩) ps.length vc, .map (some b1), .map (some b2)][0]? = some (.slice (some ⟨vb, vo, none⟩) ps.length vc) from rfl)
      have c0 := (hnl.bw.cell (p := ⟨vb, vo + L[j] * 43, none⟩) hvb).trans (hrg 0 _ hpc.c0)
      have c6 := (hn2.bw.cell (p := ⟨vb, vo + L[j] * 43 + 6, none⟩) hvb).trans (hrg 6 _ hpc.c6)
      obtain ⟨pa, pc, e6⟩ : ∃ a c, pv = .slice a (pAt ps L[j]).pv.length c := let ⟨a, c, e, _⟩ := hll.vl; ⟨a, c, e⟩
      subst e6
      have HPV := hide (And.intro hll.vl hsz.2.2)
      have HN0 := hide (show Nl w W2 #[.slice (some ⟨vb, vo, none⟩) ps.length vc, .map (some b1), .map (some b2)] (nmL ps (L.take j) ++ [(pAt ps L[j]).nm] ++ (pAt ps L[j]).pv.take 0) from by rw [List.take_zero, List.append_nil]; exact hn2)
      clear hrg hpc hll hgl g0 hsz hnl hn2 HB
      generalize L[j] = p at *
      generalize (pAt ps p).nm = nm at *
      generalize (pAt ps p).pv = pl at *
      generalize nmL ps (L.take j) = l0 at *
      obtain ⟨M, hM⟩ : ∃ M, M = pl.length := ⟨_, rfl⟩
      rw [← hM] at c6 hpvl
      have HM := hide hM
      clear hM
      go_wp2_with fail
      clear r0 s0 t0 c0 c6 hup
      go_loopg [11, 36] M (fun g2 _ vi wx => ∃ i : Nat, vi = .int .i64 i ∧ i ≤ M ∧ M - i ≤ g2 ∧ Hid (Nl w wx #[.slice (some ⟨vb, vo, none⟩) ps.length vc, .map (some b1), .map (some b2)] (l0 ++ [nm] ++ pl.take i)))
      case atStart => exact ⟨0, by go_num, by omega, by omega, HN0⟩
      case round =>
        clear HN0
        obtain ⟨i, rfl, hi2, hgi, HI⟩ := hrel
        by_cases hit : i < M
        · have hin : (i : Int) < (M : Int) := by omega
          have hil : i < pl.length := by have := unhide HM; omega
          obtain ⟨sb, so, rfl, hsb, sc⟩ : ∃ b o, pa = some ⟨b, o, none⟩ ∧ b < w.heap.size ∧ w.cell? ⟨b, o + i, none⟩ = some (.string pl[i]) := by
            have h := (unhide HPV).1
            exact h.at (List.getElem?_eq_getElem hil)
          have hx := (unhide HPV).2 pl[i] (List.getElem_mem hil)
          have HTI := hide (show l0 ++ [nm] ++ pl.take (i + 1) = l0 ++ [nm] ++ pl.take i ++ [pl[i]] from by rw [List.take_add_one, List.getElem?_eq_getElem hil, ← List.append_assoc]; rfl)
          have hni := unhide HI
          have hlb : (l0 ++ [nm] ++ pl.take i).length < maxLen := by
            rw [List.length_append, List.length_append, List.length_singleton, List.length_take]
            unfold maxLen
            omega
          obtain ⟨W3, hup, hn3⟩ := hni.put hlb hx
          have k0 := (hni.bw.cell (p := ⟨sb, so + i, none⟩) hsb).trans sc
          have HF := hide hn3
          clear hni hn3 sc hlb hx
          generalize pl[i] = x at *
          go_wp2_with fail
          go_roundg (M - (i + 1))
          case measure => omega
          case rel => exact ⟨i + 1, by go_num, by omega, by omega, by rw [unhide HTI]; exact HF⟩
        · obtain rfl : i = M := by omega
          have HF := hide (show Nl w wr #[.slice (some ⟨vb, vo, none⟩) ps.length vc, .map (some b1), .map (some b2)] (nmL ps (L.take (j + 1))) ∧ (nmL ps (L.take (j + 1))).length ≤ (j + 1) * 1048577 from by
            have h := unhide HI
            rw [unhide HM, List.take_length] at h
            rw [unhide HTK]
            refine ⟨h, ?_⟩
            rw [List.length_append, List.length_append, List.length_singleton, ← unhide HM]
            omega)
          go_wp2_with fail
          go_roundg (N - (j + 1))
          case measure => omega
          case rel => exact ⟨j + 1, by go_num, by omega, by omega, HF⟩
    · obtain rfl : j = N := by omega
      rename World => Wm
      have hnl := (unhide HB).1
      rw [unhide HN, List.take_length] at hnl
      obtain ⟨D, hown, hrep⟩ := hnl.d
      have hbl := hnl.d.lt
      have HREP := hide hrep
      have HZ := hide hnl.z
      have HBW := hide hnl.bw
      generalize (nmL ps L).length = K at *
      generalize nmL ps L = nl at *
      clear hnl hrep HB HPK HSM HL HR
      go_wp2_with (first
        | (at_range; refine wpList_range_own _ rfl _ 73 rfl 9 74 law9 Tryz.underlying73 _ (w.heap.size + 1) K _ rfl hown ?_; intro w0 hrg0 hg0 hs0)
        | go_in)
      go_frame
      go_loopw [12, 13] (fun v _ wx => ∃ (left : Lit → Bool) (cnt : Nat) (ss : List (List UInt8)), wx.ranges Tryz.prog 9 raw (w.heap.size + 1) Wm.heap.size K D left cnt ∧ wx.ownsRow Wm.heap.size 3 1 v (asL F ss).length (ints (asL F ss)) ∧ Vi D nl left ss ∧ RowKit.Below Wm.heap.size Wm wx)
        (fun _ _ wx => wx.rangeLeft (w.heap.size + 1) Wm.heap.size)
      case atStart =>
        exact ⟨_, _, [], hrg0, World.ownsRow_nil _ _ _ _, Vi.start D nl, (Below.refl _ _).grown hg0 (Nat.le_refl _) (fun j hj => by cases hj)⟩
      case round =>
        obtain ⟨left, cnt, ss, hrg, hrow, hV, hnx⟩ := hrel
        have hlas : (asL F ss).length ≤ 1048576 := by rw [asL_len]; exact unhide HAK _ hV.nd2
        go_wp2_with (first
          | (at_next; refine wpList_next_ranges _ rfl _ rfl 9 law9 raw encStr (fun c : Value => c) (fun key kl hk => by obtain ⟨x, hx, _⟩ := Maps.keyOf_str Tryz.underlying9 hk; exact ⟨x, hx⟩) (fun v y _ => ⟨v, rfl⟩) (w.heap.size + 1) Wm.heap.size K _ _ _ rfl hrg ?_ ?_)
          | go_in)
        · intro hc0 hl0
          have HEND := hide (fun x => hV.mem (unhide HREP) (unhide HZ) hl0 x)
          have bwx := bl_t (unhide HBW) hnx
          have CS := hide (sort_row (w := w) (Nat.le_trans hlas (by decide)) (row_lo2 hrow (unhide HBW).size) bwx)
          have HMM := hide (show ∀ p, p ∈ asL F ss ↔ p ∈ (List.range ps.length).filter fun p => decide (p ∈ asL F ss) from fun p => by
            rw [List.mem_filter, List.mem_range]
            refine ⟨fun h => ⟨?_, decide_eq_true h⟩, fun h => of_decide_eq_true h.2⟩
            obtain ⟨x, _, hx⟩ := (asL_mem F ss p).1 h
            exact unhide HLT x p hx)
          have HAL := hide hlas
          have HSM2 := hide (asL_mem F ss)
          clear hrow hV hnx hrg bwx hlas hown
          generalize asL F ss = AL at *
          go_wp2_with (first
            | (go_at_call 29; refine (unhide CS).mono ?_; rintro e w3 ⟨rfl, hb3, hso⟩; have C3 := hide (compact_any (w0 := w) (Nat.le_trans (unhide HAL) (by decide)) hso (List.Pairwise.filter (fun p => decide (p ∈ AL)) (List.pairwise_lt_range (n := ps.length))) (unhide HMM) hb3); clear hb3 hso CS)
            | (go_at_call 30; refine (unhide C3).mono ?_; rintro e w4 ⟨r4, rfl, hb4, hp4⟩; have H4 := hide (And.intro hb4 hp4); clear hb4 hp4 C3)
            | go_in)
          go_ret
          refine ⟨_, _, rfl, (unhide H4).2, List.Pairwise.filter _ List.pairwise_lt_range, fun p => ?_, (unhide H4).1⟩
          rw [← unhide HMM p, unhide HSM2 p, unhide HLN p]
          constructor
          · rintro ⟨x, hx, hp⟩; exact ⟨x, (unhide HEND x).1 hx, hp⟩
          · rintro ⟨x, hx, hp⟩; exact ⟨x, (unhide HEND x).2 hx, hp⟩
        · intro x c kl2 yd yp w2 cnt2 hkey hlk hv hat hrg2 hlt2 hg2 hs2 hen
          obtain ⟨x', ex, rfl, hxl⟩ := Maps.keyOf_str Tryz.underlying9 hkey
          obtain rfl : x = x' := encStr_inj ex
          have hrow2 := hrow.kept hg2 (Or.inr (row_ne_iter hrow hrg).symm)
          have hxz : (⟨x.toArray⟩ : Nm).size ≤ maxLen := by show x.toArray.size ≤ maxLen; simpa using hxl
          have hxin : (⟨x.toArray⟩ : Nm) ∈ nl := by
            have h1 := (unhide HREP).has ⟨x.toArray⟩ hxz
            have h2 : Maps.has D (.string x) = true := has_true_of_atKey hat
            rw [show kl ⟨x.toArray⟩ = .string x from rfl, h2] at h1
            exact hsN_some h1.symm
          have hV2 := hV.step hlk hxin
          have bX := hnx.grown hg2 hnx.size (fun j hj => by cases hj; exact Nat.le_refl _)
          have m2 := (unhide HMA).later (bl_t (unhide HBW) bX)
          have lk := look1 m2.dm hxz
          have hown2 := m2.own ⟨x.toArray⟩
          have hFl : (asL F ss).length + (F ⟨x.toArray⟩).length ≤ 1048576 := by
            have := unhide HAK _ hV2.nd2
            rw [← asL_len, asL_snoc, List.length_append] at this
            exact this
          have hmeas : w2.rangeLeft (w.heap.size + 1) Wm.heap.size < wr.rangeLeft (w.heap.size + 1) Wm.heap.size := by rw [hrg2.left_eq, hrg.left_eq]; exact hlt2
          have hzx := bX.size
          clear hs2 ex hkey hlk hv hat hxin m2
          rcases hown2.2 with ⟨q1, q2⟩ | ⟨g, cap, cur, q1, _⟩
          · rw [q1] at lk
            have HE := hide (show asL F (ss ++ [x]) = asL F ss from by rw [asL_snoc, List.length_eq_zero_iff.1 q2, List.append_nil])
            clear hown2 q1 q2
            go_wp2_with (first
              | (at_builtin; go_must (refine wpList_append_own_none rfl _ _ 24 rfl Wm.heap.size 3 i0 1 Tryz.underlying24 hi _ _ _ rfl hrow2 rfl ?_))
              | go_in)
            go_roundw
            case rel => exact ⟨_, cnt2, ss ++ [x], hrg2, by rw [unhide HE]; exact hrow2, hV2, bX⟩
            case measure => exact hmeas
          · rw [q1] at lk
            have hcells := hown2.cells (g := g) (by rw [q1]; rfl)
            clear hown2 q1
            go_wp2_with (first
              | (at_builtin; go_must (refine wpList_append_own_at _ rfl _ _ 24 rfl Wm.heap.size 3 i0 (.int .i64 0) 1 8 Tryz.underlying24 hi hz0 hz1 hz2 rfl (by decide) _ _ _ rfl hrow2 ⟨g, 0, none⟩ (F ⟨x.toArray⟩).length cap (ints (F ⟨x.toArray⟩)) rfl (by rw [ints_len, Nat.mul_one]) hcells (fun u hu => by unfold ints at hu; obtain ⟨_, _, rfl⟩ := List.mem_map.1 hu; rfl) (by unfold maxLen; omega) (by omega) hzx ?_); intro v' w3 hown' hg3 hnil3 hat3; go_frame)
              | go_in)
            have hrg3 := hrg2.kept hg3 (row_ne_low hrow2 hbl) (row_ne_iter hrow2 hrg2)
            go_roundw
            case rel => exact ⟨_, cnt2, ss ++ [x], hrg3, by rw [asL_snoc, List.length_append, show ints (asL F ss ++ F ⟨x.toArray⟩) = ints (asL F ss) ++ ints (F ⟨x.toArray⟩) from by simp [ints]]; exact hown', hV2, bX.grown hg3 hzx (fun j hj => (hrow2.lt j hj).1)⟩
            case measure => rw [hrg3.left_eq, hrg.left_eq]; exact hlt2
end Go.Proofs.YtjnbnndocinicaaGreatDoor
namespace Go.Proofs.YtjnbnndocinicaaGreatDoor
open Go.RowKit Go.Maps

set_option maxRecDepth 100000 in
set_option maxHeartbeats 4000000 in
theorem without_own {w : World} {v : Value} {ps : List Pk} (sm : SmP ps) (pk : Pkl w v ps) :
    Calls Tryz.prog 22 #[v, .slice none 0 0] w fun e w' => e = .returned (.slice (some ⟨w.heap.size + 1, 0, none⟩) ps.length ps.length) ∧ Bb w' (w.heap.size + 1) ps.length (fun i => decide (i < ps.length)) ∧ RowKit.Below w.heap.size w w' := by
  obtain ⟨va, vc, rfl⟩ : ∃ a c, v = .slice a ps.length c := let ⟨a, c, e, _⟩ := pk; ⟨a, c, e⟩
  have hl := sm.l
  have HPK := hide (show ∀ X, RowKit.Below w.heap.size w X → ∀ (p : Nat), p < ps.length → ∃ (vb vo : Nat) (cs : List Value) (n u : Nm), va = some ⟨vb, vo, none⟩ ∧ vb < X.heap.size ∧ X.rangeAt vb (vo + p * 43) cs ∧ (Tryz.prog.info? 38).map (·.size) = some cs.length ∧ ∀ Y, Calls Tryz.prog 24 #[.agg cs.toArray] Y fun e w' => e = .returned (.agg #[.string n, .string u]) ∧ Below Y.heap.size Y w' from fun X hX p hp => by
    obtain ⟨vb, vo, vc2, cs, d, r, c, pv, f, e, hvb, hr, hpc, _⟩ := (pk.later hX).at2 (List.getElem?_eq_getElem hp)
    injection e with e _ _
    exact ⟨vb, vo, cs, _, _, e, hvb, hr, by rw [hpc.len]; kernel_rfl, fun Y => keyOf_any cs _ _ Y hpc.c0 hpc.c1⟩)
  obtain ⟨N, hN⟩ : ∃ N, N = ps.length := ⟨_, rfl⟩
  rw [← hN] at hl HPK ⊢
  have hmk := makeBl N hl
  have hmm := makeMk
  have HW := hide (wo_new w N)
  clear pk sm hN
  go_enter Tryz.func22, Tryz.ntmps22
  go_wp2_with fail
  refine wp_loop_rounds 1 ?_
  rw [rounds_succ]
  go_wp2_with fail
  clear hmm hmk
  go_loopw [30] (fun iv wr => ∃ i : Nat, iv = .int .i64 i ∧ i ≤ N ∧ Hid (Wo w wr N i)) (fun iv _ => N - (intOf iv).toNat)
  case atStart => exact ⟨0, rfl, Nat.zero_le _, HW⟩
  case round =>
    clear HW
    obtain ⟨i, rfl, hile, HU⟩ := hrel
    have hu := unhide HU
    by_cases hlt : i < N
    · have hlt2 : (i : Int) < (N : Int) := by omega
      obtain ⟨vb, vo, cs, n, u, rfl, hvb, hr, hinf, hk⟩ := unhide HPK wr hu.bw i hlt
      have HR := hide hr
      have HI2 := hide hinf
      have HK := hide (hk wr)
      clear hr hinf hk
      go_wp2_with (first | ((with_reducible refine wpList_load_p (op := { dst := some 38, op := Op.load 38 (Operand.tmp 37), type := 38, pos := "part.go:24", after := #[{ on := 3, ground := Ground.data }], guard := none }) ?wxa 38 (.tmp 37) ?wxb vb (vo + i * 43) ?wxc cs _ (unhide HR) Tryz.underlying38 ?wxd (unhide HI2) ?wxe); (case wxa => rfl); (case wxb => rfl); (case wxc => rfl); (case wxd => rfl)) | (go_at_call 24; refine (unhide HK).mono ?_; rintro e w5 ⟨rfl, hb5⟩; have HU5 := hide (hu.later hb5); have lk := lookE (unhide HU5).m n u; obtain ⟨c0, f0⟩ := (unhide HU5).b.cell hlt; have hz5 := (unhide HU5).b.lt; clear hb5 HK))
      have HU6 := hide (((unhide HU5).set hlt).later ((Below.refl _ (w5.setCell ⟨w.heap.size + 1, i, none⟩ (.bool true))).alloc (Nat.le_refl _) (.cells #[] 74)))
      go_roundw
      case rel => exact ⟨i + 1, by go_num, by omega, HU6⟩
      case measure => simp [intOf]; omega
    · obtain rfl : i = N := by omega
      go_wp2_with fail
      go_ret
      exact ⟨rfl, hu.b, hu.bw⟩
theorem allOf_own {w : World} {v : Value} {ps : List Pk} (sm : SmP ps) (pk : Pkl w v ps) :
    Calls Tryz.prog 14 #[v] w fun e w' => e = .returned (.slice (some ⟨w.heap.size + 1, 0, none⟩) ps.length ps.length) ∧ Bb w' (w.heap.size + 1) ps.length (fun i => decide (i < ps.length)) ∧ RowKit.Below w.heap.size w w' := by
  have C := hide (without_own sm pk)
  clear sm pk
  go_enter Tryz.func14, Tryz.ntmps14
  go_wp2_with (go_at_call 22; refine (unhide C).mono ?_; rintro e w2 ⟨rfl, h1, h2⟩; have H := hide (And.intro h1 h2); clear h1 h2 C)
  go_ret
  exact ⟨rfl, unhide H⟩
/-- RISING PLACES BELOW A NUMBER ARE NO MORE THAN IT. -/
theorem rise_len : ∀ (l : List Nat) (k n : Nat), l.Pairwise (· < ·) → (∀ x ∈ l, k ≤ x ∧ x < n) → l.length ≤ n - k
  | [], _, _, _, _ => Nat.zero_le _
  | a :: l, k, n, h, hb => by
    obtain ⟨h1, h2⟩ := List.pairwise_cons.1 h
    have ha := hb a List.mem_cons_self
    have := rise_len l (a + 1) n h2 fun x hx => ⟨h1 x hx, (hb x (List.mem_cons_of_mem _ hx)).2⟩
    rw [List.length_cons]
    omega
end Go.Proofs.YtjnbnndocinicaaGreatDoor
namespace Go.Proofs.YtjnbnndocinicaaGreatDoor
open Go.RowKit Go.Maps

/-- BETWEEN THE ROUNDS, AS IT LIES. -/
structure Cw (X wr : World) (ps : List Pk) (gi : Nat) (u : Value) (inn : Nat → Bool) (D : List Nat) : Prop where
  b : Bb wr gi ps.length inn
  row : ∃ lo, gi < lo ∧ Pl lo wr u D
  len : D.length ≤ 1048576
  cr : Cr ps inn D
  bw : RowKit.Below X.heap.size X wr
set_option maxRecDepth 100000 in
set_option maxHeartbeats 4000000 in
/-- CLOSED: THE GREATEST PART THAT IS CLOSED. -/
theorem Closed_any {w : World} {v : Value} {ps : List Pk} (sm : SmP ps) (pk : Pkl w v ps) (ht : akK ps ps.length ≤ 1048576) :
    Calls Tryz.prog 5 #[v] w fun e w' => ∃ r inn, e = .returned r ∧ w'.ownsRow w.heap.size 3 1 r (plL inn ps.length).length (ints (plL inn ps.length)) ∧ (Clo ps inn ∧ (∀ G, Clo ps G → ∀ p, p < ps.length → G p = true → inn p = true) ∧ ∀ p, inn p = true → p < ps.length) ∧ RowKit.Below w.heap.size w w' := by
  obtain ⟨xs, hxs, hsim⟩ := sim_of pk (fun p hp => (sm.z p hp).2.1)
  obtain ⟨va, vc, rfl⟩ : ∃ a c, v = .slice a ps.length c := let ⟨a, c, e, _⟩ := pk; ⟨a, c, e⟩
  have hl := sm.l
  have htt := sm.tot hsim
  have C1 := hide (show ∀ X, RowKit.Below w.heap.size w X → Calls Tryz.prog 12 #[.slice va ps.length vc] X fun e w' => ∃ b1 b2, e = .returned (.agg #[.slice va ps.length vc, .map (some b1), .map (some b2)]) ∧ M2 (nmP xs xs.length) (pvP xs xs.length) w' b1 b2 ∧ RowKit.Below X.heap.size X w' from fun X hX => (setOf_any xs (.slice va ps.length vc) X (by rw [hsim.1]; omega) (by omega) (sm.sz hsim) (hxs.later hX)).mono fun e w' ⟨H1, k1, H2, k2, he, m1, m2, hb⟩ => ⟨_, _, he, ⟨_, H1, k1, H2, k2, m1, m2⟩, hb⟩)
  have HAS := hide (show ∀ X, RowKit.Below w.heap.size w X → Calls Tryz.prog 13 #[.slice va ps.length vc] X fun e w' => ∃ ba H k, e = .returned (.map (some ba)) ∧ Mi w' (X.heap.size + 1) (.map (some ba)) H (akP ps ps.length) k ∧ RowKit.Below X.heap.size X w' from fun X hX => (askingOf_any sm (pk.later hX) ht).mono fun e w' ⟨H, k, he, hm, hb⟩ => ⟨_, H, k, he, hm, hb⟩)
  have HALL := hide (show ∀ X, RowKit.Below w.heap.size w X → Calls Tryz.prog 14 #[.slice va ps.length vc] X fun e w' => e = .returned (.slice (some ⟨X.heap.size + 1, 0, none⟩) ps.length ps.length) ∧ Bb w' (X.heap.size + 1) ps.length (fun i => decide (i < ps.length)) ∧ RowKit.Below X.heap.size X w' from fun X hX => allOf_own sm (pk.later hX))
  have HPL := hide (show ∀ X gi inn, Bb X gi ps.length inn → Calls Tryz.prog 15 #[.slice (some ⟨gi, 0, none⟩) ps.length ps.length] X fun e w' => ∃ u, e = .returned u ∧ w'.ownsRow X.heap.size 3 1 u (plL inn ps.length).length (ints (plL inn ps.length)) ∧ RowKit.Below X.heap.size X w' from fun X gi inn hb => places_any (by omega) hb.bls)
  have HDR := hide (show ∀ (Z Y : World) (b1 b2 gi : Nat) (u : Value) (inn : Nat → Bool) (D : List Nat), RowKit.Below w.heap.size w Z → M2 (nmP xs xs.length) (pvP xs xs.length) Z b1 b2 → Z.heap.size ≤ gi → Cw Z Y ps gi u inn D → Calls Tryz.prog 16 #[.agg #[.slice va ps.length vc, .map (some b1), .map (some b2)], .slice (some ⟨gi, 0, none⟩) ps.length ps.length, u] Y fun e w' => ∃ u inn' L, e = .returned u ∧ w'.ownsRow Y.heap.size 3 1 u L.length (ints L) ∧ Bb w' gi ps.length inn' ∧ Dp ps inn D inn' L ∧ Fx (fun c => c = gi) Y w' from fun Z Y b1 b2 gi u inn D hZ hM hg hc => by
    obtain ⟨base, H1, k1, H2, k2, m1, m2⟩ := hM
    obtain ⟨lo, hlo, hpl⟩ := hc.row
    exact drop_any inn m1 m2 (hxs.later hZ) hsim sm (pk.later hZ) hc.bw hg hc.b hpl hlo hc.len hc.cr.lt)
  have HLE := hide (show ∀ (Y : World) (b1 b2 ba base ka lo : Nat) (HA : Nm → Option Hd) (u : Value) (L : List Nat), RowKit.Below w.heap.size w Y → Mi Y base (.map (some ba)) HA (akP ps ps.length) ka → Pl lo Y u L → L.length ≤ 1048576 → (∀ p ∈ L, p < ps.length) → Calls Tryz.prog 17 #[.agg #[.slice va ps.length vc, .map (some b1), .map (some b2)], .map (some ba), u] Y fun e w' => ∃ u D, e = .returned u ∧ Pl Y.heap.size w' u D ∧ D.Pairwise (· < ·) ∧ (∀ p, p ∈ D ↔ Ln ps L p) ∧ RowKit.Below Y.heap.size Y w' from fun Y b1 b2 ba base ka lo HA u L hY hm hp hl2 hlt => leaning_any b1 b2 sm (pk.later hY) hm ht hp hl2 hlt)
  have HCR := hide (Cr.start ps)
  clear sm pk ht hxs hsim htt
  generalize nmP xs xs.length = F1 at *
  generalize pvP xs xs.length = F2 at *
  generalize akP ps ps.length = FA at *
  go_enter Tryz.func5, Tryz.ntmps5
  go_wp2_with fail
  go_step3
  go_wp2_with (first
    | (go_at_call 12; refine (unhide C1 _ (Below.refl _ _)).mono ?_; rintro e w1 ⟨b1, b2, rfl, hM, hb1⟩; have HM := hide (And.intro hM hb1); clear hM hb1 C1)
    | (go_at_call 13; refine (unhide HAS _ (unhide HM).2).mono ?_; rintro e w2 ⟨ba, HA, ka, rfl, hma, hb2⟩; obtain ⟨X, hX⟩ : ∃ W, W = w2.alloc (.cells #[.slice va ps.length vc, .map (some b1), .map (some b2)] 44) := ⟨_, rfl⟩; have HX := hide (show M2 F1 F2 X b1 b2 ∧ X.heap[w2.heap.size]? = some (.cells #[.slice va ps.length vc, .map (some b1), .map (some b2)] 44 (0, 0)) ∧ RowKit.Below w.heap.size w X ∧ Mi X (w1.heap.size + 1) (.map (some ba)) HA FA ka from (by have h2 : RowKit.Below w2.heap.size w2 X := (by rw [hX]; exact (Below.refl _ w2).alloc (Nat.le_refl _) _); have h3 := bl_t hb2 h2; exact ⟨(unhide HM).1.mono fun j hj => h3.block j hj, by rw [hX]; exact World.alloc_heap_new w2 _, bl_t (unhide HM).2 h3, hma.later h2⟩)); clear hb2 hma HAS)
    | (go_at_call 14; rw [← hX]; clear hX; refine (unhide HALL _ (unhide HX).2.2.1).mono ?_; rintro e w4 ⟨rfl, hbl, hb4⟩; have H4 := hide (And.intro hbl hb4); clear hbl hb4)
    | (go_at_call 15; refine (unhide HPL _ _ _ (unhide H4).1).mono ?_; rintro e w5 ⟨u5, rfl, hu5, hb5⟩; have H5 := hide (And.intro hu5 hb5); clear hu5 hb5))
  have HC0 := hide (show Cw X w5 ps (X.heap.size + 1) u5 (fun i => decide (i < ps.length)) (List.range ps.length) from by
    have e : plL (fun i => decide (i < ps.length)) ps.length = List.range ps.length := by
      unfold plL
      exact List.filter_eq_self.2 fun x hx => decide_eq_true (List.mem_range.1 hx)
    have h5 := (unhide H5).1
    rw [e] at h5
    exact ⟨(unhide H4).1.later (unhide H5).2, ⟨_, (unhide H4).1.lt, own_pl h5⟩, by rw [List.length_range]; omega, unhide HCR, bl_t (unhide H4).2 (unhide H5).2⟩)
  have HW5 := hide (bl_t (unhide HX).2.2.1 (bl_t (unhide H4).2 (unhide H5).2))
  clear H4 H5 HM HALL HCR
  go_step3
  go_wp2_with fail
  go_loopg [6, 7] (ps.length + 1) (fun gq uv _ wr => ∃ (inn : Nat → Bool) (D : List Nat), (plL inn ps.length).length + 1 ≤ gq ∧ Hid (Cw X wr ps (X.heap.size + 1) uv inn D))
  case atStart => exact ⟨_, _, Nat.add_le_add_right (plL_len _ _) 1, HC0⟩
  case round =>
    clear HC0
    obtain ⟨inn, D, hgq, HC⟩ := hrel
    have hc := unhide HC
    have bwX := hc.bw
    have hblk := (bwX.block _ (blk_lt (unhide HX).2.1)).trans (unhide HX).2.1
    obtain ⟨s0, s1, s2, _, _, _⟩ := three hblk
    have CD := hide (unhide HDR X wr b1 b2 (X.heap.size + 1) _ inn D (unhide HX).2.2.1 (unhide HX).1 (by omega) hc)
    clear hc bwX hblk
    go_upto_region 5 with (go_at_call 16; refine (unhide CD).mono ?_; rintro e w6 ⟨u6, inn', L, rfl, hu6, hb6, hd6, hf6⟩; obtain ⟨⟨la, ln, lk⟩, rfl, hln⟩ := slice_hd hu6; simp only at hln; subst hln; unfold hv; have H6 := hide (And.intro hu6 (And.intro hb6 (And.intro hd6 hf6))); clear hu6 hb6 hd6 hf6 CD s0 s1 s2)
    have hbX6 := fx_below (unhide HC).bw (unhide H6).2.2.2 (Nat.le_succ _)
    by_cases h0 : L.length = 0
    · have hL0 : L = [] := List.length_eq_zero_iff.1 h0
      have hz : ((L.length : Int) == 0) = true := by rw [h0]; rfl
      have HEND := hide (show Clo ps inn' ∧ (∀ G, Clo ps G → ∀ p, p < ps.length → G p = true → inn' p = true) ∧ ∀ p, inn' p = true → p < ps.length from by
        have hd := (unhide H6).2.2.1
        rw [hL0] at hd
        exact (unhide HC).cr.stop hd)
      clear h0 hL0
      go_wp2_with (go_at_call 15; refine (unhide HPL _ _ _ (unhide H6).2.1).mono ?_; rintro e w7 ⟨u7, rfl, hu7, hb7⟩; have H7 := hide (And.intro hu7 hb7); clear hu7 hb7)
      rw [Exit.noGoto_ret]
      go_ret
      have hbw6 := bl_t (unhide HX).2.2.1 hbX6
      exact ⟨_, inn', rfl, row_lo2 (unhide H7).1 hbw6.size, unhide HEND, bl_t hbw6 (unhide H7).2⟩
    · have hz : ((L.length : Int) == 0) = false := by simpa using h0
      have hblk := (hbX6.block _ (blk_lt (unhide HX).2.1)).trans (unhide HX).2.1
      obtain ⟨s0, s1, s2, _, _, _⟩ := three hblk
      have hbw6 := bl_t (unhide HX).2.2.1 hbX6
      have hd6 := (unhide H6).2.2.1
      have CL := hide (unhide HLE w6 b1 b2 ba _ ka _ HA _ L hbw6 ((unhide HX).2.2.2.later hbX6) (own_pl (unhide H6).1) (Nat.le_trans hd6.len (unhide HC).len) (fun p hp => (unhide HC).cr.lt p (hd6.fal p hp).1))
      obtain ⟨f, hf⟩ : ∃ f, f ∈ L := by
        cases L with
        | nil => exact absurd rfl h0
        | cons f L => exact ⟨f, List.mem_cons_self⟩
      have hless := plL_less hd6.sub ((unhide HC).cr.lt f (hd6.fal f hf).1) (hd6.fal f hf).2.1 (hd6.fal f hf).2.2
      have HB6 := hide hbX6
      clear hblk hbw6 hd6 hf h0 hbX6
      go_wp2_with (go_at_call 17; refine (unhide CL).mono ?_; rintro e w7 ⟨u7, D7, rfl, hp7, hs7, hm7, hb7⟩; have H7 := hide (And.intro hp7 (And.intro hs7 (And.intro hm7 hb7))); clear hp7 hs7 hm7 hb7 CL s0 s1 s2)
      go_roundg ((plL inn' ps.length).length + 1)
      case measure => omega
      case rel =>
        refine ⟨inn', D7, Nat.le_refl _, hide ?_⟩
        have hcr := (unhide HC).cr.next (unhide H6).2.2.1 (unhide H7).2.2.1
        refine ⟨(unhide H6).2.1.later (unhide H7).2.2.2, ⟨_, (unhide H6).2.1.lt, (unhide H7).1⟩, ?_, hcr, bl_t (unhide HB6) (unhide H7).2.2.2⟩
        have := rise_len D7 0 ps.length (unhide H7).2.1 fun x hx => ⟨Nat.zero_le _, hcr.lt x hx⟩
        omega
end Go.Proofs.YtjnbnndocinicaaGreatDoor
namespace Go.Proofs.YtjnbnndocinicaaGreatDoor
open Go.RowKit Go.Maps

theorem Bfl.lat {w w2 : World} {v : Value} {fl : List Bool} (h : Bfl w v fl) (hb : RowKit.Below w.heap.size w w2) : Bfl w2 v fl := by
  obtain ⟨a, c, h1, h2⟩ := h
  refine ⟨a, c, h1, fun h0 => ?_⟩
  obtain ⟨b, o, h3, h4, h5⟩ := h2 h0
  exact ⟨b, o, h3, Nat.lt_of_lt_of_le h4 hb.size, fun i x hx => (hb.cell (p := ⟨b, o + i, none⟩) h4).trans (h5 i x hx)⟩
theorem Pl.at {lo : Nat} {w X : World} {a : Option Addr} {n c : Nat} {l : List Nat} (h : Pl lo w (.slice a n c) l) (hb : RowKit.Below w.heap.size w X) {i p : Nat} (hp : l[i]? = some p) : ∃ g, a = some ⟨g, 0, none⟩ ∧ X.cell? ⟨g, i, none⟩ = some (.int .i64 (p : Int)) := by
  obtain ⟨a2, c2, e, h2⟩ := h
  injection e with e
  obtain ⟨g, q1, _, q3, q4⟩ := h2 i p hp
  exact ⟨g, e.trans q1, (hb.cell (p := ⟨g, i, none⟩) q3).trans q4⟩
set_option maxRecDepth 100000 in
theorem has_any {lo : Nat} {w : World} {u : Value} {l : List Nat} (x : Nat) (hl : l.length ≤ 1048576) (h : Pl lo w u l) :
    Calls Tryz.prog 8 #[u, .int .i64 (x : Int)] w fun e w' => e = .returned (.bool (decide (x ∈ l))) ∧ RowKit.Below w.heap.size w w' := by
  obtain ⟨a, c, rfl⟩ : ∃ a c, u = .slice a l.length c := let ⟨a, c, e, _⟩ := h; ⟨a, c, e⟩
  have HP := hide (show ∀ i (hi : i < l.length), ∃ g, a = some ⟨g, 0, none⟩ ∧ w.cell? ⟨g, i, none⟩ = some (.int .i64 (l[i] : Int)) from fun i hi => h.at (Below.refl _ _) (List.getElem?_eq_getElem hi))
  obtain ⟨N, hN⟩ : ∃ N, N = l.length := ⟨_, rfl⟩
  have HN := hide hN
  rw [← hN] at hl ⊢
  clear h hN
  go_enter Tryz.func8, Tryz.ntmps8
  go_wp2_with fail
  go_loopg [5] N (fun gq iv wr => ∃ i : Nat, iv = .int .i64 i ∧ i ≤ N ∧ N - i ≤ gq ∧ wr = w ∧ Hid (x ∉ l.take i))
  case atStart => exact ⟨0, by go_num, by omega, by omega, rfl, hide (by simp)⟩
  case round =>
    obtain ⟨i, rfl, hi, hg, rfl, HX⟩ := hrel
    by_cases hlt : i < N
    · have hin : (i : Int) < (N : Int) := by omega
      have hil : i < l.length := by have := unhide HN; omega
      obtain ⟨g, rfl, c0⟩ := unhide HP i hil
      have HT := hide (show l.take (i + 1) = l.take i ++ [l[i]] from by rw [List.take_add_one, List.getElem?_eq_getElem hil]; rfl)
      by_cases e : l[i] = x
      · have HD := hide (show decide (x ∈ l) = true from decide_eq_true (by rw [← e]; exact List.getElem_mem hil))
        have h0 : ((l[i] : Int) == (x : Int)) = true := by rw [e]; exact beq_self_eq_true _
        generalize l[i] = y at *
        clear e
        go_wp2_with fail
        go_ret
        exact ⟨by rw [unhide HD]; rfl, Below.refl _ _⟩
      · have h0 : ((l[i] : Int) == (x : Int)) = false := beq_eq_false_iff_ne.2 (by omega)
        have HF := hide (show x ∉ l.take (i + 1) from by rw [unhide HT]; intro h; rcases List.mem_append.1 h with h | h; exact unhide HX h; rw [List.mem_singleton] at h; exact e h.symm)
        generalize l[i] = y at *
        clear e HT
        go_wp2_with fail
        go_roundg (N - (i + 1))
        case measure => omega
        case rel => exact ⟨i + 1, by go_num, by omega, by omega, rfl, HF⟩
    · obtain rfl : i = N := by omega
      have HD := hide (show decide (x ∈ l) = false from decide_eq_false (by have h := unhide HX; rw [unhide HN, List.take_length] at h; exact h))
      go_wp2_with fail
      go_ret
      exact ⟨by rw [unhide HD]; rfl, Below.refl _ _⟩
theorem makeBB (n : Nat) (hn : n ≤ 262144) (u : World) : (Instr.makeSlice 23 (.int .i64 (n : Int)) (.int .i64 (n : Int))).run Tryz.prog u = .ok (.slice (some ⟨u.heap.size, 0, none⟩) n n) (u.alloc (.cells (madeCells #[.bool false] n) 4)) := by
  obtain ⟨i0, hi, hz0, hz1, hz2⟩ := info_parts2 infoBo
  have h := run_make (P := Tryz.prog) u 23 4 i0 (.bool false) Tryz.underlying23 hi hz0 .i64 .i64 (n : Int) (n : Int) (by omega) (Int.le_refl _) (by rw [hz2]; omega) (by omega)
  simpa [hz1, Value.cells] using h
/-- FLAGS WHILE THEY ARE SET. -/
structure Gf (W wr : World) (n : Nat) (l : List Nat) : Prop where
  b : Bb wr W.heap.size n (fun p => decide (p ∈ l))
  bw : RowKit.Below W.heap.size W wr
theorem Gf.start (W : World) (n : Nat) : Gf W (W.alloc (.cells (madeCells #[.bool false] n) 4)) n [] := by
  refine ⟨?_, (Below.refl _ W).alloc (Nat.le_refl _) _⟩
  have := bb_new W n
  rw [show (fun p : Nat => decide (p ∈ ([] : List Nat))) = (fun _ => false) from by funext p; simp]
  exact this
theorem Gf.later {W wr X : World} {n : Nat} {l : List Nat} (h : Gf W wr n l) (hb : RowKit.Below wr.heap.size wr X) : Gf W X n l := ⟨h.b.later hb, bl_t h.bw hb⟩
theorem Gf.set {W wr : World} {n : Nat} {l : List Nat} (h : Gf W wr n l) {p : Nat} (hp : p < n) : Gf W (wr.setCell ⟨W.heap.size, p, none⟩ (.bool true)) n (l ++ [p]) := by
  refine ⟨?_, h.bw.setCell (p := ⟨W.heap.size, p, none⟩) (Nat.le_refl _) _⟩
  have := h.b.set hp true
  rw [show (fun x => decide (x ∈ l ++ [p])) = (fun i => if i = p then true else decide (i ∈ l)) from by
    funext i
    by_cases e : i = p
    · rw [if_pos e]; exact decide_eq_true (by simp [e])
    · rw [if_neg e]; exact decide_eq_decide.2 (by simp [e])]
  exact this
theorem Gf.bfl {W wr : World} {n : Nat} {l : List Nat} (h : Gf W wr n l) : Bfl wr (.slice (some ⟨W.heap.size, 0, none⟩) n n) ((List.range n).map fun p => decide (p ∈ l)) := by
  refine ⟨_, n, by simp, fun _ => ⟨W.heap.size, 0, rfl, h.b.lt, fun i x hx => ?_⟩⟩
  rw [List.getElem?_map] at hx
  obtain ⟨k, hk, rfl⟩ := Option.map_eq_some_iff.1 hx
  obtain ⟨hk1, hk2⟩ := List.getElem?_eq_some_iff.1 hk
  have hi : i < n := by simpa using hk1
  obtain rfl : i = k := by simpa using hk2
  rw [Nat.zero_add]
  exact (h.b.cell hi).1
theorem flags_eq {n : Nat} {inn : Nat → Bool} (hlt : ∀ p, inn p = true → p < n) : (fun i => ((List.range n).map fun p => decide (p ∈ plL inn n)).getD i false) = inn := by
  funext i
  rw [List.getD_eq_getElem?_getD, List.getElem?_map]
  by_cases h : i < n
  · rw [List.getElem?_range h]
    simp only [Option.map_some, Option.getD_some]
    cases e : inn i with
    | true => exact decide_eq_true (List.mem_filter.2 ⟨List.mem_range.2 h, e⟩)
    | false => exact decide_eq_false fun hm => by have := (List.mem_filter.1 hm).2; rw [e] at this; cases this
  · rw [List.getElem?_eq_none (by simp; omega)]
    cases e : inn i with
    | true => exact absurd (hlt i e) h
    | false => rfl
set_option maxRecDepth 100000 in
set_option maxHeartbeats 8000000 in
theorem greatest_walk {w : World} {v u : Value} {ps : List Pk} {fl : List Bool} (sm : SmP ps) (hfl : fl.length ≤ 1048576) (pk : Pkl w v ps) (hb : Bfl w u fl) (ht : akK ps ps.length ≤ 1048576) :
    Calls Tryz.prog 3 #[v, u] w fun e w' => e = .returned (.bool true) ∧ RowKit.Below w.heap.size w w' := by
  obtain ⟨va, vc, rfl⟩ : ∃ a c, v = .slice a ps.length c := let ⟨a, c, e, _⟩ := pk; ⟨a, c, e⟩
  obtain ⟨ua, uc, rfl⟩ : ∃ a c, u = .slice a fl.length c := let ⟨a, c, e, _⟩ := hb; ⟨a, c, e⟩
  have hl := sm.l
  obtain ⟨BF, hBF⟩ : ∃ b : Bool, b = true ↔ Clo ps (fun i => fl.getD i false) := by
    by_cases h : Clo ps (fun i => fl.getD i false)
    · exact ⟨true, fun _ => h, fun _ => rfl⟩
    · exact ⟨false, fun e => (by cases e), fun e => absurd e h⟩
  have C1 := hide (Closed_any sm pk ht)
  have HS1 := hide (show ∀ X (r : Value) (gl : List Bool), gl.length ≤ 1048576 → RowKit.Below w.heap.size w X → Bfl X r gl → Calls Tryz.prog 6 #[.slice va ps.length vc, r] X fun e w' => ∃ r, e = .returned r ∧ Pkl w' r ((flP ps.length gl).map (pAt ps)) ∧ RowKit.Below X.heap.size X w' from fun X r gl hg hX hB => some_any sm hg (pk.later hX) hB)
  have HCL := hide (show ∀ X r gl, Pkl X r ((flP ps.length gl).map (pAt ps)) → Calls Tryz.prog 7 #[r] X fun e w' => ∃ b : Bool, e = .returned (.bool b) ∧ (b = true ↔ Clo ps (fun i => gl.getD i false)) ∧ RowKit.Below X.heap.size X w' from fun X r gl hp => (closed_any (sm.part gl) hp).mono fun e w' ⟨b, he, hb, hB⟩ => ⟨b, he, hb.trans (cld_part ps gl), hB⟩)
  have HFB := hide hb
  have HFL := hide (show ∀ X, RowKit.Below w.heap.size w X → ∀ i (hi : i < fl.length), ∃ b o, ua = some ⟨b, o, none⟩ ∧ X.cell? ⟨b, o + i, none⟩ = some (.bool fl[i]) from fun X hX i hi => by
    obtain ⟨a, c, e, h2⟩ := hb.lat hX
    injection e with e
    obtain ⟨b, o, h3, _, h5⟩ := h2 (by omega)
    exact ⟨b, o, e.trans h3, h5 i _ (List.getElem?_eq_getElem hi)⟩)
  have hmk := makeBB ps.length hl
  clear sm pk hb ht
  go_enter Tryz.func3, Tryz.ntmps3
  go_wp2_with (go_at_call 5; refine (unhide C1).mono ?_; rintro e w1 ⟨r1, inn, rfl, hu1, hcl, hb1⟩; obtain ⟨⟨la, ln, lk⟩, rfl, hln⟩ := slice_hd hu1; simp only at hln; subst hln; unfold hv; have H1 := hide (And.intro hu1 (And.intro hcl hb1)); clear hu1 hcl hb1 C1)
  clear hmk
  have HPL := hide (show Pl w.heap.size w1 (.slice la (plL inn ps.length).length lk) (plL inn ps.length) from own_pl (unhide H1).1)
  have HRI := hide (show (plL inn ps.length).Pairwise (· < ·) ∧ ∀ p ∈ plL inn ps.length, p < ps.length from ⟨List.Pairwise.filter _ List.pairwise_lt_range, fun p hp => List.mem_range.1 (List.mem_filter.1 hp).1⟩)
  have hll := plL_len inn ps.length
  have HEQ := hide (flags_eq (unhide H1).2.1.2.2)
  have HIN := hide (show ∀ p, inn p = true → p ∈ plL inn ps.length from fun p hp => List.mem_filter.2 ⟨List.mem_range.2 ((unhide H1).2.1.2.2 p hp), hp⟩)
  have HG := hide (And.intro (unhide H1).2.1.1 (unhide H1).2.1.2.1)
  have HB1 := hide (unhide H1).2.2
  clear H1
  have HG0 := hide (Gf.start w1 ps.length)
  generalize plL inn ps.length = l at *
  obtain ⟨M, hM⟩ : ∃ M, M = l.length := ⟨_, rfl⟩
  have HM := hide hM
  rw [← hM] at hll HPL ⊢
  clear hM
  go_loopg [7] M (fun gq iv wr => ∃ i : Nat, iv = .int .i64 i ∧ i ≤ M ∧ M - i ≤ gq ∧ Hid (Gf w1 wr ps.length (l.take i)))
  case atStart => exact ⟨0, by go_num, by omega, by omega, by rw [List.take_zero]; exact HG0⟩
  case round =>
    clear HG0
    obtain ⟨i, rfl, hi, hgi, HW⟩ := hrel
    by_cases hlt : i < M
    · have hin : (i : Int) < (M : Int) := by omega
      have hil : i < l.length := by have := unhide HM; omega
      obtain ⟨g, rfl, c0⟩ := (unhide HPL).at (unhide HW).bw (List.getElem?_eq_getElem hil)
      have hp := (unhide HRI).2 l[i] (List.getElem_mem hil)
      have hpn : (l[i] : Int) < (ps.length : Int) := by omega
      have d1 : decide ((l[i] : Int) < 0) = false := decide_eq_false (by omega)
      have d2 : decide (ps.length ≤ l[i]) = false := decide_eq_false (by omega)
      have hz1 := (unhide HW).b.lt
      obtain ⟨f0, z0⟩ := (unhide HW).b.cell hp
      have HF := hide (show ∀ n, Gf w1 ((wr.drewN n).setCell ⟨w1.heap.size, l[i], none⟩ (.bool true)) ps.length (l.take (i + 1)) from fun n => by
        rw [List.take_add_one, List.getElem?_eq_getElem hil]
        exact ((unhide HW).later (bl_drewN wr n)).set hp)
      by_cases h0 : 0 < i
      · obtain ⟨k, hk⟩ : ∃ k, i = k + 1 := ⟨i - 1, by omega⟩
        have hkl : k < l.length := by omega
        obtain ⟨g2, e2, c1⟩ := (unhide HPL).at (unhide HW).bw (List.getElem?_eq_getElem hkl)
        cases e2
        have d3 : decide (l[i] ≤ l[k]) = false := decide_eq_false (by have := List.pairwise_iff_getElem.1 (unhide HRI).1 k i hkl hil (by omega); omega)
        have d4 : decide (0 < i) = true := decide_eq_true h0
        have hwk : IntKind.i64.wrap (k : Int) = (k : Int) := by rw [IntKind.wrap_i64]; omega
        have e1 : ((i : Int) - 1) = (k : Int) := by omega
        have hkm : (k : Int) < (M : Int) := by omega
        have HK := hide hk
        generalize l[i] = p at *
        generalize l[k] = p1 at *
        clear hk
        go_wp2_with fail
        go_quiet (fail)
        go_wp2_with fail
        go_roundg (M - (i + 1))
        case measure => omega
        case rel => exact ⟨i + 1, by go_num, by omega, by omega, hide (unhide HF _)⟩
      · have d4 : decide (0 < i) = false := decide_eq_false h0
        generalize l[i] = p at *
        go_wp2_with fail
        go_quiet (fail)
        go_wp2_with fail
        go_roundg (M - (i + 1))
        case measure => omega
        case rel => exact ⟨i + 1, by go_num, by omega, by omega, hide (unhide HF _)⟩
    · obtain rfl : i = M := by omega
      have hgf := unhide HW
      rw [unhide HM, List.take_length] at hgf
      rename World => Wm
      have bwm := bl_t (unhide HB1) hgf.bw
      have CS1 := hide (unhide HS1 Wm _ _ (by rw [List.length_map, List.length_range]; omega) bwm hgf.bfl)
      have HWM := hide (And.intro bwm hgf.bw)
      clear hgf bwm HW
      go_upto_region 15 with (first
        | (go_at_call 6; refine (unhide CS1).mono ?_; rintro e w2 ⟨r2, rfl, hp2, hb2⟩; have CC1 := hide (unhide HCL _ _ _ hp2); have B2 := hide hb2; clear hp2 hb2 CS1)
        | (go_at_call 7; refine (unhide CC1).mono ?_; rintro e w3 ⟨b3, rfl, hb3, hB3⟩; rw [unhide HEQ] at hb3; obtain rfl : b3 = true := hb3.2 (unhide HG).1; have B3 := hide (bl_t (unhide B2) hB3); have CS2 := hide (unhide HS1 w3 _ fl hfl (bl_t (unhide HWM).1 (unhide B3)) ((unhide HFB).lat (bl_t (unhide HWM).1 (unhide B3)))); clear hb3 hB3 CC1)
        | (go_at_call 6; refine (unhide CS2).mono ?_; rintro e w4 ⟨r4, rfl, hp4, hb4⟩; have CC2 := hide (unhide HCL _ _ _ hp4); have B4 := hide (bl_t (unhide B3) hb4); clear hp4 hb4 CS2)
        | (go_at_call 7; refine (unhide CC2).mono ?_; rintro e w5 ⟨b5, rfl, hb5, hB5⟩; have B5 := hide (bl_t (unhide B4) hB5); have HBB := hide hb5; clear hb5 hB5 CC2))
      have HW5 := hide (show RowKit.Below w.heap.size w w5 ∧ Pl w.heap.size w5 (.slice la i lk) l from ⟨bl_t (unhide HWM).1 (unhide B5), (unhide HPL).later (bl_t (unhide HWM).2 (unhide B5))⟩)
      have HYES := hide (show b5 = true → ∀ j, j < ps.length → fl.getD j false = true → decide (j ∈ l) = true from fun hb j hj hf => decide_eq_true (unhide HIN j ((unhide HG).2 _ ((unhide HBB).1 hb) j hj hf)))
      have HLL := hide (show l.length ≤ 1048576 from by have := unhide HM; omega)
      clear B2 B3 B4 B5 HBB HWM HS1 HCL HEQ HG HIN HRI HPL
      obtain ⟨N, hN⟩ : ∃ N, N = ps.length := ⟨_, rfl⟩
      rw [← hN] at hl HYES ⊢
      clear hN
      go_wp2_with fail
      go_loopg [12] N (fun gq iv wr => ∃ j : Nat, iv = .int .i64 j ∧ j ≤ N ∧ N - j ≤ gq ∧ Hid (RowKit.Below w5.heap.size w5 wr))
      case atStart => exact ⟨0, by go_num, by omega, by omega, hide (Below.refl _ _)⟩
      case round =>
        obtain ⟨j, rfl, hj, hgj, HB⟩ := hrel
        by_cases hlt : j < N
        · have hjn : (j : Int) < (N : Int) := by omega
          cases b5 with
          | false =>
            go_wp2_with (go_at_call 9; refine little_any.mono ?_; rintro e w9 ⟨rfl, hb9⟩; have X9 := hide (bl_t (bl_t (unhide HW5).1 (unhide HB)) hb9); clear hb9)
            go_ret
            exact ⟨rfl, unhide X9⟩
          | true =>
            by_cases hf : j < fl.length
            · have hjf : (j : Int) < (fl.length : Int) := by omega
              obtain ⟨fb, fo2, rfl, f0⟩ := unhide HFL wr (bl_t (unhide HW5).1 (unhide HB)) j hf
              cases hfv : fl[j] with
              | false =>
                rw [hfv] at f0
                clear hfv
                go_wp2_with fail
                go_roundg (N - (j + 1))
                case measure => omega
                case rel => exact ⟨j + 1, by go_num, by omega, by omega, HB⟩
              | true =>
                rw [hfv] at f0
                have hyes := unhide HYES rfl j hlt (by rw [List.getD_eq_getElem?_getD, List.getElem?_eq_getElem hf, hfv]; rfl)
                have CH := hide (has_any j (unhide HLL) ((unhide HW5).2.later (unhide HB)))
                have HH := hide hyes
                clear hfv hyes
                go_wp2_with (go_at_call 8; refine (unhide CH).mono ?_; rintro e w9 ⟨rfl, hb9⟩; have HB9 := hide (bl_t (unhide HB) hb9); rw [unhide HH]; clear hb9 CH)
                go_roundg (N - (j + 1))
                case measure => omega
                case rel => exact ⟨j + 1, by go_num, by omega, by omega, HB9⟩
            · have hjf : ¬ (j : Int) < (fl.length : Int) := by omega
              go_wp2_with fail
              go_roundg (N - (j + 1))
              case measure => omega
              case rel => exact ⟨j + 1, by go_num, by omega, by omega, HB⟩
        · obtain rfl : j = N := by omega
          go_wp2_with (go_at_call 9; refine little_any.mono ?_; rintro e w9 ⟨rfl, hb9⟩; have X9 := hide (bl_t (bl_t (unhide HW5).1 (unhide HB)) hb9); clear hb9)
          go_ret
          exact ⟨rfl, unhide X9⟩
end Go.Proofs.YtjnbnndocinicaaGreatDoor
namespace Go.Proofs.YtjnbnndocinicaaGreatDoor
open Go.RowKit Go.Maps Go.Shelf
attribute [local go_sem] Oper.semAt_some
attribute [local simp] wide_fn
attribute [local go_sem] wide_fn

/-- THE BLOCKS OF loses. -/
structure Jz (w wr : World) (s : Array Value) (av bv : Value) (r : Bool) : Prop where
  b0 : wr.heap[w.heap.size]? = some (.cells s 44 (0, 0))
  b1 : wr.heap[w.heap.size + 1]? = some (.cells #[av] 47 (0, 0))
  b2 : wr.heap[w.heap.size + 2]? = some (.cells #[bv] 47 (0, 0))
  b3 : wr.heap[w.heap.size + 3]? = some (.cells #[.bool r] 4 (0, 0))
  bw : RowKit.Below w.heap.size w wr
theorem Jz.lt {w wr : World} {s : Array Value} {av bv : Value} {r : Bool} (h : Jz w wr s av bv r) : w.heap.size + 4 ≤ wr.heap.size := blk_lt h.b3
theorem Jz.turn {w X Y : World} {s : Array Value} {av bv : Value} {r : Bool} {C : Nat} {row : Option Nat} (h : Jz w X s av bv r) (hg : X.grownBy Y row) (hr : ∀ k, row = some k → C ≤ k) (hC : w.heap.size + 4 ≤ C) : Jz w Y s av bv r := by
  have ne : ∀ j, j < C → some j ≠ row := fun j hj e => by have := hr j e.symm; omega
  have k : ∀ j o, j < C → X.heap[j]? = some o → Y.heap[j]? = some o := fun j o hj e => (hg.block j (blk_lt e) (ne j hj)).trans e
  refine ⟨k _ _ (by omega) h.b0, k _ _ (by omega) h.b1, k _ _ (by omega) h.b2, k _ _ (by omega) h.b3, hg.os.trans h.bw.os, hg.tape.trans h.bw.tape, hg.output.trans h.bw.output, Nat.le_trans h.bw.size hg.size, fun j hj => ?_⟩
  have := h.bw.size
  exact (hg.block j (by omega) (ne j (by omega))).trans (h.bw.block j hj)
theorem Jz.later {w X Y : World} {s : Array Value} {av bv : Value} {r : Bool} (h : Jz w X s av bv r) (hb : RowKit.Below X.heap.size X Y) : Jz w Y s av bv r := h.turn (C := X.heap.size) (grown_below hb) (fun k e => by cases e) h.lt
theorem Jz.set {w X : World} {s : Array Value} {av bv : Value} {r : Bool} (h : Jz w X s av bv r) (q : Bool) : Jz w (X.setCell ⟨w.heap.size + 3, 0, none⟩ (.bool q)) s av bv q := by
  have k : ∀ j o, j ≠ w.heap.size + 3 → X.heap[j]? = some o → (X.setCell ⟨w.heap.size + 3, 0, none⟩ (.bool q)).heap[j]? = some o := fun j o hj e => (set_other X _ 0 (.bool q) j hj).trans e
  exact ⟨k _ _ (by omega) h.b0, k _ _ (by omega) h.b1, k _ _ (by omega) h.b2, set_blk h.b3 0 (.bool q), h.bw.setCell (p := ⟨w.heap.size + 3, 0, none⟩) (by show w.heap.size ≤ w.heap.size + 3; omega) _⟩
theorem jz_new (w : World) (s : Array Value) (av bv : Value) : Jz w ((((w.alloc (.cells s 44)).alloc (.cells #[av] 47)).alloc (.cells #[bv] 47)).alloc (.cells #[.bool false] 4)) s av bv false := by
  obtain ⟨A, hA⟩ : ∃ x, x = w.alloc (.cells s 44) := ⟨_, rfl⟩
  obtain ⟨B, hB⟩ : ∃ x, x = A.alloc (.cells #[av] 47) := ⟨_, rfl⟩
  obtain ⟨C, hC⟩ : ∃ x, x = B.alloc (.cells #[bv] 47) := ⟨_, rfl⟩
  rw [← hA, ← hB, ← hC]
  have zA : A.heap.size = w.heap.size + 1 := by rw [hA]; exact World.size_alloc _ _
  have zB : B.heap.size = w.heap.size + 2 := by rw [hB, World.size_alloc]; omega
  have zC : C.heap.size = w.heap.size + 3 := by rw [hC, World.size_alloc]; omega
  have bA : RowKit.Below w.heap.size w A := by rw [hA]; exact (Below.refl _ w).alloc (Nat.le_refl _) _
  have bB : RowKit.Below A.heap.size A B := by rw [hB]; exact (Below.refl _ A).alloc (Nat.le_refl _) _
  have bC : RowKit.Below B.heap.size B C := by rw [hC]; exact (Below.refl _ B).alloc (Nat.le_refl _) _
  have bD : RowKit.Below C.heap.size C (C.alloc (.cells #[.bool false] 4)) := (Below.refl _ C).alloc (Nat.le_refl _) _
  have h0 : A.heap[w.heap.size]? = some (.cells s 44 (0, 0)) := by rw [hA]; exact heap_alloc_new _ _
  have h1 : B.heap[w.heap.size + 1]? = some (.cells #[av] 47 (0, 0)) := by rw [← zA, hB]; exact heap_alloc_new _ _
  have h2 : C.heap[w.heap.size + 2]? = some (.cells #[bv] 47 (0, 0)) := by rw [← zB, hC]; exact heap_alloc_new _ _
  have h3 : (C.alloc (.cells #[.bool false] 4)).heap[w.heap.size + 3]? = some (.cells #[.bool false] 4 (0, 0)) := by rw [← zC]; exact heap_alloc_new _ _
  exact ⟨(bD.block _ (by omega)).trans ((bC.block _ (by omega)).trans ((bB.block _ (by omega)).trans h0)), (bD.block _ (by omega)).trans ((bC.block _ (by omega)).trans h1), (bD.block _ (by omega)).trans h2, h3, bl_t (bl_t (bl_t bA bB) bC) bD⟩
/-- DOES ONE LOSE A CLAUSE? -/
def Lo (ps : List Pk) (i1 i2 : Nat → Bool) (p : Nat) (q : Pk) : Prop := (∃ al ∈ q.dp, imP ps i1 (-1) al = true ∧ imP ps i2 (-1) al = false) ∨ (∃ al ∈ q.pr, imP ps i1 (p : Int) al = true ∧ imP ps i2 (p : Int) al = false)
theorem lo_all (ps : List Pk) (i1 i2 : Nat → Bool) (p : Nat) (q : Pk) (f g : Nat → Hd) : (∃ x ∈ nvL p q.dp q.pr f g, imP ps i1 x.bt x.al = true ∧ imP ps i2 x.bt x.al = false) ↔ Lo ps i1 i2 p q := by
  unfold Lo nvL
  constructor
  · rintro ⟨x, hx, h1, h2⟩
    rcases List.mem_append.1 hx with hx | hx
    · obtain ⟨i, hi, rfl⟩ := List.mem_map.1 hx
      exact .inl ⟨_, getD_mem (List.mem_range.1 hi), h1, h2⟩
    · obtain ⟨i, hi, rfl⟩ := List.mem_map.1 hx
      exact .inr ⟨_, getD_mem (List.mem_range.1 hi), h1, h2⟩
  · rintro (⟨al, hal, h1, h2⟩ | ⟨al, hal, h1, h2⟩)
    · obtain ⟨i, hi, rfl⟩ := List.getElem_of_mem hal
      have e : q.dp.getD i [] = q.dp[i] := by rw [List.getD_eq_getElem?_getD, List.getElem?_eq_getElem hi]; rfl
      exact ⟨nvD q.dp f i, List.mem_append.2 (.inl (List.mem_map.2 ⟨i, List.mem_range.2 hi, rfl⟩)), by unfold nvD; rw [e]; exact h1, by unfold nvD; rw [e]; exact h2⟩
    · obtain ⟨i, hi, rfl⟩ := List.getElem_of_mem hal
      have e : q.pr.getD i [] = q.pr[i] := by rw [List.getD_eq_getElem?_getD, List.getElem?_eq_getElem hi]; rfl
      exact ⟨nvR p q.pr g i, List.mem_append.2 (.inr (List.mem_map.2 ⟨i, List.mem_range.2 hi, rfl⟩)), by unfold nvR; rw [e]; exact h1, by unfold nvR; rw [e]; exact h2⟩
set_option maxRecDepth 100000 in
set_option maxHeartbeats 8000000 in
theorem loses_any {w : World} {b1 b2 : Nat} {v av bv : Value} {xs : List Pd} {ps : List Pk} {base : Nat} {H1 H2 : Nm → Option Hd} {k1 k2 p : Nat} {q : Pk} (i1 i2 : Nat → Bool) (m1 : Mi w base (.map (some b1)) H1 (nmP xs xs.length) k1) (m2 : Mi w base (.map (some b2)) H2 (pvP xs xs.length) k2) (pks : Pks w v xs) (hs : Sim xs ps) (sm : SmP ps) (pk : Pkl w v ps) (hin : Bls w av i1 ps.length) (hin2 : Bls w bv i2 ps.length) (hq : ps[p]? = some q) :
    Calls Tryz.prog 23 #[.agg #[v, .map (some b1), .map (some b2)], .int .i64 (p : Int), av, bv] w fun e w' => ∃ b : Bool, e = .returned (.bool b) ∧ (b = true ↔ Lo ps i1 i2 p q) ∧ RowKit.Below w.heap.size w w' := by
  have hpl := (List.getElem?_eq_some_iff.1 hq).1
  have hpn : (p : Int) < (ps.length : Int) := by omega
  have hmem := List.mem_of_getElem? hq
  have hdl : q.dp.length ≤ 1048576 := Nat.le_trans (le_sum (fun p : Pk => p.dp.length) hmem) sm.sd
  have hrl : q.pr.length ≤ 1048576 := Nat.le_trans (le_sum (fun p : Pk => p.pr.length) hmem) sm.sr
  obtain ⟨vb, vo, vc, cs, dd, rr, cc, pv, ff, rfl, hvb, hr, hpc, hll⟩ := pk.at2 hq
  obtain ⟨da, dc, f, rfl, hcd⟩ := cv_of hll.dl
  obtain ⟨ra, rc, g, rfl, hcr⟩ := cv_of hll.rl
  have hc3 : w.cell? ⟨vb, vo + p * 43 + 3, none⟩ = some (.slice da q.dp.length dc) := hr 3 _ hpc.c3
  have hc4 : w.cell? ⟨vb, vo + p * 43 + 4, none⟩ = some (.slice ra q.pr.length rc) := hr 4 _ hpc.c4
  obtain ⟨ia, ic, rfl⟩ : ∃ a c, av = .slice a ps.length c := let ⟨a, c, e, _⟩ := hin; ⟨a, c, e⟩
  obtain ⟨ja, jc, rfl⟩ : ∃ a c, bv = .slice a ps.length c := let ⟨a, c, e, _⟩ := hin2; ⟨a, c, e⟩
  have HNA := hide (show ∀ (X : World) (B : Nat), RowKit.Below w.heap.size w X → X.heap[B]? = some (.cells #[.slice (some ⟨vb, vo, none⟩) ps.length vc, .map (some b1), .map (some b2)] 44 (0, 0)) → X.heap[B + 1]? = some (.cells #[.int .i64 (p : Int)] 3 (0, 0)) → SeqB Fence.wide 8 Tryz.prog 50 #[.pointer (some ⟨B, 0, none⟩), .pointer (some ⟨B + 1, 0, none⟩)] encN (Kb w.heap.size B (B + 1)) (fun l => l = nvL p q.dp q.pr f g) (fun pre => pre <+: nvL p q.dp q.pr f g) ((nvL p q.dp q.pr f g).length + 1) X from fun X B hX h1 h2 =>
    need_b 8 ⟨⟨hX, h1, h2⟩, ⟨vb, vo, ps.length, vc, rfl, hvb, hpn, hc3, hc4⟩, hcd, hcr⟩ (by omega) (by omega))
  have HME := hide (show ∀ x ∈ nvL p q.dp q.pr f g, ∀ X, RowKit.Below w.heap.size w X → Calls Tryz.prog 38 #[.agg #[.slice (some ⟨vb, vo, none⟩) ps.length vc, .map (some b1), .map (some b2)], .agg #[.int .i64 x.kd, .int .i64 (x.ix : Int), .slice x.cv.a x.cv.n x.cv.c, .int .i64 x.bt], .slice ia ps.length ic] X fun e w' => e = .returned (.bool (imP ps i1 x.bt x.al)) ∧ RowKit.Below X.heap.size X w' from fun x hx X hX => by
    unfold nvL at hx
    rcases List.mem_append.1 hx with hx | hx
    · obtain ⟨i, hi, rfl⟩ := List.mem_map.1 hx
      rw [List.mem_range] at hi
      obtain ⟨_, _, _, _, _, ha⟩ := (hcd.later hX).at_ i hi
      have hb := sm.d q hmem _ (getD_mem hi)
      exact isMet_any 2 i (-1) (q.dp.getD i []) i1 (m1.later hX) (m2.later hX) (pks.later hX) hs sm ha (by omega) hb.2 (hin.later hX)
    · obtain ⟨i, hi, rfl⟩ := List.mem_map.1 hx
      rw [List.mem_range] at hi
      obtain ⟨_, _, _, _, _, ha⟩ := (hcr.later hX).at_ i hi
      have hb := sm.r q hmem _ (getD_mem hi)
      exact isMet_any 3 i p (q.pr.getD i []) i1 (m1.later hX) (m2.later hX) (pks.later hX) hs sm ha (by omega) hb.2 (hin.later hX))
  have HMF := hide (show ∀ x ∈ nvL p q.dp q.pr f g, ∀ X, RowKit.Below w.heap.size w X → Calls Tryz.prog 38 #[.agg #[.slice (some ⟨vb, vo, none⟩) ps.length vc, .map (some b1), .map (some b2)], .agg #[.int .i64 x.kd, .int .i64 (x.ix : Int), .slice x.cv.a x.cv.n x.cv.c, .int .i64 x.bt], .slice ja ps.length jc] X fun e w' => e = .returned (.bool (imP ps i2 x.bt x.al)) ∧ RowKit.Below X.heap.size X w' from fun x hx X hX => by
    unfold nvL at hx
    rcases List.mem_append.1 hx with hx | hx
    · obtain ⟨i, hi, rfl⟩ := List.mem_map.1 hx
      rw [List.mem_range] at hi
      obtain ⟨_, _, _, _, _, ha⟩ := (hcd.later hX).at_ i hi
      have hb := sm.d q hmem _ (getD_mem hi)
      exact isMet_any 2 i (-1) (q.dp.getD i []) i2 (m1.later hX) (m2.later hX) (pks.later hX) hs sm ha (by omega) hb.2 (hin2.later hX)
    · obtain ⟨i, hi, rfl⟩ := List.mem_map.1 hx
      rw [List.mem_range] at hi
      obtain ⟨_, _, _, _, _, ha⟩ := (hcr.later hX).at_ i hi
      have hb := sm.r q hmem _ (getD_mem hi)
      exact isMet_any 3 i p (q.pr.getD i []) i2 (m1.later hX) (m2.later hX) (pks.later hX) hs sm ha (by omega) hb.2 (hin2.later hX))
  have HUN := hide (jz_new w #[.slice (some ⟨vb, vo, none⟩) ps.length vc, .map (some b1), .map (some b2)] (.slice ia ps.length ic) (.slice ja ps.length jc))
  have HWH := hide (lo_all ps i1 i2 p q f g)
  generalize nvL p q.dp q.pr f g = L at *
  clear m1 m2 pks hs sm pk hin hin2 hq hr hpc hll hcd hcr hc3 hc4 hmem hdl hrl hpl hvb
  obtain ⟨W3, hW3⟩ : ∃ x, x = ((((w.alloc (.cells #[.slice (some ⟨vb, vo, none⟩) ps.length vc, .map (some b1), .map (some b2)] 44)).alloc (.cells #[.slice ia ps.length ic] 47)).alloc (.cells #[.slice ja ps.length jc] 47)).alloc (.cells #[.bool false] 4)) := ⟨_, rfl⟩
  rw [← hW3] at HUN
  refine (callsIn_wide (n := 9)).1 ?_
  refine callsIn_of_wp_marks Tryz.func23 rfl trivial ?_ rfl
  simp only [Tryz.ntmps23, List.size_toArray, List.length_cons, List.length_nil, Nat.reduceAdd, Nat.reduceSub, Array.replicate_succ, Array.replicate_zero, List.push_toArray, List.append_toArray, List.nil_append, List.cons_append]
  gi_wp2_with (gi_at_call 37; rw [← hW3]; refine (callsIn_wide.2 (needs_any (.slice (some ⟨vb, vo, none⟩) ps.length vc) (.map (some b1)) (.map (some b2)) (p : Int) W3)).mono ?_; rintro e w5 ⟨rfl, hs5, ha5, hb5⟩; have HS5 := hide (And.intro hs5 (And.intro ha5 hb5)); clear hs5 ha5 hb5 hW3)
  obtain ⟨s1, s2, hb5⟩ := unhide HS5
  have un5 := (unhide HUN).later hb5
  have hW3z := (unhide HUN).lt
  have hzs := blk_lt s1
  have hza := blk_lt s2
  have iw5 : Iw w W3.heap.size (W3.heap.size + 1) (.cells #[.slice (some ⟨vb, vo, none⟩) ps.length vc, .map (some b1), .map (some b2)] 44 (0, 0)) (.cells #[.int .i64 (p : Int)] 3 (0, 0)) w5 := ⟨un5.bw, s1, s2⟩
  have hsq := unhide HNA w5 W3.heap.size un5.bw s1 s2
  have hlt5 := un5.lt
  clear HS5 s1 s2 hb5 HNA HUN
  refine rangeFunc_2h rfl (by decide) (gf := 50) (lb := #[.pointer (some ⟨W3.heap.size, 0, none⟩), .pointer (some ⟨W3.heap.size + 1, 0, none⟩)]) rfl trivial (enters_of Tryz.func50 (by kernel_rfl) rfl)
    hsq Kb.trans (Kb.put un5.bw.size hzs hza) (fun W o h => Kb.alloc W o (Nat.le_trans un5.bw.size h) (by omega) (by omega)) (Below.refl _ _) (fun _ => rfl) (fun pre Z => (Jz w Z #[.slice (some ⟨vb, vo, none⟩) ps.length vc, .map (some b1), .map (some b2)] (.slice ia ps.length ic) (.slice ja ps.length jc) false ∧ Iw w W3.heap.size (W3.heap.size + 1) (.cells #[.slice (some ⟨vb, vo, none⟩) ps.length vc, .map (some b1), .map (some b2)] 44 (0, 0)) (.cells #[.int .i64 (p : Int)] 3 (0, 0)) Z) ∧ ∀ x ∈ pre, ¬ (imP ps i1 x.bt x.al = true ∧ imP ps i2 x.bt x.al = false)) (fun c pre Z => c = .ret ∧ Jz w Z #[.slice (some ⟨vb, vo, none⟩) ps.length vc, .map (some b1), .map (some b2)] (.slice ia ps.length ic) (.slice ja ps.length jc) true ∧ ∃ x ∈ pre, imP ps i1 x.bt x.al = true ∧ imP ps i2 x.bt x.al = false) (fun s X Y row ⟨⟨h, hi⟩, h2⟩ hg hr => ⟨⟨h.turn hg (fun k e => (hr k e).1) hlt5, hi.turn hg (fun r e => (hr r e).1) un5.bw.size hzs hza⟩, h2⟩) (fun c s X Y row h hg hr => ⟨h.1, h.2.1.turn hg (fun k e => (hr k e).1) hlt5, h.2.2⟩) ⟨⟨un5, iw5⟩, fun x h => by cases h⟩ (fun x => .cells #[.int .i64 x.kd, .int .i64 (x.ix : Int), .slice x.cv.a x.cv.n x.cv.c, .int .i64 x.bt] 90) (fun (x : Nv) (g : Nat) => { tmps := #[.agg #[.slice (some ⟨vb, vo, none⟩) ps.length vc, .map (some b1), .map (some b2)], .int .i64 (p : Int), .slice ia ps.length ic, .slice ja ps.length jc, .pointer (some ⟨w.heap.size, 0, none⟩), undef, .pointer (some ⟨w.heap.size + 1, 0, none⟩), .pointer (some ⟨w.heap.size + 1 + 1, 0, none⟩), .pointer (some ⟨w.heap.size + 1 + 1 + 1, 0, none⟩), .pointer (some ⟨g, 0, none⟩), .agg #[.slice (some ⟨vb, vo, none⟩) ps.length vc, .map (some b1), .map (some b2)], .int .i64 (p : Int), .func (.func 50) #[] #[.pointer (some ⟨W3.heap.size, 0, none⟩), .pointer (some ⟨W3.heap.size + 1, 0, none⟩)], .agg #[.int .i64 x.kd, .int .i64 (x.ix : Int), .slice x.cv.a x.cv.n x.cv.c, .int .i64 x.bt], undef, undef, undef, undef, undef, undef, undef, undef, undef, undef, undef], defers := [] }) ?as0 ?bo0 ?do0 ?st0
  case as0 =>
    intro l x W K hK
    gi_wp2
    exact hK
  case st0 =>
    intro D c pre Z hD hS hI hK
    obtain ⟨rfl, iz, x, hx, hf⟩ := hI
    have HYES := hide (show Lo ps i1 i2 p q from (unhide HWH).1 ⟨x, hS.subset hx, hf⟩)
    have HM := hide (show Mks Z (w.heap.size + 4) [D] from ⟨by simp, fun E he => by simp at he; subst he; exact ⟨by rw [hD]; exact hlt5, hK⟩⟩)
    have HIZ := hide iz
    clear hD hS iz hx hf hK hsq un5 iw5
    gi_wp2
    have iz := unhide HIZ
    refine leaves_marks (lo := w.heap.size + 4) [D] Z (unhide HM) fun W2 hsh => ?_
    have c7 := (cell_blk (hsh.cel _ _ _ _ iz.b3) 0).1.trans (show #[Value.bool true][0]? = some (.bool true) from rfl)
    exact ⟨_, results_u1 (show Tryz.f23.results = #[.cell 8 4] from Tryz.results23) _ _ _ ⟨w.heap.size + 1 + 1 + 1, 0, none⟩ (.bool true) rfl (by simp [loadVar, go_sem, c7]), true, rfl, ⟨fun _ => unhide HYES, fun _ => rfl⟩, iz.bw.trans (hsh.bel.mono (by omega))⟩
  case do0 =>
    intro D L2 Z hD hS hI hK
    obtain ⟨⟨iz, _⟩, hall⟩ := hI
    have HNO := hide (show ¬ Lo ps i1 i2 p q from fun h => by
      obtain ⟨x, hx, hf⟩ := (unhide HWH).2 h
      rw [← hS] at hx
      exact hall x hx hf)
    have r0 := (cell_blk iz.b3 0).1.trans (show #[Value.bool false][0]? = some (.bool false) from rfl)
    have f0 := (cell_blk iz.b3 0).2
    have HM := hide (show Mks (Z.setCell ⟨w.heap.size + 3, 0, none⟩ (.bool false)) (w.heap.size + 4) [D] from ⟨by simp, fun E he => by simp at he; subst he; exact ⟨by rw [hD]; exact hlt5, (set_other Z _ 0 (.bool false) _ (by rw [hD]; omega)).trans hK⟩⟩)
    have HIZ := hide (iz.set false)
    clear hD hS iz hall hK hsq un5 iw5
    gi_wp2
    have iz := unhide HIZ
    refine leaves_marks (lo := w.heap.size + 4) [D] _ (unhide HM) fun W2 hsh => ?_
    have c7 := (cell_blk (hsh.cel _ _ _ _ iz.b3) 0).1.trans (show #[Value.bool false][0]? = some (.bool false) from rfl)
    exact ⟨_, results_u1 (show Tryz.f23.results = #[.cell 8 4] from Tryz.results23) _ _ _ ⟨w.heap.size + 1 + 1 + 1, 0, none⟩ (.bool false) rfl (by simp [loadVar, go_sem, c7]), false, rfl, ⟨fun h => (by cases h), fun h => absurd h (unhide HNO)⟩, iz.bw.trans (hsh.bel.mono (by omega))⟩
  case bo0 =>
    intro l pre x g W hg hgx hD hLp hI hlen hpre
    obtain ⟨⟨iz, iw⟩, hall⟩ := hI
    obtain ⟨lr, hLr⟩ := hLp
    have hxL : x ∈ L := hpre.subset (by simp)
    have hW5 : w5.heap.size ≤ W.heap.size := by have := blk_lt hD; omega
    have cc0 : ∀ X, Jz w X #[.slice (some ⟨vb, vo, none⟩) ps.length vc, .map (some b1), .map (some b2)] (.slice ia ps.length ic) (.slice ja ps.length jc) false → X.cell? ⟨w.heap.size, 0, none⟩ = some (.slice (some ⟨vb, vo, none⟩) ps.length vc) ∧ X.cell? ⟨w.heap.size, 1, none⟩ = some (.map (some b1)) ∧ X.cell? ⟨w.heap.size, 2, none⟩ = some (.map (some b2)) ∧ X.cell? ⟨w.heap.size + 1, 0, none⟩ = some (.slice ia ps.length ic) ∧ X.cell? ⟨w.heap.size + 1 + 1, 0, none⟩ = some (.slice ja ps.length jc) := fun X h => ⟨(cell_blk h.b0 0).1.trans rfl, (cell_blk h.b0 1).1.trans rfl, (cell_blk h.b0 2).1.trans rfl, (cell_blk h.b1 0).1.trans rfl, (cell_blk h.b2 0).1.trans rfl⟩
    obtain ⟨c0, c1, c2, c3, _⟩ := cc0 W iz
    obtain ⟨n0, n1, n2, n3⟩ := four hgx
    have C := hide (unhide HME x hxL W iz.bw)
    have HCC := hide cc0
    have HGX := hide hgx
    have HXL := hide hxL
    have HDD := hide (And.intro hD hLr)
    have HIZ := hide iz
    have HIW := hide iw
    have HALL := hide hall
    clear cc0 hgx hD hLr hlen hpre iz iw hall hsq HME un5 iw5
    cases hb : imP ps i1 x.bt x.al with
    | false =>
      rw [hb] at C
      gi_wp2_with fail
      refine (CallsIn.inRound l (callsIn_wide.2 (unhide C))).mono ?_
      rintro e w6 ⟨rfl, hb6⟩
      have HP := hide (show post2 w5.heap.size (Kb w.heap.size W3.heap.size (W3.heap.size + 1)) (fun pre Z => (Jz w Z #[.slice (some ⟨vb, vo, none⟩) ps.length vc, .map (some b1), .map (some b2)] (.slice ia ps.length ic) (.slice ja ps.length jc) false ∧ Iw w W3.heap.size (W3.heap.size + 1) (.cells #[.slice (some ⟨vb, vo, none⟩) ps.length vc, .map (some b1), .map (some b2)] 44 (0, 0)) (.cells #[.int .i64 (p : Int)] 3 (0, 0)) Z) ∧ ∀ x ∈ pre, ¬ (imP ps i1 x.bt x.al = true ∧ imP ps i2 x.bt x.al = false)) (fun c pre Z => c = .ret ∧ Jz w Z #[.slice (some ⟨vb, vo, none⟩) ps.length vc, .map (some b1), .map (some b2)] (.slice ia ps.length ic) (.slice ja ps.length jc) true ∧ ∃ x ∈ pre, imP ps i1 x.bt x.al = true ∧ imP ps i2 x.bt x.al = false) (pre ++ [x]) W .normal ⟨#[], []⟩ w6 from ⟨⟨hb6.block _ (blk_lt (unhide HDD).1), hb6.block _ (blk_lt (unhide HDD).2)⟩, Kb.of hb6 (unhide HIZ).bw.size (by omega) (by omega), ⟨(unhide HIZ).later hb6, (unhide HIW).later hb6⟩, fun y hy => by
        rcases List.mem_append.1 hy with hy | hy
        · exact unhide HALL y hy
        · rw [List.mem_singleton] at hy; rw [hy]; exact fun h => (by rw [hb] at h; cases h.1)⟩)
      clear hb6 c0 c1 c2 c3 n0 n1 n2 n3 C
      gi_wp2_with fail
      exact unhide HP
    | true =>
      rw [hb] at C
      gi_wp2_with fail
      refine (CallsIn.inRound l (callsIn_wide.2 (unhide C))).mono ?_
      rintro e w6 ⟨rfl, hb6⟩
      have iz6 := (unhide HIZ).later hb6
      obtain ⟨c0, c1, c2, _, c4⟩ := unhide HCC w6 iz6
      obtain ⟨n0, n1, n2, n3⟩ := four ((hb6.block _ (blk_lt (unhide HGX))).trans (unhide HGX))
      have C2 := hide (unhide HMF x (unhide HXL) w6 iz6.bw)
      have H6 := hide (And.intro hb6 iz6)
      clear hb6 iz6 C
      cases hb2 : imP ps i2 x.bt x.al with
      | true =>
        rw [hb2] at C2
        gi_wp2_with fail
        refine (CallsIn.inRound l (callsIn_wide.2 (unhide C2))).mono ?_
        rintro e w7 ⟨rfl, hb7⟩
        have hb67 := bl_t (unhide H6).1 hb7
        have HP := hide (show post2 w5.heap.size (Kb w.heap.size W3.heap.size (W3.heap.size + 1)) (fun pre Z => (Jz w Z #[.slice (some ⟨vb, vo, none⟩) ps.length vc, .map (some b1), .map (some b2)] (.slice ia ps.length ic) (.slice ja ps.length jc) false ∧ Iw w W3.heap.size (W3.heap.size + 1) (.cells #[.slice (some ⟨vb, vo, none⟩) ps.length vc, .map (some b1), .map (some b2)] 44 (0, 0)) (.cells #[.int .i64 (p : Int)] 3 (0, 0)) Z) ∧ ∀ x ∈ pre, ¬ (imP ps i1 x.bt x.al = true ∧ imP ps i2 x.bt x.al = false)) (fun c pre Z => c = .ret ∧ Jz w Z #[.slice (some ⟨vb, vo, none⟩) ps.length vc, .map (some b1), .map (some b2)] (.slice ia ps.length ic) (.slice ja ps.length jc) true ∧ ∃ x ∈ pre, imP ps i1 x.bt x.al = true ∧ imP ps i2 x.bt x.al = false) (pre ++ [x]) W .normal ⟨#[], []⟩ w7 from ⟨⟨hb67.block _ (blk_lt (unhide HDD).1), hb67.block _ (blk_lt (unhide HDD).2)⟩, Kb.of hb67 (unhide HIZ).bw.size (by omega) (by omega), ⟨(unhide HIZ).later hb67, (unhide HIW).later hb67⟩, fun y hy => by
          rcases List.mem_append.1 hy with hy | hy
          · exact unhide HALL y hy
          · rw [List.mem_singleton] at hy; rw [hy]; exact fun h => (by rw [hb2] at h; cases h.2)⟩)
        clear hb67 hb7 c0 c1 c2 c3 c4 n0 n1 n2 n3 C2
        gi_wp2_with fail
        exact unhide HP
      | false =>
        rw [hb2] at C2
        gi_wp2_with fail
        refine (CallsIn.inRound l (callsIn_wide.2 (unhide C2))).mono ?_
        rintro e w7 ⟨rfl, hb7⟩
        have hb67 := bl_t (unhide H6).1 hb7
        have iz7 := (unhide HIZ).later hb67
        have r0 := (cell_blk iz7.b3 0).1.trans (show #[Value.bool false][0]? = some (.bool false) from rfl)
        have f0 := (cell_blk iz7.b3 0).2
        have H7 := hide (And.intro hb67 iz7)
        clear hb67 hb7 iz7 c0 c1 c2 c3 c4 n0 n1 n2 n3 C2
        gi_wp2_with fail
        obtain ⟨hb7, iz7⟩ := unhide H7
        exact ⟨⟨(set_other w7 _ 0 (.bool true) _ (by omega)).trans (hb7.block _ (blk_lt (unhide HDD).1)), (set_other w7 _ 0 (.bool true) _ (by omega)).trans (hb7.block _ (blk_lt (unhide HDD).2))⟩, rfl, iz7.set true, x, by simp, hb, hb2⟩
end Go.Proofs.YtjnbnndocinicaaGreatDoor
namespace Go.Proofs.YtjnbnndocinicaaGreatDoor
open Go.RowKit Go.Maps

theorem laidB : laidOutB Tryz.prog = true := by kernel_rfl
theorem wideKY : (match Tryz.prog.underlying 40 with | some (.array _ _) | some (.struct _) => true | _ => false) = true := by kernel_rfl
set_option maxRecDepth 100000 in
theorem lawK : Keyed Tryz.prog 40 := Keyed.of_law (deep_law_laid laidB (m := 2) (by omega) (of_decide_eq_true (by kernel_rfl)) (by kernel_rfl) wideKY)
/-- A KEY, AS IT IS TOLD. -/
def klK (n v : Nm) : Lit := .string (keyBytes [.string n.data.toList, .string v.data.toList])
theorem keyK {n v : Nm} (hn : n.size ≤ maxLen) (hv : v.size ≤ maxLen) : keyOf Tryz.prog 40 (.agg #[.string n, .string v]) = some (klK n v) := by
  have hK : Tryz.prog.keyType 40 = true := by kernel_rfl
  have hF : (Value.agg #[.string n, .string v]).formed Tryz.prog 40 = true := by kernel_rfl
  have c9 : Tryz.prog.cellsOf 9 = 1 := by kernel_rfl
  have cK : Tryz.prog.cellsOf 40 = 2 := by kernel_rfl
  obtain ⟨d, hd⟩ : ∃ d, Tryz.prog.types.size + 1 = d + 1 + 1 := ⟨Tryz.prog.types.size - 1, by have : 1 ≤ Tryz.prog.types.size := of_decide_eq_true (by kernel_rfl); omega⟩
  unfold keyOf
  rw [Tryz.underlying40]
  simp only [hK, hF, hd, Bool.and_self, if_true]
  have hl : Tryz.prog.keyLits (d + 1 + 1) 40 (Value.agg #[.string n, .string v]).cells.toList = some [.string n.data.toList, .string v.data.toList] := by
    have k9 : ∀ s : Nm, s.size ≤ maxLen → Tryz.prog.keyLits (d + 1) 9 [.string s] = some [.string s.data.toList] := fun s hs => by
      unfold Program.keyLits
      rw [Tryz.underlying9]
      simp [hs]
    unfold Program.keyLits
    rw [Tryz.underlying40]
    simp [Value.cells, cK, c9, k9 n hn, k9 v hv]
  rw [hl]
  rfl
theorem klK_inj {n v n2 v2 : Nm} (hn : n.size ≤ maxLen) (hv : v.size ≤ maxLen) (hn2 : n2.size ≤ maxLen) (hv2 : v2.size ≤ maxLen) (e : klK n v = klK n2 v2) : n = n2 ∧ v = v2 := by
  have h1 := keyK hn hv
  have h2 := keyK hn2 hv2
  rw [← e] at h2
  have := lawK.inj h1 h2
  injection this with this
  simp at this
  exact this
end Go.Proofs.YtjnbnndocinicaaGreatDoor
namespace Go.Proofs.YtjnbnndocinicaaGreatDoor
open Go.RowKit Go.Maps

/-- IS A KEY AMONG SOME? -/
def mK (l : List (Nm × Nm)) (n v : Nm) : Bool := l.any fun y => decide (y.1 = n) && decide (y.2 = v)
theorem mK_iff {l : List (Nm × Nm)} {n v : Nm} : mK l n v = true ↔ (n, v) ∈ l := by
  unfold mK
  rw [List.any_eq_true]
  constructor
  · rintro ⟨⟨a, b⟩, hy, h⟩
    rw [Bool.and_eq_true] at h
    have h1 := of_decide_eq_true h.1
    have h2 := of_decide_eq_true h.2
    simp only at h1 h2
    subst h1 h2
    exact hy
  · intro h
    exact ⟨(n, v), h, by simp⟩
theorem mK_snoc_same (l : List (Nm × Nm)) (n v : Nm) : mK (l ++ [(n, v)]) n v = true := mK_iff.2 (by simp)
theorem mK_snoc_other (l : List (Nm × Nm)) {n v n2 v2 : Nm} (h : ¬ (n2 = n ∧ v2 = v)) : mK (l ++ [(n, v)]) n2 v2 = mK l n2 v2 := by
  rw [Bool.eq_iff_iff, mK_iff, mK_iff, List.mem_append, List.mem_singleton]
  constructor
  · rintro (h1 | h1)
    · exact h1
    · injection h1 with h1 h2; exact absurd ⟨h1, h2⟩ h
  · exact .inl
structure RepK (D : DataW Value) (l : List (Nm × Nm)) : Prop where
  has : ∀ n v : Nm, n.size ≤ maxLen → v.size ≤ maxLen → Maps.has D (klK n v) = mK l n v
  at_ : ∀ n v : Nm, n.size ≤ maxLen → v.size ≤ maxLen → D.atKey (klK n v) (.held (.agg #[])) = .held (.agg #[])
theorem RepK.start : RepK (.map []) [] := ⟨fun _ _ _ _ => rfl, fun _ _ _ _ => rfl⟩
theorem RepK.put {D : DataW Value} {l : List (Nm × Nm)} (r : RepK D l) (hD : IsMap D) {n v : Nm} (hn : n.size ≤ maxLen) (hv : v.size ≤ maxLen) : RepK (D.put (klK n v) (.held (.agg #[]))) (l ++ [(n, v)]) := by
  refine ⟨fun a b ha hb => ?_, fun a b ha hb => ?_⟩
  · by_cases e : a = n ∧ b = v
    · obtain ⟨rfl, rfl⟩ := e
      rw [has_put_same hD (show WideAt.IsKeyLit (klK a b) from trivial), mK_snoc_same]
    · rw [has_put_other (fun q => e (klK_inj ha hb hn hv q)), r.has a b ha hb, mK_snoc_other l e]
  · by_cases e : a = n ∧ b = v
    · obtain ⟨rfl, rfl⟩ := e
      rw [atKey_put_same hD (show WideAt.IsKeyLit (klK a b) from trivial)]
    · rw [atKey_put_other (fun q => e (klK_inj ha hb hn hv q)), r.at_ a b ha hb]
def Dk (W : World) (b : Nat) (l : List (Nm × Nm)) (k : Nat) : Prop := ∃ D, W.ownsMap Tryz.prog 40 raw b k D ∧ RepK D l
theorem Dk.lt {W : World} {b : Nat} {l : List (Nm × Nm)} {k : Nat} (h : Dk W b l k) : b < W.heap.size := let ⟨_, o, _⟩ := h; o.lt
theorem Dk.same {W W2 : World} {b : Nat} {l : List (Nm × Nm)} {k : Nat} (h : Dk W b l k) (hb : W2.heap[b]? = W.heap[b]?) : Dk W2 b l k := by
  obtain ⟨D, ⟨es, clock, h1, h2⟩, r⟩ := h
  exact ⟨D, ⟨es, clock, hb.trans h1, h2⟩, r⟩
theorem Dk.later {W W2 : World} {b : Nat} {l : List (Nm × Nm)} {k : Nat} (h : Dk W b l k) (hb : Below W.heap.size W W2) : Dk W2 b l k := h.same (hb.block b h.lt)
theorem Dk.make (W : World) : Dk (W.alloc (.map #[] 0)) W.heap.size [] 0 := ⟨_, World.ownsMap_made W Tryz.prog 40 raw, RepK.start⟩
theorem Dk.look {W : World} {b : Nat} {l : List (Nm × Nm)} {k : Nat} (h : Dk W b l k) {n v : Nm} (hn : n.size ≤ maxLen) (hv : v.size ≤ maxLen) : (Instr.lookup 84 (.map (some b)) (.agg #[.string n, .string v]) true).run Tryz.prog W = .ok (.tuple #[.agg #[], .bool (mK l n v)]) W := by
  obtain ⟨D, ho, r⟩ := h
  obtain ⟨x, ps, hr, hv2⟩ := ho.look_ok lawK Tryz.underlying84 (zeroE0 W) (zd := .held (.agg #[])) (zp := []) rfl (keyK hn hv)
  rw [hr, r.has n v hn hv]
  have e := raw_inv hv2
  rw [r.at_ n v hn hv] at e
  cases e
  rfl
theorem Dk.put {W : World} {b k : Nat} {l : List (Nm × Nm)} (h : Dk W b l k) (hk : k < maxLen) {n v : Nm} (hn : n.size ≤ maxLen) (hv : v.size ≤ maxLen) :
    ∃ W2, (Instr.mapUpdate 84 (.map (some b)) (.agg #[.string n, .string v]) (.agg #[])).run Tryz.prog W = .ok () W2 ∧ Dk W2 b (l ++ [(n, v)]) (k + 1) ∧ Fx (fun c => c = b) W W2 := by
  obtain ⟨D, ho, r⟩ := h
  obtain ⟨W2, hr, ho2, ht⟩ := ho.store lawK Tryz.underlying84 hk (keyK hn hv) (val := .agg #[]) (d := .held (.agg #[])) (ps := []) rfl
  have hg := ht.grown
  exact ⟨W2, hr, ⟨_, ho2, r.put ho.isMap hn hv⟩, ⟨hg.1, hg.2, hg.3, hg.size, fun _ h => absurd h (Nat.not_lt_zero _)⟩, fun c hc hn => hg.block c hc (by intro q; cases q; exact hn rfl)⟩
theorem makeMn (n : Nat) (u : World) : (Instr.makeMap 84 (some (.int .i64 (n : Int)))).run Tryz.prog u = .ok (.map (some u.heap.size)) (u.alloc (.map #[] 0)) := by
  simp [Instr.makeMap, go_sem]
/-- KEYS AS THEY LIE. -/
def Kyl (w : World) (u : Value) (ks : List (Nm × Nm)) : Prop := ∃ a c, u = .slice a ks.length c ∧ ∀ (i : Nat) (x : Nm × Nm), ks[i]? = some x → ∃ b o, a = some ⟨b, o, none⟩ ∧ b < w.heap.size ∧ w.cell? ⟨b, o + i * 2, none⟩ = some (.string x.1) ∧ w.cell? ⟨b, o + i * 2 + 1, none⟩ = some (.string x.2)
theorem Kyl.later {w w2 : World} {u : Value} {ks : List (Nm × Nm)} (h : Kyl w u ks) (hb : RowKit.Below w.heap.size w w2) : Kyl w2 u ks := by
  obtain ⟨a, c, h1, h2⟩ := h
  refine ⟨a, c, h1, fun i x hx => ?_⟩
  obtain ⟨b, o, q1, q2, q3, q4⟩ := h2 i x hx
  exact ⟨b, o, q1, Nat.lt_of_lt_of_le q2 hb.size, (hb.cell (p := ⟨b, o + i * 2, none⟩) q2).trans q3, (hb.cell (p := ⟨b, o + i * 2 + 1, none⟩) q2).trans q4⟩
def kyP (p : Pk) : Nm × Nm := (p.nm, p.vr)
/-- WHAT IS LEFT OF A SET. -/
def lef (ps : List Pk) (ks : List (Nm × Nm)) (i : Nat) : Bool := match ps[i]? with | some q => !mK ks q.nm q.vr | none => false
/-- THE PART WHILE IT IS MADE. -/
structure Wq (w wr : World) (g : Nat) (ps : List Pk) (ks : List (Nm × Nm)) (p : Nat) : Prop where
  m : Dk wr w.heap.size ks ks.length
  b : Bb wr g ps.length (fun i => decide (i < p) && lef ps ks i)
  bw : RowKit.Below w.heap.size w wr
  lo : w.heap.size < g
theorem Wq.later {w wr X : World} {g p : Nat} {ps : List Pk} {ks : List (Nm × Nm)} (h : Wq w wr g ps ks p) (hb : RowKit.Below wr.heap.size wr X) : Wq w X g ps ks p := ⟨h.m.later hb, h.b.later hb, bl_t h.bw hb, h.lo⟩
theorem Wq.set {w wr : World} {g p : Nat} {ps : List Pk} {ks : List (Nm × Nm)} (h : Wq w wr g ps ks p) {q : Pk} (hq : ps[p]? = some q) : Wq w (wr.setCell ⟨g, p, none⟩ (.bool (!mK ks q.nm q.vr))) g ps ks (p + 1) := by
  have hp := (List.getElem?_eq_some_iff.1 hq).1
  refine ⟨h.m.same (set_other wr g p _ _ (by have := h.lo; omega)), ?_, h.bw.setCell (p := ⟨g, p, none⟩) (Nat.le_of_lt h.lo) _, h.lo⟩
  have := h.b.set hp (!mK ks q.nm q.vr)
  rw [show (fun i => decide (i < p + 1) && lef ps ks i) = (fun i => if i = p then !mK ks q.nm q.vr else (decide (i < p) && lef ps ks i)) from by
    funext i
    by_cases e : i = p
    · subst e
      rw [if_pos rfl, decide_eq_true (by omega : i < i + 1), Bool.true_and]
      unfold lef
      rw [hq]
    · rw [if_neg e]
      congr 1
      exact decide_eq_decide.2 (by omega)]
  exact this
set_option maxRecDepth 100000 in
set_option maxHeartbeats 4000000 in
theorem without_any {w : World} {v u : Value} {ps : List Pk} {ks : List (Nm × Nm)} (sm : SmP ps) (pk : Pkl w v ps) (hk : Kyl w u ks) (hkl : ks.length ≤ 1048576) (hkz : ∀ x ∈ ks, x.1.size ≤ maxLen ∧ x.2.size ≤ maxLen) :
    Calls Tryz.prog 22 #[v, u] w fun e w' => ∃ gi, e = .returned (.slice (some ⟨gi, 0, none⟩) ps.length ps.length) ∧ w.heap.size ≤ gi ∧ Bb w' gi ps.length (fun i => decide (i < ps.length) && lef ps ks i) ∧ RowKit.Below w.heap.size w w' := by
  obtain ⟨va, vc, rfl⟩ : ∃ a c, v = .slice a ps.length c := let ⟨a, c, e, _⟩ := pk; ⟨a, c, e⟩
  obtain ⟨ua, uc, rfl⟩ : ∃ a c, u = .slice a ks.length c := let ⟨a, c, e, _⟩ := hk; ⟨a, c, e⟩
  have hl := sm.l
  have HPK := hide (show ∀ X, RowKit.Below w.heap.size w X → ∀ (p : Nat) (q : Pk), ps[p]? = some q → ∃ (vb vo : Nat) (cs : List Value), va = some ⟨vb, vo, none⟩ ∧ vb < X.heap.size ∧ X.rangeAt vb (vo + p * 43) cs ∧ (Tryz.prog.info? 38).map (·.size) = some cs.length ∧ (q.nm.size ≤ maxLen ∧ q.vr.size ≤ maxLen) ∧ ∀ Y, Calls Tryz.prog 24 #[.agg cs.toArray] Y fun e w' => e = .returned (.agg #[.string q.nm, .string q.vr]) ∧ Below Y.heap.size Y w' from fun X hX p q hq => by
    obtain ⟨vb, vo, vc2, cs, d, r, c, pv, f, e, hvb, hr, hpc, _⟩ := (pk.later hX).at2 hq
    injection e with e _ _
    have hz := sm.z q (List.mem_of_getElem? hq)
    exact ⟨vb, vo, cs, e, hvb, hr, by rw [hpc.len]; kernel_rfl, ⟨hz.1, hz.2.1⟩, fun Y => keyOf_any cs _ _ Y hpc.c0 hpc.c1⟩)
  have HKY := hide (show ∀ X, RowKit.Below w.heap.size w X → ∀ (i : Nat) (hi : i < ks.length), ∃ b o, ua = some ⟨b, o, none⟩ ∧ X.cell? ⟨b, o + i * 2, none⟩ = some (.string ks[i].1) ∧ X.cell? ⟨b, o + i * 2 + 1, none⟩ = some (.string ks[i].2) from fun X hX i hi => by
    obtain ⟨a, c, e, h2⟩ := hk.later hX
    injection e with e _ _
    obtain ⟨b, o, q1, _, q3, q4⟩ := h2 i ks[i] (List.getElem?_eq_getElem hi)
    exact ⟨b, o, e.trans q1, q3, q4⟩)
  have HKZ := hide hkz
  have hmm := makeMn ks.length
  have HST := hide (show Dk (w.alloc (.map #[] 0)) w.heap.size (ks.take 0) 0 ∧ RowKit.Below w.heap.size w (w.alloc (.map #[] 0)) from ⟨Dk.make w, (Below.refl _ w).alloc (Nat.le_refl _) _⟩)
  obtain ⟨K, hK⟩ : ∃ K, K = ks.length := ⟨_, rfl⟩
  have HK := hide hK
  rw [← hK] at hkl hmm ⊢
  clear pk sm hk hkz hK
  have hmk := makeBl ps.length hl
  go_enter Tryz.func22, Tryz.ntmps22
  go_wp2_with fail
  clear hmm
  go_loopg [7, 17] K (fun gq _ iv wr => ∃ i : Nat, iv = .int .i64 i ∧ i ≤ K ∧ K - i ≤ gq ∧ Hid (Dk wr w.heap.size (ks.take i) i ∧ RowKit.Below w.heap.size w wr))
  case atStart => exact ⟨0, by go_num, by omega, by omega, HST⟩
  case round =>
    clear HST
    obtain ⟨i, rfl, hi, hgi, HD⟩ := hrel
    by_cases hlt : i < K
    · have hin : (i : Int) < (K : Int) := by omega
      have hil : i < ks.length := by have := unhide HK; omega
      obtain ⟨b, o, rfl, k0, k1⟩ := unhide HKY wr (unhide HD).2 i hil
      have hz := unhide HKZ ks[i] (List.getElem_mem hil)
      have HT := hide (show ks.take (i + 1) = ks.take i ++ [(ks[i].1, ks[i].2)] from by rw [List.take_add_one, List.getElem?_eq_getElem hil]; rfl)
      generalize ks[i] = x at *
      obtain ⟨n, y⟩ := x
      simp only at k0 k1 hz HT
      obtain ⟨Y, hY⟩ : ∃ Y, Y = wr.alloc (.cells #[.string n, .string y] 40) := ⟨_, rfl⟩
      have bY : RowKit.Below wr.heap.size wr Y := by rw [hY]; exact (Below.refl _ wr).alloc (Nat.le_refl _) _
      have hdk := (unhide HD).1.later bY
      obtain ⟨W2, hup, d2, f2⟩ := hdk.put (Nat.lt_of_le_of_lt (show i ≤ 1048576 by omega) (by decide)) hz.1 hz.2
      have HF := hide (show Dk W2 w.heap.size (ks.take (i + 1)) (i + 1) ∧ RowKit.Below w.heap.size w W2 from by
        refine ⟨by rw [unhide HT]; exact d2, ?_⟩
        have h1 := bl_t (unhide HD).2 bY
        exact ⟨f2.bel.os.trans h1.os, f2.bel.tape.trans h1.tape, f2.bel.output.trans h1.output, Nat.le_trans h1.size f2.bel.size, fun c hc => (f2.blk c (Nat.lt_of_lt_of_le hc h1.size) (by omega)).trans (h1.block c hc)⟩)
      rw [hY] at hup
      clear hdk d2 f2 bY hY hz
      go_wp2_with fail
      go_roundg (K - (i + 1))
      case measure => omega
      case rel => exact ⟨i + 1, by go_num, by omega, by omega, HF⟩
    · obtain rfl : i = K := by omega
      rename World => Wm
      have hd := unhide HD
      rw [unhide HK, List.take_length] at hd
      have HW := hide (show Wq w (Wm.alloc (.cells (madeCells #[.bool false] ps.length) 4)) Wm.heap.size ps ks 0 from by
        have bA : RowKit.Below Wm.heap.size Wm (Wm.alloc (.cells (madeCells #[.bool false] ps.length) 4)) := (Below.refl _ Wm).alloc (Nat.le_refl _) _
        refine ⟨hd.1.later bA, ?_, bl_t hd.2 bA, hd.1.lt⟩
        have := bb_new Wm ps.length
        rw [show (fun j => decide (j < 0) && lef ps ks j) = (fun _ : Nat => false) from by funext j; simp]
        exact this)
      clear hd HD HKY HKZ HK
      go_wp2_with fail
      clear hmk
      go_loopg [9, 10, 11, 30] ps.length (fun gq _ _ _ iv wr => ∃ p : Nat, iv = .int .i64 p ∧ p ≤ ps.length ∧ ps.length - p ≤ gq ∧ Hid (Wq w wr Wm.heap.size ps ks p))
      case atStart => exact ⟨0, by go_num, by omega, by omega, HW⟩
      case round =>
        clear HW
        obtain ⟨p, rfl, hp, hgp, HU⟩ := hrel
        have hu := unhide HU
        by_cases hlt2 : p < ps.length
        · have hlt3 : (p : Int) < (ps.length : Int) := by omega
          obtain ⟨q, hq⟩ : ∃ q, ps[p]? = some q := ⟨_, List.getElem?_eq_getElem hlt2⟩
          obtain ⟨vb, vo, cs, rfl, hvb, hr, hinf, hz, hk⟩ := unhide HPK wr hu.bw p q hq
          have HR := hide hr
          have HI2 := hide hinf
          have HKO := hide (hk wr)
          have HQ := hide hq
          clear hr hinf hk hq
          go_wp2_with (first | ((with_reducible refine wpList_load_p (op := { dst := some 38, op := Op.load 38 (Operand.tmp 37), type := 38, pos := "part.go:24", after := #[{ on := 3, ground := Ground.data }], guard := none }) ?wxa 38 (.tmp 37) ?wxb vb (vo + p * 43) ?wxc cs _ (unhide HR) Tryz.underlying38 ?wxd (unhide HI2) ?wxe); (case wxa => rfl); (case wxb => rfl); (case wxc => rfl); (case wxd => rfl)) | (go_at_call 24; refine (unhide HKO).mono ?_; rintro e w5 ⟨rfl, hb5⟩; have HU5 := hide (hu.later hb5); have lk := (unhide HU5).m.look hz.1 hz.2; obtain ⟨c0, f0⟩ := (unhide HU5).b.cell hlt2; have hz5 := (unhide HU5).b.lt; clear hb5 HKO))
          have HU6 := hide (((unhide HU5).set (unhide HQ)).later ((Below.refl _ (w5.setCell ⟨Wm.heap.size, p, none⟩ (.bool (!mK ks q.nm q.vr)))).alloc (Nat.le_refl _) (.cells #[] 74)))
          go_roundg (ps.length - (p + 1))
          case measure => omega
          case rel => exact ⟨p + 1, by go_num, by omega, by omega, HU6⟩
        · obtain rfl : p = ps.length := by omega
          go_wp2_with fail
          go_ret
          exact ⟨Wm.heap.size, rfl, Nat.le_of_lt hu.lo, hu.b, hu.bw⟩
end Go.Proofs.YtjnbnndocinicaaGreatDoor
namespace Go.Proofs.YtjnbnndocinicaaGreatDoor
open Go.RowKit Go.Maps Go.Sort

def orI (a b : Int) : Int := if a = 0 then b else a
theorem or_any {W : World} {g : Nat} {a b : Int} (h0 : W.cell? ⟨g, 0, none⟩ = some (.int .i64 a)) (h1 : W.cell? ⟨g, 1, none⟩ = some (.int .i64 b)) :
    Calls Tryz.prog 41 #[.slice (some ⟨g, 0, none⟩) 2 2] W fun e w' => e = .returned (.int .i64 (orI a b)) ∧ w' = W := by
  go_enter Tryz.func41, Tryz.ntmps41
  by_cases ha : a = 0
  · subst ha
    by_cases hb : b = 0
    · subst hb
      go_wp2
      refine wp_loop_rounds 3 ?_
      rw [rounds_succ]
      go_wp2
      rw [rounds_succ]
      go_wp2
      rw [rounds_succ]
      go_wp2
      go_ret
      exact ⟨rfl, rfl⟩
    · have hb2 : (b != 0) = true := by simpa using hb
      go_wp2
      refine wp_loop_rounds 2 ?_
      rw [rounds_succ]
      go_wp2
      rw [rounds_succ]
      go_wp2
      go_ret
      exact ⟨by unfold orI; rw [if_pos rfl]; rfl, rfl⟩
  · have ha2 : (a != 0) = true := by simpa using ha
    go_wp2
    refine wp_loop_rounds 1 ?_
    rw [rounds_succ]
    go_wp2
    go_ret
    exact ⟨by unfold orI; rw [if_neg ha]; rfl, rfl⟩
/-- HOW TWO KEYS ARE COMPARED. -/
def cK (x y : Nm × Nm) : Int := orI (cs x.1 y.1) (cs x.2 y.2)
structure B2 (w wr : World) (x y : Nm × Nm) : Prop where
  b0 : wr.heap[w.heap.size]? = some (.cells #[.string x.1, .string x.2] 40 (0, 0))
  b1 : wr.heap[w.heap.size + 1]? = some (.cells #[.string y.1, .string y.2] 40 (0, 0))
theorem B2.cells {w wr : World} {x y : Nm × Nm} (h : B2 w wr x y) : wr.cell? ⟨w.heap.size, 0, none⟩ = some (.string x.1) ∧ wr.cell? ⟨w.heap.size, 1, none⟩ = some (.string x.2) ∧ wr.cell? ⟨w.heap.size + 1, 0, none⟩ = some (.string y.1) ∧ wr.cell? ⟨w.heap.size + 1, 1, none⟩ = some (.string y.2) :=
  ⟨(cell_blk h.b0 0).1, (cell_blk h.b0 1).1, (cell_blk h.b1 0).1, (cell_blk h.b1 1).1⟩
theorem b2_new (w : World) (x y : Nm × Nm) : B2 w ((w.alloc (.cells #[.string x.1, .string x.2] 40)).alloc (.cells #[.string y.1, .string y.2] 40)) x y := by
  have z1 : (w.alloc (.cells #[.string x.1, .string x.2] 40)).heap.size = w.heap.size + 1 := World.size_alloc _ _
  have b2 : RowKit.Below (w.alloc (.cells #[.string x.1, .string x.2] 40)).heap.size (w.alloc (.cells #[.string x.1, .string x.2] 40)) ((w.alloc (.cells #[.string x.1, .string x.2] 40)).alloc (.cells #[.string y.1, .string y.2] 40)) := (Below.refl _ _).alloc (Nat.le_refl _) _
  refine ⟨(b2.block _ (by omega)).trans (World.alloc_heap_new w _), ?_⟩
  have := World.alloc_heap_new (w.alloc (.cells #[.string x.1, .string x.2] 40)) (.cells #[.string y.1, .string y.2] 40)
  rw [z1] at this
  exact this
set_option maxRecDepth 100000 in
set_option maxHeartbeats 4000000 in
theorem compareKeys_any (x y : Nm × Nm) (w : World) :
    Calls Tryz.prog 26 #[.agg #[.string x.1, .string x.2], .agg #[.string y.1, .string y.2]] w fun e w' => e = .returned (.int .i64 (cK x y)) ∧ ∃ q os', w' = grow (w.drewN q) os' := by
  have HB := hide (b2_new w x y)
  obtain ⟨X, hX⟩ : ∃ X, X = (w.alloc (.cells #[.string x.1, .string x.2] 40)).alloc (.cells #[.string y.1, .string y.2] 40) := ⟨_, rfl⟩
  rw [← hX] at HB
  have HS := hide (show ∀ Z : World, RowKit.Below X.heap.size X Z → Z.cell? ⟨w.heap.size, 0, none⟩ = some (.string x.1) ∧ Z.cell? ⟨w.heap.size, 1, none⟩ = some (.string x.2) ∧ Z.cell? ⟨w.heap.size + 1, 0, none⟩ = some (.string y.1) ∧ Z.cell? ⟨w.heap.size + 1, 1, none⟩ = some (.string y.2) from fun Z hZ => B2.cells ⟨(hZ.block _ (blk_lt (unhide HB).b0)).trans (unhide HB).b0, (hZ.block _ (blk_lt (unhide HB).b1)).trans (unhide HB).b1⟩)
  have HC1 := hide (cmpStr_any x.1 y.1 X.drew)
  have HC2 := hide (cmpStr_any x.2 y.2 X.drew)
  have HO := hide (show Calls Tryz.prog 41 #[.slice (some ⟨X.drew.heap.size, 0, none⟩) 2 2] (X.drew.alloc (.cells #[.int .i64 (cs x.1 y.1), .int .i64 (cs x.2 y.2)] 3)) fun e w' => e = .returned (.int .i64 (cK x y)) ∧ w' = X.drew.alloc (.cells #[.int .i64 (cs x.1 y.1), .int .i64 (cs x.2 y.2)] 3) from by
    have h := World.alloc_heap_new X.drew (.cells #[.int .i64 (cs x.1 y.1), .int .i64 (cs x.2 y.2)] 3)
    exact or_any ((cell_blk h 0).1.trans rfl) ((cell_blk h 1).1.trans rfl))
  have HE := hide (show ∃ q os', X.drew.alloc (.cells #[.int .i64 (cs x.1 y.1), .int .i64 (cs x.2 y.2)] 3) = grow (w.drewN q) os' from by
    refine ⟨1, #[.cells #[.string x.1, .string x.2] 40, .cells #[.string y.1, .string y.2] 40, .cells #[.int .i64 (cs x.1 y.1), .int .i64 (cs x.2 y.2)] 3], ?_⟩
    rw [alloc_eq_grow, hX, alloc_eq_grow, alloc_eq_grow, grow_grow]
    show grow (grow (w.drewN 1) _) _ = _
    rw [grow_grow]
    rfl)
  clear HB
  go_enter Tryz.func26, Tryz.ntmps26
  go_upto_region 1 with fail
  rw [← hX]
  clear hX
  refine wp_region_held_drew (S := fun w' => w'.cell? ⟨w.heap.size, 0, none⟩ = some (.string x.1) ∧ w'.cell? ⟨w.heap.size, 1, none⟩ = some (.string x.2) ∧ w'.cell? ⟨w.heap.size + 1, 0, none⟩ = some (.string y.1) ∧ w'.cell? ⟨w.heap.size + 1, 1, none⟩ = some (.string y.2)) (by kernel_rfl) ?_ (fun hHeld => ?_)
  · exact unhide HS _ (Below.refl _ _).drew
  refine wpAnyH_take (i := 0) (oi := { dst := some 5, op := Op.fieldAddr 40 (Operand.tmp 2) 0, type := 0, pos := "part.go:89", after := #[], guard := none }) (v := ?_) rfl (by kernel_rfl) (by kernel_rfl) (by kernel_rfl) (fun _ _ _ h => h) (Or.inl ⟨by rfl, ?_⟩) (by assumption) ?_
  rotate_left
  · intro w hSw; (try dsimp only at hSw); go_simp; (try with_reducible rfl)
  try simp only [Act.put, List.setIfInBounds_toArray, List.set_cons_zero, List.set_cons_succ]
  refine wpAnyH_take (i := 1) (oi := { dst := some 6, op := Op.load 9 (Operand.tmp 5), type := 9, pos := "part.go:89", after := #[{ on := 0, ground := Ground.data }], guard := none }) (v := ?_) rfl (by kernel_rfl) (by kernel_rfl) (by kernel_rfl) (fun _ _ _ h => h) (Or.inl ⟨by rfl, ?_⟩) (by assumption) ?_
  rotate_left
  · intro w hSw; (try dsimp only at hSw); go_simp; (try with_reducible rfl)
  try simp only [Act.put, List.setIfInBounds_toArray, List.set_cons_zero, List.set_cons_succ]
  refine wpAnyH_take (i := 2) (oi := { dst := some 7, op := Op.fieldAddr 40 (Operand.tmp 3) 0, type := 0, pos := "part.go:89", after := #[], guard := none }) (v := ?_) rfl (by kernel_rfl) (by kernel_rfl) (by kernel_rfl) (fun _ _ _ h => h) (Or.inl ⟨by rfl, ?_⟩) (by assumption) ?_
  rotate_left
  · intro w hSw; (try dsimp only at hSw); go_simp; (try with_reducible rfl)
  try simp only [Act.put, List.setIfInBounds_toArray, List.set_cons_zero, List.set_cons_succ]
  refine wpAnyH_take (i := 3) (oi := { dst := some 8, op := Op.load 9 (Operand.tmp 7), type := 9, pos := "part.go:89", after := #[{ on := 2, ground := Ground.data }], guard := none }) (v := ?_) rfl (by kernel_rfl) (by kernel_rfl) (by kernel_rfl) (fun _ _ _ h => h) (Or.inl ⟨by rfl, ?_⟩) (by assumption) ?_
  rotate_left
  · intro w hSw; (try dsimp only at hSw); go_simp; (try with_reducible rfl)
  try simp only [Act.put, List.setIfInBounds_toArray, List.set_cons_zero, List.set_cons_succ]
  refine wpAnyH_take (i := 5) (oi := { dst := some 10, op := Op.fieldAddr 40 (Operand.tmp 2) 1, type := 0, pos := "part.go:89", after := #[], guard := none }) (v := ?_) rfl (by kernel_rfl) (by kernel_rfl) (by kernel_rfl) (fun _ _ _ h => h) (Or.inl ⟨by rfl, ?_⟩) (by assumption) ?_
  rotate_left
  · intro w hSw; (try dsimp only at hSw); go_simp; (try with_reducible rfl)
  try simp only [Act.put, List.setIfInBounds_toArray, List.set_cons_zero, List.set_cons_succ]
  refine wpAnyH_take (i := 6) (oi := { dst := some 11, op := Op.load 9 (Operand.tmp 10), type := 9, pos := "part.go:89", after := #[{ on := 5, ground := Ground.data }], guard := none }) (v := ?_) rfl (by kernel_rfl) (by kernel_rfl) (by kernel_rfl) (fun _ _ _ h => h) (Or.inl ⟨by rfl, ?_⟩) (by assumption) ?_
  rotate_left
  · intro w hSw; (try dsimp only at hSw); go_simp; (try with_reducible rfl)
  try simp only [Act.put, List.setIfInBounds_toArray, List.set_cons_zero, List.set_cons_succ]
  refine wpAnyH_take (i := 7) (oi := { dst := some 12, op := Op.fieldAddr 40 (Operand.tmp 3) 1, type := 0, pos := "part.go:89", after := #[], guard := none }) (v := ?_) rfl (by kernel_rfl) (by kernel_rfl) (by kernel_rfl) (fun _ _ _ h => h) (Or.inl ⟨by rfl, ?_⟩) (by assumption) ?_
  rotate_left
  · intro w hSw; (try dsimp only at hSw); go_simp; (try with_reducible rfl)
  try simp only [Act.put, List.setIfInBounds_toArray, List.set_cons_zero, List.set_cons_succ]
  refine wpAnyH_take (i := 8) (oi := { dst := some 13, op := Op.load 9 (Operand.tmp 12), type := 9, pos := "part.go:89", after := #[{ on := 7, ground := Ground.data }], guard := none }) (v := ?_) rfl (by kernel_rfl) (by kernel_rfl) (by kernel_rfl) (fun _ _ _ h => h) (Or.inl ⟨by rfl, ?_⟩) (by assumption) ?_
  rotate_left
  · intro w hSw; (try dsimp only at hSw); go_simp; (try with_reducible rfl)
  try simp only [Act.put, List.setIfInBounds_toArray, List.set_cons_zero, List.set_cons_succ]
  refine wpAnyH_ready (rs := [4]) (by kernel_rfl) (by simp) ?_
  refine AllReadyH.cons (o := { dst := some 9, op := Op.call { callee := Callee.value (Operand.func 42), args := #[Operand.tmp 6, Operand.tmp 8], argTypes := #[9, 9] }, type := 3, pos := "part.go:89", after := #[{ on := 1, ground := Ground.data }, { on := 3, ground := Ground.data }], guard := none }) rfl (fun K hK => ?_) AllReadyH.nil
  go_simp
  refine (unhide HC1).mono ?_
  rintro e0 w0 ⟨rfl, rfl⟩
  go_wp2_with fail
  refine hK.out _ _ ?_ (fun hHeld => ?_)
  · exact unhide HS _ (Below.refl _ _).drew
  clear hK K
  try simp only [Act.put, List.setIfInBounds_toArray, List.set_cons_zero, List.set_cons_succ]
  refine wpAnyH_ready (rs := [9]) (by kernel_rfl) (by simp) ?_
  refine AllReadyH.cons (o := { dst := some 14, op := Op.call { callee := Callee.value (Operand.func 42), args := #[Operand.tmp 11, Operand.tmp 13], argTypes := #[9, 9] }, type := 3, pos := "part.go:89", after := #[{ on := 6, ground := Ground.data }, { on := 8, ground := Ground.data }, { on := 4, ground := Ground.chain }], guard := none }) rfl (fun K hK => ?_) AllReadyH.nil
  go_simp
  refine (unhide HC2).mono ?_
  rintro e0 w0 ⟨rfl, rfl⟩
  go_wp2_with fail
  refine hK.out _ _ ?_ (fun hHeld => ?_)
  · exact unhide HS _ (Below.refl _ _).drew
  clear hK K
  try simp only [Act.put, List.setIfInBounds_toArray, List.set_cons_zero, List.set_cons_succ]
  refine wpAnyH_ready (rs := [10]) (by kernel_rfl) (by simp) ?_
  refine AllReadyH.cons (o := { dst := some 15, op := Op.buildSlice 24 2 #[(0, Operand.tmp 9), (1, Operand.tmp 14)], type := 24, pos := "part.go:89", after := #[{ on := 4, ground := Ground.data }, { on := 9, ground := Ground.data }], guard := none }) rfl (fun K hK => ?_) AllReadyH.nil
  go_simp
  refine hK.out _ _ ?_ (fun hHeld => ?_)
  · exact unhide HS _ (((Below.refl _ X).drew).alloc (Nat.le_refl _) _)
  clear hK K
  try simp only [Act.put, List.setIfInBounds_toArray, List.set_cons_zero, List.set_cons_succ]
  refine wpAnyH_ready (rs := [11]) (by kernel_rfl) (by simp) ?_
  refine AllReadyH.cons (o := { dst := some 16, op := Op.call { callee := Callee.value (Operand.func 41), args := #[Operand.tmp 15], argTypes := #[24] }, type := 3, pos := "part.go:89", after := #[{ on := 10, ground := Ground.data }, { on := 9, ground := Ground.chain }], guard := none }) rfl (fun K hK => ?_) AllReadyH.nil
  go_simp
  refine (unhide HO).mono ?_
  rintro e0 w0 ⟨rfl, rfl⟩
  go_wp2_with fail
  refine hK.out _ _ ?_ (fun hHeld => ?_)
  · exact unhide HS _ (((Below.refl _ X).drew).alloc (Nat.le_refl _) _)
  clear hK K
  try simp only [Act.put, List.setIfInBounds_toArray, List.set_cons_zero, List.set_cons_succ]
  refine wpAnyH_take (i := 12) (oi := { dst := some 4, op := Op.assign (Operand.tmp 16), type := 3, pos := "part.go:89", after := #[{ on := 11, ground := Ground.data }, { on := 11, ground := Ground.chain }, { on := 0, ground := Ground.phase }, { on := 1, ground := Ground.phase }, { on := 2, ground := Ground.phase }, { on := 3, ground := Ground.phase }, { on := 4, ground := Ground.phase }, { on := 5, ground := Ground.phase }, { on := 6, ground := Ground.phase }, { on := 7, ground := Ground.phase }, { on := 8, ground := Ground.phase }, { on := 9, ground := Ground.phase }, { on := 10, ground := Ground.phase }, { on := 11, ground := Ground.phase }], guard := none }) (v := ?_) rfl (by kernel_rfl) (by kernel_rfl) (by kernel_rfl) (fun _ _ _ h => h) (Or.inl ⟨by rfl, ?_⟩) (by assumption) ?_
  rotate_left
  · intro w hSw; (try dsimp only at hSw); go_simp; (try with_reducible rfl)
  try simp only [Act.put, List.setIfInBounds_toArray, List.set_cons_zero, List.set_cons_succ]
  refine wpAnyH_done (by kernel_rfl) ?_ _
  go_wp2_with fail
  go_ret
  exact ⟨rfl, unhide HE⟩
end Go.Proofs.YtjnbnndocinicaaGreatDoor
/-
  DERIVED: THE SHELF's CONTRACTS AT THIS DUMP, IN PLAIN WORDS (tools/lay-plain.mjs out of 'TryShelf.lean', which tools/lay-shelf.mjs wrote): THE SAME DECLARATIONS UNDER THE SAME NAMES: 'import', 'namespace', 'open', 'def', 'theorem' AND NOTHING ELSE: no command of the shelf's: FOR A HAND-IN. Each laying: the table of numbers ('.._ren') and one theorem, a field a fact of the dump's own or the kernel's comparison; each contract: ONE APPLICATION.
-/
namespace Go.Proofs
open Go.Shelf
def Tryz.laysSF_ren : Go.Shelf.Ren := ⟨fun | 6 => 25 | 15 => 40 | 14 => 39 | 28 => 59 | 29 => 60 | 20 => 51 | 21 => 52 | 22 => 53 | 23 => 54 | 24 => 55 | 25 => 56 | 26 => 57 | 27 => 58 | 46 => 75 | 47 => 76 | 48 => 77 | 49 => 78 | 50 => 79 | 57 => 88 | n => n, fun | 22 => 31 | 24 => 40 | 25 => 69 | 3 => 3 | 39 => 94 | 0 => 0 | 53 => 117 | 55 => 119 | 4 => 4 | 46 => 110 | 45 => 109 | 50 => 114 | 5 => 5 | 9 => 9 | 66 => 133 | 70 => 137 | 76 => 147 | 77 => 148 | n => n, fun | n => n⟩
theorem Tryz.laysSF : Go.Proofs.SlLaysF0.n6 Tryz.prog Tryz.laysSF_ren := {
  mixed := by kernel_rfl
  f6 := ⟨Tryz.f25.name, by decide, Tryz.func25.trans (congrArg some (by kernel_rfl))⟩
  f14 := ⟨Tryz.f39.name, by decide, Tryz.func39.trans (congrArg some (by kernel_rfl))⟩
  f15 := Tryz.func40.trans (congrArg some (by kernel_rfl))
  f20 := ⟨Tryz.f51.name, by decide, Tryz.func51.trans (congrArg some (by kernel_rfl))⟩
  f21 := ⟨Tryz.f52.name, by decide, Tryz.func52.trans (congrArg some (by kernel_rfl))⟩
  f22 := ⟨Tryz.f53.name, by decide, Tryz.func53.trans (congrArg some (by kernel_rfl))⟩
  f23 := ⟨Tryz.f54.name, by decide, Tryz.func54.trans (congrArg some (by kernel_rfl))⟩
  f24 := ⟨Tryz.f55.name, by decide, Tryz.func55.trans (congrArg some (by kernel_rfl))⟩
  f25 := ⟨Tryz.f56.name, by decide, Tryz.func56.trans (congrArg some (by kernel_rfl))⟩
  f26 := ⟨Tryz.f57.name, by decide, Tryz.func57.trans (congrArg some (by kernel_rfl))⟩
  f27 := ⟨Tryz.f58.name, by decide, Tryz.func58.trans (congrArg some (by kernel_rfl))⟩
  f28 := Tryz.func59.trans (congrArg some (by kernel_rfl))
  f29 := Tryz.func60.trans (congrArg some (by kernel_rfl))
  f46 := ⟨Tryz.f75.name, by decide, Tryz.func75.trans (congrArg some (by kernel_rfl))⟩
  f47 := Tryz.func76.trans (congrArg some (by kernel_rfl))
  f48 := Tryz.func77.trans (congrArg some (by kernel_rfl))
  f49 := ⟨Tryz.f78.name, by decide, Tryz.func78.trans (congrArg some (by kernel_rfl))⟩
  f50 := ⟨Tryz.f79.name, by decide, Tryz.func79.trans (congrArg some (by kernel_rfl))⟩
  f57 := ⟨Tryz.f88.name, by decide, Tryz.func88.trans (congrArg some (by kernel_rfl))⟩
  t0 := Tryz.underlying0
  a0 := Tryz.isAgg0
  z0 := Tryz.sizeOf0
  v0 := Tryz.zeroValue0
  t3 := Tryz.underlying3
  a3 := Tryz.isAgg3
  z3 := Tryz.sizeOf3
  v3 := Tryz.zeroValue3
  t4 := Tryz.underlying4
  a4 := Tryz.isAgg4
  z4 := Tryz.sizeOf4
  v4 := Tryz.zeroValue4
  t5 := Tryz.underlying5
  a5 := Tryz.isAgg5
  z5 := Tryz.sizeOf5
  v5 := Tryz.zeroValue5
  t9 := Tryz.underlying9
  a9 := Tryz.isAgg9
  z9 := Tryz.sizeOf9
  v9 := Tryz.zeroValue9
  t22 := Tryz.underlying31
  a22 := Tryz.isAgg31
  z22 := Tryz.sizeOf31
  v22 := Tryz.zeroValue31
  t25 := Tryz.underlying69
  a25 := Tryz.isAgg69
  z25 := Tryz.sizeOf69
  v25 := Tryz.zeroValue69
  t39 := Tryz.underlying94
  a39 := Tryz.isAgg94
  z39 := Tryz.sizeOf94
  v39 := Tryz.zeroValue94
  t45 := Tryz.underlying109
  a45 := Tryz.isAgg109
  z45 := Tryz.sizeOf109
  v45 := Tryz.zeroValue109
  t46 := Tryz.underlying110
  a46 := Tryz.isAgg110
  z46 := Tryz.sizeOf110
  v46 := Tryz.zeroValue110
  t50 := Tryz.underlying114
  a50 := Tryz.isAgg114
  z50 := Tryz.sizeOf114
  v50 := Tryz.zeroValue114
  t53 := Tryz.underlying117
  a53 := Tryz.isAgg117
  z53 := Tryz.sizeOf117
  v53 := Tryz.zeroValue117
  t55 := Tryz.underlying119
  a55 := Tryz.isAgg119
  z55 := Tryz.sizeOf119
  v55 := Tryz.zeroValue119
  t66 := Tryz.underlying133
  a66 := Tryz.isAgg133
  z66 := Tryz.sizeOf133
  v66 := Tryz.zeroValue133
  t70 := Tryz.underlying137
  a70 := Tryz.isAgg137
  z70 := Tryz.sizeOf137
  v70 := Tryz.zeroValue137
  t76 := Tryz.underlying147
  a76 := Tryz.isAgg147
  z76 := Tryz.sizeOf147
  v76 := Tryz.zeroValue147
  t77 := Tryz.underlying148
  a77 := Tryz.isAgg148
  z77 := Tryz.sizeOf148
  v77 := Tryz.zeroValue148 }
end Go.Proofs
namespace Go.Proofs.YtjnbnndocinicaaGreatDoor
open Go.RowKit Go.Maps Go.Sort Go.Shelf

theorem bl_eq {a b : Nm} : a.toList = b.toList ↔ a = b := by
  rw [← toList_eq]
  exact ⟨fun h => by rw [h]; exact beq_self_eq_true _, fun h => by simpa using h⟩
theorem cs_neg {a b : Nm} : cs a b < 0 ↔ a.toList < b.toList := by
  unfold cs
  rw [bytesLess_eq]
  by_cases h : a.toList < b.toList
  · rw [if_pos (decide_eq_true h)]; exact ⟨fun _ => h, fun _ => by decide⟩
  · rw [if_neg (by simpa using h)]
    split
    · exact ⟨fun q => absurd q (by decide), fun q => absurd q h⟩
    · exact ⟨fun q => absurd q (by decide), fun q => absurd q h⟩
theorem cs_zero {a b : Nm} : cs a b = 0 ↔ a.toList = b.toList := by
  unfold cs
  rw [bytesLess_eq]
  by_cases h : a.toList < b.toList
  · rw [if_pos (decide_eq_true h)]
    exact ⟨fun q => absurd q (by decide), fun q => absurd h (by rw [q]; exact List.lt_irrefl _)⟩
  · rw [if_neg (by simpa using h)]
    by_cases e : a.toList = b.toList
    · rw [if_pos (by rw [e]; exact beq_self_eq_true _)]; exact ⟨fun _ => e, fun _ => rfl⟩
    · rw [if_neg (by simpa using e)]; exact ⟨fun q => absurd q (by decide), fun q => absurd q e⟩
/-- ONE KEY AHEAD OF ANOTHER. -/
def lx (x y : Nm × Nm) : Prop := x.1.toList < y.1.toList ∨ (x.1.toList = y.1.toList ∧ x.2.toList < y.2.toList)
theorem ltK {x y : Nm × Nm} : ltOf cK x y = true ↔ lx x y := by
  unfold ltOf cK orI lx
  rw [decide_eq_true_eq]
  by_cases h : cs x.1 y.1 = 0
  · rw [if_pos h, cs_neg]
    have e := cs_zero.1 h
    refine ⟨fun q => .inr ⟨e, q⟩, fun q => ?_⟩
    rcases q with q | q
    · rw [e] at q; exact absurd q (List.lt_irrefl _)
    · exact q.2
  · rw [if_neg h, cs_neg]
    refine ⟨.inl, fun q => ?_⟩
    rcases q with q | q
    · exact q
    · exact absurd (cs_zero.2 q.1) h
theorem nlx {x y : Nm × Nm} : ¬ lx x y ↔ y.1.toList ≤ x.1.toList ∧ (x.1.toList = y.1.toList → y.2.toList ≤ x.2.toList) := by
  unfold lx
  constructor
  · intro h
    exact ⟨List.not_lt.1 fun q => h (.inl q), fun e => List.not_lt.1 fun q => h (.inr ⟨e, q⟩)⟩
  · rintro ⟨h1, h2⟩ (q | ⟨e, q⟩)
    · exact List.not_lt.2 h1 q
    · exact List.not_lt.2 (h2 e) q
theorem ltK_false {x y : Nm × Nm} : ltOf cK x y = false ↔ ¬ lx x y := by
  rw [← ltK]
  cases ltOf cK x y <;> simp
theorem swoK : SWO (ltOf cK) where
  irrefl x := ltK_false.2 (nlx.2 ⟨List.le_refl _, fun _ => List.le_refl _⟩)
  trans x y z h1 h2 := by
    rw [ltK] at *
    rcases h1 with h1 | ⟨e1, h1⟩
    · rcases h2 with h2 | ⟨e2, h2⟩
      · exact .inl (List.lt_trans h1 h2)
      · exact .inl (by rw [← e2]; exact h1)
    · rcases h2 with h2 | ⟨e2, h2⟩
      · exact .inl (by rw [e1]; exact h2)
      · exact .inr ⟨e1.trans e2, List.lt_trans h1 h2⟩
  ntrans x y z h1 h2 := by
    rw [ltK_false, nlx] at *
    refine ⟨List.le_trans h2.1 h1.1, fun e => ?_⟩
    have e1 : x.1.toList = y.1.toList := List.le_antisymm (by rw [e]; exact h2.1) h1.1
    exact List.le_trans (h2.2 (e1.symm.trans e)) (h1.2 e1)
/-- THE CELLS OF KEYS. -/
def encK (x : Nm × Nm) : List Value := [.string x.1, .string x.2]
def kyC (L : List (Nm × Nm)) : List Value := (L.map encK).flatten
theorem kyC_at {x : Nm × Nm} : ∀ (L : List (Nm × Nm)) (i : Nat), L[i]? = some x → (kyC L)[i * 2]? = some (.string x.1) ∧ (kyC L)[i * 2 + 1]? = some (.string x.2)
  | [], i, h => by simp at h
  | y :: L, 0, h => by simp at h; subst h; exact ⟨rfl, rfl⟩
  | y :: L, i + 1, h => by
    have ih := kyC_at L i (by simpa using h)
    rw [show kyC (y :: L) = encK y ++ kyC L from rfl, show (i + 1) * 2 = (encK y).length + i * 2 from by show (i + 1) * 2 = 2 + i * 2; omega]
    rw [List.getElem?_append_right (by omega), Nat.add_assoc, List.getElem?_append_right (by omega), Nat.add_sub_cancel_left, Nat.add_sub_cancel_left]
    exact ih
theorem row_kyl {lo : Nat} {w : World} {u : Value} {L : List (Nm × Nm)} (h : w.ownsRow lo 40 2 u L.length (kyC L)) : Kyl w u L := by
  rcases h.2 with ⟨q1, q2⟩ | ⟨g, cap, cur, q1, q2, q3, _⟩
  · have hl : L = [] := List.length_eq_zero_iff.1 q2
    subst hl
    exact ⟨none, 0, q1, fun i x hx => by simp at hx⟩
  · refine ⟨some ⟨g, 0, none⟩, cap, q1, fun i x hx => ⟨g, 0, rfl, blk_lt q3, ?_⟩⟩
    have hc := h.cells (g := g) (by rw [q1]; rfl)
    obtain ⟨a, b⟩ := kyC_at L i hx
    have ha := hc _ _ a
    have hb := hc _ _ b
    rw [Addr.add_mid] at ha hb
    exact ⟨ha, hb⟩
theorem flat_kyC (L : List (Nm × Nm)) (j : Nat) (h : j < L.length * 2) : (kyC L)[j]? = some (flatK encK 2 L.toArray)[j]! := by
  rw [get_flatK encK 2 L.toArray j (by simpa using h)]
  have hj : j / 2 < L.length := by omega
  obtain ⟨a, b⟩ := kyC_at L (j / 2) (List.getElem?_eq_getElem hj)
  have e : L.toArray[j / 2]! = L[j / 2] := by rw [getElem!_pos _ _ (by simpa using hj)]; simp
  rw [e]
  rcases Nat.mod_two_eq_zero_or_one j with h0 | h1
  · rw [h0, show (kyC L)[j]? = (kyC L)[j / 2 * 2]? from congrArg (fun t => (kyC L)[t]?) (by omega)]; exact a
  · rw [h1, show (kyC L)[j]? = (kyC L)[j / 2 * 2 + 1]? from congrArg (fun t => (kyC L)[t]?) (by omega)]; exact b
set_option maxRecDepth 100000 in
/-- KEYS SORTED IN THEIR PLACE. -/
theorem sortK_any {W w2 : World} {u : Value} {L : List (Nm × Nm)} (hL : L.length ≤ 1048576) (hrow : w2.ownsRow W.heap.size 40 2 u L.length (kyC L)) (hb : RowKit.Below W.heap.size W w2) :
    Calls Tryz.prog 25 #[u, .func (.func 26) #[] #[]] w2 fun e w' => e = .returned (.tuple #[]) ∧ ∃ L', L'.Perm L ∧ L'.Pairwise (fun x y => ¬ lx y x) ∧ Kyl w' u L' ∧ RowKit.Below W.heap.size W w' := by
  rcases hrow.2 with ⟨q1, q2⟩ | ⟨g, cap, cur, q1, q2, q3, q4, q5, q6, q7⟩
  · have hl : L = [] := List.length_eq_zero_iff.1 q2
    subst hl
    rw [q1]
    refine (AnyF.slices_SortFunc_none Tryz.laysSF none 0 _ w2).mono ?_
    rintro e w' ⟨rfl, rfl⟩
    exact ⟨rfl, [], List.Perm.nil, List.Pairwise.nil, ⟨none, 0, rfl, fun i x hx => by simp at hx⟩, hb⟩
  · have hgl := blk_lt q3
    have hc := hrow.cells (g := g) (by rw [q1]; rfl)
    have hH : HoldsK encK 2 w2 g 0 L.toArray := fun j hj => by
      rw [size_flatK] at hj
      have hj2 : j < L.length * 2 := by simpa using hj
      have h1 := hc _ _ (flat_kyC L j hj2)
      rw [Addr.add_mid] at h1
      exact ⟨h1, (cell_blk q3 _).2⟩
    have eg : ∀ args w, (callFunc 26 args).run Tryz.prog w = .ok (.enter 26 args) w := enters_of Tryz.func26 (by kernel_rfl) rfl
    have hcon := AnyQ.slices_SortFunc Tryz.laysSF 2 Tryz.isAgg40 Tryz.sizeOf40 encK (fun _ => rfl) (fun x v hv => by simp [encK] at hv; rcases hv with rfl | rfl <;> rfl) cK swoK 26 #[] g 0 cap L.toArray w2 eg (fun _ _ _ _ x y => compareKeys_any x y _) hH hgl (by simp; omega)
    rw [q1]
    have hcon2 : Calls Tryz.prog 25 #[.slice (some ⟨g, 0, none⟩) L.length cap, .func (.func 26) #[] #[]] w2 _ := hcon
    refine hcon2.mono ?_
    rintro e w' ⟨rfl, d', n, os, hp, hs, rfl⟩
    have hsz : d'.size = L.length := by simpa using hp.1
    have hH2 : HoldsK encK 2 (sortWorldK encK 2 w2 g 0 n d' os) g 0 d' := by
      unfold sortWorldK
      have h1 : HoldsK encK 2 (putRowK encK 2 (Sort.ahead w2 n) g 0 d') g 0 d' := holdsK_putRowK encK 2 (Sort.ahead w2 n) g 0 L.toArray d' hH (by simpa using hsz)
      refine holdsK_grow encK 2 _ os g 0 d' ?_ h1
      unfold putRowK
      simpa using hgl
    have hgr : w2.grownBy (sortWorldK encK 2 w2 g 0 n d' os) (some g) := by
      unfold sortWorldK putRowK grow
      refine ⟨rfl, rfl, rfl, by simp [putRow, mapBlock, Sort.ahead], fun k hk hne => ?_⟩
      have hkg : g ≠ k := fun e => hne (by rw [e])
      have hk2 : k < (putRow id (Sort.ahead w2 n) g 0 (flatK encK 2 d')).heap.size := by simpa using hk
      show ((putRow id (Sort.ahead w2 n) g 0 (flatK encK 2 d')).heap ++ os)[k]? = w2.heap[k]?
      rw [Array.getElem?_append_left hk2]
      simp [putRow, mapBlock, Sort.ahead, Array.getElem?_modify, hkg]
    refine ⟨rfl, d'.toList, ?_, ?_, ?_, hb.grown hgr hb.size (fun j hj => by cases hj; exact q2)⟩
    · have h3 := hp.2.2
      rw [show L.toArray.size = d'.size from by simpa using hsz.symm] at h3
      rw [Array.extract_size] at h3
      have e4 : (L.toArray.extract 0 d'.size) = L.toArray := by rw [show d'.size = L.toArray.size from by simpa using hsz]; exact Array.extract_size
      rw [e4] at h3
      exact h3
    · rw [List.pairwise_iff_getElem]
      intro i j hi hj hij
      have hi2 : i < d'.size := by simpa using hi
      have hj2 : j < d'.size := by simpa using hj
      have := hs i j (Nat.zero_le _) hij (by simp; omega)
      rw [ltK_false, getElem!_pos d' j hj2, getElem!_pos d' i hi2] at this
      simpa using this
    · refine ⟨some ⟨g, 0, none⟩, cap, by rw [show d'.toList.length = L.length from by rw [Array.length_toList, hsz]], fun i x hx => ⟨g, 0, rfl, Nat.lt_of_lt_of_le hgl hgr.size, ?_⟩⟩
      obtain ⟨hi, rfl⟩ := List.getElem?_eq_some_iff.1 hx
      have hi2 : i < d'.size := by simpa using hi
      have h0 := (hH2.cell hi2 (show 0 < 2 by omega)).1
      have h1 := (hH2.cell hi2 (show 1 < 2 by omega)).1
      rw [getElem!_pos d' i hi2] at h0 h1
      exact ⟨h0, h1⟩
end Go.Proofs.YtjnbnndocinicaaGreatDoor
namespace Go.Proofs.YtjnbnndocinicaaGreatDoor
open Go.RowKit Go.Maps

theorem drewN_two (w : World) (a b : Nat) : (w.drewN a).drewN b = w.drewN (a + b) := by
  unfold World.drewN
  simp [Nat.add_assoc]
theorem guardK : Tryz.prog.eqGuardType Tryz.prog.depth 40 = false := by kernel_rfl
theorem eqK (x1 x2 y1 y2 : Nm) (w : World) : (Op.equalIn 10000 40 (.agg #[.string x1, .string x2]) (.agg #[.string y1, .string y2])).run Tryz.prog w = .ok (decide (x1 = y1) && decide (x2 = y2)) w := by
  have u9 := Tryz.underlying9
  have a9 := Tryz.isAgg9
  have z9 := Tryz.sizeOf9
  have hS : Tryz.prog.underlying 40 = some (.struct (Tryz.prog.fieldsOf 40)) := by kernel_rfl
  have hp : Tryz.prog.stoodInHeld 40 = false := by kernel_rfl
  rw [show (10000 : Nat) = 9999 + 1 from rfl, run_equalIn_agg w 9999 40 _ _ hS hp]
  simp only [Program.fieldsOf, Tryz.underlying40]
  go_simp
  by_cases h1 : x1 = y1 <;> by_cases h2 : x2 = y2 <;> simp [h1, h2, bl_eq]
set_option maxRecDepth 100000 in
set_option maxHeartbeats 2000000 in
/-- KEYS THAT DIFFER FROM THEIR NEIGHBOURS ARE LEFT. -/
theorem compactK_any {w : World} {u : Value} {L : List (Nm × Nm)} (hL : L.length ≤ 1048576) (h : Kyl w u L) (hd : ∀ i (hi : i + 1 < L.length), L[i + 1] ≠ L[i]) :
    Calls Tryz.prog 27 #[u] w fun e w' => e = .returned u ∧ RowKit.Below w.heap.size w w' := by
  obtain ⟨a, c, rfl⟩ : ∃ a c, u = .slice a L.length c := let ⟨a, c, e, _⟩ := h; ⟨a, c, e⟩
  have HP := hide (show ∀ i (hi : i < L.length), ∃ b o, a = some ⟨b, o, none⟩ ∧ w.cell? ⟨b, o + i * 2, none⟩ = some (.string L[i].1) ∧ w.cell? ⟨b, o + i * 2 + 1, none⟩ = some (.string L[i].2) from fun i hi => by
    obtain ⟨a2, c2, e, h2⟩ := h
    injection e with e
    obtain ⟨b, o, q1, _, q3, q4⟩ := h2 i L[i] (List.getElem?_eq_getElem hi)
    exact ⟨b, o, e.trans q1, q3, q4⟩)
  have HD := hide hd
  obtain ⟨N, hN⟩ : ∃ N, N = L.length := ⟨_, rfl⟩
  have HN := hide hN
  rw [← hN] at hL ⊢
  clear h hd hN
  go_enter Tryz.func27, Tryz.ntmps27
  by_cases h2 : N < 2
  · have h2i : (N : Int) < 2 := by omega
    go_wp2_with fail
    go_ret
    exact ⟨rfl, Below.refl _ _⟩
  · have h2i : ¬ (N : Int) < 2 := by omega
    go_wp2_with fail
    go_loopg [3] N (fun gq iv wr => ∃ i n : Nat, iv = .int .i64 i ∧ 1 ≤ i ∧ i ≤ N ∧ N - i ≤ gq ∧ wr = w.drewN n)
    case atStart => exact ⟨1, 0, by go_num, by omega, by omega, by omega, rfl⟩
    case round =>
      obtain ⟨i, n, rfl, hi1, hi, hg, rfl⟩ := hrel
      by_cases hlt : i < N
      · have hin : (i : Int) < (N : Int) := by omega
        have hil : i < L.length := by have := unhide HN; omega
        obtain ⟨k, hk⟩ : ∃ k, i = k + 1 := ⟨i - 1, by omega⟩
        have hkl : k < L.length := by omega
        obtain ⟨b, o, rfl, c0, c1⟩ := unhide HP i hil
        obtain ⟨b2, o2, e2, d0, d1⟩ := unhide HP k hkl
        cases e2
        have hne : L[i] ≠ L[k] := by subst hk; exact unhide HD k hil
        have hki : (k : Int) < (N : Int) := by omega
        have e1 : ((i : Int) - 1) = (k : Int) := by omega
        have hwk : IntKind.i64.wrap (k : Int) = (k : Int) := by rw [IntKind.wrap_i64]; omega
        generalize L[i] = x at *
        generalize L[k] = y at *
        obtain ⟨x1, x2⟩ := x
        obtain ⟨y1, y2⟩ := y
        simp only at c0 c1 d0 d1
        have heq : ∀ W, (Op.equalIn 10000 40 (.agg #[.string x1, .string x2]) (.agg #[.string y1, .string y2])).run Tryz.prog W = .ok false W := fun W => by
          rw [eqK]
          have : (decide (x1 = y1) && decide (x2 = y2)) = false := by
            by_cases h1 : x1 = y1
            · by_cases h3 : x2 = y2
              · exact absurd (by rw [h1, h3]) hne
              · rw [decide_eq_false h3, Bool.and_false]
            · rw [decide_eq_false h1, Bool.false_and]
          rw [this]
        have hgd := guardK
        clear hk hne
        go_wp2_with fail
        go_quiet (fail)
        clear heq hgd
        go_wp2_with fail
        go_roundg (N - (i + 1))
        case measure => omega
        case rel => exact ⟨i + 1, _, by go_num, by omega, by omega, by omega, by first | rfl | exact drewN_two w _ _⟩
      · obtain rfl : i = N := by omega
        go_wp2_with fail
        go_ret
        exact ⟨rfl, bl_drewN _ _⟩
end Go.Proofs.YtjnbnndocinicaaGreatDoor
namespace Go.Proofs.YtjnbnndocinicaaGreatDoor
open Go.RowKit Go.Maps

theorem lx_of {x y : Nm × Nm} (h : ¬ lx y x) (hne : x ≠ y) : lx x y := by
  rw [nlx] at h
  unfold lx
  by_cases e : x.1.toList = y.1.toList
  · refine .inr ⟨e, List.not_le.1 fun q => hne ?_⟩
    have e2 := List.le_antisymm (h.2 e.symm) q
    exact Prod.ext (bl_eq.1 e) (bl_eq.1 e2)
  · refine .inl (List.not_le.1 fun q => e (List.le_antisymm h.1 q))
theorem infoKY : (Tryz.prog.info? 40).map (fun i => (i.zero, i.size, i.bytes)) = some (some (.agg #[.string ⟨#[]⟩, .string ⟨#[]⟩]), 2, 32) := by kernel_rfl
/-- KEYS WHILE THEY ARE GATHERED. -/
structure Kw (W wr : World) (s : Value) (l : List (Nm × Nm)) : Prop where
  row : wr.ownsRow W.heap.size 40 2 s l.length (kyC l)
  bw : RowKit.Below W.heap.size W wr
theorem Kw.start (W : World) : Kw W W (.slice none 0 0) [] := ⟨⟨rfl, .inl ⟨rfl, rfl⟩⟩, Below.refl _ _⟩
theorem Kw.later {W wr w2 : World} {s : Value} {l : List (Nm × Nm)} (h : Kw W wr s l) (hb : RowKit.Below wr.heap.size wr w2) : Kw W w2 s l := ⟨own_same h.row fun b e => hb.block b (World.ownsRow.lt h.row b e).2, bl_t h.bw hb⟩
theorem kyC_snoc (l : List (Nm × Nm)) (x : Nm × Nm) : kyC (l ++ [x]) = kyC l ++ [.string x.1, .string x.2] := by
  unfold kyC
  rw [List.map_append, List.flatten_append]
  rfl
theorem Kw.grow {W wr w9 : World} {s v' : Value} {l : List (Nm × Nm)} {x : Nm × Nm} {o : Obj} (h : Kw W wr s l) (hown : w9.ownsRow W.heap.size 40 2 v' (l.length + 1) (kyC l ++ [.string x.1, .string x.2])) (hg : (wr.alloc o).grownBy w9 s.ownBlock) : Kw W w9 v' (l ++ [x]) := by
  refine ⟨?_, (h.bw.alloc h.bw.size o).grown hg ?_ fun j e => (World.ownsRow.lt h.row j e).1⟩
  · rw [List.length_append, kyC_snoc]
    exact hown
  · have := h.bw.size
    rw [World.size_alloc]
    omega
set_option maxRecDepth 100000 in
set_option maxHeartbeats 4000000 in
/-- WHO BREAKS, WHERE NO KEY STANDS TWICE. -/
theorem Breaks_any {w : World} {v u : Value} {ps : List Pk} {ks : List (Nm × Nm)} (sm : SmP ps) (pk : Pkl w v ps) (hk : Kyl w u ks) (hkl : ks.length ≤ 1048576) (hkz : ∀ x ∈ ks, x.1.size ≤ maxLen ∧ x.2.size ≤ maxLen) (hnd : ∀ (i j : Nat) (q r : Pk), ps[i]? = some q → ps[j]? = some r → i ≠ j → kyP q ≠ kyP r) (sel : Nat → Bool)
    (hsel : ∀ (p : Nat) (q : Pk), ps[p]? = some q → (sel p = true ↔ Lo ps (fun i => decide (i < ps.length)) (fun i => decide (i < ps.length) && lef ps ks i) p q)) :
    Calls Tryz.prog 11 #[v, u] w fun e w' => ∃ r L, e = .returned r ∧ Kyl w' r L ∧ L.length ≤ 1048576 ∧ L.Perm (((plL (fun i => decide (i < ps.length) && lef ps ks i) ps.length).filter sel).map fun p => kyP (pAt ps p)) ∧ L.Pairwise lx ∧ RowKit.Below w.heap.size w w' := by
  obtain ⟨i0, hi, hz0, hz1, hz2⟩ := info_parts2 infoKY
  obtain ⟨xs, hxs, hsim⟩ := sim_of pk (fun p hp => (sm.z p hp).2.1)
  obtain ⟨va, vc, rfl⟩ : ∃ a c, v = .slice a ps.length c := let ⟨a, c, e, _⟩ := pk; ⟨a, c, e⟩
  have hl := sm.l
  have htt := sm.tot hsim
  have C1 := hide (show ∀ X, RowKit.Below w.heap.size w X → Calls Tryz.prog 12 #[.slice va ps.length vc] X fun e w' => ∃ b1 b2, e = .returned (.agg #[.slice va ps.length vc, .map (some b1), .map (some b2)]) ∧ M2 (nmP xs xs.length) (pvP xs xs.length) w' b1 b2 ∧ RowKit.Below X.heap.size X w' from fun X hX => (setOf_any xs (.slice va ps.length vc) X (by rw [hsim.1]; omega) (by omega) (sm.sz hsim) (hxs.later hX)).mono fun e w' ⟨H1, k1, H2, k2, he, m1, m2, hb⟩ => ⟨_, _, he, ⟨_, H1, k1, H2, k2, m1, m2⟩, hb⟩)
  have HALL := hide (show ∀ X, RowKit.Below w.heap.size w X → Calls Tryz.prog 14 #[.slice va ps.length vc] X fun e w' => e = .returned (.slice (some ⟨X.heap.size + 1, 0, none⟩) ps.length ps.length) ∧ Bb w' (X.heap.size + 1) ps.length (fun i => decide (i < ps.length)) ∧ RowKit.Below X.heap.size X w' from fun X hX => allOf_own sm (pk.later hX))
  have HWI := hide (show ∀ X, RowKit.Below w.heap.size w X → Calls Tryz.prog 22 #[.slice va ps.length vc, u] X fun e w' => ∃ gi, e = .returned (.slice (some ⟨gi, 0, none⟩) ps.length ps.length) ∧ X.heap.size ≤ gi ∧ Bb w' gi ps.length (fun i => decide (i < ps.length) && lef ps ks i) ∧ RowKit.Below X.heap.size X w' from fun X hX => without_any sm (pk.later hX) (hk.later hX) hkl hkz)
  have HPL := hide (show ∀ X gi inn, Bb X gi ps.length inn → Calls Tryz.prog 15 #[.slice (some ⟨gi, 0, none⟩) ps.length ps.length] X fun e w' => ∃ u, e = .returned u ∧ w'.ownsRow X.heap.size 3 1 u (plL inn ps.length).length (ints (plL inn ps.length)) ∧ RowKit.Below X.heap.size X w' from fun X gi inn hb => places_any (by omega) hb.bls)
  have HLO := hide (show ∀ (X : World) (b1 b2 g1 g2 : Nat), RowKit.Below w.heap.size w X → M2 (nmP xs xs.length) (pvP xs xs.length) X b1 b2 → Bb X g1 ps.length (fun i => decide (i < ps.length)) → Bb X g2 ps.length (fun i => decide (i < ps.length) && lef ps ks i) → ∀ (p : Nat), p < ps.length → Calls Tryz.prog 23 #[.agg #[.slice va ps.length vc, .map (some b1), .map (some b2)], .int .i64 (p : Int), .slice (some ⟨g1, 0, none⟩) ps.length ps.length, .slice (some ⟨g2, 0, none⟩) ps.length ps.length] X fun e w' => e = .returned (.bool (sel p)) ∧ RowKit.Below X.heap.size X w' from fun X b1 b2 g1 g2 hX hM h1 h2 p hp => by
    obtain ⟨base, H1, k1, H2, k2, m1, m2⟩ := hM
    have hq := pAt_at (ps := ps) hp
    refine (loses_any _ _ m1 m2 (hxs.later hX) hsim sm (pk.later hX) h1.bls h2.bls hq).mono ?_
    rintro e w' ⟨b, rfl, hb, hB⟩
    have : b = sel p := by
      rw [Bool.eq_iff_iff]
      exact hb.trans (hsel p _ hq).symm
    exact ⟨by rw [this], hB⟩)
  have HPK := hide (show ∀ X, RowKit.Below w.heap.size w X → ∀ (p : Nat), p < ps.length → ∃ (vb vo : Nat) (cs : List Value), va = some ⟨vb, vo, none⟩ ∧ vb < X.heap.size ∧ X.rangeAt vb (vo + p * 43) cs ∧ (Tryz.prog.info? 38).map (·.size) = some cs.length ∧ ∀ Y, Calls Tryz.prog 24 #[.agg cs.toArray] Y fun e w' => e = .returned (.agg #[.string (kyP (pAt ps p)).1, .string (kyP (pAt ps p)).2]) ∧ Below Y.heap.size Y w' from fun X hX p hp => by
    obtain ⟨vb, vo, vc2, cs, d, r, c, pv, f, e, hvb, hr, hpc, _⟩ := (pk.later hX).at2 (pAt_at hp)
    injection e with e _ _
    exact ⟨vb, vo, cs, e, hvb, hr, by rw [hpc.len]; kernel_rfl, fun Y => keyOf_any cs _ _ Y hpc.c0 hpc.c1⟩)
  have HND := hide (show ∀ P : List Nat, P.Pairwise (· < ·) → (∀ p ∈ P, p < ps.length) → (P.map fun p => kyP (pAt ps p)).Nodup from fun P hP hlt => by
    refine List.pairwise_map.2 (List.Pairwise.imp_of_mem ?_ hP)
    intro a b ha hb hab
    exact hnd a b _ _ (pAt_at (hlt a ha)) (pAt_at (hlt b hb)) (by omega))
  have HRI := hide (show (plL (fun i => decide (i < ps.length) && lef ps ks i) ps.length).Pairwise (· < ·) ∧ ∀ p ∈ plL (fun i => decide (i < ps.length) && lef ps ks i) ps.length, p < ps.length from ⟨List.Pairwise.filter _ List.pairwise_lt_range, fun p hp => List.mem_range.1 (List.mem_filter.1 hp).1⟩)
  have hpl := plL_len (fun i => decide (i < ps.length) && lef ps ks i) ps.length
  clear sm pk hk hkl hkz hnd hsel hxs hsim htt
  generalize nmP xs xs.length = F1 at *
  generalize pvP xs xs.length = F2 at *
  go_enter Tryz.func11, Tryz.ntmps11
  go_wp2_with (first
    | (go_at_call 12; refine (unhide C1 _ (Below.refl _ _)).mono ?_; rintro e w1 ⟨b1, b2, rfl, hM, hb1⟩; obtain ⟨X, hX⟩ : ∃ W, W = w1.alloc (.cells #[.slice va ps.length vc, .map (some b1), .map (some b2)] 44) := ⟨_, rfl⟩; have HX := hide (show M2 F1 F2 X b1 b2 ∧ X.heap[w1.heap.size]? = some (.cells #[.slice va ps.length vc, .map (some b1), .map (some b2)] 44 (0, 0)) ∧ RowKit.Below w.heap.size w X from (by have h2 : RowKit.Below w1.heap.size w1 X := (by rw [hX]; exact (Below.refl _ w1).alloc (Nat.le_refl _) _); exact ⟨hM.mono fun j hj => h2.block j hj, by rw [hX]; exact World.alloc_heap_new w1 _, bl_t hb1 h2⟩)); clear hM hb1 C1)
    | (go_at_call 14; rw [← hX]; clear hX; refine (unhide HALL _ (unhide HX).2.2).mono ?_; rintro e w4 ⟨rfl, hbl, hb4⟩; have H4 := hide (And.intro hbl hb4); clear hbl hb4)
    | (go_at_call 22; refine (unhide HWI _ (bl_t (unhide HX).2.2 (unhide H4).2)).mono ?_; rintro e w5 ⟨g5, rfl, hg5, hbl5, hb5⟩; have H5 := hide (And.intro hbl5 hb5); clear hbl5 hb5)
    | (go_at_call 15; refine (unhide HPL _ _ _ (unhide H5).1).mono ?_; rintro e w6 ⟨u6, rfl, hu6, hb6⟩; obtain ⟨⟨la, ln, lk⟩, rfl, hln⟩ := slice_hd hu6; simp only at hln; subst hln; unfold hv; have H6 := hide (And.intro hu6 hb6); clear hu6 hb6))
  have HWW := hide (show (M2 F1 F2 w6 b1 b2 ∧ w6.heap[w1.heap.size]? = some (.cells #[.slice va ps.length vc, .map (some b1), .map (some b2)] 44 (0, 0)) ∧ RowKit.Below w.heap.size w w6) ∧ Bb w6 (X.heap.size + 1) ps.length (fun i => decide (i < ps.length)) ∧ Bb w6 g5 ps.length (fun i => decide (i < ps.length) && lef ps ks i) from by
    have b46 := bl_t (unhide H5).2 (unhide H6).2
    have bX6 := bl_t (unhide H4).2 b46
    exact ⟨⟨(unhide HX).1.mono fun j hj => bX6.block j hj, (bX6.block _ (blk_lt (unhide HX).2.1)).trans (unhide HX).2.1, bl_t (unhide HX).2.2 bX6⟩, (unhide H4).1.later b46, (unhide H5).1.later (unhide H6).2⟩)
  have HRW := hide (own_pl (unhide H6).1)
  clear HALL HWI HPL H4 H5 H6 HX hg5
  have HK0 := hide (Kw.start w6)
  generalize hPe : plL (fun i => decide (i < ps.length) && lef ps ks i) ps.length = P at *
  have HPE := hide hPe
  clear hPe
  obtain ⟨M, hM⟩ : ∃ M, M = P.length := ⟨_, rfl⟩
  have HM := hide hM
  rw [← hM] at hpl ⊢
  have HRW2 := hide (show Pl w5.heap.size w6 (.slice la M lk) P from by rw [hM]; exact unhide HRW)
  clear hM HRW
  go_wp2_with fail
  go_loopg [8, 10, 21] M (fun gq sv _ iv wr => ∃ j : Nat, iv = .int .i64 j ∧ j ≤ M ∧ M - j ≤ gq ∧ Hid (Kw w6 wr sv (((P.take j).filter sel).map fun p => kyP (pAt ps p))))
  case atStart => exact ⟨0, by go_num, by omega, by omega, HK0⟩
  case round =>
    clear HK0
    obtain ⟨j, rfl, hj, hgj, HW⟩ := hrel
    by_cases hlt : j < M
    · have hjn : (j : Int) < (M : Int) := by omega
      have hjl : j < P.length := by have := unhide HM; omega
      have bw6 := (unhide HW).bw
      obtain ⟨g, rfl, c0⟩ := (unhide HRW2).at bw6 (List.getElem?_eq_getElem hjl)
      have hp := (unhide HRI).2 P[j] (List.getElem_mem hjl)
      have hpn : (P[j] : Int) < (ps.length : Int) := by omega
      obtain ⟨⟨hM2, hS, hB⟩, hb1, hb2⟩ := unhide HWW
      have hbX := bl_t hB bw6
      have hblk := (bw6.block _ (blk_lt hS)).trans hS
      obtain ⟨s0, s1, s2, _, _, _⟩ := three hblk
      have CL := hide (unhide HLO wr b1 b2 _ _ hbX (hM2.mono fun k hk => bw6.block k hk) (hb1.later bw6) (hb2.later bw6) P[j] hp)
      have HTK := hide (show P.take (j + 1) = P.take j ++ [P[j]] from by rw [List.take_add_one, List.getElem?_eq_getElem hjl]; rfl)
      have hll : (((P.take j).filter sel).map fun p => kyP (pAt ps p)).length ≤ 262144 := by
        rw [List.length_map]
        refine Nat.le_trans (List.length_filter_le _ _) ?_
        rw [List.length_take]
        omega
      have HBX := hide hbX
      clear hM2 hS hB hb1 hb2 hblk bw6 hbX
      generalize P[j] = p at *
      cases hs : sel p with
      | false =>
        rw [hs] at CL
        have HF := hide (show ((P.take (j + 1)).filter sel).map (fun p => kyP (pAt ps p)) = ((P.take j).filter sel).map (fun p => kyP (pAt ps p)) from by rw [unhide HTK, List.filter_append, List.filter_cons, List.filter_nil, hs]; simp)
        go_wp2_with (go_at_call 23; refine (unhide CL).mono ?_; rintro e w7 ⟨rfl, hb7⟩; have HB7 := hide hb7; clear hb7 CL c0 s0 s1 s2)
        go_roundg (M - (j + 1))
        case measure => omega
        case rel => exact ⟨j + 1, by go_num, by omega, by omega, by rw [unhide HF]; exact hide ((unhide HW).later (unhide HB7))⟩
      | true =>
        rw [hs] at CL
        have HF := hide (show ((P.take (j + 1)).filter sel).map (fun p => kyP (pAt ps p)) = ((P.take j).filter sel).map (fun p => kyP (pAt ps p)) ++ [kyP (pAt ps p)] from by rw [unhide HTK, List.filter_append, List.filter_cons, List.filter_nil, hs]; simp)
        clear hs
        go_upto_region 8 with (go_at_call 23; refine (unhide CL).mono ?_; rintro e w7 ⟨rfl, hb7⟩; have HB7 := hide hb7; clear hb7 CL c0 s0 s1 s2)
        have hkw := (unhide HW).later (unhide HB7)
        obtain ⟨vb, vo, cs, rfl, hvb, hr, hinf, hko⟩ := unhide HPK w7 (bl_t (unhide HBX) (unhide HB7)) p hp
        have HKW := hide hkw
        have HR := hide hr
        have HI2 := hide hinf
        have HKO := hide (hko w7)
        generalize kyP (pAt ps p) = ky at *
        generalize ((P.take j).filter sel).map (fun p => kyP (pAt ps p)) = lq at *
        clear hr hinf hko hkw
        go_wp2_with (first
          | ((with_reducible refine wpList_load_p (op := { dst := some 34, op := Op.load 38 (Operand.tmp 33), type := 38, pos := "valid.go:81", after := #[{ on := 3, ground := Ground.data }], guard := none }) ?bxa 38 (.tmp 33) ?bxb vb (vo + p * 43) ?bxc cs _ (unhide HR) Tryz.underlying38 ?bxd (unhide HI2) ?bxe); (case bxa => rfl); (case bxb => rfl); (case bxc => rfl); (case bxd => rfl))
          | (go_at_call 24; refine (unhide HKO).mono ?_; rintro e w8 ⟨rfl, hb8⟩; have HK8 := hide ((unhide HKW).later hb8); have hz8 := (unhide HK8).bw.size; clear hb8 HKO)
          | (at_builtin; go_must (refine wpList_append_own _ rfl _ _ 31 rfl w6.heap.size 40 i0 (.agg #[.string ⟨#[]⟩, .string ⟨#[]⟩]) 2 32 Tryz.underlying31 hi hz0 hz1 hz2 rfl (by decide) _ _ _ rfl (own_same (unhide HK8).row fun b e => Below.heap_alloc _ _ _ (World.ownsRow.lt (unhide HK8).row b e).2) ⟨w8.heap.size, 0, none⟩ 1 1 [.string ky.1, .string ky.2] rfl rfl (fun k u hk => by rw [Addr.add_mid, Nat.zero_add, World.cell?_alloc_new]; simpa using hk) (fun u hu => by simp at hu; rcases hu with rfl | rfl <;> rfl) (by unfold maxLen; omega) (by omega) (by rw [World.size_alloc]; omega) ?_); intro v' w9 hown hgrow _; have HF9 := hide ((unhide HK8).grow hown hgrow); clear hown hgrow))
        go_roundg (M - (j + 1))
        case measure => omega
        case rel => exact ⟨j + 1, by go_num, by omega, by omega, by rw [unhide HF]; exact HF9⟩
    · obtain rfl : j = M := by omega
      have hkw := unhide HW
      rw [unhide HM, List.take_length] at hkw
      have hnd2 := unhide HND (P.filter sel) (List.Pairwise.filter _ (unhide HRI).1) (fun p hp => (unhide HRI).2 p (List.mem_filter.1 hp).1)
      have hlen : ((P.filter sel).map fun p => kyP (pAt ps p)).length ≤ 1048576 := by
        rw [List.length_map]
        have h1 := List.length_filter_le sel P
        have h2 := unhide HM
        omega
      generalize hLe : (P.filter sel).map (fun p => kyP (pAt ps p)) = L0 at *
      have HLE := hide hLe
      clear hLe
      have bw6 := (unhide HWW).1.2.2
      have CS := hide (sortK_any (W := w) hlen (row_lo2 hkw.row bw6.size) (bl_t bw6 hkw.bw))
      have HND2 := hide hnd2
      have HLEN := hide hlen
      clear hkw hnd2 hlen bw6 HW HWW HRW2 HLO HPK HND HRI
      go_wp2_with (first
        | (go_at_call 25; refine (unhide CS).mono ?_; rintro e w7 ⟨rfl, L, hp7, hs7, hk7, hb7⟩; have H7 := hide (show (L.Perm L0 ∧ L.Pairwise lx ∧ L.length ≤ 1048576) ∧ Kyl w7 _ L ∧ RowKit.Below w.heap.size w w7 from ⟨⟨hp7, (hs7.and ((hp7.nodup_iff).2 (unhide HND2))).imp (fun ⟨a, b⟩ => lx_of a b), by rw [hp7.length_eq]; exact unhide HLEN⟩, hk7, hb7⟩); have CC := hide (compactK_any (unhide H7).1.2.2 (unhide H7).2.1 (fun i hi2 e => by have := List.pairwise_iff_getElem.1 (unhide H7).1.2.1 i (i + 1) (by omega) hi2 (by omega); rw [e] at this; exact (nlx.2 ⟨List.le_refl _, fun _ => List.le_refl _⟩) this)); clear hp7 hs7 hk7 hb7 CS)
        | (go_at_call 27; refine (unhide CC).mono ?_; rintro e w8 ⟨rfl, hb8⟩; have H8 := hide hb8; clear hb8 CC))
      go_ret
      obtain ⟨⟨h1, h2, h3⟩, h4, h5⟩ := unhide H7
      exact ⟨_, L, rfl, h4.later (unhide H8), h3, by rw [unhide HPE, unhide HLE]; exact h1, h2, bl_t h5 (unhide H8)⟩
end Go.Proofs.YtjnbnndocinicaaGreatDoor
namespace Go.Proofs.YtjnbnndocinicaaGreatDoor
open Go.RowKit Go.Maps

/-- THE FLAGS OF THOSE THAT STAY. -/
def kpF (n : Nat) (fl : List Bool) : List Bool := (List.range n).map fun i => !(fl.getD i false)
theorem kpF_at {n : Nat} {fl : List Bool} {i : Nat} : (kpF n fl).getD i false = (decide (i < n) && !(fl.getD i false)) := by
  unfold kpF
  rw [List.getD_eq_getElem?_getD, List.getElem?_map]
  by_cases h : i < n
  · rw [List.getElem?_range h, decide_eq_true h]; rfl
  · rw [List.getElem?_eq_none (by simp; omega), decide_eq_false h]; rfl
/-- THE KEYS OF THOSE THAT GO. -/
def ouK (ps : List Pk) (fl : List Bool) : List (Nm × Nm) := (flP ps.length fl).map fun p => kyP (pAt ps p)
/-- NO NAME STANDS TWICE. -/
def Nm1 (ps : List Pk) : Prop := ∀ (i j : Nat) (q r : Pk), ps[i]? = some q → ps[j]? = some r → i ≠ j → q.nm ≠ r.nm
theorem Nm1.of {ps : List Pk} (h : Apt ps) : Nm1 ps := fun i j q r hq hr hne e => by
  rcases Nat.lt_or_gt_of_ne hne with l | l
  · exact (h j i r q hr hq).nm l (by first | exact e | exact e.symm)
  · exact (h i j q r hq hr).nm l (by first | exact e | exact e.symm)
theorem lef_eq {ps : List Pk} (h : Nm1 ps) (fl : List Bool) : (fun i => decide (i < ps.length) && lef ps (ouK ps fl) i) = (fun i => (kpF ps.length fl).getD i false) := by
  funext i
  rw [kpF_at]
  by_cases hi : i < ps.length
  · rw [decide_eq_true hi, Bool.true_and, Bool.true_and]
    unfold lef
    rw [pAt_at hi]
    simp only
    congr 1
    rw [Bool.eq_iff_iff, mK_iff]
    unfold ouK
    rw [List.mem_map]
    constructor
    · rintro ⟨p, hp, e⟩
      unfold flP at hp
      rw [List.mem_filter, List.mem_range] at hp
      have e2 : p = i := by
        refine Classical.byContradiction fun hne => h p i _ _ (pAt_at hp.1) (pAt_at hi) hne ?_
        exact congrArg Prod.fst e
      rw [← e2]; exact hp.2
    · intro hf
      exact ⟨i, by unfold flP; rw [List.mem_filter, List.mem_range]; exact ⟨hi, hf⟩, rfl⟩
  · rw [decide_eq_false hi, Bool.false_and, Bool.false_and]
/-- WHO LOSES A CLAUSE, IN A SET WHERE ALL ARE MET. -/
theorem lo_wh {ps : List Pk} (hc : Cld ps) (R : Nat → Bool) {p : Nat} {q : Pk} (hq : ps[p]? = some q) : Lo ps (fun i => decide (i < ps.length)) R p q ↔ ¬ Wh ps R p q := by
  have hall : ∀ (but : Int) (al : List At), imP ps (fun _ => true) but al = true → imP ps (fun i => decide (i < ps.length)) but al = true := fun but al hm => by
    obtain ⟨a, ha, x, h1, h2⟩ := imP_iff.1 hm
    exact imP_iff2.2 ⟨a, ha, x, h1, decide_eq_true (mP_lt h1), h2⟩
  have h1 := hc p q hq
  constructor
  · rintro (⟨al, ha, _, hf⟩ | ⟨al, ha, _, hf⟩) hw
    · rw [hw.1 al ha] at hf; cases hf
    · rw [hw.2 al ha] at hf; cases hf
  · intro hn
    refine Classical.byContradiction fun hno => hn ⟨fun al ha => ?_, fun al ha => ?_⟩
    · cases e : imP ps R (-1) al with
      | true => rfl
      | false => exact absurd (.inl ⟨al, ha, hall _ _ (h1.1 al ha), e⟩) hno
    · cases e : imP ps R (p : Int) al with
      | true => rfl
      | false => exact absurd (.inr ⟨al, ha, hall _ _ (h1.2 al ha), e⟩) hno
theorem sel_nil {ps : List Pk} (hc : Cld ps) (R : Nat → Bool) (sel : Nat → Bool) (hsel : ∀ (p : Nat) (q : Pk), ps[p]? = some q → (sel p = true ↔ Lo ps (fun i => decide (i < ps.length)) R p q)) : (plL R ps.length).filter sel = [] ↔ Clo ps R := by
  rw [List.filter_eq_nil_iff]
  constructor
  · intro h p q hq hr
    have hp := (List.getElem?_eq_some_iff.1 hq).1
    have := h p (List.mem_filter.2 ⟨List.mem_range.2 hp, hr⟩)
    refine Classical.byContradiction fun hn => this ((hsel p q hq).2 ((lo_wh hc R hq).2 hn))
  · intro h p hp hs
    obtain ⟨hp1, hp2⟩ := List.mem_filter.1 hp
    have hpl := List.mem_range.1 hp1
    exact (lo_wh hc R (pAt_at hpl)).1 ((hsel p _ (pAt_at hpl)).1 hs) (h p _ (pAt_at hpl) hp2)
/-- ONE KEY MORE. -/
theorem Kw.add {W X : World} {s : Value} {l : List (Nm × Nm)} (h : Kw W X s l) (hl : l.length ≤ 1048576) (x : Nm × Nm) (ty : TypeId) : ∃ (f' : Hd) (W2 : World), (Builtin.append_ #[31, 31] ty #[s, .slice (some ⟨X.heap.size, 0, none⟩) 1 1]).run Tryz.prog (X.alloc (.cells #[.string x.1, .string x.2] 40)) = .ok (.slice f'.a f'.n f'.c) W2 ∧ Kw W W2 (.slice f'.a f'.n f'.c) (l ++ [x]) := by
  obtain ⟨i0, hi, hz0, hz1, hz2⟩ := info_parts2 infoKY
  have b1 : RowKit.Below X.heap.size X (X.alloc (.cells #[.string x.1, .string x.2] 40)) := (Below.refl _ X).alloc (Nat.le_refl _) _
  have hbz := h.bw.size
  obtain ⟨v', W2, hr, ho, hg, _, _⟩ := run_append_own_at (P := Tryz.prog) (X.alloc (.cells #[.string x.1, .string x.2] 40)) W.heap.size 31 ty 40 i0 (.agg #[.string ⟨#[]⟩, .string ⟨#[]⟩]) 2 32 Tryz.underlying31 hi hz0 hz1 hz2 rfl (by decide) s l.length (kyC l) (own_same h.row fun b e => b1.block b (World.ownsRow.lt h.row b e).2) ⟨X.heap.size, 0, none⟩ 1 1 [.string x.1, .string x.2] rfl (fun k u hk => by rw [Addr.add_mid, Nat.zero_add, World.cell?_alloc_new]; simpa using hk) (fun u hu => by simp at hu; rcases hu with rfl | rfl <;> rfl) (by unfold maxLen; omega) (by omega) (by rw [World.size_alloc]; omega)
  obtain ⟨f', rfl, _⟩ := slice_hd ho
  exact ⟨f', W2, hr, h.grow ho hg⟩
/-- YES AND NO WHILE THEY ARE GATHERED. -/
structure Fw (W wr : World) (s : Value) (l : List Bool) : Prop where
  row : wr.ownsRow W.heap.size 4 1 s l.length (l.map Value.bool)
  bw : RowKit.Below W.heap.size W wr
theorem Fw.start (W : World) : Fw W W (.slice none 0 0) [] := ⟨⟨rfl, .inl ⟨rfl, rfl⟩⟩, Below.refl _ _⟩
theorem Fw.grow {W wr w9 : World} {s v' : Value} {l : List Bool} {x : Bool} {o : Obj} (h : Fw W wr s l) (hown : w9.ownsRow W.heap.size 4 1 v' (l.length + 1) (l.map Value.bool ++ [.bool x])) (hg : (wr.alloc o).grownBy w9 s.ownBlock) : Fw W w9 v' (l ++ [x]) := by
  refine ⟨?_, (h.bw.alloc h.bw.size o).grown hg ?_ fun j e => (World.ownsRow.lt h.row j e).1⟩
  · rw [List.length_append, List.map_append]
    exact hown
  · have := h.bw.size
    rw [World.size_alloc]
    omega
theorem Fw.bfl {W wr : World} {s : Value} {l : List Bool} (h : Fw W wr s l) : Bfl wr s l := by
  rcases h.row.2 with ⟨q1, q2⟩ | ⟨g, cap, cur, q1, q2, q3, _⟩
  · exact ⟨none, 0, by rw [q1, q2], fun h0 => by omega⟩
  · refine ⟨some ⟨g, 0, none⟩, cap, q1, fun _ => ⟨g, 0, rfl, blk_lt q3, fun i x hx => ?_⟩⟩
    have hc := h.row.cells (g := g) (by rw [q1]; rfl) i (.bool x) (by rw [List.getElem?_map, hx]; rfl)
    rw [Addr.add_mid] at hc
    exact hc
end Go.Proofs.YtjnbnndocinicaaGreatDoor
