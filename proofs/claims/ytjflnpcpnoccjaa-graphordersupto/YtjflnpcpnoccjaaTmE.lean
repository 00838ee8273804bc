import Derived.Test.YtjflnpcpnoccjaaTjP
import Derived.Test.YtjflnpcpnoccjaaTmD
import Derived.Test.YtjflnpcpnoccjaaHeC
import Derived.Test.YtjflnpcpnoccjaaTjH
namespace Go.Proofs.Ytjflnpcpnoccjaa
open Go.RowKit

/-- ROWS OF NUMBERS IN MEMORY BETWEEN lo AND hi. -/
def Rq (lo hi : Nat) (W : World) (pa : Option Addr) (N : Nat) (ln : Nat → Nat) (L : Nat → Nat → Int) : Prop := ∃ (ca : Nat → Option Addr) (cc : Nat → Nat), Rh lo hi W pa N (fun k => .slice (ca k) (ln k) (cc k)) ∧ ∀ k, k < N → Rh lo hi W (ca k) (ln k) (iv (L k))
theorem Rq.rr {lo hi : Nat} {W : World} {pa : Option Addr} {N : Nat} {ln : Nat → Nat} {L : Nat → Nat → Int} (h : Rq lo hi W pa N ln L) : Rr W pa N ln L := by
  obtain ⟨ca, cc, h1, h2⟩ := h
  exact ⟨ca, cc, h1.rv, fun k hk => (h2 k hk).rv⟩
theorem Rq.fx {P : Nat → Prop} {lo hi : Nat} {W W2 : World} {pa : Option Addr} {N : Nat} {ln : Nat → Nat} {L : Nat → Nat → Int} (h : Rq lo hi W pa N ln L) (f : Fx P W W2) (hp : ∀ b, lo ≤ b → b < hi → ¬ P b) : Rq lo hi W2 pa N ln L := by
  obtain ⟨ca, cc, h1, h2⟩ := h
  exact ⟨ca, cc, h1.fx f hp, fun k hk => (h2 k hk).fx f hp⟩
theorem Rq.later {lo hi : Nat} {W W2 : World} {pa : Option Addr} {N : Nat} {ln : Nat → Nat} {L : Nat → Nat → Int} (h : Rq lo hi W pa N ln L) (hb : Below W.heap.size W W2) : Rq lo hi W2 pa N ln L := h.fx (P := fun _ => False) (Fx.of hb) (fun _ _ _ q => q)
theorem Rh.low {lo lo2 hi : Nat} {W : World} {pa : Option Addr} {n : Nat} {F : Nat → Value} (h : Rh lo hi W pa n F) (hl : lo2 ≤ lo) : Rh lo2 hi W pa n F := fun h0 => by
  obtain ⟨b, o, h1, h2, h3⟩ := h h0
  exact ⟨b, o, h1, Nat.le_trans hl h2, h3⟩
theorem Rq.low {lo lo2 hi : Nat} {W : World} {pa : Option Addr} {N : Nat} {ln : Nat → Nat} {L : Nat → Nat → Int} (h : Rq lo hi W pa N ln L) (hl : lo2 ≤ lo) : Rq lo2 hi W pa N ln L := by
  obtain ⟨ca, cc, h1, h2⟩ := h
  exact ⟨ca, cc, h1.low hl, fun k hk => (h2 k hk).low hl⟩
theorem Rq.none (lo hi : Nat) (W : World) (pa : Option Addr) (ln : Nat → Nat) (L : Nat → Nat → Int) : Rq lo hi W pa 0 ln L := ⟨fun _ => .none, fun _ => 0, fun h => absurd h (Nat.lt_irrefl _), fun _ hk => absurd hk (Nat.not_lt_zero _)⟩
theorem Gs.rq {lo n R : Nat} {ls : Nat → List Nat} {ga : Nat → Option Addr} {gc : Nat → Nat} {W : World} (h : Gs lo n R ls ga gc W) : Rq R W.heap.size W (some ⟨R, 0, none⟩) n (fun v => (ls v).length) (fun v j => (((ls v).getD j 0 : Nat) : Int)) := by
  refine ⟨ga, gc, fun h0 => ⟨R, 0, rfl, Nat.le_refl _, h.row.lt, h.row.lt, fun i hi => by rw [Nat.zero_add]; exact (h.row.cell hi).1⟩, fun k hk => ?_⟩
  have h1 := h.own k hk
  rw [tV_vl, nI_len] at h1
  have h2 := (Rn.of_owns h1).rh.low (lo2 := R) (Nat.le_of_lt h.low.1)
  intro h0
  obtain ⟨b, o, e1, e2, e3, e4, e5⟩ := h2 h0
  refine ⟨b, o, e1, e2, e3, e4, fun i hi => ?_⟩
  rw [e5 i hi]
  unfold iv nI
  congr 1
  simp [hi]
/-- The parts told so far: lists of their own below H. -/
structure AlI (lo H k : Nat) (va : Option Addr) (vc : Nat) (ls : Nat → List Nat) (W : World) (ra : Nat → Option Addr) (rc : Nat → Nat) : Prop where
  own : W.ownsRow lo 23 1 (.slice va k vc) k (vl k fun i => .slice (ra i) (ls i).length (rc i))
  row : ∀ i, i < k → ∃ b, ra i = some ⟨b, 0, none⟩ ∧ lo ≤ b ∧ b < H ∧ (Value.slice va k vc).ownBlock ≠ some b ∧ ∀ j, j < (ls i).length → W.cell? ⟨b, j, none⟩ = some (.int .i64 (((ls i).getD j 0 : Nat) : Int))
  low : ∀ g, (Value.slice va k vc).ownBlock = some g → g < H
  siz : H ≤ W.heap.size
theorem AlI.start (lo : Nat) (ls : Nat → List Nat) {W : World} : AlI lo W.heap.size 0 none 0 ls W (fun _ => none) (fun _ => 0) := ⟨World.ownsRow_nil _ _ _ _, fun i hi => by omega, fun g e => (by cases e), Nat.le_refl _⟩
theorem AlI.same {lo H k : Nat} {va : Option Addr} {vc : Nat} {ls : Nat → List Nat} {W W2 : World} {ra : Nat → Option Addr} {rc : Nat → Nat} (h : AlI lo H k va vc ls W ra rc) (q : ∀ b, lo ≤ b → b < H → W2.heap[b]? = W.heap[b]?) (hs : W.heap.size ≤ W2.heap.size) : AlI lo H k va vc ls W2 ra rc := by
  refine ⟨own_same h.own fun b c t hb e => q b (h.own.lt b e).1 (h.low b e), fun i hi => ?_, h.low, Nat.le_trans h.siz hs⟩
  obtain ⟨b, e, l1, l2, ne, c⟩ := h.row i hi
  exact ⟨b, e, l1, l2, ne, fun j hj => (World.cell?_of_block (a := ⟨b, j, none⟩) (q b l1 l2)).trans (c j hj)⟩
theorem AlI.up {lo H k : Nat} {va : Option Addr} {vc : Nat} {ls : Nat → List Nat} {W : World} {ra : Nat → Option Addr} {rc : Nat → Nat} (h : AlI lo H k va vc ls W ra rc) : AlI lo W.heap.size k va vc ls W ra rc :=
  ⟨h.own, fun i hi => by
    obtain ⟨b, e, l1, l2, ne, c⟩ := h.row i hi
    exact ⟨b, e, l1, Nat.lt_of_lt_of_le l2 h.siz, ne, c⟩, fun g e => (h.own.lt g e).2, Nat.le_refl _⟩
theorem AlI.rr {lo H k : Nat} {va : Option Addr} {vc : Nat} {ls : Nat → List Nat} {W : World} {ra : Nat → Option Addr} {rc : Nat → Nat} (h : AlI lo H k va vc ls W ra rc) : Rr W va k (fun p => (ls p).length) (fun p j => (((ls p).getD j 0 : Nat) : Int)) :=
  ⟨ra, rc, Rv.of_owns h.own, fun i hi h0 => by
    obtain ⟨b, e, _, l2, _, c⟩ := h.row i hi
    exact ⟨b, 0, e, Nat.lt_of_lt_of_le l2 h.siz, fun j hj => by rw [Nat.zero_add]; exact c j hj⟩⟩
theorem AlI.rq {lo H k : Nat} {va : Option Addr} {vc : Nat} {ls : Nat → List Nat} {W : World} {ra : Nat → Option Addr} {rc : Nat → Nat} (h : AlI lo H k va vc ls W ra rc) : Rq lo W.heap.size W va k (fun p => (ls p).length) (fun p j => (((ls p).getD j 0 : Nat) : Int)) :=
  ⟨ra, rc, (Rn.of_owns h.own).rh, fun i hi h0 => by
    obtain ⟨b, e, l1, l2, _, c⟩ := h.row i hi
    exact ⟨b, 0, e, l1, Nat.lt_of_lt_of_le l2 h.siz, Nat.lt_of_lt_of_le l2 h.siz, fun j hj => by rw [Nat.zero_add]; exact c j hj⟩⟩
theorem AlI.next {lo H k : Nat} {va : Option Addr} {vc : Nat} {ls : Nat → List Nat} {W W9 : World} {ra : Nat → Option Addr} {rc : Nat → Nat} (h : AlI lo H k va vc ls W ra rc) {b rcap g cap : Nat} (hlo : lo ≤ b) (hb : b < W.heap.size) (hne : (Value.slice va k vc).ownBlock ≠ some b) (hc : ∀ j, j < (ls k).length → W.cell? ⟨b, j, none⟩ = some (.int .i64 (((ls k).getD j 0 : Nat) : Int)))
    (h4 : W9.ownsRow lo 23 1 (.slice (some ⟨g, 0, none⟩) (k + 1) cap) (k + 1) (vl k (fun i => .slice (ra i) (ls i).length (rc i)) ++ [.slice (some ⟨b, 0, none⟩) (ls k).length rcap])) (hg : W.grownBy W9 (Value.slice va k vc).ownBlock) (hat : (Value.slice va k vc).ownBlock = some g ∨ W.heap.size ≤ g) : ∃ ra2 rc2, AlI lo W9.heap.size (k + 1) (some ⟨g, 0, none⟩) cap ls W9 ra2 rc2 := by
  refine ⟨fun i => if i = k then some ⟨b, 0, none⟩ else ra i, fun i => if i = k then rcap else rc i, ?_, fun i hi => ?_, fun g2 e => ?_, Nat.le_refl _⟩
  · rw [vl_succ]
    try dsimp only
    rw [if_pos rfl, if_pos rfl, vl_congr (G := fun i => .slice (ra i) (ls i).length (rc i)) fun i hi => by rw [if_neg (by omega), if_neg (by omega)]]
    exact h4
  · have hno : ∀ b2, b2 < W.heap.size → (Value.slice va k vc).ownBlock ≠ some b2 → b2 < W9.heap.size ∧ (Value.slice (some ⟨g, 0, none⟩) (k + 1) cap).ownBlock ≠ some b2 := fun b2 l n => ⟨Nat.lt_of_lt_of_le l hg.size, fun e => by
      have e2 : g = b2 := by simpa [Value.ownBlock] using e
      rcases hat with q | q
      · exact n (by rw [q, e2])
      · omega⟩
    by_cases e : i = k
    · subst e
      obtain ⟨a1, a2⟩ := hno b hb hne
      exact ⟨b, by rw [if_pos rfl], hlo, a1, a2, fun j hj => (World.cell?_of_block (hg.block b hb (fun q => hne q.symm))).trans (hc j hj)⟩
    · obtain ⟨b2, e2, l1, l2, n2, c2⟩ := h.row i (by omega)
      have l3 := Nat.lt_of_lt_of_le l2 h.siz
      obtain ⟨a1, a2⟩ := hno b2 l3 n2
      exact ⟨b2, by rw [if_neg e]; exact e2, l1, a1, a2, fun j hj => (World.cell?_of_block (hg.block b2 l3 (fun q => n2 q.symm))).trans (c2 j hj)⟩
  · exact (h4.lt g2 e).2
theorem Rb.row {w0 : World} {pa : Option Addr} {n m : Nat} {q : Nat → Nat → Bool} (h : Rb w0 pa n m q) {k : Nat} (hk : k < n) : ∃ b o ca cc, pa = some ⟨b, o, none⟩ ∧ ∀ W, Below w0.heap.size w0 W → W.cell? ⟨b, o + k, none⟩ = some (.slice ca m cc) ∧ Rt W ca m (q k) := by
  obtain ⟨ca, cc, h1, h2⟩ := h
  obtain ⟨b, o, e, hl, hc⟩ := h1.at hk
  exact ⟨b, o, ca k, cc k, e, fun W hW => ⟨(hW.cell (p := ⟨b, o + k, none⟩) hl).trans hc, (h2 k hk).later hW⟩⟩
/-- Who has been told: those of a part whose first one lies before u, and, of u's, those before v. -/
noncomputable def dn (N : Nat) (ln : Nat → Nat) (L : Nat → Nat → Int) (u v x : Nat) : Bool := decide (fo (Mu N ln L) x < u) || (decide (x < v) && (rq N ln L u x && rq N ln L x u))
theorem rq_mu (N : Nat) (ln : Nat → Nat) (L : Nat → Nat → Int) (u x : Nat) : (rq N ln L u x && rq N ln L x u) = true ↔ Mu N ln L u x := by
  rw [Bool.and_eq_true, rq_iff, rq_iff]
theorem dn_next {N : Nat} {ln : Nat → Nat} {L : Nat → Nat → Int} {u v : Nat} (h : (rq N ln L u v && rq N ln L v u) = true) : (fun j => if j = v then Value.bool true else bv (dn N ln L u v) j) = bv (dn N ln L u (v + 1)) := by
  funext j
  unfold bv dn
  by_cases e : j = v
  · subst e
    rw [if_pos rfl, h]
    simp
  · rw [if_neg e]
    have : decide (j < v + 1) = decide (j < v) := by
      apply decide_eq_decide.2
      omega
    rw [this]
theorem dn_skip {N : Nat} {ln : Nat → Nat} {L : Nat → Nat → Int} {u v : Nat} (h : (rq N ln L u v && rq N ln L v u) = false) : dn N ln L u v = dn N ln L u (v + 1) := by
  funext j
  unfold dn
  by_cases e : j = v
  · subst e
    rw [h]
    simp
  · have : decide (j < v + 1) = decide (j < v) := by
      apply decide_eq_decide.2
      omega
    rw [this]
theorem fo_self {M : Nat → Nat → Prop} (hM : Kd M) {u : Nat} : nw M u ↔ fo M u = u := by
  obtain ⟨h1, h2, h3⟩ := fo_spec hM u
  constructor
  · intro h
    exact first_one hM h2 h3 (hM.refl u) h (hM.refl u)
  · intro h
    rw [h] at h3
    exact h3
theorem dn_full {N : Nat} {ln : Nat → Nat} {L : Nat → Nat → Int} {u x : Nat} (hu : nw (Mu N ln L) u) (hx : x < N) : dn N ln L u N x = decide (fo (Mu N ln L) x < u + 1) := by
  have hM := kd_mu N ln L
  obtain ⟨h1, h2, h3⟩ := fo_spec hM x
  unfold dn
  by_cases e : (rq N ln L u x && rq N ln L x u) = true
  · have hm := (rq_mu N ln L u x).1 e
    have : fo (Mu N ln L) x = u := first_one hM h2 h3 hm hu (hM.refl x)
    rw [e, this]
    simp [hx]
  · have e2 : (rq N ln L u x && rq N ln L x u) = false := by simpa using e
    have : fo (Mu N ln L) x ≠ u := fun q => e ((rq_mu N ln L u x).2 (by rw [q] at h2; exact h2))
    rw [e2]
    simp
    omega
theorem dn_none {N : Nat} {ln : Nat → Nat} {L : Nat → Nat → Int} {u x : Nat} (hu : ¬ nw (Mu N ln L) u) : decide (fo (Mu N ln L) x < u) = decide (fo (Mu N ln L) x < u + 1) := by
  obtain ⟨h1, h2, h3⟩ := fo_spec (kd_mu N ln L) x
  have : fo (Mu N ln L) x ≠ u := fun q => hu (by rw [q] at h3; exact h3)
  apply decide_eq_decide.2
  omega
theorem dn_zero {N : Nat} {ln : Nat → Nat} {L : Nat → Nat → Int} {u : Nat} (hu : nw (Mu N ln L) u) (x : Nat) : dn N ln L u u x = decide (fo (Mu N ln L) x < u) := by
  unfold dn
  by_cases e : x < u
  · have : (rq N ln L u x && rq N ln L x u) = false := by
      cases q : (rq N ln L u x && rq N ln L x u) with
      | false => rfl
      | true => exact absurd ((rq_mu N ln L u x).1 q) fun m => hu x e ⟨m.2, m.1⟩
    rw [this]
    simp
  · simp [e]
theorem pn_rq {N : Nat} {ln : Nat → Nat} {L : Nat → Nat → Int} (u x : Nat) : pn N ln L x = pn N ln L u ↔ (rq N ln L u x && rq N ln L x u) = true := by
  rw [rq_mu]
  exact ⟨fun h => no_inj (kd_mu N ln L) h.symm, fun h => (no_same (kd_mu N ln L) h).symm⟩
theorem ptL_first {N : Nat} {ln : Nat → Nat} {L : Nat → Nat → Int} {u : Nat} : ptL (pn N ln L) u (nds (Mu N ln L) u) = [] := by
  cases h : ptL (pn N ln L) u (nds (Mu N ln L) u) with
  | nil => rfl
  | cons x r =>
    have h1 := ptL_lt (f := pn N ln L) (k := u) (p := nds (Mu N ln L) u) (x := x) (by rw [h]; exact List.mem_cons_self)
    have h2 := no_lt (kd_mu N ln L) h1.1
    have h3 : no (Mu N ln L) x = nds (Mu N ln L) u := h1.2
    omega
end Go.Proofs.Ytjflnpcpnoccjaa

namespace Go.Proofs.Ytjflnpcpnoccjaa
open Go.RowKit

/-- Within one part. -/
structure Pi (N : Nat) (ln : Nat → Nat) (L : Nat → Nat → Int) (w2 : World) (dg H k u v : Nat) (va : Option Addr) (vc : Nat) (ra : Nat → Option Addr) (rc : Nat → Nat) (pa : Option Addr) (pm pcap : Nat) (W : World) : Prop where
  len : pm = (ptL (pn N ln L) v k).length
  own : W.ownsRow H 3 1 (.slice pa pm pcap) pm (tV (nI (ptL (pn N ln L) v k)))
  don : Mv dg N 4 (bv (dn N ln L u v)) W
  als : AlI (dg + 1) H k va vc (ptL (pn N ln L) N) W ra rc
  bel : Below w2.heap.size w2 W
  lt : dg < H
  ge : w2.heap.size ≤ dg
theorem Pi.skip {N : Nat} {ln : Nat → Nat} {L : Nat → Nat → Int} {w2 : World} {dg H k u v : Nat} {va : Option Addr} {vc : Nat} {ra : Nat → Option Addr} {rc : Nat → Nat} {pa : Option Addr} {pm pcap : Nat} {W : World} (h : Pi N ln L w2 dg H k u v va vc ra rc pa pm pcap W) (hk : pn N ln L u = k) (e : (rq N ln L u v && rq N ln L v u) = false) : Pi N ln L w2 dg H k u (v + 1) va vc ra rc pa pm pcap W := by
  have h1 : ptL (pn N ln L) (v + 1) k = ptL (pn N ln L) v k := by
    rw [ptL_succ, if_neg]
    intro q
    have := (pn_rq (N := N) (ln := ln) (L := L) u v).1 (q.trans hk.symm)
    rw [e] at this
    cases this
  exact ⟨by rw [h1]; exact h.len, by rw [h1]; exact h.own, by rw [← dn_skip e]; exact h.don, h.als, h.bel, h.lt, h.ge⟩
theorem Pi.took {N : Nat} {ln : Nat → Nat} {L : Nat → Nat → Int} {w2 : World} {dg H k u v : Nat} {va : Option Addr} {vc : Nat} {ra : Nat → Option Addr} {rc : Nat → Nat} {pa : Option Addr} {pm pcap : Nat} {W : World} (h : Pi N ln L w2 dg H k u v va vc ra rc pa pm pcap W) (hk : pn N ln L u = k) (e : (rq N ln L u v && rq N ln L v u) = true) (hv : v < N) {o : Obj} {W9 : World} {g cap : Nat} (hown : W9.ownsRow H 3 1 (.slice (some ⟨g, 0, none⟩) (pm + 1) cap) (pm + 1) (tV (nI (ptL (pn N ln L) v k)) ++ [.int .i64 (v : Int)])) (hg : (W.alloc o).grownBy W9 (Value.slice pa pm pcap).ownBlock) :
    (∃ old, W9.cell? ⟨dg, v, none⟩ = some old) ∧ W9.frozen? ⟨dg, v, none⟩ = false ∧ Pi N ln L w2 dg H k u (v + 1) va vc ra rc (some ⟨g, 0, none⟩) (pm + 1) cap (W9.setCell ⟨dg, v, none⟩ (.bool true)) := by
  have hge : ∀ j, (Value.slice pa pm pcap).ownBlock = some j → H ≤ j := fun j q => (h.own.lt j q).1
  have hsz := h.als.siz
  have hbl : ∀ b, b < H → W9.heap[b]? = W.heap[b]? := fun b hb => (hg.block b (by rw [World.size_alloc]; omega) (fun q => by have := hge b q.symm; omega)).trans ((al W o).block b (by omega))
  have hd9 := h.don.same (hbl dg h.lt)
  have hs9 : W.heap.size ≤ W9.heap.size := by
    have := hg.size
    rw [World.size_alloc] at this
    omega
  have h1 : ptL (pn N ln L) (v + 1) k = ptL (pn N ln L) v k ++ [v] := by
    rw [ptL_succ, if_pos (((pn_rq (N := N) (ln := ln) (L := L) u v).2 e).trans hk)]
  obtain ⟨cur, hc1, _⟩ := id hd9
  refine ⟨⟨_, (hd9.cell hv).1⟩, (hd9.cell hv).2, by rw [h1, List.length_append, h.len]; rfl, ?_, ?_, ?_, ?_, h.lt, h.ge⟩
  · rw [h1, nI_snoc, tV_snoc]
    exact own_set (by decide) hc1 hown
  · rw [← dn_next e]
    exact hd9.set hv _
  · refine h.als.same (fun b b1 b2 => ?_) (by rw [set_size]; exact hs9)
    rw [set_other _ _ _ _ _ (by omega)]
    exact hbl b b2
  · refine Below.setCell (p := ⟨dg, v, none⟩) ?_ h.ge _
    exact (bl_t h.bel (al W o)).grown hg (by rw [World.size_alloc]; have := h.bel.size; omega) (fun j q => by have := hge j q; have := h.lt; have := h.ge; omega)
theorem own_int {W : World} {lo n cap : Nat} {pa : Option Addr} {l : List Nat} (h : W.ownsRow lo 3 1 (.slice pa n cap) n (tV (nI l))) (hl : n = l.length) (hp : 0 < n) : ∃ g, pa = some ⟨g, 0, none⟩ ∧ lo ≤ g ∧ g < W.heap.size ∧ ∀ j, j < l.length → W.cell? ⟨g, j, none⟩ = some (.int .i64 ((l.getD j 0 : Nat) : Int)) := by
  subst hl
  have h0 := h
  rw [tV_vl, nI_len] at h0
  obtain ⟨b, o, e, _, hc⟩ := Rv.of_owns h0 hp
  rcases h.2 with ⟨q, _⟩ | ⟨g, cap2, cur, h1, _⟩
  · injection q with q1 q2 q3
    omega
  · injection h1 with h1 _ _
    subst h1
    injection e with e
    injection e with e1 e2 _
    subst e1
    subst e2
    refine ⟨g, rfl, (h.lt g rfl).1, (h.lt g rfl).2, fun j hj => ?_⟩
    have := hc j hj
    rw [Nat.zero_add] at this
    rw [this]
    unfold iv nI
    congr 1
    simp [hj]
theorem Pi.done {N : Nat} {ln : Nat → Nat} {L : Nat → Nat → Int} {w2 : World} {dg H k u : Nat} {va : Option Addr} {vc : Nat} {ra : Nat → Option Addr} {rc : Nat → Nat} {pa : Option Addr} {pm pcap : Nat} {W : World} (h : Pi N ln L w2 dg H k u N va vc ra rc pa pm pcap W) (hk : pn N ln L u = k) (hu : u < N) (hnw : nw (Mu N ln L) u) : ∃ pg, pa = some ⟨pg, 0, none⟩ ∧ (W.alloc (.cells #[.slice (some ⟨pg, 0, none⟩) pm pcap] 23)).ownsRow (dg + 1) 23 1 (.slice va k vc) k (vl k fun i => .slice (ra i) (ptL (pn N ln L) N i).length (rc i)) ∧
    ∀ (W9 : World) (g cap : Nat), W9.ownsRow (dg + 1) 23 1 (.slice (some ⟨g, 0, none⟩) (k + 1) cap) (k + 1) (vl k (fun i => .slice (ra i) (ptL (pn N ln L) N i).length (rc i)) ++ [.slice (some ⟨pg, 0, none⟩) pm pcap]) → (W.alloc (.cells #[.slice (some ⟨pg, 0, none⟩) pm pcap] 23)).grownBy W9 (Value.slice va k vc).ownBlock → ((Value.slice va k vc).ownBlock = some g ∨ g = (W.alloc (.cells #[.slice (some ⟨pg, 0, none⟩) pm pcap] 23)).heap.size) →
      (∃ ra2 rc2, AlI (dg + 1) W9.heap.size (k + 1) (some ⟨g, 0, none⟩) cap (ptL (pn N ln L) N) W9 ra2 rc2) ∧ Mv dg N 4 (bv fun x => decide (fo (Mu N ln L) x < u + 1)) W9 ∧ Below w2.heap.size w2 W9 := by
  have hpos : 0 < pm := by
    rw [h.len]
    have : u ∈ ptL (pn N ln L) N k := by
      unfold ptL
      simp [hu, hk]
    exact List.length_pos_of_mem this
  obtain ⟨pg, hpa, g1, g2, hc⟩ := own_int h.own h.len hpos
  have hal : AlI (dg + 1) H k va vc (ptL (pn N ln L) N) (W.alloc (.cells #[.slice (some ⟨pg, 0, none⟩) pm pcap] 23)) ra rc := h.als.same (fun b _ hb => (al W _).block b (by have := h.als.siz; omega)) (by rw [World.size_alloc]; omega)
  have hlt := h.lt
  refine ⟨pg, hpa, hal.own, fun W9 g cap h4 hg hat => ⟨?_, ?_, ?_⟩⟩
  · rw [h.len] at h4 hg hal hat
    exact hal.next (b := pg) (by omega) (by rw [World.size_alloc]; omega) (fun q => by have := h.als.low pg q; omega) (fun j hj => ((al W _).cell (p := ⟨pg, j, none⟩) g2).trans (hc j hj)) h4 hg (hat.imp id fun e => by rw [e]; exact Nat.le_refl _)
  · have hne : some dg ≠ (Value.slice va k vc).ownBlock := fun q => by
      have := (h.als.own.lt dg q.symm).1
      omega
    have hb1 := hg.block dg (by rw [World.size_alloc]; have := h.don.lt; omega) hne
    refine ((h.don.later (al W _)).same hb1).congr fun j hj => ?_
    unfold bv
    rw [dn_full hnw hj]
  · exact (bl_t h.bel (al W _)).grown hg (by rw [World.size_alloc]; have := h.bel.size; omega) (fun j q => by have := (h.als.own.lt j q).1; have := h.ge; omega)
set_option maxRecDepth 100000 in
set_option maxHeartbeats 8000000 in
theorem rParts_any {N : Nat} {ln : Nat → Nat} {L : Nat → Nat → Int} {na : Option Addr} {nc : Nat} {w : World} (hN : N ≤ 1048576) (hln : ∀ k, k < N → ln k ≤ 1048576) (hR : Rr w na N ln L) :
    Calls Try.prog 31 #[.slice na N nc] w fun x w' => ∃ ga gc, x = .returned (.tuple #[.slice ga (ptN N ln L) gc, .int .i64 (ptE N ln L)]) ∧ Rq w.heap.size w'.heap.size w' ga (ptN N ln L) (fun p => (ptL (pn N ln L) N p).length) (fun p j => (((ptL (pn N ln L) N p).getD j 0 : Nat) : Int)) ∧ Below w.heap.size w w' := by
  have c1 := hide (rRight_any N ln L na nc w (by omega) (fun k hk => by have := hln k hk; omega) hR)
  unfold ptN ptE
  cases hr : rgt N ln L with
  | false =>
    rw [hr] at c1
    rw [if_neg (by simp), if_neg (by simp)]
    clear hR hln
    go_enter Try.func31, Try.ntmps31
    go_wp2_with (go_at_call 46; refine (unhide c1).mono ?_; rintro x1 w1 ⟨rfl, hw1⟩; rw [hw1]; clear hw1 w1)
    go_ret2
    exact ⟨none, 0, rfl, Rq.none _ _ _ _ _ _, Below.refl _ _⟩
  | true =>
    rw [hr] at c1
    rw [if_pos rfl, if_pos rfl]
    obtain ⟨i0, hi0, hz0, hz1, hz2⟩ := info_parts infoI
    obtain ⟨iL, hiL, hzL0, hzL1, hzL2⟩ := info_parts infoL
    have mk := makeT N (by omega)
    have c2 := hide (rall_any (nc := nc) hr hN hln hR)
    clear hR hln hr
    go_enter Try.func31, Try.ntmps31
    go_wp2_with (first | (go_at_call 46; refine (unhide c1).mono ?_; rintro x1 w1 ⟨rfl, hw1⟩; rw [hw1]; clear hw1 w1) | (go_at_call 57; refine (unhide c2).mono ?_; rintro x2 w2 ⟨va0, vc0, rfl, q1, q2⟩; have HRB := hide q1; have HB2 := hide q2; clear q1 q2))
    clear c1 c2 mk
    obtain ⟨W0, hW0⟩ : ∃ W, W = w2.alloc (.cells (madeCells #[.bool false] N) 4) := ⟨_, rfl⟩
    rw [← hW0]
    have HM0 := hide (show Mv w2.heap.size N 4 (bv fun x => decide (fo (Mu N ln L) x < 0)) W0 from by rw [hW0]; exact ⟨_, heap_new _ _, fun k hk => by rw [made_at _ _ _ hk]; simp [bv]⟩)
    have HB0 := hide (show Below w2.heap.size w2 W0 from by rw [hW0]; exact al w2 _)
    have hs0 : W0.heap.size = w2.heap.size + 1 := by rw [hW0]; exact World.size_alloc _ _
    have HA0 := hide (AlI.start (w2.heap.size + 1) (ptL (pn N ln L) N) (W := W0))
    obtain ⟨dg, hdg⟩ : ∃ x, x = w2.heap.size := ⟨_, rfl⟩
    rw [← hdg]
    rw [← hdg] at HM0 HA0
    have HDG := hide hdg
    clear hW0 hs0 hdg
    go_loopg [7, 8, 9, 10] N (fun g1 vl_ vi _ _ wr => ∃ (u k : Nat) (va : Option Addr) (vc H : Nat) (ra : Nat → Option Addr) (rc : Nat → Nat), vi = .int .i64 u ∧ vl_ = .slice va k vc ∧ u ≤ N ∧ N - u ≤ g1 ∧ k ≤ u ∧ Hid (k = nds (Mu N ln L) u) ∧ Hid (Mv dg N 4 (bv fun x => decide (fo (Mu N ln L) x < u)) wr) ∧ Hid (AlI (dg + 1) H k va vc (ptL (pn N ln L) N) wr ra rc) ∧ Hid (Below w2.heap.size w2 wr))
    case atStart => exact ⟨0, 0, none, 0, _, _, _, by go_num, rfl, by omega, by omega, by omega, hide rfl, HM0, HA0, HB0⟩
    case round =>
      clear HM0 HA0 HB0
      obtain ⟨u, k, va, vc, H, ra, rc, rfl, rfl, hu, hg1, hku, HK, HM, HA, HB⟩ := hrel
      by_cases hlt : u < N
      · obtain ⟨cd, fd⟩ := (unhide HM).cell hlt
        have hlt2 : (u : Int) < (N : Int) := by omega
        by_cases hnw : nw (Mu N ln L) u
        · have hkn := unhide HK
          have hpk : pn N ln L u = k := by rw [hkn]; exact no_new (kd_mu N ln L) hnw
          have hdt : decide (fo (Mu N ln L) u < u) = false := by
            have h1 := (fo_self (kd_mu N ln L)).1 hnw
            simp
            omega
          have cd2 : wr.cell? ⟨dg, u, none⟩ = some (.bool false) := by rw [cd]; unfold bv; dsimp only; rw [hdt]
          have HP0 := hide (show Pi N ln L w2 dg wr.heap.size k u u va vc ra rc none 0 0 wr from by
            have hnil : ptL (pn N ln L) u k = [] := by rw [hkn]; exact ptL_first
            refine ⟨by rw [hnil]; rfl, by rw [hnil]; exact World.ownsRow_nil _ _ _ _, ?_, (unhide HA).up, unhide HB, (unhide HM).lt, Nat.le_of_eq (unhide HDG).symm⟩
            exact (unhide HM).congr fun j hj => by unfold bv; rw [dn_zero hnw])
          obtain ⟨H0, hH0⟩ : ∃ x, x = wr.heap.size := ⟨_, rfl⟩
          rw [← hH0] at HP0
          have HPK := hide hpk
          have HNW := hide hnw
          have HKN := hide hkn
          clear cd hdt HM HA HB hpk hnw hkn hH0 HK
          go_wp2_with fail
          go_loopg [9, 10] N (fun g2 vp vi wr => ∃ (v pm : Nat) (pa : Option Addr) (pcap : Nat), vi = .int .i64 v ∧ vp = .slice pa pm pcap ∧ u ≤ v ∧ v ≤ N ∧ N - v ≤ g2 ∧ pm ≤ v ∧ Hid (Pi N ln L w2 dg H0 k u v va vc ra rc pa pm pcap wr))
          case atStart => exact ⟨u, 0, none, 0, by go_num, rfl, by omega, by omega, by omega, by omega, HP0⟩
          case round =>
            clear HP0 cd2 fd
            obtain ⟨v, pm, pa, pcap, rfl, rfl, huv, hv, hg2, hpm, HP⟩ := hrel
            by_cases hvl : v < N
            · obtain ⟨rb, ro, ca, cc, e1, hrow1⟩ := (unhide HRB).row hlt
              obtain ⟨rb2, ro2, ca2, cc2, e2, hrow2⟩ := (unhide HRB).row hvl
              rw [e1] at e2
              injection e2 with e2
              injection e2 with e2 e3 _
              subst e2
              subst e3
              subst e1
              obtain ⟨r1, t1⟩ := hrow1 wr (unhide HP).bel
              obtain ⟨r2, t2⟩ := hrow2 wr (unhide HP).bel
              obtain ⟨b1, o1, rfl, _, c1⟩ := t1.at hvl
              obtain ⟨b2, o2, rfl, _, c2⟩ := t2.at hlt
              unfold bv at c1 c2
              have hvl2 : (v : Int) < (N : Int) := by omega
              clear hrow1 hrow2 t1 t2
              have hsw : H0 ≤ wr.heap.size := (unhide HP).als.siz
              have HSK := hide (fun (e : (rq N ln L u v && rq N ln L v u) = false) => (unhide HP).skip (unhide HPK) e)
              have HTK := hide (fun (e : (rq N ln L u v && rq N ln L v u) = true) (o : Obj) (W9 : World) (g cap : Nat) h1 h2 => (unhide HP).took (unhide HPK) e hvl (o := o) (W9 := W9) (g := g) (cap := cap) h1 h2)
              have HOW := hide (show (wr.alloc (.cells #[.int .i64 (v : Int)] 3)).ownsRow H0 3 1 (.slice pa pm pcap) pm (tV (nI (ptL (pn N ln L) v k))) from (unhide HP).own.alloc _)
              cases hq1 : rq N ln L u v with
              | false =>
                rw [hq1] at c1 HSK
                have HP2 := hide (unhide HSK rfl)
                clear HSK HTK HOW HP
                go_wp2_with fail
                go_roundg (N - (v + 1))
                case measure => omega
                case rel => exact ⟨v + 1, pm, pa, pcap, by go_num, rfl, by omega, by omega, by omega, by omega, HP2⟩
              | true =>
                cases hq2 : rq N ln L v u with
                | false =>
                  rw [hq1] at c1 HSK
                  rw [hq2] at c2 HSK
                  have HP2 := hide (unhide HSK rfl)
                  clear HSK HTK HOW HP
                  go_wp2_with fail
                  go_roundg (N - (v + 1))
                  case measure => omega
                  case rel => exact ⟨v + 1, pm, pa, pcap, by go_num, rfl, by omega, by omega, by omega, by omega, HP2⟩
                | true =>
                  rw [hq1] at c1 HTK
                  rw [hq2] at c2 HTK
                  clear HSK HP
                  go_wp2_with (at_builtin; go_must (refine wpList_append_lies _ rfl _ _ 23 rfl H0 3 i0 (.int .i64 0) 1 8 Try.underlying23 hi0 hz0 hz1 hz2 rfl (by decide) (.slice pa pm pcap) pm (tV (nI (ptL (pn N ln L) v k))) rfl (unhide HOW) ⟨wr.heap.size, 0, none⟩ 1 1 [.int .i64 (v : Int)] rfl rfl (cell_one_new _ _ _) (by simp [Value.oneCell']) (by decide) (by unfold maxLen; omega) (by omega) (by simp; omega) _ rfl ?_); intro gg c9 w9 hown hgrow hat _; obtain ⟨⟨old, co⟩, fo9, hp9⟩ := unhide HTK rfl _ w9 gg c9 hown hgrow; have HP9 := hide hp9; clear hown hgrow hat hp9)
                  go_roundg (N - (v + 1))
                  case measure => omega
                  case rel => exact ⟨v + 1, pm + 1, _, c9, by go_num, rfl, by omega, by omega, by omega, by omega, HP9⟩
            · obtain rfl : v = N := by omega
              obtain ⟨pg, rfl, ho2, hdone⟩ := (unhide HP).done (unhide HPK) hlt (unhide HNW)
              have HO2 := hide ho2
              have HDN := hide hdone
              have hsw : dg + 1 ≤ wr.heap.size := by have := (unhide HP).als.siz; have := (unhide HP).lt; omega
              have HK9 := hide (show k + 1 = nds (Mu v ln L) (u + 1) from by rw [nds_new (unhide HNW), ← unhide HKN])
              clear ho2 hdone HP
              go_wp2_with (at_builtin; go_must (refine wpList_append_lies _ rfl _ _ 22 rfl (dg + 1) 23 iL (.slice none 0 0) 1 24 Try.underlying22 hiL hzL0 hzL1 hzL2 rfl (by decide) (.slice va k vc) k (vl k fun i => .slice (ra i) (ptL (pn v ln L) v i).length (rc i)) rfl (unhide HO2) ⟨wr.heap.size, 0, none⟩ 1 1 [.slice (some ⟨pg, 0, none⟩) pm pcap] rfl rfl (cell_one_new _ _ _) (by simp [Value.oneCell']) (by decide) (by unfold maxLen; omega) (by omega) (by simp; omega) _ rfl ?_); intro gg c9 w9 hown hgrow hat _; obtain ⟨⟨ra9, rc9, ha9⟩, hm9, hb9⟩ := unhide HDN w9 gg c9 hown hgrow hat; have HA9 := hide ha9; have HM9 := hide hm9; have HB9 := hide hb9; clear hown hgrow hat ha9 hm9 hb9)
              go_roundg (v - (u + 1))
              case measure => omega
              case rel => exact ⟨u + 1, k + 1, _, c9, _, ra9, rc9, by go_num, rfl, by omega, by omega, by omega, HK9, HM9, HA9, HB9⟩
        · have hdt : decide (fo (Mu N ln L) u < u) = true := by
            have h1 := (fo_spec (kd_mu N ln L) u).1
            have h2 : fo (Mu N ln L) u ≠ u := fun q => hnw ((fo_self (kd_mu N ln L)).2 q)
            simp
            omega
          have cd2 : wr.cell? ⟨dg, u, none⟩ = some (.bool true) := by rw [cd]; unfold bv; dsimp only; rw [hdt]
          have HM2 := hide (show Mv dg N 4 (bv fun x => decide (fo (Mu N ln L) x < u + 1)) wr from (unhide HM).congr fun j hj => by unfold bv; dsimp only; rw [dn_none hnw])
          have HK2 := hide (show k = nds (Mu N ln L) (u + 1) from by rw [nds_old hnw]; exact unhide HK)
          clear cd hdt HM HK
          go_wp2_with fail
          go_roundg (N - (u + 1))
          case measure => omega
          case rel => exact ⟨u + 1, k, va, vc, H, ra, rc, by go_num, rfl, by omega, by omega, by omega, HK2, HM2, HA, HB⟩
      · obtain rfl : u = N := by omega
        have HX := hide (show Rq w.heap.size wr.heap.size wr va (pc u ln L) _ _ from (show k = pc u ln L from unhide HK) ▸ ((unhide HA).rq.low (lo2 := w.heap.size) (by have := unhide HDG; have := (unhide HB2).size; omega)))
        have HKP := hide (show k = pc u ln L from unhide HK)
        clear HM HA HK
        go_wp2_with fail
        go_ret2
        exact ⟨va, vc, by rw [← unhide HKP]; rfl, unhide HX, bl_t (unhide HB2) (unhide HB)⟩
end Go.Proofs.Ytjflnpcpnoccjaa

namespace Go.Proofs.Ytjflnpcpnoccjaa
open Go.RowKit

open Classical in
/-- What is told of the nodes behind p parts and i nodes of the next. -/
noncomputable def ofv (N : Nat) (ln : Nat → Nat) (L : Nat → Nat → Int) (p i x : Nat) : Int := if pn N ln L x < p ∨ x ∈ (ptL (pn N ln L) N p).take i then (pn N ln L x : Int) else 0
theorem ofv_next {N : Nat} {ln : Nat → Nat} {L : Nat → Nat → Int} {p i x : Nat} (h : (ptL (pn N ln L) N p)[i]? = some x) : (fun j => if j = x then Value.int .i64 (p : Int) else iv (ofv N ln L p i) j) = iv (ofv N ln L p (i + 1)) := by
  have hx := ptL_lt (List.mem_of_getElem? h)
  funext j
  unfold iv ofv
  rw [List.take_add_one, h]
  by_cases e : j = x
  · subst e
    rw [if_pos rfl, if_pos (.inr (by simp)), hx.2]
  · rw [if_neg e]
    have : (j ∈ (ptL (pn N ln L) N p).take i ++ (some x).toList) ↔ j ∈ (ptL (pn N ln L) N p).take i := by
      simp [e]
    simp only [this]
theorem ofv_row (N : Nat) (ln : Nat → Nat) (L : Nat → Nat → Int) (p x : Nat) (hx : x < N) : ofv N ln L p (ptL (pn N ln L) N p).length x = ofv N ln L (p + 1) 0 x := by
  unfold ofv
  have : (pn N ln L x < p ∨ x ∈ (ptL (pn N ln L) N p).take (ptL (pn N ln L) N p).length) ↔ (pn N ln L x < p + 1 ∨ x ∈ (ptL (pn N ln L) N (p + 1)).take 0) := by
    rw [List.take_length]
    constructor
    · rintro (q | q)
      · exact .inl (by omega)
      · have := (ptL_lt q).2
        exact .inl (by omega)
    · rintro (q | q)
      · by_cases e : pn N ln L x = p
        · exact .inr (by unfold ptL; simp [hx, e])
        · exact .inl (by omega)
      · simp at q
  simp only [this]
theorem ofv_end (N : Nat) (ln : Nat → Nat) (L : Nat → Nat → Int) (x : Nat) (hx : x < N) : ofv N ln L (pc N ln L) 0 x = (pn N ln L x : Int) := by
  unfold ofv
  rw [if_pos (.inl (pn_lt N ln L hx))]
set_option maxRecDepth 100000 in
set_option maxHeartbeats 8000000 in
theorem rPartOf_any {N : Nat} {ln : Nat → Nat} {L : Nat → Nat → Int} {na : Option Addr} {nc : Nat} {w : World} (hN : N ≤ 1048576) (hln : ∀ k, k < N → ln k ≤ 1048576) (hR : Rr w na N ln L) :
    Calls Try.prog 33 #[.slice na N nc] w fun x w' => ∃ ga gc, x = .returned (.tuple #[.slice ga (poN N ln L) gc, .int .i64 (ptE N ln L)]) ∧ Rh w.heap.size w'.heap.size w' ga (poN N ln L) (iv fun j => (pn N ln L j : Int)) ∧ Below w.heap.size w w' := by
  have c1 := hide (rParts_any (nc := nc) hN hln hR)
  unfold poN
  unfold ptN ptE at *
  cases hr : rgt N ln L with
  | false =>
    rw [hr] at c1
    rw [if_neg (by simp), if_neg (by simp)] at *
    clear hR hln
    go_enter Try.func33, Try.ntmps33
    go_wp2_with (go_at_call 31; refine (unhide c1).mono ?_; rintro x1 w1 ⟨ga, gc, rfl, q1, q2⟩; have HB := hide q2; clear q1 q2)
    go_ret2
    exact ⟨none, 0, rfl, fun h => absurd h (by omega), unhide HB⟩
  | true =>
    rw [hr] at c1
    rw [if_pos rfl, if_pos rfl] at *
    have mk := makeI N (by omega)
    have hpc := pc_le N ln L
    have hend := ofv_end N ln L
    have HEND := hide hend
    clear hR hln hr hend
    generalize hpp : pc N ln L = P at *
    have HPP := hide hpp
    clear hpp
    go_enter Try.func33, Try.ntmps33
    go_wp2_with (go_at_call 31; refine (unhide c1).mono ?_; rintro x1 w1 ⟨va, vc, rfl, q1, q2⟩; have HRR := hide q1; have HB1 := hide q2; clear q1 q2)
    clear c1 mk
    obtain ⟨W0, hW0⟩ : ∃ W, W = w1.alloc (.cells (madeCells #[.int .i64 0] N) 3) := ⟨_, rfl⟩
    rw [← hW0]
    have HM0 := hide (show Mv w1.heap.size N 3 (iv (ofv N ln L 0 0)) W0 from by rw [hW0]; exact ⟨_, heap_new _ _, fun k hk => by rw [made_at _ _ _ hk]; unfold iv ofv; rw [if_neg (by simp)]⟩)
    have HB0 := hide (show Below w1.heap.size w1 W0 from by rw [hW0]; exact al w1 _)
    obtain ⟨dg, hdg⟩ : ∃ x, x = w1.heap.size := ⟨_, rfl⟩
    rw [← hdg]
    rw [← hdg] at HM0
    have HDG := hide (show w1.heap.size ≤ dg from by omega)
    clear hW0 hdg
    go_loopg [7, 8] P (fun g1 vi _ wr => ∃ p : Nat, vi = .int .i64 p ∧ p ≤ P ∧ P - p ≤ g1 ∧ Hid (Mv dg N 3 (iv (ofv N ln L p 0)) wr) ∧ Hid (Below w1.heap.size w1 wr))
    case atStart => exact ⟨0, by go_num, by omega, by omega, HM0, HB0⟩
    case round =>
      clear HM0 HB0
      obtain ⟨p, rfl, hp, hg1, HM, HB⟩ := hrel
      by_cases hlt : p < P
      · obtain ⟨rb, ro, ca, cc, e1, hrow⟩ := (unhide HRR).rr.row hlt
        subst e1
        have HROW := hide hrow
        have hlt2 : (p : Int) < (P : Int) := by omega
        have HLT := hide (fun (i : Nat) (hi : i < (ptL (pn N ln L) N p).length) => show ∃ x, (ptL (pn N ln L) N p)[i]? = some x ∧ x < N ∧ (((ptL (pn N ln L) N p).getD i 0 : Nat) : Int) = (x : Int) from by
          have h1 : (ptL (pn N ln L) N p)[i]? = some (ptL (pn N ln L) N p)[i] := by simp [hi]
          exact ⟨_, h1, (ptL_lt (List.mem_of_getElem? h1)).1, by simp [hi]⟩)
        have hlen : (ptL (pn N ln L) N p).length ≤ N := by
          have := List.length_filter_le (fun i => pn N ln L i == p) (List.range N)
          rw [List.length_range] at this
          exact this
        have HRE := hide (ofv_row N ln L p)
        clear hrow
        try dsimp only at HROW
        generalize hnl : (ptL (pn N ln L) N p).length = m at *
        clear hnl
        go_wp2_with fail
        go_loopg [8] m (fun g2 vi wr => ∃ i : Nat, vi = .int .i64 i ∧ i ≤ m ∧ m - i ≤ g2 ∧ Hid (Mv dg N 3 (iv (ofv N ln L p i)) wr) ∧ Hid (Below w1.heap.size w1 wr))
        case atStart => exact ⟨0, by go_num, by omega, by omega, HM, HB⟩
        case round =>
          clear HM HB
          obtain ⟨i, rfl, hi, hg2, HM, HB⟩ := hrel
          obtain ⟨r1, t1⟩ := unhide HROW wr (unhide HB)
          by_cases hil : i < m
          · obtain ⟨x, hx1, hx2, hx3⟩ := unhide HLT i hil
            obtain ⟨b1, o1, rfl, _, c1⟩ := t1.at hil
            unfold iv at c1
            dsimp only at c1
            rw [hx3] at c1
            obtain ⟨co, fo1⟩ := (unhide HM).cell hx2
            have HM2 := hide ((unhide HM).set hx2 (.int .i64 (p : Int)))
            rw [ofv_next hx1] at HM2
            have HB2 := hide ((unhide HB).setCell (p := ⟨dg, x, none⟩) (unhide HDG) (.int .i64 (p : Int)))
            have hil2 : (i : Int) < (m : Int) := by omega
            have hx4 : (x : Int) < (N : Int) := by omega
            clear t1 HM HB hx3 hx1
            go_wp2_with fail
            generalize wr.setCell ⟨dg, x, none⟩ (.int .i64 (p : Int)) = w9 at *
            go_wp2_with fail
            go_roundg (m - (i + 1))
            case measure => omega
            case rel => exact ⟨i + 1, by go_num, by omega, by omega, HM2, HB2⟩
          · obtain rfl : i = m := by omega
            have HM2 := hide (show Mv dg N 3 (iv (ofv N ln L (p + 1) 0)) wr from (unhide HM).congr fun j hj => by unfold iv; rw [unhide HRE j hj])
            clear HM t1
            go_wp2_with fail
            go_roundg (P - (p + 1))
            case measure => omega
            case rel => exact ⟨p + 1, by go_num, by omega, by omega, HM2, HB⟩
      · obtain rfl : p = P := by omega
        have HX := hide (show Rh w.heap.size wr.heap.size wr (some ⟨dg, 0, none⟩) N (iv fun j => (pn N ln L j : Int)) from fun h0 => ⟨dg, 0, rfl, by have := unhide HDG; have := (unhide HB1).size; omega, (unhide HM).lt, (unhide HM).lt, fun i hi => by rw [Nat.zero_add, ((unhide HM).cell hi).1]; unfold iv; rw [unhide HEND i hi]⟩)
        clear HM
        go_wp2_with fail
        go_ret2
        exact ⟨_, N, rfl, unhide HX, bl_t (unhide HB1) (unhide HB)⟩
end Go.Proofs.Ytjflnpcpnoccjaa

