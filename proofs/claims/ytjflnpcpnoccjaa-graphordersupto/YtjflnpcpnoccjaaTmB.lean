import Derived.Test.YtjflnpcpnoccjaaTmA
import Derived.Test.YtjflnpcpnoccjaaGrE
import Derived.Test.YtjflnpcpnoccjaaGrJ
namespace Go.Proofs.Ytjflnpcpnoccjaa
open Go.RowKit

theorem prefix_own {W : World} {lo e size g n cap p : Nat} {xs : List Value} (h : W.ownsRow lo e size (.slice (some ⟨g, 0, none⟩) n cap) n xs) (hp : p ≤ n) : W.ownsRow lo e size (.slice (some ⟨g, 0, none⟩) p cap) p (xs.take (p * size)) := by
  rcases h.2 with ⟨h1, _⟩ | ⟨g', cap', cur, h1, h2, h3, h4, h5, h6, h7⟩
  · cases h1
  · cases h1
    have hps : p * size ≤ n * size := Nat.mul_le_mul_right _ hp
    refine ⟨by rw [List.length_take, h.1]; omega, .inr ⟨g, cap, cur, rfl, h2, h3, Nat.le_trans hp h4, h5, h6, ?_⟩⟩
    rw [← h7, List.take_take, Nat.min_eq_left hps]
theorem own_set {W : World} {lo e size n vb v : Nat} {u x : Value} {xs : List Value} {cur : Array Value} {t : TypeId} (he : e ≠ t) (hv : W.heap[vb]? = some (.cells cur t (0, 0))) (ho : W.ownsRow lo e size u n xs) : (W.setCell ⟨vb, v, none⟩ x).ownsRow lo e size u n xs := by
  refine ⟨ho.1, ?_⟩
  rcases ho.2 with h' | ⟨g, cap, cr, h1, h2, h3, h4⟩
  · exact .inl h'
  · exact .inr ⟨g, cap, cr, h1, h2, (set_other _ _ _ _ _ (blk_ne (fun q => he q.symm) hv h3)).trans h3, h4⟩
/-- ROWS OF TWO TYPES ARE TWO BLOCKS. -/
theorem owns_two {W : World} {b1 b2 e1 e2 s1 s2 : Nat} (he : e1 ≠ e2) {v u : Value} {n m : Nat} {xs ys : List Value} (h : W.ownsRow b1 e1 s1 v n xs) (k : W.ownsRow b2 e2 s2 u m ys) : v.ownBlock = none ∨ v.ownBlock ≠ u.ownBlock := by
  rcases h.2 with ⟨rfl, _⟩ | ⟨g, cap, cur, rfl, _, hg, _⟩
  · exact .inl rfl
  · refine .inr fun e => ?_
    rcases k.2 with ⟨rfl, _⟩ | ⟨g', cap', cur', rfl, _, hg', _⟩
    · simp [Value.ownBlock] at e
    · obtain rfl : g = g' := by simpa [Value.ownBlock] using e
      exact blk_ne he hg hg' rfl
theorem cells2_new (W : World) (a b : Value) (t : TypeId) : ∀ j u, ([a, b] : List Value)[j]? = some u → (W.alloc (.cells #[a, b] t)).cell? ((⟨W.heap.size, 0, none⟩ : Addr).add j) = some u := fun j u hj => by
  rw [Addr.add_mid, Nat.zero_add, World.cell?_alloc_new]
  simpa using hj
theorem infoF : (Try.prog.info? 99).map (fun i => (i.zero, i.size, i.bytes)) = some (some (.agg #[.int .i64 0, .int .i64 0]), 2, 16) := by kernel_rfl
def fV (l : List (Nat × Nat)) : List Value := l.flatMap fun f => [.int .i64 (f.1 : Int), .int .i64 (f.2 : Int)]
theorem fV_snoc (l : List (Nat × Nat)) (f : Nat × Nat) : fV (l ++ [f]) = fV l ++ [.int .i64 (f.1 : Int), .int .i64 (f.2 : Int)] := by simp [fV]
theorem fV_len (l : List (Nat × Nat)) : (fV l).length = l.length * 2 := by
  induction l with
  | nil => rfl
  | cons a r ih => simp [fV] at ih ⊢; omega
theorem nI_snoc (l : List Nat) (x : Nat) : nI (l ++ [x]) = nI l ++ [(x : Int)] := by simp [nI]
def nf (f : Nat → Nat) (v : Nat) : Int := (f v : Int)
theorem nf_up (f : Nat → Nat) (u x : Nat) : (fun j => if j = u then Value.int .i64 (x : Int) else iv (nf f) j) = iv (nf (up f u x)) := by
  funext j
  unfold iv nf up
  by_cases e : j = u
  · rw [if_pos e, if_pos e]
  · rw [if_neg e, if_neg e]
theorem iv_put' (f : Nat → Int) (u : Nat) (x : Int) : (fun j => if j = u then Value.int .i64 x else iv f j) = iv (put f u x) := by
  funext j
  unfold iv put
  by_cases e : j = u
  · rw [if_pos e, if_pos e]
  · rw [if_neg e, if_neg e]
/-- THE SEARCH AS IT LIES. -/
structure Sg (N : Nat) (na : Option Addr) (nc : Nat) (w0 : World) (sb rb lb hb lo : Nat) (s : Ts) (fv ov : Value) (W : World) : Prop where
  str : W.heap[sb]? = some (.cells #[.slice na N nc, fv, ov, .int .i64 (s.sn : Int), .slice (some ⟨rb, 0, none⟩) N N, .slice (some ⟨lb, 0, none⟩) N N, .slice (some ⟨hb, 0, none⟩) N N] 87 (0, 0))
  rk : Mv rb N 3 (iv (nf s.rk)) W
  lw : Mv lb N 3 (iv (nf s.lw)) W
  hd : Mv hb N 3 (iv s.hd) W
  frs : W.ownsRow lo 99 2 fv s.fr.length (fV s.fr.reverse)
  opn : W.ownsRow lo 3 1 ov s.op.length (tV (nI s.op))
  ne : rb ≠ lb ∧ rb ≠ hb ∧ lb ≠ hb
  low : sb < lo ∧ rb < lo ∧ lb < lo ∧ hb < lo
  ge : w0.heap.size ≤ sb ∧ w0.heap.size ≤ rb ∧ w0.heap.size ≤ lb ∧ w0.heap.size ≤ hb
  bel : Below w0.heap.size w0 W
  siz : lo ≤ W.heap.size
theorem Sg.sbne {N : Nat} {na : Option Addr} {nc : Nat} {w0 : World} {sb rb lb hb lo : Nat} {s : Ts} {fv ov : Value} {W : World} (h : Sg N na nc w0 sb rb lb hb lo s fv ov W) : sb ≠ rb ∧ sb ≠ lb ∧ sb ≠ hb := by
  obtain ⟨c1, r1, _⟩ := h.rk
  obtain ⟨c2, r2, _⟩ := h.lw
  obtain ⟨c3, r3, _⟩ := h.hd
  exact ⟨blk_ne (by decide) r1 h.str, blk_ne (by decide) r2 h.str, blk_ne (by decide) r3 h.str⟩
theorem Sg.later {N : Nat} {na : Option Addr} {nc : Nat} {w0 : World} {sb rb lb hb lo : Nat} {s : Ts} {fv ov : Value} {W : World} (h : Sg N na nc w0 sb rb lb hb lo s fv ov W) {W2 : World} (hb2 : Below W.heap.size W W2) : Sg N na nc w0 sb rb lb hb lo s fv ov W2 :=
  ⟨(hb2.block _ (blk_lt h.str)).trans h.str, h.rk.later hb2, h.lw.later hb2, h.hd.later hb2, owns_below h.frs hb2, owns_below h.opn hb2, h.ne, h.low, h.ge, bl_t h.bel hb2, Nat.le_trans h.siz hb2.size⟩
/-- A field of the search is written. -/
theorem Sg.fld {N : Nat} {na : Option Addr} {nc : Nat} {w0 : World} {sb rb lb hb lo : Nat} {s : Ts} {fv ov : Value} {W : World} (h : Sg N na nc w0 sb rb lb hb lo s fv ov W) {j : Nat} {x : Value} {s2 : Ts} {fv2 ov2 : Value} (hrk : s2.rk = s.rk) (hlw : s2.lw = s.lw) (hhd : s2.hd = s.hd)
    (hj : (#[.slice na N nc, fv, ov, .int .i64 (s.sn : Int), .slice (some ⟨rb, 0, none⟩) N N, .slice (some ⟨lb, 0, none⟩) N N, .slice (some ⟨hb, 0, none⟩) N N] : Array Value).setIfInBounds j x = #[.slice na N nc, fv2, ov2, .int .i64 (s2.sn : Int), .slice (some ⟨rb, 0, none⟩) N N, .slice (some ⟨lb, 0, none⟩) N N, .slice (some ⟨hb, 0, none⟩) N N])
    (hf : W.ownsRow lo 99 2 fv2 s2.fr.length (fV s2.fr.reverse)) (ho : W.ownsRow lo 3 1 ov2 s2.op.length (tV (nI s2.op))) : Sg N na nc w0 sb rb lb hb lo s2 fv2 ov2 (W.setCell ⟨sb, j, none⟩ x) := by
  obtain ⟨n1, n2, n3⟩ := h.sbne
  refine ⟨hj ▸ set_blk h.str j x, ?_, ?_, ?_, own_far h.low.1 hf, own_far h.low.1 ho, h.ne, h.low, h.ge, h.bel.setCell (p := ⟨sb, j, none⟩) h.ge.1 _, by rw [set_size]; exact h.siz⟩
  · rw [hrk]; exact h.rk.same (set_other _ _ _ _ _ (fun e => n1 e.symm))
  · rw [hlw]; exact h.lw.same (set_other _ _ _ _ _ (fun e => n2 e.symm))
  · rw [hhd]; exact h.hd.same (set_other _ _ _ _ _ (fun e => n3 e.symm))
theorem Sg.setR {N : Nat} {na : Option Addr} {nc : Nat} {w0 : World} {sb rb lb hb lo : Nat} {s : Ts} {fv ov : Value} {W : World} (h : Sg N na nc w0 sb rb lb hb lo s fv ov W) {u : Nat} (hu : u < N) (x : Nat) : Sg N na nc w0 sb rb lb hb lo ⟨up s.rk u x, s.lw, s.hd, s.op, s.fr, s.sn⟩ fv ov (W.setCell ⟨rb, u, none⟩ (.int .i64 (x : Int))) := by
  obtain ⟨n1, n2, n3⟩ := h.sbne
  refine ⟨(set_other _ _ _ _ _ n1).trans h.str, ?_, h.lw.same (set_other _ _ _ _ _ (fun e => h.ne.1 e.symm)), h.hd.same (set_other _ _ _ _ _ (fun e => h.ne.2.1 e.symm)), own_far h.low.2.1 h.frs, own_far h.low.2.1 h.opn, h.ne, h.low, h.ge, h.bel.setCell (p := ⟨rb, u, none⟩) h.ge.2.1 _, by rw [set_size]; exact h.siz⟩
  show Mv rb N 3 (iv (nf (up s.rk u x))) _
  rw [← nf_up]
  exact h.rk.set hu _
theorem Sg.setL {N : Nat} {na : Option Addr} {nc : Nat} {w0 : World} {sb rb lb hb lo : Nat} {s : Ts} {fv ov : Value} {W : World} (h : Sg N na nc w0 sb rb lb hb lo s fv ov W) {u : Nat} (hu : u < N) (x : Nat) : Sg N na nc w0 sb rb lb hb lo ⟨s.rk, up s.lw u x, s.hd, s.op, s.fr, s.sn⟩ fv ov (W.setCell ⟨lb, u, none⟩ (.int .i64 (x : Int))) := by
  obtain ⟨n1, n2, n3⟩ := h.sbne
  refine ⟨(set_other _ _ _ _ _ n2).trans h.str, h.rk.same (set_other _ _ _ _ _ h.ne.1), ?_, h.hd.same (set_other _ _ _ _ _ (fun e => h.ne.2.2 e.symm)), own_far h.low.2.2.1 h.frs, own_far h.low.2.2.1 h.opn, h.ne, h.low, h.ge, h.bel.setCell (p := ⟨lb, u, none⟩) h.ge.2.2.1 _, by rw [set_size]; exact h.siz⟩
  show Mv lb N 3 (iv (nf (up s.lw u x))) _
  rw [← nf_up]
  exact h.lw.set hu _
theorem Sg.setH {N : Nat} {na : Option Addr} {nc : Nat} {w0 : World} {sb rb lb hb lo : Nat} {s : Ts} {fv ov : Value} {W : World} (h : Sg N na nc w0 sb rb lb hb lo s fv ov W) {u : Nat} (hu : u < N) (x : Int) : Sg N na nc w0 sb rb lb hb lo ⟨s.rk, s.lw, put s.hd u x, s.op, s.fr, s.sn⟩ fv ov (W.setCell ⟨hb, u, none⟩ (.int .i64 x)) := by
  obtain ⟨n1, n2, n3⟩ := h.sbne
  refine ⟨(set_other _ _ _ _ _ n3).trans h.str, h.rk.same (set_other _ _ _ _ _ h.ne.2.1), h.lw.same (set_other _ _ _ _ _ h.ne.2.2), ?_, own_far h.low.2.2.2 h.frs, own_far h.low.2.2.2 h.opn, h.ne, h.low, h.ge, h.bel.setCell (p := ⟨hb, u, none⟩) h.ge.2.2.2 _, by rw [set_size]; exact h.siz⟩
  show Mv hb N 3 (iv (put s.hd u x)) _
  rw [← iv_put']
  exact h.hd.set hu _
/-- A row of the search has grown. -/
theorem Sg.grown {N : Nat} {na : Option Addr} {nc : Nat} {w0 : World} {sb rb lb hb lo : Nat} {s : Ts} {fv ov : Value} {W : World} (h : Sg N na nc w0 sb rb lb hb lo s fv ov W) {W2 : World} {row : Option Nat} (hg : W.grownBy W2 row) (hr : ∀ j, row = some j → lo ≤ j) : W2.heap[sb]? = W.heap[sb]? ∧ Mv rb N 3 (iv (nf s.rk)) W2 ∧ Mv lb N 3 (iv (nf s.lw)) W2 ∧ Mv hb N 3 (iv s.hd) W2 ∧ Below w0.heap.size w0 W2 ∧ lo ≤ W2.heap.size := by
  obtain ⟨l1, l2, l3, l4⟩ := h.low
  have hk : ∀ b, b < W.heap.size → b < lo → W2.heap[b]? = W.heap[b]? := fun b hb1 hb2 => hg.block b hb1 fun e => by have := hr b e.symm; omega
  exact ⟨hk sb (blk_lt h.str) l1, h.rk.same (hk rb h.rk.lt l2), h.lw.same (hk lb h.lw.lt l3), h.hd.same (hk hb h.hd.lt l4), h.bel.grown hg h.bel.size (fun j e => by have := hr j e; have := h.ge.1; omega), Nat.le_trans h.siz hg.size⟩
theorem Sg.appO {N : Nat} {na : Option Addr} {nc : Nat} {w0 : World} {sb rb lb hb lo : Nat} {s : Ts} {fv ov : Value} {W : World} (h : Sg N na nc w0 sb rb lb hb lo s fv ov W) {W2 : World} {ov2 : Value} {x : Nat} (hg : W.grownBy W2 ov.ownBlock) (ho : W2.ownsRow lo 3 1 ov2 (s.op.length + 1) (tV (nI s.op) ++ [.int .i64 (x : Int)])) : Sg N na nc w0 sb rb lb hb lo ⟨s.rk, s.lw, s.hd, s.op ++ [x], s.fr, s.sn⟩ fv ov2 (W2.setCell ⟨sb, 2, none⟩ ov2) := by
  obtain ⟨g1, g2, g3, g4, g5, g6⟩ := h.grown hg (fun j e => (h.opn.lt j e).1)
  have hf := h.frs.kept hg (owns_two (by decide) h.frs h.opn)
  have hb' : Sg N na nc w0 sb rb lb hb lo ⟨s.rk, s.lw, s.hd, s.op ++ [x], s.fr, s.sn⟩ fv ov2 (W2.setCell ⟨sb, 2, none⟩ ov2) := by
    obtain ⟨n1, n2, n3⟩ := h.sbne
    have hst := g1.trans h.str
    refine ⟨?_, g2.same (set_other _ _ _ _ _ (fun e => n1 e.symm)), g3.same (set_other _ _ _ _ _ (fun e => n2 e.symm)), g4.same (set_other _ _ _ _ _ (fun e => n3 e.symm)), own_far h.low.1 hf, own_far h.low.1 ?_, h.ne, h.low, h.ge, g5.setCell (p := ⟨sb, 2, none⟩) h.ge.1 _, by rw [set_size]; exact g6⟩
    · exact set_blk hst 2 ov2
    · show W2.ownsRow lo 3 1 ov2 (s.op ++ [x]).length (tV (nI (s.op ++ [x])))
      rw [nI_snoc, tV_snoc, List.length_append]
      exact ho
  exact hb'
theorem Sg.appF {N : Nat} {na : Option Addr} {nc : Nat} {w0 : World} {sb rb lb hb lo : Nat} {s : Ts} {fv ov : Value} {W : World} (h : Sg N na nc w0 sb rb lb hb lo s fv ov W) {W2 : World} {fv2 : Value} {x : Nat} (hg : W.grownBy W2 fv.ownBlock) (ho : W2.ownsRow lo 99 2 fv2 (s.fr.length + 1) (fV s.fr.reverse ++ [.int .i64 (x : Int), .int .i64 0])) : Sg N na nc w0 sb rb lb hb lo ⟨s.rk, s.lw, s.hd, s.op, (x, 0) :: s.fr, s.sn⟩ fv2 ov (W2.setCell ⟨sb, 1, none⟩ fv2) := by
  obtain ⟨g1, g2, g3, g4, g5, g6⟩ := h.grown hg (fun j e => (h.frs.lt j e).1)
  have hf := h.opn.kept hg (owns_two (by decide) h.opn h.frs)
  obtain ⟨n1, n2, n3⟩ := h.sbne
  have hst := g1.trans h.str
  refine ⟨?_, g2.same (set_other _ _ _ _ _ (fun e => n1 e.symm)), g3.same (set_other _ _ _ _ _ (fun e => n2 e.symm)), g4.same (set_other _ _ _ _ _ (fun e => n3 e.symm)), own_far h.low.1 ?_, own_far h.low.1 hf, h.ne, h.low, h.ge, g5.setCell (p := ⟨sb, 1, none⟩) h.ge.1 _, by rw [set_size]; exact g6⟩
  · exact set_blk hst 1 fv2
  · show W2.ownsRow lo 99 2 fv2 ((x, 0) :: s.fr).length (fV ((x, 0) :: s.fr).reverse)
    rw [List.reverse_cons, fV_snoc]
    exact ho
theorem Sg.cells {N : Nat} {na : Option Addr} {nc : Nat} {w0 : World} {sb rb lb hb lo : Nat} {s : Ts} {fv ov : Value} {W : World} (h : Sg N na nc w0 sb rb lb hb lo s fv ov W) : W.cell? ⟨sb, 0, none⟩ = some (.slice na N nc) ∧ W.cell? ⟨sb, 1, none⟩ = some fv ∧ W.cell? ⟨sb, 2, none⟩ = some ov ∧ W.cell? ⟨sb, 3, none⟩ = some (.int .i64 (s.sn : Int)) ∧ W.cell? ⟨sb, 4, none⟩ = some (.slice (some ⟨rb, 0, none⟩) N N) ∧ W.cell? ⟨sb, 5, none⟩ = some (.slice (some ⟨lb, 0, none⟩) N N) ∧ W.cell? ⟨sb, 6, none⟩ = some (.slice (some ⟨hb, 0, none⟩) N N) ∧ ∀ k, W.frozen? ⟨sb, k, none⟩ = false :=
  ⟨(cell_blk h.str 0).1, (cell_blk h.str 1).1, (cell_blk h.str 2).1, (cell_blk h.str 3).1, (cell_blk h.str 4).1, (cell_blk h.str 5).1, (cell_blk h.str 6).1, fun k => (cell_blk h.str k).2⟩
end Go.Proofs.Ytjflnpcpnoccjaa

namespace Go.Proofs.Ytjflnpcpnoccjaa
open Go.RowKit

theorem tVnI_at {l : List Nat} {k x : Nat} (h : l[k]? = some x) : (tV (nI l))[k]? = some (.int .i64 (x : Int)) := by simp [tV, nI, h]
/-- The heads written up to a place. -/
def hdT (hd : Nat → Int) (v : Nat) (l : List Nat) (i x : Nat) : Int := if x ∈ l.take i then (v : Int) else hd x
theorem hdT_zero (hd : Nat → Int) (v : Nat) (l : List Nat) : hdT hd v l 0 = hd := by
  funext x
  unfold hdT
  simp
theorem hdT_next (hd : Nat → Int) (v : Nat) (l : List Nat) {i u : Nat} (h : l[i]? = some u) : put (hdT hd v l i) u (v : Int) = hdT hd v l (i + 1) := by
  funext x
  unfold put hdT
  rw [List.take_add_one, h]
  by_cases e : x = u
  · subst e; simp
  · by_cases q : x ∈ l.take i
    · simp [q]
    · simp [e, q]
theorem hdT_all (hd : Nat → Int) (v : Nat) (l : List Nat) : hdT hd v l l.length = fun x => if x ∈ l then (v : Int) else hd x := by
  funext x
  unfold hdT
  rw [List.take_length]
def hdS (hd : Nat → Int) (v : Nat) (C : List Nat) (x : Nat) : Int := if x ∈ v :: C then (v : Int) else hd x
set_option maxRecDepth 100000 in
set_option maxHeartbeats 4000000 in
theorem shut_any {N : Nat} {na : Option Addr} {nc : Nat} {w0 : World} {sb rb lb hb lo : Nat} {s : Ts} {fv ov : Value} {w : World} (h : Sg N na nc w0 sb rb lb hb lo s fv ov w) (hN : N ≤ 1048576) (hop : s.op.length ≤ N) {v : Nat} {A C : List Nat} (ho : s.op = A ++ v :: C) (hv : v ∉ C) (hlt : ∀ x, x ∈ v :: C → x < N) :
    Calls Try.prog 78 #[.pointer (some ⟨sb, 0, none⟩), .int .i64 (v : Int)] w fun x w' => x = .returned (.tuple #[]) ∧ ∃ ov2, Sg N na nc w0 sb rb lb hb lo ⟨s.rk, s.lw, hdS s.hd v C, A, s.fr, s.sn⟩ fv ov2 w' := by
  obtain ⟨oa, oc, hov⟩ := owns_form h.opn
  subst hov
  have hlen : s.op.length = A.length + (C.length + 1) := by rw [ho]; simp
  obtain ⟨ob, hob⟩ : ∃ ob, oa = some ⟨ob, 0, none⟩ := by
    rcases h.opn.2 with ⟨_, q⟩ | ⟨g, cap, cur, q, _⟩
    · omega
    · cases q; exact ⟨g, rfl⟩
  subst hob
  have hcap := owns_cap h.opn
  have HH := hide h
  have HCL := hide (fun (W : World) (hs : W.ownsRow lo 3 1 (.slice (some ⟨ob, 0, none⟩) s.op.length oc) s.op.length (tV (nI s.op))) (k x : Nat) (e : (A ++ v :: C)[k]? = some x) => show W.cell? ⟨ob, k, none⟩ = some (.int .i64 (x : Int)) from owns_at hs k _ (tVnI_at (by rw [ho]; exact e)))
  have HLT := hide hlt
  have HOA := hide ho
  have HVC := hide hv
  clear h hlt hv ho
  obtain ⟨_, _, c2, _, _, _, _, fz⟩ := (unhide HH).cells
  have f2 := fz 2
  rw [hlen] at c2 HCL hcap hop
  generalize hal : A.length = al0 at *
  generalize hcl : C.length = cl0 at *
  have HAL := hide hal
  have HKL := hide hcl
  have HLN := hide hlen
  clear hal hcl hlen fz
  have j0 : ((al0 + (cl0 + 1) : Nat) : Int) - 1 = ((al0 + cl0 : Nat) : Int) := by omega
  have j1 : IntKind.i64.wrap ((al0 : Int) + (cl0 : Int)) = (al0 : Int) + (cl0 : Int) := IntWalk.i64_in _ (by omega)
  go_enter Try.func78, Try.ntmps78
  go_wp2_with fail
  go_loopg [4] cl0 (fun g1 vf wr => ∃ k : Nat, vf = .int .i64 ((al0 : Int) + (k : Int)) ∧ k ≤ cl0 ∧ k ≤ g1 ∧ w = wr)
  case atStart => exact ⟨cl0, by congr 1, by omega, by omega, rfl⟩
  case round =>
    obtain ⟨k, rfl, hk, hg1, rfl⟩ := hrel
    have i1 : (al0 : Int) + (k : Int) < (al0 : Int) + ((cl0 : Int) + 1) := by omega
    have i2 : ((al0 : Int) + (k : Int)).toNat = al0 + k := by omega
    have i3 : 0 ≤ (al0 : Int) + (k : Int) := by omega
    by_cases hk0 : 0 < k
    · obtain ⟨k, rfl⟩ : ∃ k', k = k' + 1 := ⟨k - 1, by omega⟩
      obtain ⟨x, hx⟩ : ∃ x, C[k]? = some x := ⟨_, List.getElem?_eq_getElem (by have := unhide HKL; omega)⟩
      have ck := unhide HCL w (by have := (unhide HH).opn; rw [unhide HLN] at this; exact this) (al0 + (k + 1)) x (by
        rw [List.getElem?_append_right (by have := unhide HAL; omega), show al0 + (k + 1) - A.length = k + 1 by have := unhide HAL; omega]
        exact hx)
      have hne : ((x : Int) != (v : Int)) = true := by
        simp
        intro e
        obtain rfl : x = v := by omega
        exact unhide HVC (List.mem_of_getElem? hx)
      have i4 : IntKind.i64.wrap ((al0 : Int) + (k : Int)) = (al0 : Int) + (k : Int) := IntWalk.i64_in _ (by omega)
      have i5 : (al0 : Int) + ((k + 1 : Nat) : Int) - 1 = (al0 : Int) + (k : Int) := by omega
      clear hx
      go_wp2_with fail
      go_roundg k
      case measure => omega
      case rel => exact ⟨k, by congr 1, by omega, by omega, rfl⟩
    · obtain rfl : k = 0 := by omega
      have ck := unhide HCL w (by have := (unhide HH).opn; rw [unhide HLN] at this; exact this) al0 v (by
        rw [List.getElem?_append_right (by have := unhide HAL; omega), show al0 - A.length = 0 by have := unhide HAL; omega]
        rfl)
      have hne : ((v : Int) != (v : Int)) = false := by simp
      have e0 : (al0 : Int) + ((0 : Nat) : Int) = (al0 : Int) := by omega
      have i6 : (al0 : Int) ≤ (al0 : Int) + ((cl0 : Int) + 1) := by omega
      have i7 : al0 ≤ al0 + (cl0 + 1) := by omega
      have i8 : al0 + (cl0 + 1) - al0 = cl0 + 1 := by omega
      have i9 : (al0 : Int) < (al0 : Int) + ((cl0 : Int) + 1) := by omega
      rw [e0]
      clear i1 i2 i3 e0 hg1 hk hk0
      have H0 := hide (show Sg N na nc w0 sb rb lb hb lo ⟨s.rk, s.lw, hdT s.hd v (v :: C) 0, s.op, s.fr, s.sn⟩ fv (.slice (some ⟨ob, 0, none⟩) s.op.length oc) w from by rw [hdT_zero]; exact unhide HH)
      go_wp2_with fail
      clear c2 f2 ck hne
      go_loopg [6, 31] (cl0 + 1) (fun g2 _ vi wr => ∃ i : Nat, vi = .int .i64 i ∧ i ≤ cl0 + 1 ∧ cl0 + 1 - i ≤ g2 ∧ Hid (Sg N na nc w0 sb rb lb hb lo ⟨s.rk, s.lw, hdT s.hd v (v :: C) i, s.op, s.fr, s.sn⟩ fv (.slice (some ⟨ob, 0, none⟩) s.op.length oc) wr))
      case atStart => exact ⟨0, by go_num, by omega, by omega, H0⟩
      case round =>
        clear H0
        obtain ⟨i, rfl, hi, hg2, HS⟩ := hrel
        obtain ⟨_, _, c2, _, _, _, c6, fz⟩ := (unhide HS).cells
        rw [unhide HLN] at c2
        have f2 := fz 2
        clear fz
        by_cases hlt : i < cl0 + 1
        · obtain ⟨x, hx⟩ : ∃ x, (v :: C)[i]? = some x := ⟨_, List.getElem?_eq_getElem (by have := unhide HKL; simp; omega)⟩
          have hxN := unhide HLT x (List.mem_of_getElem? hx)
          have ck := unhide HCL wr (by have := (unhide HS).opn; rw [show (⟨s.rk, s.lw, hdT s.hd v (v :: C) i, s.op, s.fr, s.sn⟩ : Ts).op.length = al0 + (cl0 + 1) from unhide HLN] at this; rw [← unhide HLN] at this ⊢; exact this) (al0 + i) x (by
            rw [List.getElem?_append_right (by have := unhide HAL; omega), show al0 + i - A.length = i by have := unhide HAL; omega]
            exact hx)
          obtain ⟨ch, fh⟩ := (unhide HS).hd.cell hxN
          have hx2 : (x : Int) < (N : Int) := by omega
          have i10 : (i : Int) < (cl0 : Int) + 1 := by omega
          have HS2 := hide (show Sg N na nc w0 sb rb lb hb lo ⟨s.rk, s.lw, hdT s.hd v (v :: C) (i + 1), s.op, s.fr, s.sn⟩ fv (.slice (some ⟨ob, 0, none⟩) s.op.length oc) (wr.setCell ⟨hb, x, none⟩ (.int .i64 (v : Int))) from by
            have := (unhide HS).setH hxN (v : Int)
            rw [show put (⟨s.rk, s.lw, hdT s.hd v (v :: C) i, s.op, s.fr, s.sn⟩ : Ts).hd x (v : Int) = hdT s.hd v (v :: C) (i + 1) from hdT_next s.hd v (v :: C) hx] at this
            exact this)
          clear HS hx c2 f2
          go_wp2_with fail
          generalize wr.setCell ⟨hb, x, none⟩ (.int .i64 (v : Int)) = W2 at *
          go_wp2_with fail
          go_roundg (cl0 + 1 - (i + 1))
          case measure => omega
          case rel => exact ⟨i + 1, by go_num, by omega, by omega, HS2⟩
        · obtain rfl : i = cl0 + 1 := by omega
          have HSF := hide (show Sg N na nc w0 sb rb lb hb lo ⟨s.rk, s.lw, hdS s.hd v C, A, s.fr, s.sn⟩ fv (.slice (some ⟨ob, 0, none⟩) al0 oc) (wr.setCell ⟨sb, 2, none⟩ (.slice (some ⟨ob, 0, none⟩) al0 oc)) from by
            have h1 := unhide HS
            rw [show cl0 + 1 = (v :: C).length by simp [unhide HKL], hdT_all] at h1
            refine h1.fld (s2 := ⟨s.rk, s.lw, hdS s.hd v C, A, s.fr, s.sn⟩) rfl rfl rfl (by simp) h1.frs ?_
            have h2 := prefix_own (p := al0) h1.opn (by show al0 ≤ s.op.length; rw [unhide HLN]; omega)
            rw [show A.length = al0 from unhide HAL]
            rw [show (tV (nI s.op)).take (al0 * 1) = tV (nI A) from by
              rw [unhide HOA, Nat.mul_one]
              have : nI (A ++ v :: C) = nI A ++ nI (v :: C) := by simp [nI]
              rw [this]
              have h3 : tV (nI A ++ nI (v :: C)) = tV (nI A) ++ tV (nI (v :: C)) := by simp [tV]
              rw [h3, List.take_left' (by simp [tV, nI, unhide HAL])]] at h2
            exact h2)
          have i10 : ¬ ((cl0 + 1 : Nat) : Int) < (cl0 : Int) + 1 := by omega
          have i11 : (al0 : Int) ≤ (oc : Int) := by omega
          have i12 : al0 ≤ oc := by omega
          go_wp2_with fail
          go_end0
          exact ⟨rfl, _, unhide HSF⟩
end Go.Proofs.Ytjflnpcpnoccjaa

namespace Go.Proofs.Ytjflnpcpnoccjaa
open Go.RowKit

theorem fV_at : ∀ (l : List (Nat × Nat)) (i : Nat) (f : Nat × Nat), l[i]? = some f → (fV l)[2 * i]? = some (.int .i64 (f.1 : Int)) ∧ (fV l)[2 * i + 1]? = some (.int .i64 (f.2 : Int))
  | [], i, f, h => by simp at h
  | a :: r, 0, f, h => by
    have : a = f := by simpa using h
    subst this
    simp [fV]
  | a :: r, i + 1, f, h => by
    have h2 : r[i]? = some f := by simpa using h
    have h3 := fV_at r i f h2
    have e : fV (a :: r) = .int .i64 (a.1 : Int) :: .int .i64 (a.2 : Int) :: fV r := by simp [fV]
    rw [e]
    rw [show 2 * (i + 1) = 2 * i + 1 + 1 by omega, show 2 * i + 1 + 1 + 1 = (2 * i + 1) + 1 + 1 by omega, List.getElem?_cons_succ, List.getElem?_cons_succ, List.getElem?_cons_succ, List.getElem?_cons_succ]
    exact h3
theorem rev_at (r : List (Nat × Nat)) (f : Nat × Nat) : (f :: r).reverse[r.length]? = some f := by
  rw [List.reverse_cons, List.getElem?_append_right (by simp)]
  simp
theorem fV_take (r : List (Nat × Nat)) (f : Nat × Nat) : (fV (f :: r).reverse).take (r.length * 2) = fV r.reverse := by
  rw [List.reverse_cons, fV_snoc, List.take_left' (by rw [fV_len]; simp)]
/-- What the search says of its topmost frame. -/
theorem Sg.topc {N : Nat} {na : Option Addr} {nc : Nat} {w0 : World} {sb rb lb hb lo : Nat} {s : Ts} {fv ov : Value} {W : World} (h : Sg N na nc w0 sb rb lb hb lo s fv ov W) {f : Nat × Nat} {r : List (Nat × Nat)} (hfr : s.fr = f :: r) : ∃ fb fc, fv = .slice (some ⟨fb, 0, none⟩) (r.length + 1) fc ∧ W.cell? ⟨fb, 2 * r.length, none⟩ = some (.int .i64 (f.1 : Int)) ∧ W.cell? ⟨fb, 2 * r.length + 1, none⟩ = some (.int .i64 (f.2 : Int)) ∧ r.length + 1 ≤ fc ∧ (∀ k, W.frozen? ⟨fb, k, none⟩ = false) ∧ lo ≤ fb ∧ (∃ cur : Array Value, W.heap[fb]? = some (.cells cur 99 (0, 0)) ∧ ∀ (k : Nat) (y : Value), (fV s.fr.reverse)[k]? = some y → cur[k]? = some y) := by
  have ho := h.frs
  rw [hfr] at ho
  rcases ho.2 with ⟨_, q⟩ | ⟨g, cap, cur, q, q2, q3, q4, _⟩
  · simp at q
  · subst q
    rw [List.length_cons] at ho
    obtain ⟨a1, a2⟩ := fV_at _ _ _ (rev_at r f)
    obtain ⟨cur2, b1, b2⟩ := owns_blk ho
    exact ⟨g, cap, rfl, owns_at ho _ _ a1, owns_at ho _ _ a2, owns_cap ho, fun k => owns_fro ho k, q2, cur2, b1, by rw [hfr]; exact b2⟩
set_option maxRecDepth 100000 in
set_option maxHeartbeats 4000000 in
theorem leave_shut {N : Nat} {na : Option Addr} {nc : Nat} {w0 : World} {sb rb lb hb lo : Nat} {s : Ts} {fv ov : Value} {w : World} (h : Sg N na nc w0 sb rb lb hb lo s fv ov w) (hN : N ≤ 1048576) (hop : s.op.length ≤ N) {v nx : Nat} {r : List (Nat × Nat)} (hfr : s.fr = (v, nx) :: r) (hr : r.length ≤ N) (hvN : v < N) (he : s.lw v = s.rk v) {A C : List Nat} (ho : s.op = A ++ v :: C) (hv : v ∉ C) (hlt : ∀ x, x ∈ v :: C → x < N) :
    Calls Try.prog 77 #[.pointer (some ⟨sb, 0, none⟩)] w fun x w' => x = .returned (.tuple #[]) ∧ ∃ fv2 ov2, Sg N na nc w0 sb rb lb hb lo ⟨s.rk, s.lw, hdS s.hd v C, A, r, s.sn⟩ fv2 ov2 w' := by
  obtain ⟨fb, fc, hfv, t1, t2, t3, t4, t5, _⟩ := h.topc hfr
  subst hfv
  obtain ⟨_, c1, _, _, _, _, _, fz⟩ := h.cells
  have f1 := fz 1
  have HS2 := hide (show Sg N na nc w0 sb rb lb hb lo ⟨s.rk, s.lw, s.hd, s.op, r, s.sn⟩ (.slice (some ⟨fb, 0, none⟩) r.length fc) ov (w.setCell ⟨sb, 1, none⟩ (.slice (some ⟨fb, 0, none⟩) r.length fc)) from by
    refine h.fld (s2 := ⟨s.rk, s.lw, s.hd, s.op, r, s.sn⟩) rfl rfl rfl (by simp) ?_ h.opn
    have h1 := h.frs
    rw [hfr, List.length_cons] at h1
    have h2 := prefix_own (p := r.length) h1 (by omega)
    rw [fV_take] at h2
    exact h2)
  have cS := hide (fun (W : World) (fv2 ov2 : Value) (h2 : Sg N na nc w0 sb rb lb hb lo ⟨s.rk, s.lw, s.hd, s.op, r, s.sn⟩ fv2 ov2 W) => shut_any h2 hN hop ho hv hlt)
  have hv2 : (v : Int) < (N : Int) := by omega
  have HE := hide he
  clear h fz t2 ho hv hlt
  generalize r.length = rl at *
  have j0 : ((rl + 1 : Nat) : Int) - 1 = (rl : Int) := by omega
  have j1 : IntKind.i64.wrap (rl : Int) = (rl : Int) := IntWalk.i64_in _ (by omega)
  have j2 : (rl : Int) < (rl : Int) + 1 := by omega
  have j3 : (rl : Int) ≤ (fc : Int) := by omega
  have j4 : rl ≤ fc := by omega
  have t1' : w.cell? ⟨fb, rl * 2, none⟩ = some (.int .i64 (v : Int)) := by rw [Nat.mul_comm]; exact t1
  go_enter Try.func77, Try.ntmps77
  go_upto_region 3 with fail
  generalize w.setCell ⟨sb, 1, none⟩ (.slice (some ⟨fb, 0, none⟩) rl fc) = W2 at *
  obtain ⟨_, _, _, _, d4, d5, _, _⟩ := (unhide HS2).cells
  obtain ⟨cr, _⟩ := (unhide HS2).rk.cell hvN
  obtain ⟨cl, _⟩ := (unhide HS2).lw.cell hvN
  unfold iv nf at cr cl
  have cl2 : W2.cell? ⟨lb, v, none⟩ = some (.int .i64 (s.lw v : Int)) := cl
  have cr2 : W2.cell? ⟨rb, v, none⟩ = some (.int .i64 (s.lw v : Int)) := by rw [unhide HE]; exact cr
  clear cr cl c1 f1 t1 t1' t4
  generalize s.lw v = lv at cl2 cr2
  have hz : ((lv : Int) == (lv : Int)) = true := by simp
  go_quiet (fail)
  have HS3 := hide ((unhide HS2).later (bl_drewN W2 nq))
  clear HS2 d4 d5 cl2 cr2
  generalize W2.drewN nq = W3 at *
  go_wp2_with (go_at_call 78; refine (unhide cS _ _ _ (unhide HS3)).mono ?_; rintro x5 w5 ⟨rfl, ov2, hs5⟩; have HS5 := hide hs5; clear hs5)
  refine bodyPost_ret (results_none rfl _ _ _) rfl ?_
  exact ⟨rfl, _, _, unhide HS5⟩
set_option maxRecDepth 100000 in
set_option maxHeartbeats 4000000 in
theorem leave_pass {N : Nat} {na : Option Addr} {nc : Nat} {w0 : World} {sb rb lb hb lo : Nat} {s : Ts} {fv ov : Value} {w : World} (h : Sg N na nc w0 sb rb lb hb lo s fv ov w) (hN : N ≤ 1048576) {v nx p np : Nat} {t : List (Nat × Nat)} (hfr : s.fr = (v, nx) :: (p, np) :: t) (hr : t.length + 1 ≤ N) (hvN : v < N) (hpN : p < N) (he : s.lw v ≠ s.rk v) :
    Calls Try.prog 77 #[.pointer (some ⟨sb, 0, none⟩)] w fun x w' => x = .returned (.tuple #[]) ∧ ∃ fv2 ov2, Sg N na nc w0 sb rb lb hb lo ⟨s.rk, up s.lw p (min (s.lw p) (s.lw v)), s.hd, s.op, (p, np) :: t, s.sn⟩ fv2 ov2 w' := by
  obtain ⟨fb, fc, hfv, t1, t2, t3, t4, t5, _⟩ := h.topc hfr
  subst hfv
  obtain ⟨_, c1, _, _, _, _, _, fz⟩ := h.cells
  have f1 := fz 1
  have HS2 := hide (show Sg N na nc w0 sb rb lb hb lo ⟨s.rk, s.lw, s.hd, s.op, (p, np) :: t, s.sn⟩ (.slice (some ⟨fb, 0, none⟩) ((p, np) :: t).length fc) ov (w.setCell ⟨sb, 1, none⟩ (.slice (some ⟨fb, 0, none⟩) ((p, np) :: t).length fc)) from by
    refine h.fld (s2 := ⟨s.rk, s.lw, s.hd, s.op, (p, np) :: t, s.sn⟩) rfl rfl rfl (by simp) ?_ h.opn
    have h1 := h.frs
    rw [hfr, List.length_cons] at h1
    have h2 := prefix_own (p := ((p, np) :: t).length) h1 (Nat.le_succ _)
    rw [fV_take] at h2
    exact h2)
  have hv2 : (v : Int) < (N : Int) := by omega
  have hp2 : (p : Int) < (N : Int) := by omega
  rw [List.length_cons] at HS2 t1 t3 c1
  have HTC := hide (fun (W : World) (ov2 : Value) (h2 : Sg N na nc w0 sb rb lb hb lo ⟨s.rk, s.lw, s.hd, s.op, (p, np) :: t, s.sn⟩ (.slice (some ⟨fb, 0, none⟩) (t.length + 1) fc) ov2 W) => show W.cell? ⟨fb, t.length * 2, none⟩ = some (.int .i64 (p : Int)) from by
    obtain ⟨fb2, fc2, q0, q1, _⟩ := h2.topc (f := (p, np)) (r := t) rfl
    injection q0 with q0 _ _
    injection q0 with q0
    injection q0 with q0 _ _
    subst q0
    rw [Nat.mul_comm]
    exact q1)
  have HE := hide he
  clear h fz t2
  generalize t.length = rl at *
  have j0 : ((rl + 1 + 1 : Nat) : Int) - 1 = (rl : Int) + 1 := by omega
  have j1 : IntKind.i64.wrap ((rl : Int) + 1) = (rl : Int) + 1 := IntWalk.i64_in _ (by omega)
  have j2 : (rl : Int) + 1 < (rl : Int) + 1 + 1 := by omega
  have j3 : (rl : Int) + 1 ≤ (fc : Int) := by omega
  have j4 : rl + 1 ≤ fc := by omega
  have j5 : IntKind.i64.wrap (rl : Int) = (rl : Int) := IntWalk.i64_in _ (by omega)
  have j6 : (rl : Int) + 1 - 1 = (rl : Int) := by omega
  have j7 : (rl : Int) < (rl : Int) + 1 := by omega
  have j8 : ((rl : Int) + 1).toNat = rl + 1 := by omega
  have j9 : 0 ≤ (rl : Int) + 1 := by omega
  have t1' : w.cell? ⟨fb, (rl + 1) * 2, none⟩ = some (.int .i64 (v : Int)) := by rw [Nat.mul_comm]; exact t1
  go_enter Try.func77, Try.ntmps77
  go_upto_region 3 with fail
  generalize w.setCell ⟨sb, 1, none⟩ (.slice (some ⟨fb, 0, none⟩) (rl + 1) fc) = W2 at *
  obtain ⟨_, _, _, _, d4, d5, _, _⟩ := (unhide HS2).cells
  obtain ⟨cr, _⟩ := (unhide HS2).rk.cell hvN
  obtain ⟨cl, _⟩ := (unhide HS2).lw.cell hvN
  unfold iv nf at cr cl
  have cl2 : W2.cell? ⟨lb, v, none⟩ = some (.int .i64 (s.lw v : Int)) := cl
  have cr2 : W2.cell? ⟨rb, v, none⟩ = some (.int .i64 (s.rk v : Int)) := cr
  clear cr cl c1 f1 t1 t1' t4
  have hz : ((s.lw v : Int) == (s.rk v : Int)) = false := by
    simp
    intro q
    exact unhide HE (by omega)
  go_quiet (fail)
  have HS3 := hide ((unhide HS2).later (bl_drewN W2 nq))
  clear HS2 d4 d5 cl2 cr2 hz
  generalize W2.drewN nq = W3 at *
  obtain ⟨_, d1, _, _, _, d5, _, _⟩ := (unhide HS3).cells
  have tp := unhide HTC W3 _ (unhide HS3)
  go_upto_region 6 with fail
  obtain ⟨cl, _⟩ := (unhide HS3).lw.cell hvN
  obtain ⟨cp, fp⟩ := (unhide HS3).lw.cell hpN
  unfold iv nf at cl cp
  have cl2 : W3.cell? ⟨lb, v, none⟩ = some (.int .i64 (s.lw v : Int)) := cl
  have cp2 : W3.cell? ⟨lb, p, none⟩ = some (.int .i64 (s.lw p : Int)) := cp
  clear cl cp tp
  have HS4 := hide (show Sg N na nc w0 sb rb lb hb lo ⟨s.rk, up s.lw p (min (s.lw p) (s.lw v)), s.hd, s.op, (p, np) :: t, s.sn⟩ (.slice (some ⟨fb, 0, none⟩) (rl + 1) fc) ov (W3.setCell ⟨lb, p, none⟩ (.int .i64 (((min (s.lw p) (s.lw v) : Nat)) : Int))).drew from ((unhide HS3).setL hpN _).later ((Below.refl _ _).drew))
  obtain ⟨lp, hlp1⟩ : ∃ x, x = s.lw p := ⟨_, rfl⟩
  obtain ⟨lv, hlv1⟩ : ∃ x, x = s.lw v := ⟨_, rfl⟩
  rw [← hlp1, ← hlv1] at HS4
  rw [← hlp1] at cp2
  rw [← hlv1] at cl2
  have HEP := hide hlp1
  have HEV := hide hlv1
  clear hlp1 hlv1
  by_cases hmin : (lv : Int) < (lp : Int)
  · have HMN := hide (show min lp lv = lv by omega)
    rw [unhide HMN] at HS4
    go_big_region
    generalize (W3.setCell ⟨lb, p, none⟩ (.int .i64 (lv : Int))).drew = W4 at *
    go_wp2
    go_end0
    rw [← unhide HEP, ← unhide HEV, unhide HMN]
    exact ⟨rfl, _, _, unhide HS4⟩
  · have HMN := hide (show min lp lv = lp by omega)
    rw [unhide HMN] at HS4
    go_big_region
    generalize (W3.setCell ⟨lb, p, none⟩ (.int .i64 (lp : Int))).drew = W4 at *
    go_wp2
    go_end0
    rw [← unhide HEP, ← unhide HEV, unhide HMN]
    exact ⟨rfl, _, _, unhide HS4⟩
end Go.Proofs.Ytjflnpcpnoccjaa

namespace Go.Proofs.Ytjflnpcpnoccjaa
open Go.RowKit

set_option maxRecDepth 100000 in
set_option maxHeartbeats 4000000 in
theorem enter_any {N : Nat} {na : Option Addr} {nc : Nat} {w0 : World} {sb rb lb hb lo : Nat} {s : Ts} {fv ov : Value} {w : World} (h : Sg N na nc w0 sb rb lb hb lo s fv ov w) (hN : N ≤ 1048576) (hop : s.op.length ≤ N) (hfr : s.fr.length ≤ N) (hsn : s.sn ≤ N) {u : Nat} (hu : u < N) :
    Calls Try.prog 76 #[.pointer (some ⟨sb, 0, none⟩), .int .i64 (u : Int)] w fun x w' => x = .returned (.tuple #[]) ∧ ∃ fv2 ov2, Sg N na nc w0 sb rb lb hb lo ⟨up s.rk u (s.sn + 1), up s.lw u (s.sn + 1), s.hd, s.op ++ [u], (u, 0) :: s.fr, s.sn + 1⟩ fv2 ov2 w' := by
  obtain ⟨i0, hi0, hz0, hz1, hz2⟩ := info_parts infoI
  obtain ⟨iF, hiF, hf0, hf1, hf2⟩ := info_parts infoF
  obtain ⟨_, _, _, c3, _, _, _, fz⟩ := h.cells
  have f3 := fz 3
  have hu2 : (u : Int) < (N : Int) := by omega
  have iw : IntKind.i64.wrap ((s.sn : Int) + 1) = (s.sn : Int) + 1 := IntWalk.i64_in _ (by omega)
  have H1 := hide (show Sg N na nc w0 sb rb lb hb lo ⟨s.rk, s.lw, s.hd, s.op, s.fr, s.sn + 1⟩ fv ov (w.setCell ⟨sb, 3, none⟩ (.int .i64 ((s.sn : Int) + 1))) from h.fld (s2 := ⟨s.rk, s.lw, s.hd, s.op, s.fr, s.sn + 1⟩) rfl rfl rfl (by simp) h.frs h.opn)
  obtain ⟨fa, fc, hfv⟩ := owns_form h.frs
  obtain ⟨oa, oc, hov⟩ := owns_form h.opn
  subst hfv
  subst hov
  clear h fz
  generalize hso : s.op.length = ol at *
  generalize hsf : s.fr.length = fl at *
  have HSO := hide hso
  have HSF := hide hsf
  clear hso hsf
  go_enter Try.func76, Try.ntmps76
  go_upto_region 1 with fail
  generalize w.setCell ⟨sb, 3, none⟩ (.int .i64 ((s.sn : Int) + 1)) = W1 at *
  obtain ⟨_, _, _, d3, d4, d5, _, _⟩ := (unhide H1).cells
  have d3' : W1.cell? ⟨sb, 3, none⟩ = some (.int .i64 ((s.sn : Int) + 1)) := d3
  obtain ⟨cr, fr1⟩ := (unhide H1).rk.cell hu
  obtain ⟨cl, fl1⟩ := (unhide H1).lw.cell hu
  have H2 := hide (((unhide H1).setR hu (s.sn + 1)).setL hu (s.sn + 1))
  obtain ⟨cl2, fl2⟩ := ((unhide H1).setR hu (s.sn + 1)).lw.cell hu
  have hnn := (unhide H1).ne.1
  clear d3
  have H3 := hide ((unhide H2).later ((Below.refl _ _).drew))
  change Hid (Sg N na nc w0 sb rb lb hb lo ⟨up s.rk u (s.sn + 1), up s.lw u (s.sn + 1), s.hd, s.op, s.fr, s.sn + 1⟩ (.slice fa fl fc) (.slice oa ol oc) ((W1.setCell ⟨rb, u, none⟩ (.int .i64 ((s.sn : Int) + 1))).setCell ⟨lb, u, none⟩ (.int .i64 ((s.sn : Int) + 1))).drew) at H3
  go_big_region
  generalize ((W1.setCell ⟨rb, u, none⟩ (.int .i64 ((s.sn : Int) + 1))).setCell ⟨lb, u, none⟩ (.int .i64 ((s.sn : Int) + 1))).drew = W2 at *
  clear H1 H2 cr fr1 cl fl1 cl2 fl2 d3' d4 d5 hnn
  obtain ⟨_, e1, e2, _, _, _, _, ez⟩ := (unhide H3).cells
  have g2 := ez 2
  have H4 := hide ((unhide H3).later (al W2 (.cells #[.int .i64 (u : Int)] 3)))
  have hs2 := (unhide H3).siz
  have HOP := hide (show (W2.alloc (.cells #[.int .i64 (u : Int)] 3)).ownsRow lo 3 1 (.slice oa ol oc) ol (tV (nI s.op)) from by have := (unhide H4).opn; rw [show (⟨up s.rk u (s.sn + 1), up s.lw u (s.sn + 1), s.hd, s.op, s.fr, s.sn + 1⟩ : Ts).op.length = ol from unhide HSO] at this; exact this)
  have HAP := hide (fun (w9 : World) (gg c9 : Nat) (hown : w9.ownsRow lo 3 1 (.slice (some ⟨gg, 0, none⟩) (ol + 1) c9) (ol + 1) (tV (nI s.op) ++ [.int .i64 (u : Int)])) (hgrow : (W2.alloc (.cells #[.int .i64 (u : Int)] 3)).grownBy w9 (Value.slice oa ol oc).ownBlock) => show Sg N na nc w0 sb rb lb hb lo ⟨up s.rk u (s.sn + 1), up s.lw u (s.sn + 1), s.hd, s.op ++ [u], s.fr, s.sn + 1⟩ (.slice fa fl fc) (.slice (some ⟨gg, 0, none⟩) (ol + 1) c9) (w9.setCell ⟨sb, 2, none⟩ (.slice (some ⟨gg, 0, none⟩) (ol + 1) c9)) ∧ w9.cell? ⟨sb, 2, none⟩ = some (.slice oa ol oc) ∧ w9.frozen? ⟨sb, 2, none⟩ = false from by
    refine ⟨(unhide H4).appO hgrow ?_, ?_⟩
    · rw [show (⟨up s.rk u (s.sn + 1), up s.lw u (s.sn + 1), s.hd, s.op, s.fr, s.sn + 1⟩ : Ts).op.length = ol from unhide HSO]
      exact hown
    · obtain ⟨q1, _⟩ := (unhide H4).grown hgrow (fun j e => ((unhide H4).opn.lt j e).1)
      have q2 := q1.trans (unhide H4).str
      exact ⟨(cell_blk q2 2).1, (cell_blk q2 2).2⟩)
  go_upto_region 3 with (at_builtin; go_must (refine wpList_append_lies _ rfl _ _ 23 rfl lo 3 i0 (.int .i64 0) 1 8 Try.underlying23 hi0 hz0 hz1 hz2 rfl (by decide) (.slice oa ol oc) ol (tV (nI s.op)) rfl (unhide HOP) ⟨W2.heap.size, 0, none⟩ 1 1 [.int .i64 (u : Int)] rfl rfl (cell_one_new _ _ _) (by simp [Value.oneCell']) (by decide) (by unfold maxLen; omega) (by omega) (by simp; omega) _ rfl ?_); intro gg c9 w9 hown hgrow hat _; obtain ⟨hx1, k2, z2⟩ := unhide HAP w9 gg c9 hown hgrow; have HX := hide hx1; clear hown hgrow hat hx1)
  clear HAP HOP H3 H4 e1 e2 ez g2 k2 z2 hs2
  generalize w9.setCell ⟨sb, 2, none⟩ (.slice (some ⟨gg, 0, none⟩) (ol + 1) c9) = W5 at *
  obtain ⟨_, e1, _, _, _, _, _, ez⟩ := (unhide HX).cells
  have g1 := ez 1
  have hs5 := (unhide HX).siz
  have H6 := hide ((unhide HX).later (al W5 (.cells #[.int .i64 (u : Int), .int .i64 0] 99)))
  have HFP := hide (show (W5.alloc (.cells #[.int .i64 (u : Int), .int .i64 0] 99)).ownsRow lo 99 2 (.slice fa fl fc) fl (fV s.fr.reverse) from by have := (unhide H6).frs; rw [show (⟨up s.rk u (s.sn + 1), up s.lw u (s.sn + 1), s.hd, s.op ++ [u], s.fr, s.sn + 1⟩ : Ts).fr.length = fl from unhide HSF] at this; exact this)
  have HAP := hide (fun (w9 : World) (gg2 c9 : Nat) (hown : w9.ownsRow lo 99 2 (.slice (some ⟨gg2, 0, none⟩) (fl + 1) c9) (fl + 1) (fV s.fr.reverse ++ [.int .i64 (u : Int), .int .i64 0])) (hgrow : (W5.alloc (.cells #[.int .i64 (u : Int), .int .i64 0] 99)).grownBy w9 (Value.slice fa fl fc).ownBlock) => show (∃ fv2 ov2, Sg N na nc w0 sb rb lb hb lo ⟨up s.rk u (s.sn + 1), up s.lw u (s.sn + 1), s.hd, s.op ++ [u], (u, 0) :: s.fr, s.sn + 1⟩ fv2 ov2 (w9.setCell ⟨sb, 1, none⟩ (.slice (some ⟨gg2, 0, none⟩) (fl + 1) c9))) ∧ w9.cell? ⟨sb, 1, none⟩ = some (.slice fa fl fc) ∧ w9.frozen? ⟨sb, 1, none⟩ = false from by
    refine ⟨⟨_, _, (unhide H6).appF hgrow ?_⟩, ?_⟩
    · rw [show (⟨up s.rk u (s.sn + 1), up s.lw u (s.sn + 1), s.hd, s.op ++ [u], s.fr, s.sn + 1⟩ : Ts).fr.length = fl from unhide HSF]
      exact hown
    · obtain ⟨q1, _⟩ := (unhide H6).grown hgrow (fun j e => ((unhide H6).frs.lt j e).1)
      have q2 := q1.trans (unhide H6).str
      exact ⟨(cell_blk q2 1).1, (cell_blk q2 1).2⟩)
  go_wp2_with (at_builtin; go_must (refine wpList_append_lies _ rfl _ _ 85 rfl lo 99 iF (.agg #[.int .i64 0, .int .i64 0]) 2 16 Try.underlying85 hiF hf0 hf1 hf2 rfl (by decide) (.slice fa fl fc) fl (fV s.fr.reverse) rfl (unhide HFP) ⟨W5.heap.size, 0, none⟩ 1 1 [.int .i64 (u : Int), .int .i64 0] rfl rfl (cells2_new _ _ _ _) (by simp [Value.oneCell']) (by decide) (by unfold maxLen; omega) (by omega) (by simp; omega) _ rfl ?_); intro gg2 c10 w10 hown hgrow hat _; obtain ⟨hx1, k2, z2⟩ := unhide HAP w10 gg2 c10 hown hgrow; have HY := hide hx1; clear hown hgrow hat hx1)
  go_end0
  exact ⟨rfl, unhide HY⟩
end Go.Proofs.Ytjflnpcpnoccjaa

