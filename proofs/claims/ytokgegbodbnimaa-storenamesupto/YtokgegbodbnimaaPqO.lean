import Derived.Test.YtokgegbodbnimaaPqM
namespace Go.Proofs.Ytokgegbodbnimaa
open Go.RowKit Go.Maps Go.Sort Go.Shelf

theorem nmS_filter {W : World} {d : Value} {H : Nm → Option Hd} {m : Cn} {k : Nat} (s : Sd W d H m k) (p : Nm) : nmS m p = (nmS m ⟨#[]⟩).filter (fun x => pre (nmOf x) p) := by
  have hI := nmS_is s ⟨#[]⟩
  have h2 : IsNms m p ((nmS m ⟨#[]⟩).filter (fun x => pre (nmOf x) p)) := by
    refine ⟨hI.1.filter _, fun x => ?_⟩
    rw [List.mem_filter, hI.2, nmOf_data]
    constructor
    · rintro ⟨⟨q1, _⟩, q2⟩; exact ⟨q1, q2⟩
    · rintro ⟨q1, q2⟩; exact ⟨⟨q1, pre_nil x⟩, q2⟩
  have tr : ∀ a b c : List UInt8, decide (a ≤ b) = true → decide (b ≤ c) = true → decide (a ≤ c) = true := fun a b c h1 h2 => by simp only [decide_eq_true_eq] at *; exact List.le_trans h1 h2
  have to : ∀ a b : List UInt8, (decide (a ≤ b) || decide (b ≤ a)) = true := fun a b => by simp only [Bool.or_eq_true, decide_eq_true_eq]; exact List.le_total a b
  have hs : (nmS m ⟨#[]⟩).Pairwise (fun a b => decide (a ≤ b) = true) := by
    rw [nmS_eq hI]
    exact List.pairwise_mergeSort tr to _
  rw [nmS_eq h2]
  refine List.Perm.eq_of_pairwise (le := fun a b => decide (a ≤ b) = true) (fun a b _ _ h1 h2 => ?_) (List.pairwise_mergeSort tr to _) (hs.filter _) (List.mergeSort_perm _ _)
  simp only [decide_eq_true_eq] at h1 h2
  exact List.le_antisymm h1 h2
/-- THE LAW'S OWN CELLS, AHEAD OF THE LIST OF WHAT IS WANTED. -/
structure Ne (W0 X : World) (t : Nat) (x : Nm) (stop : Int) (m0 m1 : Cn) (K : Nat) : Prop where
  e6 : X.heap[W0.heap.size]? = some (.cells #[.string x] 9 (0, 0))
  e7 : X.heap[W0.heap.size + 1]? = some (.cells #[.int .i64 stop] 3 (0, 0))
  e8 : X.heap[W0.heap.size + 2]? = some (.cells #[.bool false] 4 (0, 0))
  e9 : X.heap[t]? = some (.cells #[.pointer (some ⟨W0.heap.size + 3, 0, none⟩)] 24 (0, 0))
  st : ∃ M : Mm, Sto (Wn (W0.heap.size + 3) t) (W0.heap.size + 3) M m0 m1 K X
  bw : RowKit.Below W0.heap.size W0 X
  o : W0.heap.size + 3 < t
theorem Ne.later {W0 X Y : World} {t : Nat} {x : Nm} {stop : Int} {m0 m1 : Cn} {K : Nat} (h : Ne W0 X t x stop m0 m1 K) (b : RowKit.Below X.heap.size X Y) : Ne W0 Y t x stop m0 m1 K := by
  obtain ⟨M, hM⟩ := h.st
  exact ⟨(b.block _ (blk_lt h.e6)).trans h.e6, (b.block _ (blk_lt h.e7)).trans h.e7, (b.block _ (blk_lt h.e8)).trans h.e8, (b.block _ (blk_lt h.e9)).trans h.e9, ⟨M, hM.later b⟩, bl_t h.bw b, h.o⟩
def w03 (W0 : World) (x : Nm) (stop : Int) : World := ((W0.alloc (.cells #[.string x] 9)).alloc (.cells #[.int .i64 stop] 3)).alloc (.cells #[.bool false] 4)
theorem w03_size (W0 : World) (x : Nm) (stop : Int) : (w03 W0 x stop).heap.size = W0.heap.size + 3 := by unfold w03; simp [World.size_alloc]
theorem al_b (W : World) (o : Obj) : RowKit.Below W.heap.size W (W.alloc o) := (Below.refl _ W).alloc (Nat.le_refl _) _
theorem w03_bel (W0 : World) (x : Nm) (stop : Int) : RowKit.Below W0.heap.size W0 (w03 W0 x stop) := bl_t (bl_t (al_b _ _) (al_b _ _)) (al_b _ _)
theorem w03_cells (W0 : World) (x : Nm) (stop : Int) : (w03 W0 x stop).heap[W0.heap.size]? = some (.cells #[.string x] 9 (0, 0)) ∧ (w03 W0 x stop).heap[W0.heap.size + 1]? = some (.cells #[.int .i64 stop] 3 (0, 0)) ∧ (w03 W0 x stop).heap[W0.heap.size + 2]? = some (.cells #[.bool false] 4 (0, 0)) := by
  have h1 := heap_new W0 (.cells #[.string x] 9)
  have h2 := heap_new (W0.alloc (.cells #[.string x] 9)) (.cells #[.int .i64 stop] 3)
  have h3 := heap_new ((W0.alloc (.cells #[.string x] 9)).alloc (.cells #[.int .i64 stop] 3)) (.cells #[.bool false] 4)
  have b2 := al_b (W0.alloc (.cells #[.string x] 9)) (.cells #[.int .i64 stop] 3)
  have b3 := al_b ((W0.alloc (.cells #[.string x] 9)).alloc (.cells #[.int .i64 stop] 3)) (.cells #[.bool false] 4)
  rw [World.size_alloc] at h2
  rw [World.size_alloc, World.size_alloc] at h3
  refine ⟨(b3.block _ ?_).trans ((b2.block _ ?_).trans h1), (b3.block _ ?_).trans h2, h3⟩
  · rw [World.size_alloc, World.size_alloc]; omega
  · rw [World.size_alloc]; omega
  · rw [World.size_alloc, World.size_alloc]; omega
theorem names_start {W0 : World} {pa : Option Addr} {sc : List Sp} (pc : Nat) (hs : Rs W0 pa sc) (hK : Ks sc sc.length ≤ 1000000000) (hl : sc.length ≤ 1099511627776) (x : Nm) (stop : Int) :
    Calls Try.prog 18 #[.slice pa sc.length pc] (w03 W0 x stop) fun v W2 => v = .returned (.tuple #[.pointer (some ⟨W0.heap.size + 3, 0, none⟩), .bool true]) ∧
      Calls Try.prog 21 #[.pointer (some ⟨W0.heap.size + 3, 0, none⟩)] (W2.alloc (.cells #[.pointer (some ⟨W0.heap.size + 3, 0, none⟩)] 24)) fun v W4 => ∃ l, v = .returned l ∧ ∃ (t : Nat) (m0 m1 : Cn) (K lo hi : Nat) (L : List (List UInt8 × Hd)), t = W2.heap.size ∧ K ≤ 1000000000 ∧ Ne W0 W4 t x stop m0 m1 K ∧ Im W4 lo hi m0 l L ∧ t < W4.heap.size := by
  have C := played_any pc (hs.later (w03_bel W0 x stop)) (by omega) hl
  rw [w03_size] at C
  refine C.mono fun v W2 ⟨q0, st, b2⟩ => ⟨q0, ?_⟩
  rw [show W0.heap.size + 3 = (w03 W0 x stop).heap.size from (w03_size W0 x stop).symm] at b2 st
  obtain ⟨M, h2, _⟩ := st.wn
  have z2 := b2.size
  have zz := blk_lt h2.blk
  rw [w03_size] at z2 h2 zz
  have b3 := al_b W2 (.cells #[.pointer (some ⟨W0.heap.size + 3, 0, none⟩)] 24)
  have h3 := h2.later b3
  obtain ⟨c6, c7, c8⟩ := w03_cells W0 x stop
  have b23 := bl_t b2 b3
  have ne3 : Ne W0 (W2.alloc (.cells #[.pointer (some ⟨W0.heap.size + 3, 0, none⟩)] 24)) W2.heap.size x stop (runs sc sc.length).m0 (runs sc sc.length).m1 (Ks sc sc.length) :=
    ⟨(b23.block _ (blk_lt c6)).trans c6, (b23.block _ (blk_lt c7)).trans c7, (b23.block _ (blk_lt c8)).trans c8, heap_new W2 _, ⟨M, h3⟩, bl_t (w03_bel W0 x stop) b23, zz⟩
  refine (Image_any h3 (by omega)).mono fun v W4 ⟨l, e4, ⟨L, im⟩, b4⟩ => ⟨l, e4, W2.heap.size, _, _, _, _, _, L, rfl, hK, ne3.later b4, im, ?_⟩
  have := b4.size
  rw [World.size_alloc] at this
  omega
/-- WHAT IS WANTED, WHILE IT IS GATHERED. -/
structure Wt (X wr : World) (k : List (List UInt8)) (v : Value) : Prop where
  box : wr.heap[X.heap.size]? = some (.cells #[v] 48 (0, 0))
  row : wr.ownsRow (X.heap.size + 1) 9 1 v k.length (k.map encStr)
  bw : RowKit.Below X.heap.size X wr
theorem Wt.start (X : World) : Wt X (X.alloc (.cells #[.slice none 0 0] 48)) [] (.slice none 0 0) := ⟨heap_new X _, World.ownsRow_nil _ _ _ _, al_b _ _⟩
theorem Wt.next {X wr w3 : World} {k : List (List UInt8)} {v v' : Value} {x : List UInt8} (h : Wt X wr k v) (hown : w3.ownsRow (X.heap.size + 1) 9 1 v' (k.length + 1) (k.map encStr ++ [encStr x])) (hg : (wr.alloc (.cells #[.string (nmOf x)] 9)).grownBy w3 v.ownBlock) :
    w3.cell? ⟨X.heap.size, 0, none⟩ = some v ∧ w3.frozen? ⟨X.heap.size, 0, none⟩ = false ∧ Wt X (w3.setCell ⟨X.heap.size, 0, none⟩ v') (k ++ [x]) v' := by
  have hz := blk_lt h.box
  have hne : ∀ b, b < X.heap.size + 1 → v.ownBlock ≠ some b := fun b hb e => by have := (World.ownsRow.lt h.row b e).1; omega
  have hb : ∀ b, b < X.heap.size + 1 → w3.heap[b]? = wr.heap[b]? := fun b hb => by
    rw [hg.block b (by rw [World.size_alloc]; omega) (hne b hb).symm]
    exact (al_b wr (.cells #[.string (nmOf x)] 9)).block b (by omega)
  have c3 := (hb X.heap.size (by omega)).trans h.box
  refine ⟨(cell_blk c3 0).1.trans rfl, (cell_blk c3 0).2, set_blk c3 0 v', ?_, ?_⟩
  · rw [List.length_append, List.map_append]
    refine own_same hown fun b e => set_other _ _ _ _ _ fun z => ?_
    have := (World.ownsRow.lt hown b e).1
    omega
  · refine Below.setCell (p := ⟨X.heap.size, 0, none⟩) (h.bw.trans ?_) (Nat.le_refl _) v'
    exact ((al_b wr (.cells #[.string (nmOf x)] 9)).mono (by omega)).grown hg (by rw [World.size_alloc]; omega) (fun j hj => by have := (World.ownsRow.lt h.row j hj).1; omega)
/-- ALL THAT THE TWO RANGES FIND. -/
structure Le (W0 w : World) (t : Nat) (x : Nm) (stop : Int) (Bw : Nat) (wa : Option Addr) (wc : Nat) (ss : List (List UInt8)) (Bx : Nat) (na : Option Addr) (nc : Nat) (Bn : Nat) : Prop where
  e6 : w.heap[W0.heap.size]? = some (.cells #[.string x] 9 (0, 0))
  e7 : w.heap[W0.heap.size + 1]? = some (.cells #[.int .i64 stop] 3 (0, 0))
  e8 : w.heap[W0.heap.size + 2]? = some (.cells #[.bool false] 4 (0, 0))
  e9 : w.heap[t]? = some (.cells #[.pointer (some ⟨W0.heap.size + 3, 0, none⟩)] 24 (0, 0))
  ew : w.heap[Bw]? = some (.cells #[.slice wa ss.length wc] 48 (0, 0))
  er : w.ownsRow 0 9 1 (.slice wa ss.length wc) ss.length (ss.map encStr)
  el : ∀ g, (Value.slice wa ss.length wc).ownBlock = some g → t < g ∧ g < Bn
  nb : Nb Bx na nc ss w
  nl : ∀ g, (na.map (·.block)) = some g → t < g ∧ g < Bn
  bw : RowKit.Below W0.heap.size W0 w
  o : W0.heap.size + 3 < t ∧ t < Bw ∧ Bw < Bx ∧ Bx < Bn ∧ Bn ≤ w.heap.size
theorem Le.fx {P : Nat → Prop} {W0 w Y : World} {t : Nat} {x : Nm} {stop : Int} {Bw : Nat} {wa : Option Addr} {wc : Nat} {ss : List (List UInt8)} {Bx : Nat} {na : Option Addr} {nc Bn : Nat} (h : Le W0 w t x stop Bw wa wc ss Bx na nc Bn) (f : Fx P w Y) (hp : ∀ b, P b → Wn (W0.heap.size + 3) t b ∨ Bn ≤ b) : Le W0 Y t x stop Bw wa wc ss Bx na nc Bn := by
  obtain ⟨o1, o2, o3, o4, o5⟩ := h.o
  have kp : ∀ b, b < Bn → (b < W0.heap.size + 3 ∨ t ≤ b) → Y.heap[b]? = w.heap[b]? := fun b h1 h2 => f.blk b (by omega) fun q => by
    rcases hp b q with q | q
    · have := q.1; have := q.2; omega
    · omega
  have hz := f.size
  refine ⟨(kp _ (by omega) (by omega)).trans h.e6, (kp _ (by omega) (by omega)).trans h.e7, (kp _ (by omega) (by omega)).trans h.e8, (kp _ (by omega) (by omega)).trans h.e9, (kp _ (by omega) (by omega)).trans h.ew, own_same h.er fun b e => kp b (h.el b e).2 (.inr (by have := (h.el b e).1; omega)), h.el, h.nb.kp ⟨kp _ (by omega) (by omega), fun g e => kp g (h.nl g e).2 (.inr (by have := (h.nl g e).1; omega))⟩, h.nl, ?_, ⟨o1, o2, o3, o4, by omega⟩⟩
  exact h.bw.trans (f.below h.bw.size fun b hb q => by
    rcases hp b q with q | q
    · have := q.1; omega
    · omega)
theorem Le.at_ {W0 w : World} {t : Nat} {x : Nm} {stop : Int} {Bw : Nat} {wa : Option Addr} {wc : Nat} {ss : List (List UInt8)} {Bx : Nat} {na : Option Addr} {nc Bn : Nat} (h : Le W0 w t x stop Bw wa wc ss Bx na nc Bn) {i : Nat} (hi : i < ss.length) : ∃ g, wa = some ⟨g, 0, none⟩ ∧ w.cell? ⟨g, i, none⟩ = some (.string (nmOf ss[i])) := Nb.at_ (Bx := Bw) ⟨h.ew, h.er⟩ hi
/-- A STORE WHERE ONLY OTHER THINGS HAVE CHANGED. -/
theorem Sto.same {O : Nat → Prop} {B : Nat} {M : Mm} {m0 m1 : Cn} {K : Nat} {W W2 : World} (h : Sto O B M m0 m1 K W) (q : ∀ (b : Nat) (o : Obj), W.heap[b]? = some o → (o.isCells = true ∨ ∃ es c, o = Obj.map es c) → W2.heap[b]? = W.heap[b]?) : Sto O B M m0 m1 K W2 := by
  obtain ⟨k1, s1, hk1⟩ := h.s1
  have bt : ∀ g bs, Bt W g bs → Bt W2 g bs := fun g bs b => b.same fun c e => by
    rcases b.form with ⟨e2, _⟩ | ⟨g2, c2, e2, hg, _⟩
    · rw [e2] at e; cases e
    · unfold bk at e
      rw [e2] at e
      cases e
      exact q _ _ hg (.inl rfl)
  have dm : ∀ d H k, Dm W d H k → Dm W2 d H k := fun d H k hd => hd.same fun b e => by
    rcases hd with ⟨rfl, _⟩ | ⟨b2, D, rfl, ho, _⟩
    · cases e
    · cases e
      obtain ⟨es, clock, h1, h2⟩ := ho
      exact q _ _ h1 (.inr ⟨es, clock, rfl⟩)
  refine ⟨(q _ _ h.blk (.inl rfl)).trans h.blk, ⟨dm _ _ _ h.s0.dm, h.s0.sc.same fun _ g bs _ b => bt g bs b⟩, ⟨k1, ⟨dm _ _ _ s1.dm, s1.sc.same fun _ g bs _ b => bt g bs b⟩, hk1⟩, h.mne, own_same h.pen fun b e => ?_, fun o ho => (h.pok o ho).same fun g bs _ b => bt g bs b, h.hs, h.sam, h.l0, h.l1, h.lp, h.hK, h.oB, h.o0, h.o1, h.op, h.oh0, h.oh1, h.ohp⟩
  rcases h.pen.2 with ⟨q2, _⟩ | ⟨g2, cp, cu, q2, _, q3, _⟩
  · rw [q2] at e; cases e
  · rw [q2] at e
    cases e
    exact q _ _ q3 (.inl rfl)
/-- WHAT THE FIRST RANGE KEEPS. -/
structure Nv (w : World) (B t Bn k KK : Nat) (W : World) : Prop where
  fx : Fx (fun b => Wn B t b ∨ b = Bn ∨ w.heap.size ≤ b) w W
  n : W.heap[Bn]? = some (.cells #[.int .i64 (k : Int)] 3 (0, 0))
  st : ∃ (M : Mm) (m0 m1 : Cn) (K : Nat), Sto (fun b => Wn B t b ∨ w.heap.size + 2 ≤ b) B M m0 m1 K W ∧ K ≤ KK
def Fr1 (w : World) (B t Bn : Nat) (W W2 : World) : Prop := Fx (fun b => Wn B t b ∨ b = Bn ∨ w.heap.size + 2 ≤ b) W W2
theorem Nv.grown {w : World} {B t Bn k KK : Nat} {X Y : World} {row : Option Nat} (h : Nv w B t Bn k KK X) (hBn : Bn < w.heap.size) (hg : X.grownBy Y row) (hr : ∀ r, row = some r → w.heap.size ≤ r ∧ ∃ o : Obj, X.heap[r]? = some o ∧ o.isCells = false ∧ ∀ es c, o ≠ .map es c) : Nv w B t Bn k KK Y := by
  have f : Fx (fun b => row = some b) X Y := ⟨⟨hg.1, hg.2, hg.3, hg.size, fun _ h => absurd h (Nat.not_lt_zero _)⟩, fun b hb hn => hg.block b hb (fun e => hn e.symm)⟩
  have hz := h.fx.size
  refine ⟨h.fx.next f fun b hb e => .inr (.inr (hr b e).1), (hg.block Bn (by omega) fun e => (by have := (hr Bn e.symm).1; omega)).trans h.n, ?_⟩
  obtain ⟨M, m0, m1, K, h1, h2⟩ := h.st
  refine ⟨M, m0, m1, K, h1.same fun b o hb hc => hg.block b (blk_lt hb) fun e => ?_, h2⟩
  obtain ⟨_, o2, q1, q2, q3⟩ := hr b e.symm
  rw [hb] at q1
  cases q1
  rcases hc with hc | ⟨es, c, hc⟩
  · rw [q2] at hc; cases hc
  · exact q3 es c hc
theorem Nv.set {w : World} {B t Bn k KK : Nat} {W : World} (h : Nv w B t Bn k KK W) (hBn : t ≤ Bn ∧ Bn < w.heap.size) : W.cell? ⟨Bn, 0, none⟩ = some (.int .i64 (k : Int)) ∧ W.frozen? ⟨Bn, 0, none⟩ = false ∧ Nv w B t Bn (k + 1) KK (W.setCell ⟨Bn, 0, none⟩ (.int .i64 ((k : Int) + 1))) ∧ Fr1 w B t Bn W (W.setCell ⟨Bn, 0, none⟩ (.int .i64 ((k : Int) + 1))) := by
  obtain ⟨M, m0, m1, K, h1, h2⟩ := h.st
  have f1 : Fx (fun b => b = Bn) W (W.setCell ⟨Bn, 0, none⟩ (.int .i64 ((k : Int) + 1))) := Fx.set (P := fun b => b = Bn) (Fx.refl _ _) rfl _ _
  refine ⟨(cell_blk h.n 0).1.trans rfl, (cell_blk h.n 0).2, ⟨h.fx.next f1 fun b _ e => .inr (.inl e), set_blk h.n 0 _, M, m0, m1, K, h1.fx f1 fun b _ q e => ?_, h2⟩, f1.mono fun b _ e => .inr (.inl e)⟩
  rcases q with q | q
  · have := q.2; omega
  · omega
theorem Nv.later {w : World} {B t Bn k KK : Nat} {W W2 : World} (h : Nv w B t Bn k KK W) (hBn : Bn < w.heap.size) (b : RowKit.Below W.heap.size W W2) : Nv w B t Bn k KK W2 := by
  obtain ⟨M, m0, m1, K, h1, h2⟩ := h.st
  have hz := h.fx.size
  exact ⟨h.fx.trans (Fx.of b), (b.block Bn (by omega)).trans h.n, M, m0, m1, K, h1.later b, h2⟩
theorem Nv.call {w : World} {B t Bn k KK : Nat} {W : World} (h : Nv w B t Bn k KK W) (hw : w.heap.size + 2 ≤ W.heap.size) (hBn : t ≤ Bn ∧ Bn < w.heap.size) {g : Nat} {av : Array Value} {e : Nat} (hK : KK + e ≤ 1099511627776)
    (C : ∀ (M : Mm) (m0 m1 : Cn) (K : Nat), Sto (fun b => Wn B t b ∨ w.heap.size + 2 ≤ b) B M m0 m1 K W → K ≤ KK → ∃ o r, o.bytes + 2 ≤ e ∧ Calls Try.prog g av W fun v W' => v = .returned (.int .i64 r) ∧ Left (fun b => Wn B t b ∨ w.heap.size + 2 ≤ b) B M m0 m1 K o r W W') :
    ∃ r, Calls Try.prog g av W fun v W' => v = .returned (.int .i64 r) ∧ Nv w B t Bn k (KK + e) W' ∧ Fr1 w B t Bn W W' := by
  obtain ⟨M, m0, m1, K, h1, h2⟩ := h.st
  obtain ⟨o, r, ho, C⟩ := C M m0 m1 K h1 h2
  refine ⟨r, C.mono fun v W' ⟨q0, l⟩ => ⟨q0, ?_⟩⟩
  rcases l with ⟨_, M2, q1, _, _, _, q5⟩ | ⟨_, q⟩
  · have q5 : Fx (fun b => Wn B t b ∨ w.heap.size + 2 ≤ b) W W' := q5.mono fun b _ z => by
      rcases z with z | z
      · exact z
      · exact .inr (by omega)
    refine ⟨⟨h.fx.next q5 fun b _ z => ?_, (q5.blk Bn (blk_lt h.n) fun z => ?_).trans h.n, M2, _, _, K + e, q1.mono (fun b _ z => ?_) (by omega) (by omega), by omega⟩, q5.mono fun b _ z => ?_⟩
    · rcases z with z | z
      · exact .inl z
      · exact .inr (.inr (by omega))
    · rcases z with z | z
      · have := z.2; omega
      · omega
    · rcases z with z | z
      · exact z
      · exact .inr (by omega)
    · rcases z with z | z
      · exact .inl z
      · exact .inr (.inr z)
  · exact ⟨⟨h.fx.trans (Fx.of q), (q.block Bn (blk_lt h.n)).trans h.n, M, m0, m1, K, h1.later q, by omega⟩, Fx.of q⟩
end Go.Proofs.Ytokgegbodbnimaa
