import Derived.Test.YtokgegbodbnimaaMsM
namespace Go.Proofs.Ytokgegbodbnimaa
open Go.RowKit Go.Maps

/-- WHAT AN OPERATION MEANS FOR THE FILES ALONE. -/
noncomputable def Ope.cn (o : Ope) (m : Cn) : Cn := (o.on (m, 0)).1
theorem Ope.on1 (o : Ope) (m : Cn) (u : Int) : (o.on (m, u)).1 = o.cn m := by
  unfold Ope.cn
  cases o with
  | wr x bs => rfl
  | ap x bs => simp only [Ope.on]; cases m x <;> rfl
  | tr x n => simp only [Ope.on]; cases m x <;> rfl
  | rn x y => simp only [Ope.on]; cases m x <;> rfl
  | rm x => rfl
/-- THE STORE'S OWN CELLS. -/
structure Mm where
  d0 : Value
  u0 : Int
  d1 : Value
  u1 : Int
  pv : Value
  cap : Int
  calls : Int
  left : Int
  H0 : Nm → Option Hd
  H1 : Nm → Option Hd
  ps : List Opn
def Mm.cur (M : Mm) : Array Value := #[M.d0, .int .i64 M.u0, M.d1, .int .i64 M.u1, M.pv, .int .i64 M.cap, .int .i64 M.calls, .bool false, .bool false, .int .i64 M.left]
def bytesL (ps : List Opn) : Nat := (ps.map fun o => o.e.bytes).sum
theorem bytesL_snoc (ps : List Opn) (o : Opn) : bytesL (ps ++ [o]) = bytesL ps + o.e.bytes := by simp [bytesL]
/-- THE HEADERS OF THE STORE, APART AND IN ORDER. -/
structure Hs (H0 H1 : Nm → Option Hd) (ps : List Opn) : Prop where
  le1 : ∀ x g, H1 x = some g → Blw H0 g
  lep : ∀ o ∈ ps, ∀ f, o.od = some f → Blw H0 f
  dis : ∀ o ∈ ps, ∀ f, o.od = some f → ∀ x g b, H1 x = some g → bk g = some b → bk f = some b → False
  pdi : ps.Pairwise fun o o2 => ∀ f f2 b, o.od = some f → o2.od = some f2 → bk f = some b → bk f2 = some b → False
/-- A STORE AS IT LIES: ITS BLOCKS ARE AMONG O. -/
structure Sto (O : Nat → Prop) (B : Nat) (M : Mm) (m0 m1 : Cn) (K : Nat) (W : World) : Prop where
  blk : W.heap[B]? = some (.cells M.cur 75 (0, 0))
  s0 : Sd W M.d0 M.H0 m0 K
  s1 : ∃ k1, Sd W M.d1 M.H1 m1 k1 ∧ k1 + 2 * M.ps.length ≤ K
  mne : ∀ b, mb M.d0 = some b → mb M.d1 ≠ some b
  pen : W.ownsRow 0 84 1 M.pv M.ps.length (vals M.ps)
  pok : ∀ o ∈ M.ps, o.Ok W
  hs : Hs M.H0 M.H1 M.ps
  sam : ∀ x, x ∉ nmsL M.ps → M.H0 x = M.H1 x
  l0 : ∀ x bs, m0 x = some bs → bs.length ≤ K
  l1 : ∀ x bs, m1 x = some bs → bs.length + bytesL M.ps ≤ K
  lp : M.ps.length + bytesL M.ps ≤ K
  hK : K ≤ 1099511627776
  oB : O B
  o0 : ∀ b, mb M.d0 = some b → O b
  o1 : ∀ b, mb M.d1 = some b → O b
  op : ∀ b, M.pv.ownBlock = some b → O b
  oh0 : ∀ x f b, M.H0 x = some f → bk f = some b → O b
  oh1 : ∀ x f b, M.H1 x = some f → bk f = some b → O b
  ohp : ∀ o ∈ M.ps, ∀ f b, o.od = some f → bk f = some b → O b
theorem own_same {W W2 : World} {base e size n : Nat} {v : Value} {xs : List Value} (h : W.ownsRow base e size v n xs) (q : ∀ b, v.ownBlock = some b → W2.heap[b]? = W.heap[b]?) : W2.ownsRow base e size v n xs := by
  refine ⟨h.1, ?_⟩
  rcases h.2 with z | ⟨g, cap, cur, h1, h2, h3, h4⟩
  · exact .inl z
  · exact .inr ⟨g, cap, cur, h1, h2, (q g (by rw [h1]; rfl)).trans h3, h4⟩
/-- Where none of its blocks has changed it is as it was. -/
theorem Sto.fx {O P : Nat → Prop} {B : Nat} {M : Mm} {m0 m1 : Cn} {K : Nat} {W W2 : World} (h : Sto O B M m0 m1 K W) (f : Fx P W W2) (hp : ∀ b, b < W.heap.size → O b → ¬ P b) : Sto O B M m0 m1 K W2 := by
  obtain ⟨k1, s1, hk1⟩ := h.s1
  have bt0 : ∀ x g bs, M.H0 x = some g → Bt W g bs → Bt W2 g bs := fun x g bs hx b => b.fx f fun c e => hp c (b.lt e) (h.oh0 x g c hx e)
  have bt1 : ∀ x g bs, M.H1 x = some g → Bt W g bs → Bt W2 g bs := fun x g bs hx b => b.fx f fun c e => hp c (b.lt e) (h.oh1 x g c hx e)
  refine ⟨(f.blk B (blk_lt h.blk) (hp B (blk_lt h.blk) h.oB)).trans h.blk, ⟨h.s0.dm.fx f fun b e => hp b (h.s0.dm.lt e) (h.o0 b e), h.s0.sc.same bt0⟩, ⟨k1, ⟨s1.dm.fx f fun b e => hp b (s1.dm.lt e) (h.o1 b e), s1.sc.same bt1⟩, hk1⟩, h.mne,
    own_same h.pen fun b e => f.blk b (World.ownsRow.lt h.pen b e).2 (hp b (World.ownsRow.lt h.pen b e).2 (h.op b e)), fun o ho => (h.pok o ho).same fun g bs e b => b.fx f fun c ec => hp c (b.lt ec) (h.ohp o ho g c e ec), h.hs, h.sam, h.l0, h.l1, h.lp, h.hK, h.oB, h.o0, h.o1, h.op, h.oh0, h.oh1, h.ohp⟩
theorem Sto.later {O : Nat → Prop} {B : Nat} {M : Mm} {m0 m1 : Cn} {K : Nat} {W W2 : World} (h : Sto O B M m0 m1 K W) (f : Below W.heap.size W W2) : Sto O B M m0 m1 K W2 := h.fx (P := fun _ => False) (Fx.of f) fun _ _ _ q => q
theorem Sto.mono {O O2 : Nat → Prop} {B : Nat} {M : Mm} {m0 m1 : Cn} {K K2 : Nat} {W : World} (h : Sto O B M m0 m1 K W) (q : ∀ b, b < W.heap.size → O b → O2 b) (hK : K ≤ K2) (hK2 : K2 ≤ 1099511627776) : Sto O2 B M m0 m1 K2 W := by
  obtain ⟨k1, s1, hk1⟩ := h.s1
  refine ⟨h.blk, h.s0.mono hK, ⟨k1, s1, by omega⟩, h.mne, h.pen, h.pok, h.hs, h.sam, fun x bs e => Nat.le_trans (h.l0 x bs e) hK, fun x bs e => Nat.le_trans (h.l1 x bs e) hK, Nat.le_trans h.lp hK, hK2, q _ (blk_lt h.blk) h.oB, fun b e => q b (h.s0.dm.lt e) (h.o0 b e), fun b e => q b (s1.dm.lt e) (h.o1 b e), fun b e => q b (World.ownsRow.lt h.pen b e).2 (h.op b e), fun x f b hx e => ?_, fun x f b hx e => ?_, fun o ho f b e1 e2 => ?_⟩
  · obtain ⟨bs, _, bt⟩ := h.s0.sc.con x f hx
    exact q b (bt.lt e) (h.oh0 x f b hx e)
  · obtain ⟨bs, _, bt⟩ := s1.sc.con x f hx
    exact q b (bt.lt e) (h.oh1 x f b hx e)
  · have ok := h.pok o ho
    refine q b ?_ (h.ohp o ho f b e1 e2)
    cases o with
    | wr x g bs => cases e1; exact ok.2.lt e2
    | ap x g bs => cases e1; exact ok.2.lt e2
    | tr x n => cases e1
    | rn x y => cases e1
    | rm x => cases e1
theorem Blw.on {W W2 : World} {B : Nat} {cur : Array Value} {d : Value} {u : Int} {H : Nm → Option Hd} {m : Cn} {k : Nat} {o : Opn} {d2 : Value} {H2 : Nm → Option Hd} (h : On W W2 B cur d u H m k o d2 H2) {g : Hd} (b : Blw H g) (hl : ∀ c, bk g = some c → c < W.heap.size) (hf : ∀ f c, o.od = some f → bk f = some c → bk g = some c → g.n ≤ f.n) : Blw H2 g := fun z h' c hz e1 e2 => by
  rcases h.from_ z h' hz with ⟨y, h0, hy, q1, q2⟩ | q | q
  · exact Nat.le_trans (b y h0 c hy (by rw [← q1]; exact e1) e2) q2
  · have a1 := hl c e2
    have a2 := q c e1
    omega
  · exact hf h' c q e1 e2
theorem Opn.Ok.lt {W : World} {o : Opn} (ok : o.Ok W) {f : Hd} (e1 : o.od = some f) {b : Nat} (e2 : bk f = some b) : b < W.heap.size := by
  cases o with
  | wr x g bs => cases e1; exact ok.2.lt e2
  | ap x g bs => cases e1; exact ok.2.lt e2
  | tr x n => cases e1
  | rn x y => cases e1
  | rm x => cases e1
/-- AN OPERATION ON THE DIRECTORY THAT IS SEEN. -/
theorem on_any {W : World} {B k : Nat} {cur : Array Value} {d : Value} {u : Int} {H : Nm → Option Hd} {m : Cn} (o : Opn) (hB : W.heap[B]? = some (.cells cur 75 (0, 0))) (hd : cur[0]? = some d) (hu : cur[1]? = some (.int .i64 u)) (s : Sd W d H m k) (hk : k < maxLen) (ok : o.Ok W)
    (hn : ∀ f y g c, o.od = some f → H y = some g → bk g = some c → bk f = some c → False) (hz : ∀ x bs, m x = some bs → bs.length + o.e.bytes ≤ 70368744177664) :
    Calls Try.prog o.fO #[o.ag, .pointer (some ⟨B, 0, none⟩)] W fun v W' => v = .returned (.tuple #[]) ∧ ∃ d2 H2, On W W' B cur d u H m k o d2 H2 := by
  have hz2 : ∀ x f, H x = some f → f.n + o.e.bytes ≤ 70368744177664 := fun x f hx => by
    obtain ⟨bs, e, b⟩ := s.sc.con x f hx
    have := hz x bs e
    rw [b.len] at this
    exact this
  cases o with
  | wr x f bs => exact on_wr hB hd hu s hk ok fun y g c _ h1 h2 h3 => hn f y g c rfl h1 h2 h3
  | ap x f bs => exact on_ap hB hd hu s hk ok fun g hg => hz2 x g hg
  | tr x n => exact on_tr hB hd hu s hk ok fun g hg => by have := hz2 x g hg; omega
  | rn x y => exact on_rn hB hd hu s hk ok
  | rm x => exact on_rm hB hd hu s ok
end Go.Proofs.Ytokgegbodbnimaa
