import Derived.Test.YtjflnpcpnoccjaaGrG
import Derived.Test.YtjflnpcpnoccjaaHeB
import Derived.Test.YtjflnpcpnoccjaaHeA
namespace Go.Proofs.Ytjflnpcpnoccjaa
open Go.RowKit

/-- NOTHING HAS CHANGED BUT BLOCKS OF P. -/
structure Fx (P : Nat → Prop) (W W2 : World) : Prop where
  size : W.heap.size ≤ W2.heap.size
  blk : ∀ b, b < W.heap.size → ¬ P b → W2.heap[b]? = W.heap[b]?
theorem Fx.of {P : Nat → Prop} {W W2 : World} (h : Below W.heap.size W W2) : Fx P W W2 := ⟨h.size, fun b hb _ => h.block b hb⟩
theorem Fx.trans {P : Nat → Prop} {A B C : World} (h : Fx P A B) (k : Fx P B C) : Fx P A C := ⟨Nat.le_trans h.size k.size, fun b hb hp => (k.blk b (Nat.lt_of_lt_of_le hb h.size) hp).trans (h.blk b hb hp)⟩
theorem Fx.refl (P : Nat → Prop) (W : World) : Fx P W W := ⟨Nat.le_refl _, fun _ _ _ => rfl⟩
theorem Fx.set {P : Nat → Prop} {W W2 : World} (h : Fx P W W2) {g : Nat} (hp : P g) (j : Nat) (u : Value) : Fx P W (W2.setCell ⟨g, j, none⟩ u) :=
  ⟨by rw [set_size]; exact h.size, fun b hb hn => (set_other _ _ _ _ _ (fun e => hn (by rw [e]; exact hp))).trans (h.blk b hb hn)⟩
theorem Mv.fx {P : Nat → Prop} {g n e : Nat} {F : Nat → Value} {W W2 : World} (h : Mv g n e F W) (f : Fx P W W2) (hp : ¬ P g) : Mv g n e F W2 := h.same (f.blk g h.lt hp)
theorem Mk.fx {P : Nat → Prop} {base g n cap : Nat} {f : Nat → Int} {W W2 : World} (h : Mk base g n cap f W) (x : Fx P W W2) (hp : ¬ P g) : Mk base g n cap f W2 := h.same (x.blk g h.lt hp)
/-- AN ANSWER IN A BLOCK BETWEEN lo AND hi, OR NOTHING. -/
def Ab (lo hi : Nat) (ga : Option Addr) (g n e : Nat) (F : Nat → Value) (W : World) : Prop := (ga = none ∧ n = 0) ∨ (ga = some ⟨g, 0, none⟩ ∧ lo ≤ g ∧ g < hi ∧ Mv g n e F W)
theorem An.ab {lo : Nat} {ga : Option Addr} {g n e : Nat} {F : Nat → Value} {W : World} (h : An lo ga g n e F W) : Ab lo W.heap.size ga g n e F W := by
  rcases h with h | ⟨h1, h2, h3⟩
  · exact .inl h
  · exact .inr ⟨h1, h2, h3.lt, h3⟩
theorem Ab.fx {P : Nat → Prop} {lo hi : Nat} {ga : Option Addr} {g n e : Nat} {F : Nat → Value} {W W2 : World} (h : Ab lo hi ga g n e F W) (f : Fx P W W2) (hp : ∀ b, lo ≤ b → b < hi → ¬ P b) : Ab lo hi ga g n e F W2 := by
  rcases h with h | ⟨h1, h2, h3, h4⟩
  · exact .inl h
  · exact .inr ⟨h1, h2, h3, h4.fx f (hp g h2 h3)⟩
theorem Ab.later {lo hi : Nat} {ga : Option Addr} {g n e : Nat} {F : Nat → Value} {W W2 : World} (h : Ab lo hi ga g n e F W) (hb : Below W.heap.size W W2) : Ab lo hi ga g n e F W2 := h.fx (P := fun _ => False) (Fx.of hb) (fun _ _ _ q => q)
theorem Ab.rv {lo hi : Nat} {ga : Option Addr} {g n e : Nat} {F : Nat → Value} {W : World} (h : Ab lo hi ga g n e F W) : Rv W ga n F := by
  rcases h with ⟨_, h⟩ | ⟨h1, _, _, h3⟩
  · exact fun h0 => by omega
  · rw [h1]; exact h3.rv
/-- VALUES IN MEMORY BETWEEN lo AND hi. -/
def Rh (lo hi : Nat) (W : World) (pa : Option Addr) (n : Nat) (F : Nat → Value) : Prop := 0 < n → ∃ b o, pa = some ⟨b, o, none⟩ ∧ lo ≤ b ∧ b < hi ∧ b < W.heap.size ∧ ∀ i, i < n → W.cell? ⟨b, o + i, none⟩ = some (F i)
theorem Rn.rh {lo : Nat} {W : World} {pa : Option Addr} {n : Nat} {F : Nat → Value} (h : Rn lo W pa n F) : Rh lo W.heap.size W pa n F := fun h0 => by
  obtain ⟨b, o, h1, h2, h3, h4⟩ := h h0
  exact ⟨b, o, h1, h2, h3, h3, h4⟩
theorem Rh.fx {P : Nat → Prop} {lo hi : Nat} {W W2 : World} {pa : Option Addr} {n : Nat} {F : Nat → Value} (h : Rh lo hi W pa n F) (f : Fx P W W2) (hp : ∀ b, lo ≤ b → b < hi → ¬ P b) : Rh lo hi W2 pa n F := fun h0 => by
  obtain ⟨b, o, h1, h2, h3, h4, h5⟩ := h h0
  refine ⟨b, o, h1, h2, h3, Nat.lt_of_lt_of_le h4 f.size, fun i hi => ?_⟩
  rw [← h5 i hi]
  unfold World.cell?
  rw [show W2.heap[(⟨b, o + i, none⟩ : Addr).block]? = W.heap[(⟨b, o + i, none⟩ : Addr).block]? from f.blk b h4 (hp b h2 h3)]
theorem Rh.later {lo hi : Nat} {W W2 : World} {pa : Option Addr} {n : Nat} {F : Nat → Value} (h : Rh lo hi W pa n F) (hb : Below W.heap.size W W2) : Rh lo hi W2 pa n F := h.fx (P := fun _ => False) (Fx.of hb) (fun _ _ _ q => q)
theorem Rh.rv {lo hi : Nat} {W : World} {pa : Option Addr} {n : Nat} {F : Nat → Value} (h : Rh lo hi W pa n F) : Rv W pa n F := fun h0 => by
  obtain ⟨b, o, h1, _, _, h4, h5⟩ := h h0
  exact ⟨b, o, h1, h4, h5⟩
/-- A ROW OF NUMBERS OF ITS OWN BETWEEN lo AND hi. -/
def Rw (lo hi : Nat) (G : Option Addr) (g l c : Nat) (V : Nat → Int) (W : World) : Prop := Ro1 lo G g l c V W ∧ (G = some ⟨g, 0, none⟩ → g < hi)
theorem Rw.of {W : World} {lo n c : Nat} {G : Option Addr} {V : Nat → Int} (h : W.ownsRow lo 3 1 (.slice G n c) n (vl n (iv V))) : ∃ g, Rw lo W.heap.size G g n c V W := by
  rcases h.2 with ⟨h1, h2⟩ | ⟨g, cap, cur, h1, h2, h3, h4, h5, h6, h7⟩
  · injection h1 with q1 q2 q3
    exact ⟨0, .inl ⟨q1, q2, q3⟩, fun e => by rw [q1] at e; cases e⟩
  · cases h1
    refine ⟨g, .inr ⟨cur, rfl, h2, h3, h4, h5, by omega, fun j hj => ?_⟩, fun _ => blk_lt h3⟩
    have e := vl_at n (iv V) j hj
    rw [← h7, List.getElem?_take, if_pos (by omega), Array.getElem?_toList] at e
    exact e
theorem Rw.fx {P : Nat → Prop} {lo hi : Nat} {G : Option Addr} {g l c : Nat} {V : Nat → Int} {W W2 : World} (h : Rw lo hi G g l c V W) (f : Fx P W W2) (hp : ∀ b, lo ≤ b → b < hi → ¬ P b) : Rw lo hi G g l c V W2 := by
  obtain ⟨h1, h2⟩ := h
  refine ⟨?_, h2⟩
  rcases h1 with h1 | ⟨cur, q1, q2, q3, q4⟩
  · exact .inl h1
  · exact .inr ⟨cur, q1, q2, (f.blk g (blk_lt q3) (hp g q2 (h2 q1))).trans q3, q4⟩
theorem Rw.later {lo hi : Nat} {G : Option Addr} {g l c : Nat} {V : Nat → Int} {W W2 : World} (h : Rw lo hi G g l c V W) (hb : Below W.heap.size W W2) : Rw lo hi G g l c V W2 := h.fx (P := fun _ => False) (Fx.of hb) (fun _ _ _ q => q)
theorem Rw.ri {lo hi : Nat} {G : Option Addr} {g l c : Nat} {V : Nat → Int} {W : World} (h : Rw lo hi G g l c V W) : Ri W G l V := by
  rcases h.1 with ⟨_, q, _⟩ | ⟨cur, q1, q2, q3, q4, q5, q6, q7⟩
  · exact fun h0 => by omega
  · exact fun _ => ⟨g, 0, q1, blk_lt q3, fun i hi => by rw [Nat.zero_add, (cell_blk q3 i).1]; exact q7 i hi⟩
theorem Rw.low {lo hi lo2 : Nat} {G : Option Addr} {g l c : Nat} {V : Nat → Int} {W : World} (h : Rw lo hi G g l c V W) (hl : lo2 ≤ lo) : Ro1 lo2 G g l c V W := by
  rcases h.1 with q | ⟨cur, q1, q2, q3⟩
  · exact .inl q
  · exact .inr ⟨cur, q1, Nat.le_trans hl q2, q3⟩
theorem Tw.fx {P : Nat → Prop} {base B N cB hi : Nat} {ln g cp : Nat → Nat} {L : Nat → Nat → Int} {W W2 : World} (h : Tw base B N cB ln g cp L W) (f : Fx P W W2) (hh : ∀ b, b < W.heap.size → P b → hi ≤ b) (hB : ∀ k, k < N → g k < hi) (hB2 : B < hi)
    (hxy : ∀ cur x y, W.heap[B]? = some (.cells cur 23 (0, 0)) → cur[N]? = some (.slice (some ⟨x, 0, none⟩) 1 1) → cur[N + 1]? = some (.slice (some ⟨y, 0, none⟩) 1 1) → x < hi ∧ y < hi) : Tw base B N cB ln g cp L W2 := by
  have hk : ∀ b, b < W.heap.size → b < hi → W2.heap[b]? = W.heap[b]? := fun b hb hlt => f.blk b hb fun q => by have := hh b hb q; omega
  obtain ⟨cur, h1, h2, x, y, h3, h4, h5, h6⟩ := h.blk
  obtain ⟨hx, hy⟩ := hxy cur x y h1 h3 h4
  exact ⟨⟨cur, (hk B (blk_lt h1) hB2).trans h1, h2, x, y, h3, h4, (hk x (blk_lt h5) hx).trans h5, (hk y (blk_lt h6) hy).trans h6⟩, h.ge, h.cap, fun k hk2 => (h.row k hk2).same (hk _ (h.row k hk2).lt (hB k hk2)), h.ne⟩
/-- A TWIN BELOW hi. -/
structure Tx (hi base B N cB : Nat) (ln g cp : Nat → Nat) (L : Nat → Nat → Int) (W : World) : Prop where
  tw : Tw base B N cB ln g cp L W
  gk : ∀ k, k < N → g k < hi
  bk : B < hi
  xy : ∀ cur x y, W.heap[B]? = some (.cells cur 23 (0, 0)) → cur[N]? = some (.slice (some ⟨x, 0, none⟩) 1 1) → cur[N + 1]? = some (.slice (some ⟨y, 0, none⟩) 1 1) → x < hi ∧ y < hi
theorem Tw.tx {base B N cB : Nat} {ln g cp : Nat → Nat} {L : Nat → Nat → Int} {W : World} (h : Tw base B N cB ln g cp L W) : Tx W.heap.size base B N cB ln g cp L W := by
  refine ⟨h, fun k hk => (h.row k hk).lt, h.lt, fun cur x y e1 e2 e3 => ?_⟩
  obtain ⟨cur2, h1, h2, x2, y2, h3, h4, h5, h6⟩ := h.blk
  rw [h1] at e1
  cases e1
  rw [h3] at e2
  cases e2
  rw [h4] at e3
  cases e3
  exact ⟨blk_lt h5, blk_lt h6⟩
theorem Tx.fx {P : Nat → Prop} {hi base B N cB : Nat} {ln g cp : Nat → Nat} {L : Nat → Nat → Int} {W W2 : World} (h : Tx hi base B N cB ln g cp L W) (f : Fx P W W2) (hh : ∀ b, P b → hi ≤ b) : Tx hi base B N cB ln g cp L W2 := by
  refine ⟨h.tw.fx f (fun b _ => hh b) h.gk h.bk h.xy, h.gk, h.bk, fun cur x y e1 => ?_⟩
  have : W2.heap[B]? = W.heap[B]? := f.blk B h.tw.lt fun q => by have := hh B q; have := h.bk; omega
  rw [this] at e1
  exact h.xy cur x y e1
theorem Tx.later {hi base B N cB : Nat} {ln g cp : Nat → Nat} {L : Nat → Nat → Int} {W W2 : World} (h : Tx hi base B N cB ln g cp L W) (hb : Below W.heap.size W W2) : Tx hi base B N cB ln g cp L W2 := h.fx (P := fun _ => False) (Fx.of hb) (fun _ q => q.elim)
/-- The headers of a twin in memory of their own. -/
theorem headers_own (N : Nat) (F : Nat → Value) (h1 : ∀ k, (F k).oneCell' = true) (pa : Option Addr) (c : Nat) (w : World) (hN : N * 24 ≤ 140737488351232) (h : Rv w pa N F) :
    Calls Try.prog 11 #[.slice pa N c] w fun x w' => ∃ qa qc, x = .returned (.slice qa N qc) ∧ Rn w.heap.size w' qa N F ∧ Below w.heap.size w w' := by
  obtain ⟨i0, hi0, hz0, hz1, hz2⟩ := info_parts infoL
  obtain ⟨v1, W1, r1, ho, hb, _⟩ := app1 (P := Try.prog) 22 22 23 i0 (.slice none 0 0) 1 24 Try.underlying22 hi0 hz0 hz1 hz2 rfl (by decide) N (vl N F) (by simp [vl]) (vl_one _ _ h1) (by omega) (by unfold maxLen; omega) pa c w h.src
  obtain ⟨qa, qc, rfl⟩ := owns_form ho
  have HR := hide (Rn.of_owns ho)
  have HB := hide hb
  clear ho hb h hi0 hz0 hz1 hz2 h1
  go_enter Try.func11, Try.ntmps11
  go_wp2_with ((with_reducible refine wpList_append_run (o := { dst := some 5, op := Op.call { callee := Callee.builtin Builtin.append, args := #[Operand.tmp 3, Operand.tmp 4], argTypes := #[22, 22] }, type := 22, pos := "law.go:31", after := #[{ on := 0, ground := Ground.data }, { on := 1, ground := Ground.data }], guard := none }) ?m1a (.tmp 3) (.tmp 4) 22 ?m1b _ _ ?m1c ?m1d r1 ?m1e); (case m1a => rfl); (case m1b => rfl); (case m1c => rfl); (case m1d => rfl))
  go_ret
  exact ⟨qa, qc, rfl, unhide HR, unhide HB⟩
end Go.Proofs.Ytjflnpcpnoccjaa
