import Derived.Test.YtodlmbhlinpoeaaAuH
import Derived.Great.BuildSlice
namespace Go.Proofs.Ytodlmbhlinpoeaa
open Go.RowKit

theorem zeroH5 : ∃ zc : List Value, (Try.prog.info? 47).map (fun i => (i.zero, i.size)) = some (some (.agg zc.toArray), 44) ∧ zc.length = 44 ∧ zc.all (·.oneCell') = true :=
  ⟨((((Try.prog.info? 47).bind (·.zero)).map fun z => z.cells.toList).getD []), by kernel_rfl, by kernel_rfl, by kernel_rfl⟩
section
variable {ops : Array Oper} {rest : List Oper} {o : Oper} {a : Act} {w : World} {Q : Exit → Act → World → Prop}
/-- A SLICE OF SOME THAT ARE HELD. -/
theorem h_sl (L : List (List Value)) (hL : ∀ l ∈ L, l.length = 44) (h0 : 0 < L.length) (h1 : L.length ≤ 1000) (parts : Array (Nat × Operand)) (ho : o.op = .buildSlice 22 L.length parts) (hw : Region.wanted o (yielded ops a.tmps) = true)
    (hp : (parts.map fun (i, x) => (i, a.eval x)).toList = ((L.map fun l => Value.agg l.toArray).zipIdx 0).map fun x => (x.2, x.1))
    (h : ∀ w2, (∀ j u, L.flatten[j]? = some u → w2.cell? ⟨w.heap.size, j, none⟩ = some u) → Below w.heap.size w w2 → w.heap.size + 1 ≤ w2.heap.size → wpList Try.prog ops Q rest (a.put o.dst (.slice (some ⟨w.heap.size, 0, none⟩) L.length L.length)) w2) : wpList Try.prog ops Q (o :: rest) a w := by
  refine BigFrame.wpList_want hw fun K hK => ?_
  obtain ⟨zc, i1, i2, i3⟩ := zeroH5
  cases hie : Try.prog.info? 47 with
  | none => rw [hie] at i1; cases i1
  | some ie =>
    rw [hie] at i1
    simp only [Option.map_some, Option.some.injEq, Prod.mk.injEq] at i1
    obtain ⟨hz, hs⟩ := i1
    obtain ⟨r, hr, hsz, hk⟩ := Great.fill_dense (s := 44) (by decide) (L.map fun l => Value.agg l.toArray) 0 ((Array.range (L.length * 44)).map ((Value.agg zc.toArray).cells[· % (Value.agg zc.toArray).cells.size]!)) (fun v hv => by obtain ⟨l, hl, rfl⟩ := List.mem_map.1 hv; simp [Value.cells, hL l hl]) (by simp)
    refine wp_buildSlice 22 47 L.length parts ho r ie (.agg zc.toArray) Try.underlying22 hie hz (by rw [hs]; omega) (by rw [hs]; omega) (by rw [hp, hs]; exact hr) (hK _ _ ?_)
    refine h _ (fun t v ht => ?_) ((Below.refl _ _).alloc (Nat.le_refl _) _) (by simp)
    obtain ⟨i, l, j, hi, hj, rfl⟩ := flat_inv hL ht
    rw [World.cell?_alloc_new, hk]
    have hi2 := (List.getElem?_eq_some_iff.1 hi).1
    have hj2 := (List.getElem?_eq_some_iff.1 hj).1
    rw [hL l (List.mem_of_getElem? hi)] at hj2
    rw [if_pos ⟨by omega, by rw [List.length_map]; omega⟩, show (i * 44 + j) / 44 - 0 = i by omega, show (i * 44 + j) % 44 = j by omega, List.getElem?_map, hi]
    simpa [Value.cells] using hj
theorem h_sl1 (x : Operand) (ho : o.op = .buildSlice 22 1 #[(0, x)]) (hw : Region.wanted o (yielded ops a.tmps) = true) (c1 : List Value) (hx : a.eval x = .agg c1.toArray) (h1 : c1.length = 44)
    (h : ∀ w2, (∀ j u, c1[j]? = some u → w2.cell? ⟨w.heap.size, j, none⟩ = some u) → Below w.heap.size w w2 → w.heap.size + 1 ≤ w2.heap.size → wpList Try.prog ops Q rest (a.put o.dst (.slice (some ⟨w.heap.size, 0, none⟩) 1 1)) w2) : wpList Try.prog ops Q (o :: rest) a w :=
  h_sl [c1] (fun l hl => by simp at hl; subst hl; exact h1) (by simp) (by simp) _ ho hw (by simp [hx]) fun w2 hr hb hs => h w2 (by simpa using hr) hb hs
theorem h_sl2 (x y : Operand) (ho : o.op = .buildSlice 22 2 #[(0, x), (1, y)]) (hw : Region.wanted o (yielded ops a.tmps) = true) (c1 c2 : List Value) (hx : a.eval x = .agg c1.toArray) (hy : a.eval y = .agg c2.toArray) (h1 : c1.length = 44) (h2 : c2.length = 44)
    (h : ∀ w2, (∀ j u, (c1 ++ c2)[j]? = some u → w2.cell? ⟨w.heap.size, j, none⟩ = some u) → Below w.heap.size w w2 → w.heap.size + 1 ≤ w2.heap.size → wpList Try.prog ops Q rest (a.put o.dst (.slice (some ⟨w.heap.size, 0, none⟩) 2 2)) w2) : wpList Try.prog ops Q (o :: rest) a w :=
  h_sl [c1, c2] (fun l hl => by simp at hl; rcases hl with rfl | rfl <;> assumption) (by simp) (by simp) _ ho hw (by simp [hx, hy]) fun w2 hr hb hs => h w2 (by simpa using hr) hb hs
theorem h_build (parts : Array (Nat × Operand)) (ho : o.op = .build 47 parts) (hg : o.guard = none) (cs : List Value) (hb : Try.prog.built 47 (parts.map fun (i, x) => (i, a.eval x)).toList = some cs.toArray)
    (h : wpList Try.prog ops Q rest (a.put o.dst (.agg cs.toArray)) w) : wpList Try.prog ops Q (o :: rest) a w :=
  wpList_build hg _ parts ho (by rw [hb]; rfl) (by rw [hb]; exact h)
end
def mkH (n : Int) : List Value := [.string ⟨#[]⟩, .string ⟨#[]⟩, .bool false, .slice none 0 0, .slice none 0 0, .slice none 0 0, .slice none 0 0, .slice none 0 0, .string ⟨#[]⟩, .int .i64 0] ++ (List.replicate 32 (.int .u8 0) ++ [.string ⟨#[]⟩, .int .i64 n])
theorem build77 : Try.prog.built 47 [(1, .int .i64 77)] = some (mkH 77).toArray := by kernel_rfl
theorem build78 : Try.prog.built 47 [(1, .int .i64 78)] = some (mkH 78).toArray := by kernel_rfl
theorem mkH_len (n : Int) : (mkH n).length = 44 := by simp [mkH]
theorem mkH_one (n : Int) : ∀ x ∈ mkH n, x.oneCell' = true := by
  intro x hx
  unfold mkH at hx
  simp only [List.mem_append, List.mem_cons, List.mem_replicate, List.not_mem_nil, or_false] at hx
  rcases hx with (rfl | rfl | rfl | rfl | rfl | rfl | rfl | rfl | rfl | rfl) | ⟨_, rfl⟩ | rfl | rfl
  all_goals rfl
/-- MORE BEHIND A ROW OF ONE'S OWN, FROM WHEREVER IT LIES. -/
theorem row_app2 {t e k bytes : Nat} {z : Value} (T : Ty t e k bytes z) {wx : World} {lo n m B : Nat} {s : Value} {xs : List Value} (h : wx.ownsRow lo e k s n xs) (hlo : lo ≤ wx.heap.size) (news : List Value) (hnl : news.length = m * k) (hsrc : ∀ j u, news[j]? = some u → wx.cell? ⟨B, j, none⟩ = some u) (h1 : ∀ u ∈ news, u.oneCell' = true) (hm : 0 < m) (h63 : n + m ≤ maxLen) (hb : (n + m) * bytes ≤ 140737488355328) (ty : TypeId) :
    ∃ g cap w9, (Builtin.append_ #[t, t] ty #[s, .slice (some ⟨B, 0, none⟩) m m]).run Try.prog wx = .ok (.slice (some ⟨g, 0, none⟩) (n + m) cap) w9 ∧
      w9.ownsRow lo e k (.slice (some ⟨g, 0, none⟩) (n + m) cap) (n + m) (xs ++ news) ∧ Fx (fun b => s.ownBlock = some b) wx w9 ∧ (s.ownBlock = some g ∨ wx.heap.size ≤ g) := by
  obtain ⟨i0, hi0, hz0, hz1, hz2⟩ := info_parts2 T.inf
  obtain ⟨g, cap, w9, hr, ho, hg, hgg, _⟩ := run_append_lies (P := Try.prog) wx t ty lo e i0 z k bytes T.und hi0 hz0 hz1 hz2 T.zs T.pos s n xs h ⟨B, 0, none⟩ m m news hnl
    (fun j u hj => by rw [Addr.add_mid, Nat.zero_add]; exact hsrc j u hj) h1 hm h63 hb hlo _ rfl
  exact ⟨g, cap, w9, hr, ho, ⟨⟨hg.1, hg.2, hg.3, hg.size, fun _ h => absurd h (Nat.not_lt_zero _)⟩, fun c hc hn => hg.block c hc (fun q => hn q.symm)⟩, hgg.imp id fun e => by rw [e]; exact Nat.le_refl _⟩
/-- NOTHING BUT ONE BLOCK HAS CHANGED. -/
structure Sx (B : Nat) (X Y : World) : Prop where
  size : X.heap.size ≤ Y.heap.size
  blk : ∀ k, k < X.heap.size → k ≠ B → Y.heap[k]? = X.heap[k]?
theorem Sx.trans {B : Nat} {X Y Z : World} (h : Sx B X Y) (k : Sx B Y Z) : Sx B X Z := ⟨Nat.le_trans h.size k.size, fun b hb hn => (k.blk b (Nat.lt_of_lt_of_le hb h.size) hn).trans (h.blk b hb hn)⟩
theorem Sx.of {B : Nat} {X Y : World} (h : Below X.heap.size X Y) : Sx B X Y := ⟨h.size, fun k hk _ => h.block k hk⟩
theorem Sx.set {B : Nat} {X Y : World} (h : ∀ k, k ≠ B → Y.heap[k]? = X.heap[k]?) (z : X.heap.size ≤ Y.heap.size ∧ Y.heap.size ≤ X.heap.size) : Sx B X Y := ⟨z.1, fun k _ hn => h k hn⟩
/-- ONE THAT IS LENT. -/
def mkF : List Value := [.string ⟨#[42]⟩, .int .i64 0, .int .u8 0, .int .u8 0, .int .u8 0, .int .u8 0, .int .u8 0, .int .u8 0, .int .u8 0, .int .u8 0, .int .u8 0, .int .u8 0, .int .u8 0, .int .u8 0, .int .u8 0, .int .u8 0, .int .u8 0, .int .u8 0, .int .u8 0, .int .u8 0, .int .u8 0, .int .u8 0, .int .u8 0, .int .u8 0, .int .u8 0, .int .u8 0, .int .u8 0, .int .u8 0, .int .u8 0, .int .u8 0, .int .u8 0, .int .u8 0, .int .u8 0, .int .u8 0]
structure LHv (l : Nat) (W : World) (p : Hk) (d r c v f u1 u2 : Value) : Prop where
  dl : LenC l W p.dp d u1
  rl : LenC l W p.pr r u2
  cl : Len 55 3 l W p.cf mkA 1 c
  vl : Len 9 1 l W p.pv mkS 2 v
  fl : Len 49 34 l W p.fs mkF 1 f
theorem LHv.same {l : Nat} {W W2 : World} {p : Hk} {d r c v f u1 u2 : Value} (h : LHv l W p d r c v f u1 u2) (hb : ∀ b, l ≤ b → b < W.heap.size → W2.heap[b]? = W.heap[b]?) : LHv l W2 p d r c v f u1 u2 :=
  ⟨h.dl.same hb, h.rl.same hb, h.cl.same hb, h.vl.same hb, h.fl.same hb⟩
/-- FOUR ROWS THAT GROW SIDE BY SIDE, AND THEIR HEADS. -/
def e4 (q : Nat) : Nat := if q < 2 then 47 else 39
def k4 (q : Nat) : Nat := if q < 2 then 44 else 1
def up {α : Type} (f : Nat → α) (q : Nat) (x : α) : Nat → α := fun j => if j = q then x else f j
theorem up_same {α : Type} (f : Nat → α) (q : Nat) (x : α) : up f q x q = x := if_pos rfl
theorem up_other {α : Type} (f : Nat → α) {q j : Nat} (x : α) (h : j ≠ q) : up f q x j = f j := if_neg h
def heads (vv : Nat → Value) : List Value := [vv 0, vv 1, vv 2, vv 3, .bool true]
theorem heads_up (vv : Nat → Value) {q : Nat} (hq : q < 4) (x : Value) : heads (up vv q x) = (heads vv).set q x := by
  match q, hq with
  | 0, _ => rfl
  | 1, _ => rfl
  | 2, _ => rfl
  | 3, _ => rfl
structure R4 (lo XB : Nat) (W : World) (vv : Nat → Value) (n : Nat → Nat) (X : Nat → List Value) : Prop where
  row : ∀ q, q < 4 → W.ownsRow lo (e4 q) (k4 q) (vv q) (n q) (X q)
  ne : ∀ q q' g, q < 4 → q' < 4 → (vv q).ownBlock = some g → (vv q').ownBlock = some g → q = q'
  xb : Bk 26 5 W XB (heads vv)
  xlo : XB < lo
  lo : lo ≤ W.heap.size
theorem R4.lt {lo XB : Nat} {W : World} {vv : Nat → Value} {n : Nat → Nat} {X : Nat → List Value} (h : R4 lo XB W vv n X) {q g : Nat} (hq : q < 4) (e : (vv q).ownBlock = some g) : lo ≤ g ∧ g < W.heap.size := World.ownsRow.lt (h.row q hq) g e
theorem R4.later {lo XB : Nat} {W W2 : World} {vv : Nat → Value} {n : Nat → Nat} {X : Nat → List Value} (h : R4 lo XB W vv n X) (hs : W.heap.size ≤ W2.heap.size) (hb : ∀ b, b < W.heap.size → (b = XB ∨ ∃ q, q < 4 ∧ (vv q).ownBlock = some b) → W2.heap[b]? = W.heap[b]?) : R4 lo XB W2 vv n X :=
  ⟨fun q hq => own_same (h.row q hq) fun b e => hb b (h.lt hq e).2 (.inr ⟨q, hq, e⟩), h.ne, h.xb.of (hb _ h.xb.lt (.inl rfl)), h.xlo, Nat.le_trans h.lo hs⟩
theorem R4.below {lo XB : Nat} {W W2 : World} {vv : Nat → Value} {n : Nat → Nat} {X : Nat → List Value} (h : R4 lo XB W vv n X) (hb : Below W.heap.size W W2) : R4 lo XB W2 vv n X := h.later hb.size fun b hl _ => hb.block b hl
/-- ONE OF THEM HAS GROWN. -/
theorem R4.put {lo XB : Nat} {wr w9 W2 : World} {vv : Nat → Value} {n : Nat → Nat} {X : Nat → List Value} (h : R4 lo XB wr vv n X) {q m : Nat} (hq : q < 4) {x : Value} {news : List Value} (ho : w9.ownsRow lo (e4 q) (k4 q) x (n q + m) (X q ++ news)) (fx : Fx (fun b => (vv q).ownBlock = some b) wr w9) (hg : ∀ g, x.ownBlock = some g → (vv q).ownBlock = some g ∨ wr.heap.size ≤ g)
    (B2 : Bk 26 5 W2 XB ((heads vv).set q x)) (o2 : ∀ k, k ≠ XB → W2.heap[k]? = w9.heap[k]?) (z2 : w9.heap.size ≤ W2.heap.size ∧ W2.heap.size ≤ w9.heap.size) :
    R4 lo XB W2 (up vv q x) (up n q (n q + m)) (up X q (X q ++ news)) ∧ wr.heap.size ≤ W2.heap.size ∧ (∀ b, b < wr.heap.size → b ≠ XB → (vv q).ownBlock ≠ some b → W2.heap[b]? = wr.heap[b]?) ∧ (∀ j g, j < 4 → (up vv q x j).ownBlock = some g → (vv j).ownBlock = some g ∨ wr.heap.size ≤ g) := by
  have hx := h.xlo
  have hsz : wr.heap.size ≤ W2.heap.size := Nat.le_trans fx.size z2.1
  have hk : ∀ b, b < wr.heap.size → b ≠ XB → (vv q).ownBlock ≠ some b → W2.heap[b]? = wr.heap[b]? := fun b hb h1 h2 => (o2 b h1).trans (fx.blk b hb h2)
  have hold : ∀ j g, j < 4 → (up vv q x j).ownBlock = some g → (vv j).ownBlock = some g ∨ wr.heap.size ≤ g := fun j g hj e => by
    by_cases ej : j = q
    · subst ej; rw [up_same] at e; exact hg g e
    · rw [up_other vv x ej] at e; exact .inl e
  refine ⟨⟨fun j hj => ?_, fun i j g hi hj e1 e2 => ?_, by rw [heads_up vv hq]; exact B2, hx, Nat.le_trans h.lo hsz⟩, hsz, hk, hold⟩
  · by_cases ej : j = q
    · subst ej
      rw [up_same, up_same, up_same]
      exact own_same ho fun b e => o2 b fun q => by have := (World.ownsRow.lt ho b e).1; omega
    · rw [up_other vv x ej, up_other n _ ej, up_other X _ ej]
      refine own_same (h.row j hj) fun b e => hk b (h.lt hj e).2 (fun q => by have := (h.lt hj e).1; omega) fun e2 => ej (h.ne j q b hj hq e e2)
  · by_cases ei : i = q
    · by_cases ej : j = q
      · rw [ei, ej]
      · subst ei
        rw [up_same] at e1
        rw [up_other vv x ej] at e2
        rcases hg g e1 with e3 | e3
        · exact h.ne _ _ g hi hj e3 e2
        · have := (h.lt hj e2).2; omega
    · by_cases ej : j = q
      · subst ej
        rw [up_same] at e2
        rw [up_other vv x ei] at e1
        rcases hg g e2 with e3 | e3
        · exact h.ne _ _ g hi hj e1 e3
        · have := (h.lt hi e1).2; omega
      · rw [up_other vv x ei] at e1
        rw [up_other vv x ej] at e2
        exact h.ne _ _ g hi hj e1 e2
end Go.Proofs.Ytodlmbhlinpoeaa
