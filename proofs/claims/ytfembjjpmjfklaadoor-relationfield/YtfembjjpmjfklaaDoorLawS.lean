import Derived.Test.YtfembjjpmjfklaaDoorOwnSet
namespace Go.Proofs.YtfembjjpmjfklaaDoor
open Go.RowKit

/-- A slice apart from a row: where it has elements, it lies in another block. -/
def Apt (n : Nat) (v r : Value) : Prop := 0 < n → ∀ g, v.ownBlock = some g → r.ownBlock ≠ some g

theorem Ams.setApt {W : World} {v : Value} {al : List Am} (h : Ams W v al) {r : Value} {g k : Nat} (hr : r.ownBlock = some g) (ha : Apt al.length v r) (u : Value) : Ams (W.setCell ⟨g, k, none⟩ u) v al := by
  obtain ⟨a, c, rfl, h2, h3⟩ := h
  refine ⟨a, c, rfl, h2, fun i hi => ?_⟩
  obtain ⟨b, o, rfl, e2, e3, e4, e5⟩ := h3 i hi
  have hb : b ≠ g := fun e => ha (by omega) b rfl (by rw [hr, e])
  have hk : (W.setCell ⟨g, k, none⟩ u).heap[b]? = W.heap[b]? := Below.heap_setCell _ _ _ _ hb
  exact ⟨b, o, rfl, by simpa [World.setCell] using e2, (World.cell?_of_block (a := ⟨b, _, none⟩) hk).trans e3, (World.cell?_of_block (a := ⟨b, _, none⟩) hk).trans e4, (World.cell?_of_block (a := ⟨b, _, none⟩) hk).trans e5⟩
theorem Sts.setApt {W : World} {v : Value} {al : List ByteArray} (h : Sts W v al) {r : Value} {g k : Nat} (hr : r.ownBlock = some g) (ha : Apt al.length v r) (u : Value) : Sts (W.setCell ⟨g, k, none⟩ u) v al := by
  obtain ⟨a, c, rfl, h2, h3⟩ := h
  refine ⟨a, c, rfl, h2, fun i hi => ?_⟩
  obtain ⟨b, o, rfl, e2, e3⟩ := h3 i hi
  have hb : b ≠ g := fun e => ha (by omega) b rfl (by rw [hr, e])
  have hk : (W.setCell ⟨g, k, none⟩ u).heap[b]? = W.heap[b]? := Below.heap_setCell _ _ _ _ hb
  exact ⟨b, o, rfl, by simpa [World.setCell] using e2, (World.cell?_of_block (a := ⟨b, _, none⟩) hk).trans e3⟩
theorem Ams.blk0 {w : World} {v : Value} {al : List Am} (h : Ams w v al) (hn : 0 < al.length) {g : Nat} (hg : v.ownBlock = some g) : g < w.heap.size := h.blk (List.length_pos_iff.1 hn) hg
theorem Sts.blk0 {w : World} {v : Value} {al : List ByteArray} (h : Sts w v al) (hn : 0 < al.length) {g : Nat} (hg : v.ownBlock = some g) : g < w.heap.size := by
  obtain ⟨a, c, rfl, h2, h3⟩ := h
  obtain ⟨b, o, rfl, e2, _⟩ := h3 0 hn
  cases hg
  exact e2
theorem ownsRow_grownO {W W' : World} {base : Nat} {e : TypeId} {z : Nat} {v : Value} {n : Nat} {xs : List Value} {row : Option Nat} (h : W.ownsRow base e z v n xs) (hg : W.grownBy W' row) (hne : ∀ g, v.ownBlock = some g → row ≠ some g) : W'.ownsRow base e z v n xs := by
  obtain ⟨h1, h2⟩ := h
  refine ⟨h1, ?_⟩
  rcases h2 with h2 | ⟨g, cap, cur, e1, e2, e3, e4⟩
  · exact Or.inl h2
  · subst e1
    exact Or.inr ⟨g, cap, cur, rfl, e2, (hg.block g (lt_of_block e3) (fun e => hne g rfl e.symm)).trans e3, e4⟩

/-- WHAT RelationAtom HAS LAID: the two rows that are written and grown, the four that must stay. -/
structure LB (w W : World) (vc vd vk vm vy vz : Value) (al al' : List Am) (nl nl' : List ByteArray) : Prop where
  bel : Below w.heap.size w W
  c : OwnA w.heap.size W vc al'
  d : OwnS w.heap.size W vd nl'
  k : Ams W vk al
  m : Ams W vm al
  y : Sts W vy nl
  z : Sts W vz nl
  cd : ∀ g, vc.ownBlock = some g → vd.ownBlock ≠ some g
  kc : Apt al.length vk vc
  kd : Apt al.length vk vd
  mc : Apt al.length vm vc
  md : Apt al.length vm vd
  yc : Apt nl.length vy vc
  yd : Apt nl.length vy vd
  zc : Apt nl.length vz vc
  zd : Apt nl.length vz vd

theorem LB.later {w W W' : World} {vc vd vk vm vy vz : Value} {al al' : List Am} {nl nl' : List ByteArray} (h : LB w W vc vd vk vm vy vz al al' nl nl') (hb : Below W.heap.size W W') : LB w W' vc vd vk vm vy vz al al' nl nl' :=
  { h with bel := h.bel.trans (hb.mono h.bel.size), c := h.c.later hb, d := h.d.later hb, k := h.k.later hb, m := h.m.later hb, y := h.y.later hb, z := h.z.later hb }

theorem LB.setC {w W : World} {g n cap : Nat} {vd vk vm vy vz : Value} {al al' : List Am} {nl nl' : List ByteArray} (h : LB w W (.slice (some ⟨g, 0, none⟩) n cap) vd vk vm vy vz al al' nl nl') (hn : al'.length = n) (i : Nat) (hi : i < n) (x : Am) :
    LB w (((W.setCell ⟨g, i * 3, none⟩ (.string x.n)).setCell ⟨g, i * 3 + 1, none⟩ (.int .i64 x.op)).setCell ⟨g, i * 3 + 2, none⟩ (.string x.v)) (.slice (some ⟨g, 0, none⟩) n cap) vd vk vm vy vz al (al'.set i x) nl nl' := by
  have hg : w.heap.size ≤ g := (h.c.lt g rfl).1
  have ho : vd.ownBlock ≠ some g := h.cd g rfl
  exact { h with
    bel := ((h.bel.setCell (p := ⟨g, _, none⟩) hg _).setCell (p := ⟨g, _, none⟩) hg _).setCell (p := ⟨g, _, none⟩) hg _
    c := h.c.set hn i hi x
    d := ownsRow_setCell_other (ownsRow_setCell_other (ownsRow_setCell_other h.d (a := ⟨g, _, none⟩) ho _) (a := ⟨g, _, none⟩) ho _) (a := ⟨g, _, none⟩) ho _
    k := ((h.k.setApt rfl h.kc _).setApt rfl h.kc _).setApt rfl h.kc _
    m := ((h.m.setApt rfl h.mc _).setApt rfl h.mc _).setApt rfl h.mc _
    y := ((h.y.setApt rfl h.yc _).setApt rfl h.yc _).setApt rfl h.yc _
    z := ((h.z.setApt rfl h.zc _).setApt rfl h.zc _).setApt rfl h.zc _ }
theorem LB.setD {w W : World} {g n cap : Nat} {vc vk vm vy vz : Value} {al al' : List Am} {nl nl' : List ByteArray} (h : LB w W vc (.slice (some ⟨g, 0, none⟩) n cap) vk vm vy vz al al' nl nl') (hn : nl'.length = n) (i : Nat) (hi : i < n) (x : ByteArray) :
    LB w (W.setCell ⟨g, i, none⟩ (.string x)) vc (.slice (some ⟨g, 0, none⟩) n cap) vk vm vy vz al al' nl (nl'.set i x) := by
  have hg : w.heap.size ≤ g := (h.d.lt g rfl).1
  have ho : vc.ownBlock ≠ some g := fun e => h.cd g e rfl
  exact { h with
    bel := h.bel.setCell (p := ⟨g, _, none⟩) hg _
    c := ownsRow_setCell_other h.c (a := ⟨g, _, none⟩) ho _
    d := h.d.set hn i hi x
    k := h.k.setApt rfl h.kd _
    m := h.m.setApt rfl h.md _
    y := h.y.setApt rfl h.yd _
    z := h.z.setApt rfl h.zd _ }

theorem Apt.at {W : World} {n : Nat} {v r r' : Value} (h : Apt n v r) (hlt : 0 < n → ∀ g, v.ownBlock = some g → g < W.heap.size) (hat : r'.ownBlock = r.ownBlock ∨ r'.ownBlock = some W.heap.size) : Apt n v r' := by
  intro hn g e
  rcases hat with hat | hat
  · rw [hat]; exact h hn g e
  · rw [hat]
    have := hlt hn g e
    intro he
    have := Option.some.inj he
    omega
/-- THE FIRST ROW IS GROWN. -/
theorem LB.growC {w W W' : World} {vc vc' vd vk vm vy vz : Value} {al al' al2 : List Am} {nl nl' : List ByteArray} (h : LB w W vc vd vk vm vy vz al al' nl nl') (ho : OwnA w.heap.size W' vc' al2) (hg : W.grownBy W' vc.ownBlock) (hat : vc'.ownBlock = vc.ownBlock ∨ vc'.ownBlock = some W.heap.size) :
    LB w W' vc' vd vk vm vy vz al al2 nl nl' :=
  { h with
    bel := h.bel.grown hg h.bel.size (ownRow_own h.c)
    c := ho
    d := ownsRow_grownO h.d hg (fun g e e2 => h.cd g e2 e)
    k := h.k.grownO hg (fun hne g e _ he => h.kc (List.length_pos_iff.2 hne) g e he.symm)
    m := h.m.grownO hg (fun hne g e _ he => h.mc (List.length_pos_iff.2 hne) g e he.symm)
    y := h.y.grownO hg (fun hne g e _ he => h.yc (List.length_pos_iff.2 hne) g e he.symm)
    z := h.z.grownO hg (fun hne g e _ he => h.zc (List.length_pos_iff.2 hne) g e he.symm)
    cd := fun g e e2 => by
      rcases hat with hat | hat
      · rw [hat] at e; exact h.cd g e e2
      · rw [hat] at e
        have := (h.d.lt g e2).2
        have := Option.some.inj e
        omega
    kc := h.kc.at (fun hn _ e => h.k.blk0 hn e) hat
    mc := h.mc.at (fun hn _ e => h.m.blk0 hn e) hat
    yc := h.yc.at (fun hn _ e => h.y.blk0 hn e) hat
    zc := h.zc.at (fun hn _ e => h.z.blk0 hn e) hat }
/-- THE SECOND ROW IS GROWN. -/
theorem LB.growD {w W W' : World} {vc vd vd' vk vm vy vz : Value} {al al' : List Am} {nl nl' nl2 : List ByteArray} (h : LB w W vc vd vk vm vy vz al al' nl nl') (ho : OwnS w.heap.size W' vd' nl2) (hg : W.grownBy W' vd.ownBlock) (hat : vd'.ownBlock = vd.ownBlock ∨ vd'.ownBlock = some W.heap.size) :
    LB w W' vc vd' vk vm vy vz al al' nl nl2 :=
  { h with
    bel := h.bel.grown hg h.bel.size (ownRow_own h.d)
    c := ownsRow_grownO h.c hg (fun g e e2 => h.cd g e e2)
    d := ho
    k := h.k.grownO hg (fun hne g e _ he => h.kd (List.length_pos_iff.2 hne) g e he.symm)
    m := h.m.grownO hg (fun hne g e _ he => h.md (List.length_pos_iff.2 hne) g e he.symm)
    y := h.y.grownO hg (fun hne g e _ he => h.yd (List.length_pos_iff.2 hne) g e he.symm)
    z := h.z.grownO hg (fun hne g e _ he => h.zd (List.length_pos_iff.2 hne) g e he.symm)
    cd := fun g e e2 => by
      rcases hat with hat | hat
      · rw [hat] at e2; exact h.cd g e e2
      · rw [hat] at e2
        have := (h.c.lt g e).2
        have := Option.some.inj e2
        omega
    kd := h.kd.at (fun hn _ e => h.k.blk0 hn e) hat
    md := h.md.at (fun hn _ e => h.m.blk0 hn e) hat
    yd := h.yd.at (fun hn _ e => h.y.blk0 hn e) hat
    zd := h.zd.at (fun hn _ e => h.z.blk0 hn e) hat }

end Go.Proofs.YtfembjjpmjfklaaDoor
