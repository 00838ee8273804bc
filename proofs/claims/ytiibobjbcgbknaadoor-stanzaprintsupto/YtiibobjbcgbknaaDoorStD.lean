import Derived.Test.YtiibobjbcgbknaaDoorStC
import Derived.Maps.AppendAt
import Derived.Maps.OwnIn
import Derived.RangeFuncBox
import Derived.Deep.MidRow
import Derived.Deep.RegionLaw
import Derived.StringKeys
import Derived.WalkSpells
namespace Go.Proofs.YtiibobjbcgbknaaDoor
open Go.RowKit

/-- A FIELD AS IT LIES: its lines' block, its numbers' block. -/
structure Fs where
  f : Fd
  lg : Nat
  lc : Nat
  ag : Nat
  ac : Nat
abbrev Fs.lv (x : Fs) : Value := .slice (some ⟨x.lg, 0, none⟩) x.f.ls.length x.lc
abbrev Fs.av (x : Fs) : Value := .slice (some ⟨x.ag, 0, none⟩) x.f.ns.length x.ac
def cells3 (x : Fs) : List Value := [.string (ba x.f.nm), x.lv, x.av]
def strs (l : List Bs) : List Value := l.map fun s => Value.string (ba s)
def ints (l : List Nat) : List Value := l.map fun (n : Nat) => Value.int .i64 (n : Int)

structure Fok (base : Nat) (W : World) (x : Fs) : Prop where
  l : W.ownsRow base 9 1 x.lv x.f.ls.length (strs x.f.ls)
  a : W.ownsRow base 3 1 x.av x.f.ns.length (ints x.f.ns)

/-- FIELDS IN A ROW OF THEIR OWN. -/
structure PF (base : Nat) (W : World) (v : Value) (xs : List Fs) : Prop where
  row : W.ownsRow base 49 3 v xs.length (xs.flatMap cells3)
  ok : ∀ x ∈ xs, Fok base W x
  dl : xs.Pairwise fun x y => x.lg ≠ y.lg
  da : xs.Pairwise fun x y => x.ag ≠ y.ag

/-- THE REST OF THE WORLD. -/
structure Env (W W' : World) : Prop where
  os : W'.os = W.os
  tape : W'.tape = W.tape
  output : W'.output = W.output
theorem Env.refl (W : World) : Env W W := ⟨rfl, rfl, rfl⟩
theorem Env.trans {A B C : World} (h : Env A B) (k : Env B C) : Env A C := ⟨k.os.trans h.os, k.tape.trans h.tape, k.output.trans h.output⟩
theorem Env.bel {B : Nat} {W W' : World} (h : Below B W W') : Env W W' := ⟨h.os, h.tape, h.output⟩
theorem Env.grown {W W' : World} {row : Option Nat} (h : W.grownBy W' row) : Env W W' := ⟨h.os, h.tape, h.output⟩
theorem Env.set (W : World) (a : Addr) (v : Value) : Env W (W.setCell a v) := ⟨rfl, rfl, rfl⟩
theorem Env.al (W : World) (o : Obj) : Env W (W.alloc o) := ⟨rfl, rfl, rfl⟩
theorem Env.put (W : World) (l : Nat) (o : Obj) : Env W (W.putObj l o) := ⟨rfl, rfl, rfl⟩

/-- WHAT IS BELOW base LIES AS IT LAY, BUT FOR BLOCK B. -/
structure FB (base B : Nat) (W W' : World) : Prop where
  env : Env W W'
  size : W.heap.size ≤ W'.heap.size
  same : ∀ k, k < base → k ≠ B → W'.heap[k]? = W.heap[k]?
theorem FB.refl (base B : Nat) (W : World) : FB base B W W := ⟨Env.refl _, Nat.le_refl _, fun _ _ _ => rfl⟩
theorem FB.trans {base B : Nat} {W W1 W2 : World} (h : FB base B W W1) (h2 : FB base B W1 W2) : FB base B W W2 :=
  ⟨h.env.trans h2.env, Nat.le_trans h.size h2.size, fun k hk hB => (h2.same k hk hB).trans (h.same k hk hB)⟩
theorem FB.of_below {base B n : Nat} {W W' : World} (h : Below n W W') (hn : base ≤ n) : FB base B W W' := ⟨Env.bel h, h.size, fun k hk _ => h.block k (by omega)⟩

/-- A ROW OF ITS OWN, WHERE ITS BLOCK HAS NOT TURNED. -/
theorem ownsRow_same {W W' : World} {base : Nat} {e : TypeId} {size : Nat} {v : Value} {n : Nat} {xs : List Value} (h : W.ownsRow base e size v n xs)
    (hs : ∀ g c, v.ownBlock = some g → W.heap[g]? = some (.cells c e (0, 0)) → W'.heap[g]? = W.heap[g]?) : W'.ownsRow base e size v n xs := by
  obtain ⟨h1, h2⟩ := h
  refine ⟨h1, ?_⟩
  rcases h2 with h2 | ⟨g, cap, cur, rfl, hb, hg, r1, r2, r3, r4⟩
  · exact .inl h2
  · exact .inr ⟨g, cap, cur, rfl, hb, by rw [hs g cur rfl hg]; exact hg, r1, r2, r3, r4⟩
theorem ownsRow_blk {W : World} {base : Nat} {e : TypeId} {size : Nat} {v : Value} {n : Nat} {xs : List Value} (h : W.ownsRow base e size v n xs) {g : Nat} (hv : v.ownBlock = some g) : ∃ c, W.heap[g]? = some (.cells c e (0, 0)) ∧ base ≤ g ∧ g < W.heap.size := by
  rcases h.2 with ⟨rfl, _⟩ | ⟨g', cap, cur, rfl, hb, hg, _⟩
  · simp [Value.ownBlock] at hv
  · obtain rfl : g' = g := by simpa [Value.ownBlock] using hv
    exact ⟨cur, hg, hb, (Array.getElem?_eq_some_iff.1 hg).1⟩
/-- BLOCKS OF THE THREE KINDS HAVE NOT TURNED. -/
def K3 (W W' : World) : Prop := ∀ (k : Nat) (c : Array Value) (t : TypeId), (t = 49 ∨ t = 9 ∨ t = 3) → W.heap[k]? = some (Obj.cells c t (0, 0)) → W'.heap[k]? = W.heap[k]?
theorem PF.k3 {base : Nat} {W W' : World} {v : Value} {xs : List Fs} (h : PF base W v xs) (hk : K3 W W') : PF base W' v xs :=
  ⟨ownsRow_same h.row fun g c _ hg => hk g c 49 (.inl rfl) hg,
   fun x hx => ⟨ownsRow_same (h.ok x hx).l fun g c _ hg => hk g c 9 (.inr (.inl rfl)) hg, ownsRow_same (h.ok x hx).a fun g c _ hg => hk g c 3 (.inr (.inr rfl)) hg⟩, h.dl, h.da⟩

/-- append ONTO A ROW OF ITS OWN, AS ONE STEP OF A REGION THAT DRAWS. -/
theorem step_append_own {P : Program} {ops : Array Oper} {o : Oper} {a : Act} {w : World} {K : Act → World → Prop} {Q : Exit → Act → World → Prop} {E : Prop}
    (hg : o.guard = none) (s x : Operand) (t : TypeId) (hop : o.op = Op.call { callee := Callee.builtin Builtin.append, args := #[s, x], argTypes := #[t, t] })
    (base : Nat) (e : TypeId) (i : TypeInfo) (z : Value) (size bytes : Nat) (ht : P.underlying t = some (.slice e)) (hi : P.info? e = some i) (hz : i.zero = some z)
    (hsize : i.size = size) (hby : i.bytes = bytes) (hzs : z.cells.size = size) (hsz : 0 < size)
    (v : Value) (n : Nat) (xs : List Value) (hs : a.eval s = v) (hown : w.ownsRow base e size v n xs)
    (ad : Addr) (m c : Nat) (news : List Value) (hx : a.eval x = .slice (some ad) m c) (hl : news.length = m * size) (hnews : ∀ j u, news[j]? = some u → w.cell? (ad.add j) = some u) (h1 : ∀ u ∈ news, u.oneCell' = true)
    (h63 : n + m ≤ maxLen) (hbytes : (n + m) * bytes ≤ 140737488355328) (hbase : base ≤ w.heap.size)
    (hK : ∀ v' w', w'.ownsRow base e size v' (n + m) (xs ++ news) → w.grownBy w' v.ownBlock → (v'.ownBlock = v.ownBlock ∨ v'.ownBlock = some w.heap.size) → K (a.put o.dst v') w') :
    if Region.wanted o (yielded ops a.tmps) = true then Oper.wp P o a w K Q else E := by
  have hw : Region.wanted o (yielded ops a.tmps) = true := by simp [Region.wanted, hg]
  rw [if_pos hw]
  obtain ⟨v', w', hr, h2, h3, _, h5⟩ := run_append_own_at (P := P) w base t o.type e i z size bytes ht hi hz hsize hby hzs hsz v n xs hown ad m c news hl hnews h1 h63 hbytes hbase
  unfold Oper.wp
  simp [execOp, hop, resolve, invoke, builtin, hs, hx, hr, Result.andThen]
  exact hK v' w' h2 h3 h5

theorem info9 : (Tryd.prog.info? 9).map (fun i => (i.zero, i.size, i.bytes)) = some (some (.string ⟨#[]⟩), 1, 16) := by kernel_rfl
theorem info3 : (Tryd.prog.info? 3).map (fun i => (i.zero, i.size, i.bytes)) = some (some (.int .i64 0), 1, 8) := by kernel_rfl
theorem info49 : (Tryd.prog.info? 49).map (fun i => (i.zero, i.size, i.bytes)) = some (some (.agg #[.string ⟨#[]⟩, .slice none 0 0, .slice none 0 0]), 3, 64) := by kernel_rfl
theorem info39 : (Tryd.prog.info? 39).map (fun i => (i.zero, i.size, i.bytes)) = some (some (.slice none 0 0), 1, 24) := by kernel_rfl
theorem info5 : (Tryd.prog.info? 5).map (fun i => (i.zero, i.size, i.bytes)) = some (some (.int .u8 0), 1, 1) := by kernel_rfl

/-- THE NAMES SO FAR, AS THE MAP HAS THEM. -/
def Mp (base : Nat) (W : World) (mv : Value) (p : List Fd) : Prop :=
  (mv = .map none ∧ p = []) ∨ ∃ b n D, mv = .map (some b) ∧ base ≤ b ∧ W.ownsMap (H := Unit) Tryd.prog 9 (plainElem Tryd.prog 3) b n D ∧ n ≤ p.length ∧ ∀ (s : Bs) (c : Int), D.atKey (.string s) (.lit (.int .i64 0)) = .lit (.int .i64 c) → (0 < c ↔ ∃ f ∈ p, small f.nm = s)

/-- A PARAGRAPH THAT IS BEING READ. -/
structure Par (base B : Nat) (W : World) (p : List Fd) : Prop where
  sh : ∃ v mv xs, W.heap[B]? = some (.cells #[v, mv] 76 (0, 0)) ∧ xs.map (·.f) = p ∧ PF base W v xs ∧ Mp base W mv p
  hB : B < base
  hb : base ≤ W.heap.size

end Go.Proofs.YtiibobjbcgbknaaDoor
