import Derived.Test.YtjflnpcpnoccjaaGrC
namespace Go.Proofs.Ytjflnpcpnoccjaa
open Go.RowKit

def tV (tr : List Int) : List Value := tr.map fun l => .int .i64 l
theorem tV_snoc (tr : List Int) (l : Int) : tV (tr ++ [l]) = tV tr ++ [.int .i64 l] := by simp [tV]
structure Bx (T : Prop) : Prop where
  out : T
theorem merge {T G : Prop} (h : Bx T → G) (k : T) : G := h ⟨k⟩
theorem tV_at (tr : List Int) (k : Nat) (h : k < tr.length) : (tV tr)[k]? = some (.int .i64 tr[k]) := by simp [tV, h]
theorem tV_vl (p : List Int) : tV p = vl p.length (iv fun j => p.getD j 0) := by
  unfold tV vl
  apply List.ext_getElem
  · simp
  · intro i h1 h2
    have h3 : i < p.length := by simpa using h1
    simp [iv, h3]
theorem made_at (z : Value) (n k : Nat) (h : k < n) : (madeCells #[z] n)[k]? = some z := by
  rw [← Array.getElem?_toList, toList_madeCells_one]
  simp [h]
/-- VALUES IN A BLOCK. -/
def Mv (g n e : Nat) (F : Nat → Value) (W : World) : Prop := ∃ cur, W.heap[g]? = some (.cells cur e (0, 0)) ∧ ∀ k, k < n → cur[k]? = some (F k)
theorem Mv.later {g n e : Nat} {F : Nat → Value} {W W2 : World} (h : Mv g n e F W) (hb : Below W.heap.size W W2) : Mv g n e F W2 := by
  obtain ⟨cur, h1, h2⟩ := h
  exact ⟨cur, (hb.block _ (blk_lt h1)).trans h1, h2⟩
theorem Mv.rv {g n e : Nat} {F : Nat → Value} {W : World} (h : Mv g n e F W) : Rv W (some ⟨g, 0, none⟩) n F := by
  obtain ⟨cur, h1, h2⟩ := h
  exact fun _ => ⟨g, 0, rfl, blk_lt h1, fun i hi => by rw [Nat.zero_add, (cell_blk h1 i).1]; exact h2 i hi⟩
theorem Mv.set {g n e : Nat} {F : Nat → Value} {W : World} (h : Mv g n e F W) {k : Nat} (hk : k < n) (x : Value) : Mv g n e (fun j => if j = k then x else F j) (W.setCell ⟨g, k, none⟩ x) := by
  obtain ⟨cur, h1, h2⟩ := h
  refine ⟨_, set_blk h1 k _, fun j hj => ?_⟩
  by_cases q : j = k
  · subst q
    have hlt := (Array.getElem?_eq_some_iff.1 (h2 j hj)).1
    simp [hlt]
  · simp only [q, if_false]
    rw [Array.getElem?_setIfInBounds_ne (fun z => q z.symm)]
    exact h2 j hj
theorem Mv.cell {g n e : Nat} {F : Nat → Value} {W : World} (h : Mv g n e F W) {k : Nat} (hk : k < n) : W.cell? ⟨g, k, none⟩ = some (F k) ∧ W.frozen? ⟨g, k, none⟩ = false := by
  obtain ⟨cur, h1, h2⟩ := h
  exact ⟨(cell_blk h1 k).1.trans (h2 k hk), (cell_blk h1 k).2⟩
theorem Mv.congr {g n e : Nat} {F G : Nat → Value} {W : World} (h : Mv g n e F W) (q : ∀ k, k < n → F k = G k) : Mv g n e G W := by
  obtain ⟨cur, h1, h2⟩ := h
  exact ⟨cur, h1, fun k hk => (h2 k hk).trans (by rw [q k hk])⟩
theorem makeL (n : Nat) (hn : n * 24 ≤ 140737488351232) (u : World) : (Instr.makeSlice 22 (.int .i64 (n : Int)) (.int .i64 (n : Int))).run Try.prog u = .ok (.slice (some ⟨u.heap.size, 0, none⟩) n n) (u.alloc (.cells (madeCells #[.slice none 0 0] n) 23)) := by
  obtain ⟨i0, hi, hz0, hz1, hz2⟩ := info_parts infoL
  have h := run_make (P := Try.prog) u 22 23 i0 (.slice none 0 0) Try.underlying22 hi hz0 .i64 .i64 (n : Int) (n : Int) (by omega) (Int.le_refl _) (by rw [hz2]; omega) (by omega)
  simpa [hz1, Value.cells] using h
theorem makeI (n : Nat) (hn : n * 24 ≤ 140737488351232) (u : World) : (Instr.makeSlice 23 (.int .i64 (n : Int)) (.int .i64 (n : Int))).run Try.prog u = .ok (.slice (some ⟨u.heap.size, 0, none⟩) n n) (u.alloc (.cells (madeCells #[.int .i64 0] n) 3)) := by
  obtain ⟨i0, hi, hz0, hz1, hz2⟩ := info_parts infoI
  have h := run_make (P := Try.prog) u 23 3 i0 (.int .i64 0) Try.underlying23 hi hz0 .i64 .i64 (n : Int) (n : Int) (by omega) (Int.le_refl _) (by rw [hz2]; omega) (by omega)
  simpa [hz1, Value.cells] using h
theorem makeT (n : Nat) (hn : n * 24 ≤ 140737488351232) (u : World) : (Instr.makeSlice 26 (.int .i64 (n : Int)) (.int .i64 (n : Int))).run Try.prog u = .ok (.slice (some ⟨u.heap.size, 0, none⟩) n n) (u.alloc (.cells (madeCells #[.bool false] n) 4)) := by
  obtain ⟨i0, hi, hz0, hz1, hz2⟩ := info_parts infoB
  have h := run_make (P := Try.prog) u 26 4 i0 (.bool false) Try.underlying26 hi hz0 .i64 .i64 (n : Int) (n : Int) (by omega) (Int.le_refl _) (by rw [hz2]; omega) (by omega)
  simpa [hz1, Value.cells] using h
theorem al (w : World) (o : Obj) : Below w.heap.size w (w.alloc o) := (Below.refl _ _).alloc (Nat.le_refl _) _
theorem own_up {W : World} {b0 b1 e size n : Nat} {v : Value} {xs : List Value} (h : W.ownsRow b1 e size v n xs) (hb : b0 ≤ b1) : W.ownsRow b0 e size v n xs := by
  refine ⟨h.1, ?_⟩
  rcases h.2 with q | ⟨g, cap, cur, q1, q2, q3⟩
  · exact .inl q
  · exact .inr ⟨g, cap, cur, q1, Nat.le_trans hb q2, q3⟩
theorem Mv.same {g n e : Nat} {F : Nat → Value} {W W2 : World} (h : Mv g n e F W) (q : W2.heap[g]? = W.heap[g]?) : Mv g n e F W2 := by
  obtain ⟨cur, h1, h2⟩ := h
  exact ⟨cur, q.trans h1, h2⟩
theorem Mv.lt {g n e : Nat} {F : Nat → Value} {W : World} (h : Mv g n e F W) : g < W.heap.size := by
  obtain ⟨cur, h1, _⟩ := h
  exact blk_lt h1
/-- A row keeps where another block is written. -/
theorem own_far {W : World} {lo e size n vb v : Nat} {u x : Value} {xs : List Value} (hv : vb < lo) (ho : W.ownsRow lo e size u n xs) : (W.setCell ⟨vb, v, none⟩ x).ownsRow lo e size u n xs := by
  refine ⟨ho.1, ?_⟩
  rcases ho.2 with h' | ⟨g, cap, cr, h1, h2, h3, h4⟩
  · exact .inl h'
  · exact .inr ⟨g, cap, cr, h1, h2, (set_other _ _ _ _ _ (by omega)).trans h3, h4⟩
/-- VALUES APART FROM THE BLOCK G. -/
def Ra (G : Nat) (W : World) (pa : Option Addr) (n : Nat) (F : Nat → Value) : Prop := 0 < n → ∃ b o, pa = some ⟨b, o, none⟩ ∧ b ≠ G ∧ b < W.heap.size ∧ ∀ i, i < n → W.cell? ⟨b, o + i, none⟩ = some (F i)
theorem Ra.rv {G : Nat} {W : World} {pa : Option Addr} {n : Nat} {F : Nat → Value} (h : Ra G W pa n F) : Rv W pa n F := fun h0 => by
  obtain ⟨b, o, h1, _, h2, h3⟩ := h h0
  exact ⟨b, o, h1, h2, h3⟩
theorem Ra.of {G : Nat} {W : World} {pa : Option Addr} {n : Nat} {F : Nat → Value} (h : Rv W pa n F) (hG : W.heap.size ≤ G) : Ra G W pa n F := fun h0 => by
  obtain ⟨b, o, h1, h2, h3⟩ := h h0
  exact ⟨b, o, h1, by omega, h2, h3⟩
theorem Ra.later {G : Nat} {W W2 : World} {pa : Option Addr} {n : Nat} {F : Nat → Value} (h : Ra G W pa n F) (hb : Below W.heap.size W W2) : Ra G W2 pa n F := fun h0 => by
  obtain ⟨b, o, h1, hG, hl, h2⟩ := h h0
  exact ⟨b, o, h1, hG, Nat.lt_of_lt_of_le hl hb.size, fun i hi => (hb.cell (p := ⟨b, o + i, none⟩) hl).trans (h2 i hi)⟩
theorem Ra.set {G : Nat} {W : World} {pa : Option Addr} {n : Nat} {F : Nat → Value} (h : Ra G W pa n F) (k : Nat) (x : Value) : Ra G (W.setCell ⟨G, k, none⟩ x) pa n F := fun h0 => by
  obtain ⟨b, o, h1, hG, hl, h2⟩ := h h0
  exact ⟨b, o, h1, hG, by rw [set_size]; exact hl, fun i hi => (World.cell?_setCell_far _ _ _ _ (fun e => hG e.symm)).trans (h2 i hi)⟩
theorem Ra.of_owns {W : World} {lo G e n c : Nat} {a : Option Addr} {F : Nat → Value} (h : W.ownsRow lo e 1 (.slice a n c) n (vl n F)) (hG : G < lo) : Ra G W a n F := fun h0 => by
  rcases h.2 with ⟨_, e2⟩ | ⟨g, cap, cur, e1, hlo, hg, _⟩
  · omega
  · cases e1
    exact ⟨g, 0, rfl, by omega, blk_lt hg, fun i hi => by rw [Nat.zero_add]; exact owns_at h i _ (vl_at _ _ _ hi)⟩
theorem Ra.at {G : Nat} {W : World} {pa : Option Addr} {n : Nat} {F : Nat → Value} (h : Ra G W pa n F) {k : Nat} (hk : k < n) : ∃ b o, pa = some ⟨b, o, none⟩ ∧ W.cell? ⟨b, o + k, none⟩ = some (F k) := by
  obtain ⟨b, o, h1, _, _, h2⟩ := h (by omega)
  exact ⟨b, o, h1, h2 k hk⟩
theorem Ra.grown {G : Nat} {W W2 : World} {pa : Option Addr} {n : Nat} {F : Nat → Value} (h : Ra G W pa n F) {row : Option Nat} (hg : W.grownBy W2 row) {s : Nat} (hr : ∀ j, row = some j → s ≤ j) (hs : ∀ b o, pa = some ⟨b, o, none⟩ → 0 < n → b < s) : Ra G W2 pa n F := fun h0 => by
  obtain ⟨b, o, h1, hG, hl, h2⟩ := h h0
  refine ⟨b, o, h1, hG, Nat.lt_of_lt_of_le hl hg.size, fun i hi => ?_⟩
  have e : W2.heap[b]? = W.heap[b]? := hg.block b hl fun q => by
    have a1 := hr b q.symm
    have a2 := hs b o h1 h0
    omega
  rw [← h2 i hi]
  unfold World.cell?
  rw [e]
/-- ONE ROW BEHIND ANOTHER, WHICH MAY BE NOTHING. -/
theorem wpList_append_any {P : Program} {ops : Array Oper} {rest : List Oper} {o : Oper} {a : Act} {w : World} {Q : Exit → Act → World → Prop} (hgd : o.guard = none) (s x : Operand) (t : TypeId)
    (ho : o.op = .call { callee := .builtin .append, args := #[s, x], argTypes := #[t, t] })
    (base : Nat) (e : TypeId) (i : TypeInfo) (z : Value) (bytes : Nat) (ht : P.underlying t = some (.slice e)) (hi : P.info? e = some i) (hz : i.zero = some z)
    (hsize : i.size = 1) (hby : i.bytes = bytes) (hzs : z.cells.size = 1)
    (va : Option Addr) (n vc : Nat) (xs : List Value) (hs : a.eval s = .slice va n vc) (hown : w.ownsRow base e 1 (.slice va n vc) n xs)
    (xa : Option Addr) (m c : Nat) (F : Nat → Value) (hx : a.eval x = .slice xa m c) (hsrc : Rv w xa m F) (h1 : ∀ k, (F k).oneCell' = true)
    (h63 : n + m ≤ maxLen) (hbytes : (n + m) * bytes ≤ 140737488355328) (hbase : base ≤ w.heap.size)
    (h : ∀ va' vc' w', w'.ownsRow base e 1 (.slice va' (n + m) vc') (n + m) (xs ++ vl m F) → w.grownBy w' (Value.slice va n vc).ownBlock → wpList P ops Q rest (a.put o.dst (.slice va' (n + m) vc')) w') :
    wpList P ops Q (o :: rest) a w := by
  by_cases hm : m = 0
  · subst hm
    have hr : (Builtin.append_ #[t, t] o.type #[.slice va n vc, .slice xa 0 c]).run P w = .ok (.slice va n vc) w := by
      have hle : n ≤ vc := by
        rcases hown.2 with ⟨q1, q2⟩ | ⟨g, cap, cur, q1, _, _, q4, _⟩
        · omega
        · cases q1; exact q4
      have hl : ∀ (x : Addr), (loadCells x 0).run P w = .ok #[] w := fun x => by simpa using run_loadCells_list (P := P) w x [] (by simp)
      cases va <;> cases xa <;> simp [Builtin.append_, run_underlying ht, sizeOf, typeInfo, hi, Builtin.lenOf, Builtin.firstCells, storeCells, hl, hle]
    refine wpList_append_run hgd s x t ho _ _ hs hx hr ?_
    exact h va vc w (by simpa [vl] using hown) (World.grownBy.refl _ _)
  · obtain ⟨b, of, e1, _, hc⟩ := hsrc (by omega)
    subst e1
    obtain ⟨v', w', hr, h2, h3, _, _⟩ := run_append_own_at (P := P) w base t o.type e i z 1 bytes ht hi hz hsize hby hzs (by decide) _ n xs hown ⟨b, of, none⟩ m c (vl m F) (by simp [vl]) (fun j u hj => by
      have hjl : j < m := by
        have := (List.getElem?_eq_some_iff.1 hj).1
        simpa [vl] using this
      rw [vl_at _ _ _ hjl] at hj
      cases hj
      rw [Addr.add_mid]
      exact hc j hjl) (vl_one _ _ h1) h63 hbytes hbase
    obtain ⟨va', vc', rfl⟩ := owns_form h2
    exact wpList_append_run hgd s x t ho _ _ hs hx hr (h va' vc' w' h2 h3)
end Go.Proofs.Ytjflnpcpnoccjaa
