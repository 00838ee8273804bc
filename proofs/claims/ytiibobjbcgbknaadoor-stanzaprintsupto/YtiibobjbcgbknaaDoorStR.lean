import Derived.Test.YtiibobjbcgbknaaDoorStQ
namespace Go.Proofs.YtiibobjbcgbknaaDoor
open Go.RowKit Go.Shelf
attribute [local go_sem] Oper.semAt_some
attribute [local simp] wide_fn
attribute [local go_sem] wide_fn

/-- NO FIELD IS WITHOUT LINES. -/
def nz (p : List Fd) : Prop := ∀ f ∈ p, f.ls ≠ [] ∧ f.ns ≠ []

/-- BEHIND THE HANDING ON. -/
structure Mid (n0 B Bl : Nat) (w0 W W2 : World) (ps : List (List Fd)) : Prop where
  env : Env w0 W2
  dn : ∃ lv vs, Dn n0 Bl W2.heap.size W2 lv vs ps
  fr : ∀ k, k < n0 → k ≠ B → k ≠ Bl → W2.heap[k]? = w0.heap[k]?
  bB : W2.heap[B]? = W.heap[B]?
  non : ∀ k, k < W.heap.size → (∀ (c : Array Value) (t : TypeId) (fr : Nat × Nat), W.heap[k]? ≠ some (Obj.cells c t fr)) → W2.heap[k]? = W.heap[k]?
  size : W.heap.size ≤ W2.heap.size

theorem handOn_gen (n0 B Bl : Nat) (w0 W : World) (st : St) (hB : B < n0) (hH : Hold n0 B Bl w0 W st) (hnz : nz st.p) (hl : st.all.length ≤ 16777216) (yv : Value)
    (hwk : ∀ (g n cap ag ac N m : Nat) (k : Int) (lv : Value) (cs : List Value), 1 ≤ n → 1 ≤ N → W.cell? ⟨B, 0, none⟩ = some (.slice (some ⟨g, 0, none⟩) n cap) → W.cell? ⟨g, 2, none⟩ = some (.slice (some ⟨ag, 0, none⟩) N ac) → W.cell? ⟨ag, 0, none⟩ = some (.int .i64 k) →
      W.heap[Bl]? = some (.cells #[lv] 24 (0, 0)) → W.ownsRow n0 39 1 lv m cs → m ≤ 16777216 → n0 ≤ W.heap.size →
      Calls Tryd.prog 56 #[.pointer (some ⟨B, 0, none⟩), yv] W fun e w' => e = .returned (.bool true) ∧
        ∃ w1 w2 lv2, Below W.heap.size W w1 ∧ w1.heap = W.heap ∧ (w1.alloc (.cells #[.slice (some ⟨g, 0, none⟩) n cap] 39)).grownBy w2 lv.ownBlock ∧ w2.ownsRow n0 39 1 lv2 (m + 1) (cs ++ [.slice (some ⟨g, 0, none⟩) n cap]) ∧ w2.heap[Bl]? = some (.cells #[lv] 24 (0, 0)) ∧ w' = w2.setCell ⟨Bl, 0, none⟩ lv2) :
    Calls Tryd.prog 56 #[.pointer (some ⟨B, 0, none⟩), yv] W fun e W2 => e = .returned (.bool true) ∧ Mid n0 B Bl w0 W W2 (shut st) := by
  obtain ⟨base, lv, vs, h1, h2, h3, h4⟩ := hH.sh
  by_cases hp : st.p = []
  · rw [hp] at h3
    refine (handOn_none base B _ W h3).mono ?_
    rintro e W2 ⟨rfl, rfl⟩
    have hs : shut st = st.all := by unfold shut; rw [hp]; rfl
    rw [hs]
    exact ⟨rfl, hH.env, ⟨lv, vs, h4.mono h1⟩, hH.fr, rfl, fun _ _ _ => rfl, Nat.le_refl _⟩
  · have hs : shut st = st.all ++ [st.p] := by unfold shut; rw [if_neg (by simpa using hp)]
    obtain ⟨v, mv, xs, hBx, hxs, hpf, hmp⟩ := h3.sh
    cases xs with
    | nil => exact absurd hxs.symm hp
    | cons x xs =>
      have hx := hpf.ok x List.mem_cons_self
      have hrow := hpf.row
      obtain ⟨g, cap, cur, rfl, hg, gb, htk, -⟩ := slice_of (n := xs.length) hrow
      have hfx := hnz x.f (by rw [← hxs]; simp)
      have hN : 1 ≤ x.f.ns.length := List.length_pos_iff.2 hfx.2
      obtain ⟨n1, nr, hns⟩ : ∃ n1 nr, x.f.ns = n1 :: nr := by
        cases e : x.f.ns with
        | nil => exact absurd e hfx.2
        | cons a r => exact ⟨a, r, rfl⟩
      have ca1 : W.cell? ⟨x.ag, 0, none⟩ = some (.int .i64 (n1 : Int)) := by
        have ha := hx.a
        have hN2 : x.f.ns.length = nr.length + 1 := by rw [hns]; rfl
        rcases ha.2 with ⟨e, _⟩ | ⟨ag, ac, ca', e, _, hag, _, _, _, htk2⟩
        · cases e
        · obtain rfl : x.ag = ag := by simpa using (Value.slice.inj e).1
          have := take_get htk2 (j := 0) (u := .int .i64 (n1 : Int)) (by rw [hns]; rfl)
          exact (cell_blk hag 0).1.trans this
      have hlt := h4.lt
      have hvl := h4.len
      refine (hwk g (xs.length + 1) cap x.ag x.ac x.f.ns.length vs.length (n1 : Int) lv vs (by omega) hN (by simp [World.cell?, hBx]) ((cell_blk hg 2).1.trans (take_get htk ((cells3_at [] x xs 2 (by omega)).trans rfl))) ca1 h4.bx h4.row (by omega) hH.hn).mono ?_
      rintro e W2 ⟨rfl, w1, w2, lv2, b1, e1, g2, o2, x2, rfl⟩
      rw [hs]
      have z1 : w1.heap.size = W.heap.size := by rw [e1]
      have z2 : W.heap.size + 1 ≤ w2.heap.size := by have := g2.size; simp at this; omega
      have z3 := set_size w2 Bl 0 lv2
      have ke : ∀ k, k < W.heap.size → lv.ownBlock ≠ some k → k ≠ Bl → (w2.setCell ⟨Bl, 0, none⟩ lv2).heap[k]? = W.heap[k]? := fun k hk h5 h6 =>
        (set_other _ _ _ _ _ h6).trans ((g2.block k (by simp; omega) (fun e => h5 e.symm)).trans ((Below.heap_alloc w1 _ k (by omega)).trans (by rw [e1])))
      have kt : ∀ (k : Nat) (c : Array Value) (t : TypeId), (t = 49 ∨ t = 9 ∨ t = 3) → W.heap[k]? = some (Obj.cells c t (0, 0)) → (w2.setCell ⟨Bl, 0, none⟩ lv2).heap[k]? = W.heap[k]? := fun k c t ht hk => by
        refine ke k (Array.getElem?_eq_some_iff.1 hk).1 (fun e => ?_) (fun e => ?_)
        · obtain ⟨c2, hc2, _⟩ := ownsRow_blk h4.row e
          rw [hk] at hc2
          rcases ht with rfl | rfl | rfl <;> cases hc2
        · have := h4.bx
          rw [← e, hk] at this
          rcases ht with rfl | rfl | rfl <;> cases this
      have r2 : (w2.setCell ⟨Bl, 0, none⟩ lv2).ownsRow n0 39 1 lv2 (vs.length + 1) (vs ++ [.slice (some ⟨g, 0, none⟩) (xs.length + 1) cap]) := ownsRow_same o2 fun k c hk hc => set_other _ _ _ _ _ fun e => by
        rw [e, x2] at hc
        cases hc
      have hb3 : n0 ≤ base := by
        rcases h2 with h2 | ⟨h2, _⟩
        · omega
        · exact absurd h2 hp
      refine ⟨rfl, hH.env.trans ((Env.bel b1).trans ((Env.al _ _).trans ((Env.grown g2).trans (Env.set _ _ _)))), ⟨lv2, vs ++ [.slice (some ⟨g, 0, none⟩) (xs.length + 1) cap], ⟨set_blk x2 0 lv2, by rw [z3]; omega, by rw [List.length_append]; exact r2, ?_, by simp [hvl], ?_⟩⟩, ?_, ?_, ?_, by rw [z3]; omega⟩
      · intro k hk
        have := (ownsRow_blk r2 hk).choose_spec.2.2
        exact this
      · refine Win.put (h4.win.keep fun k c t ht _ _ hk => kt k c t ht hk) hvl hb3 (by rw [z3]; omega) ?_
        refine ⟨x :: xs, hxs, hpf.k3 fun k c t ht hk => kt k c t ht hk, fun k hk => ?_, fun y hy => ⟨?_, ?_⟩⟩
        · have := (ownsRow_blk hpf.row hk).choose_spec.2.2
          rw [z3]; omega
        · have := (ownsRow_blk (hpf.ok y hy).l (g := y.lg) rfl).choose_spec.2.2
          rw [z3]; omega
        · have := (ownsRow_blk (hpf.ok y hy).a (g := y.ag) rfl).choose_spec.2.2
          rw [z3]; omega
      · intro k hk h5 h6
        refine (ke k (by have := hH.hn; omega) (fun e => ?_) h6).trans (hH.fr k hk h5 h6)
        have := (ownsRow_blk h4.row e).choose_spec.2.1
        omega
      · have hn := hH.hn
        refine ke B (by omega) (fun e => ?_) (fun e => ?_)
        · have := (ownsRow_blk h4.row e).choose_spec.2.1
          omega
        · have := h4.bx
          rw [← e, hBx] at this
          cases this
      · intro k hk hnc
        refine ke k hk (fun e => ?_) (fun e => ?_)
        · obtain ⟨c2, hc2, _⟩ := ownsRow_blk h4.row e
          exact hnc _ _ _ hc2
        · rw [e] at hnc
          exact hnc _ _ _ h4.bx

theorem handOn_any (n0 B Bl : Nat) (w0 W : World) (st : St) (hB : B < n0) (hH : Hold n0 B Bl w0 W st) (hnz : nz st.p) (hl : st.all.length ≤ 16777216) :
    Calls Tryd.prog 56 #[.pointer (some ⟨B, 0, none⟩), .func (.func 36) #[] #[.pointer (some ⟨Bl, 0, none⟩)]] W fun e W2 => e = .returned (.bool true) ∧ Mid n0 B Bl w0 W W2 (shut st) :=
  handOn_gen n0 B Bl w0 W st hB hH hnz hl _ fun g n cap ag ac N m k lv cs h1 h2 h3 h4 h5 h6 h7 h8 h9 => handOn_walk B Bl g n cap ag ac N n0 m k lv cs W h1 h2 h3 h4 h5 h6 h7 h8 h9

/-- A NEW PARAGRAPH IS OPENED. -/
theorem Mid.reset {n0 B Bl : Nat} {w0 W W2 : World} {ps : List (List Fd)} (h : Mid n0 B Bl w0 W W2 ps) (hB : B < n0) {v mv : Value} (hx : W.heap[B]? = some (.cells #[v, mv] 76 (0, 0))) (hW : n0 + 2 ≤ W.heap.size) :
    Hold n0 B Bl w0 ((W2.setCell ⟨B, 0, none⟩ (.slice none 0 0)).setCell ⟨B, 1, none⟩ (.map none)) ⟨ps, [], none⟩ ∧ ∀ k, k ≠ B → ((W2.setCell ⟨B, 0, none⟩ (.slice none 0 0)).setCell ⟨B, 1, none⟩ (.map none)).heap[k]? = W2.heap[k]? := by
  have hz := h.size
  have hs : ((W2.setCell ⟨B, 0, none⟩ (.slice none 0 0)).setCell ⟨B, 1, none⟩ (.map none)).heap.size = W2.heap.size := by rw [set_size, set_size]
  have hk : ∀ k, k ≠ B → ((W2.setCell ⟨B, 0, none⟩ (.slice none 0 0)).setCell ⟨B, 1, none⟩ (.map none)).heap[k]? = W2.heap[k]? := fun k hk => (set_other _ _ _ _ _ hk).trans (set_other _ _ _ _ _ hk)
  have hbx : ((W2.setCell ⟨B, 0, none⟩ (.slice none 0 0)).setCell ⟨B, 1, none⟩ (.map none)).heap[B]? = some (.cells #[.slice none 0 0, .map none] 76 (0, 0)) := set_blk (set_blk (h.bB.trans hx) 0 (.slice none 0 0)) 1 (.map none)
  obtain ⟨lv, vs, hd⟩ := h.dn
  refine ⟨⟨h.env.trans ((Env.set _ _ _).trans (Env.set _ _ _)), rfl, fun k h1 h2 h3 => (hk k h2).trans (h.fr k h1 h2 h3), ⟨_, lv, vs, Nat.le_refl _, .inl (by rw [hs]; omega), Par.fresh _ (by rw [hs]; omega) (Nat.le_refl _) hbx, ?_⟩, by rw [hs]; omega⟩, hk⟩
  rw [hs]
  refine hd.keep fun k c t ht _ _ hc => hk k fun e => ?_
  rw [e, h.bB, hx] at hc
  rcases ht with rfl | rfl | rfl | rfl | rfl <;> cases hc

/-- A LINE IS TAKEN. -/
theorem Hold.take {n0 B Bl base : Nat} {w0 W W2 : World} {st : St} {lv : Value} {vs : List Value} (h : Hold n0 B Bl w0 W st) (hb2 : n0 + 2 ≤ base) (hd : Dn n0 Bl base W lv vs st.all) (hp : Par base B W st.p) {p2 : List Fd} (hp2 : Par base B W2 p2) (hf : FB base B W W2) :
    Hold n0 B Bl w0 W2 ⟨st.all, p2, none⟩ := by
  obtain ⟨v, mv, xs, hBx, _⟩ := hp.sh
  refine ⟨h.env.trans hf.env, rfl, fun k h1 h2 h3 => (hf.same k (by omega) h2).trans (h.fr k h1 h2 h3), ⟨base, lv, vs, hp2.hb, .inl hb2, hp2, hd.keep fun k c t ht _ hk hc => hf.same k hk fun e => ?_⟩, Nat.le_trans h.hn hf.size⟩
  rw [e, hBx] at hc
  rcases ht with rfl | rfl | rfl | rfl | rfl <;> cases hc

end Go.Proofs.YtiibobjbcgbknaaDoor
