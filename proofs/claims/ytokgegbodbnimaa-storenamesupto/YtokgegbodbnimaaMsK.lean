import Derived.Test.YtokgegbodbnimaaMsJ
namespace Go.Proofs.Ytokgegbodbnimaa
open Go.RowKit Go.Maps

/-- WHAT FOLLOWS ANOTHER AT SOME NAMES. -/
noncomputable def lev (H H2 : Nm → Option Hd) (L : List Nm) : Nm → Option Hd := L.foldl (fun h x => up h x (H2 x)) H
theorem lev_snoc (H H2 : Nm → Option Hd) (L : List Nm) (x : Nm) : lev H H2 (L ++ [x]) = up (lev H H2 L) x (H2 x) := by simp [lev]
theorem lev_in (H2 : Nm → Option Hd) (x : Nm) : ∀ (L : List Nm) (H : Nm → Option Hd), (x ∈ L → lev H H2 L x = H2 x) ∧ (x ∉ L → lev H H2 L x = H x)
  | [], H => ⟨fun h => (by cases h), fun _ => rfl⟩
  | y :: L, H => by
    obtain ⟨h1, h2⟩ := lev_in H2 x L (up H y (H2 y))
    have e : lev H H2 (y :: L) = lev (up H y (H2 y)) H2 L := rfl
    rw [e]
    refine ⟨fun h => ?_, fun h => ?_⟩
    · by_cases q : x ∈ L
      · exact h1 q
      · rcases List.mem_cons.1 h with q2 | q2
        · subst q2
          rw [h2 q, up_same]
        · exact absurd q2 q
    · have q : x ∉ L := fun z => h (List.mem_cons_of_mem _ z)
      rw [h2 q, up_other _ _ fun z => h (by rw [z]; exact List.mem_cons_self)]
def nmsL (ps : List Opn) : List Nm := ps.flatMap Opn.nms
theorem nmsL_snoc (ps : List Opn) (o : Opn) : nmsL (ps ++ [o]) = nmsL ps ++ o.nms := by simp [nmsL]
theorem set4 (cur : Array Value) (o : Nat) (a b c e : Value) : ((((cur.setIfInBounds o a).setIfInBounds (o + 1) b).setIfInBounds o c).setIfInBounds (o + 1) e) = (cur.setIfInBounds o c).setIfInBounds (o + 1) e := by
  rw [Array.setIfInBounds_comm b c (show o + 1 ≠ o by omega), Array.setIfInBounds_setIfInBounds, Array.setIfInBounds_setIfInBounds]
/-- WHILE ONE DIRECTORY FOLLOWS ANOTHER. -/
structure Lv (w : World) (B o o2 : Nat) (cur : Array Value) (d d2 : Value) (H H2 : Nm → Option Hd) (k k2 : Nat) (L : List Nm) (n : Nat) (W : World) : Prop where
  blk : ∃ d' u', W.heap[B]? = some (.cells ((cur.setIfInBounds o d').setIfInBounds (o + 1) (.int .i64 u')) 75 (0, 0)) ∧ Dm W d' (lev H H2 L) (k + n) ∧ (mb d' = mb d ∨ ∃ b, mb d' = some b ∧ w.heap.size ≤ b)
  d2 : Dm W d2 H2 k2
  fx : Fx (fun c => c = B ∨ mb d = some c) w W
theorem Lv.later {w : World} {B o o2 : Nat} {cur : Array Value} {d d2 : Value} {H H2 : Nm → Option Hd} {k k2 : Nat} {L : List Nm} {n : Nat} {W W2 : World} (h : Lv w B o o2 cur d d2 H H2 k k2 L n W) (hb : Below W.heap.size W W2) : Lv w B o o2 cur d d2 H H2 k k2 L n W2 := by
  obtain ⟨d', u', h1, h2, h3⟩ := h.blk
  exact ⟨⟨d', u', (hb.block B (blk_lt h1)).trans h1, h2.later hb, h3⟩, h.d2.later hb, h.fx.trans (Fx.of hb)⟩
theorem Lv.step {w : World} {B o o2 : Nat} {cur : Array Value} {d d2 : Value} {H H2 : Nm → Option Hd} {k k2 : Nat} {L : List Nm} {n : Nat} {W : World} (h : Lv w B o o2 cur d d2 H H2 k k2 L n W) (hlo : o + 1 < cur.size) (ho : o2 ≠ o ∧ o2 ≠ o + 1) (hd2 : cur[o2]? = some d2) (hw2 : ∀ b, mb d2 = some b → b < w.heap.size) (hm : ∀ b, mb d2 = some b → mb d ≠ some b) (hk : k + n < maxLen) {x : Nm} (hx : x.size ≤ 258) :
    Calls Try.prog 52 #[.pointer (some ⟨B, o, none⟩), .pointer (some ⟨B, o2, none⟩), .string x] W fun x1 W' => x1 = .returned (.tuple #[]) ∧ Lv w B o o2 cur d d2 H H2 k k2 (L ++ [x]) (n + 1) W' ∧ ∀ g cs t f, W.heap[g]? = some (.cells cs t f) → g ≠ B → W'.heap[g]? = W.heap[g]? := by
  obtain ⟨d', u', h1, h2, h3⟩ := h.blk
  have e1 : ((cur.setIfInBounds o d').setIfInBounds (o + 1) (.int .i64 u'))[o]? = some d' := by
    rw [Array.getElem?_setIfInBounds_ne (by omega)]
    simp [show o < cur.size by omega]
  have e2 : ((cur.setIfInBounds o d').setIfInBounds (o + 1) (.int .i64 u'))[o + 1]? = some (.int .i64 u') := by simp [hlo]
  have e3 : ((cur.setIfInBounds o d').setIfInBounds (o + 1) (.int .i64 u'))[o2]? = some d2 := by
    rw [Array.getElem?_setIfInBounds_ne (fun e => ho.2 e.symm), Array.getElem?_setIfInBounds_ne (fun e => ho.1 e.symm)]
    exact hd2
  have ne : ∀ b, mb d2 = some b → mb d' ≠ some b := fun b e q => by
    rcases h3 with h3 | ⟨b2, h3, h4⟩
    · exact hm b e (by rw [← h3]; exact q)
    · rw [h3] at q
      cases q
      have := hw2 b e
      omega
  refine (follow_any h1 e1 e2 e3 h2 h.d2 hk hx).mono fun x1 W' ⟨d'', p0, p1, p2, p3, p4⟩ => ⟨p0, ⟨⟨d'', usF u' (H2 x) (lev H H2 L x), ?_, ?_, ?_⟩, ?_, ?_⟩, fun g cs t f hg hne => p4.blk g (blk_lt hg) fun q => ?_⟩
  · rw [p1, set4]
  · rw [lev_snoc, ← Nat.add_assoc]; exact p2
  · rcases p3 with p3 | p3
    · rw [p3]; exact h3
    · exact .inr ⟨_, p3, h.fx.size⟩
  · refine h.d2.fx p4 fun b e q => ?_
    rcases q with q | q
    · exact h.d2.ne h1 (by rw [e, q])
    · exact ne b e q
  · refine h.fx.next p4 fun c hc q => ?_
    rcases q with q | q
    · exact .inl q
    · rcases h3 with h3 | ⟨b2, h3, h4⟩
      · exact .inr (by rw [← h3]; exact q)
      · rw [h3] at q
        cases q
        omega
  · rcases q with q | q
    · exact hne q
    · exact h2.ne hg q
/-- A ROW OF OPERATIONS. -/
def vals (ps : List Opn) : List Value := ps.map Opn.val
theorem vals_at (ps : List Opn) (i : Nat) (h : i < ps.length) : (vals ps)[i]? = some ps[i].val := by simp [vals, h]
def Rp (W : World) (pa : Option Addr) (ps : List Opn) : Prop := ps = [] ∨ ∃ b, pa = some ⟨b, 0, none⟩ ∧ b < W.heap.size ∧ ∀ i (h : i < ps.length), W.cell? ⟨b, i, none⟩ = some ps[i].val
end Go.Proofs.Ytokgegbodbnimaa
