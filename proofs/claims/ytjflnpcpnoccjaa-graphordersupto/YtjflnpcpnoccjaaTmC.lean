import Derived.Test.YtjflnpcpnoccjaaTmA
import Derived.Test.YtjflnpcpnoccjaaTjI
import Derived.Maps.OwnSet
import Derived.Maps.OwnOps
import Derived.Test.YtjflnpcpnoccjaaGrU
namespace Go.Proofs.Ytjflnpcpnoccjaa
open Go.RowKit

/-- The first of its kind. -/
def nw (M : Nat → Nat → Prop) (i : Nat) : Prop := ∀ j, j < i → ¬ M j i
open Classical in
/-- How many kinds there are among the first k. -/
noncomputable def nds (M : Nat → Nat → Prop) : Nat → Nat
  | 0 => 0
  | k + 1 => nds M k + if nw M k then 1 else 0
theorem nds_new {M : Nat → Nat → Prop} {k : Nat} (h : nw M k) : nds M (k + 1) = nds M k + 1 := by
  show nds M k + _ = _
  rw [if_pos h]
theorem nds_old {M : Nat → Nat → Prop} {k : Nat} (h : ¬ nw M k) : nds M (k + 1) = nds M k := by
  show nds M k + _ = _
  rw [if_neg h]
  omega
theorem nds_le (M : Nat → Nat → Prop) : ∀ k, nds M k ≤ k
  | 0 => Nat.le_refl _
  | k + 1 => by
    have := nds_le M k
    by_cases h : nw M k
    · rw [nds_new h]; omega
    · rw [nds_old h]; omega
theorem nds_mono (M : Nat → Nat → Prop) : ∀ {k m : Nat}, k ≤ m → nds M k ≤ nds M m
  | k, 0, h => by have : k = 0 := by omega
                  subst this; exact Nat.le_refl _
  | k, m + 1, h => by
    by_cases e : k = m + 1
    · subst e; exact Nat.le_refl _
    · have h1 := nds_mono M (k := k) (m := m) (by omega)
      by_cases h2 : nw M m
      · rw [nds_new h2]; omega
      · rw [nds_old h2]; omega
theorem nds_lt {M : Nat → Nat → Prop} {j k : Nat} (h : nw M j) (hjk : j < k) : nds M j < nds M k := by
  have := nds_mono M (k := j + 1) (m := k) (by omega)
  rw [nds_new h] at this
  omega
/-- Sameness of kind. -/
structure Kd (M : Nat → Nat → Prop) : Prop where
  refl : ∀ i, M i i
  symm : ∀ i j, M i j → M j i
  trans : ∀ i j k, M i j → M j k → M i k
theorem first_ex {M : Nat → Nat → Prop} (hM : Kd M) : ∀ n i, i ≤ n → ∃ j, j ≤ i ∧ M j i ∧ nw M j
  | n, i, hi => by
    by_cases h : nw M i
    · exact ⟨i, Nat.le_refl _, hM.refl i, h⟩
    · have : ∃ j, j < i ∧ M j i := Classical.byContradiction fun q => h fun j hj hm => q ⟨j, hj, hm⟩
      obtain ⟨j, hj, hm⟩ := this
      cases n with
      | zero => omega
      | succ n =>
        obtain ⟨k, hk, hkm, hkn⟩ := first_ex hM n j (by omega)
        exact ⟨k, by omega, hM.trans _ _ _ hkm hm, hkn⟩
theorem first_one {M : Nat → Nat → Prop} (hM : Kd M) {i i2 j j2 : Nat} (h : M j i) (hj : nw M j) (h2 : M j2 i2) (hj2 : nw M j2) (e : M i i2) : j = j2 := by
  have hm : M j j2 := hM.trans _ _ _ h (hM.trans _ _ _ e (hM.symm _ _ h2))
  rcases Nat.lt_trichotomy j j2 with q | q | q
  · exact absurd hm (hj2 j q)
  · exact q
  · exact absurd (hM.symm _ _ hm) (hj j2 q)
open Classical in
/-- The first of i's kind. -/
noncomputable def fo (M : Nat → Nat → Prop) (i : Nat) : Nat := if h : ∃ j, j ≤ i ∧ M j i ∧ nw M j then h.choose else 0
theorem fo_spec {M : Nat → Nat → Prop} (hM : Kd M) (i : Nat) : fo M i ≤ i ∧ M (fo M i) i ∧ nw M (fo M i) := by
  have h := first_ex hM i i (Nat.le_refl _)
  unfold fo
  rw [dif_pos h]
  exact h.choose_spec
/-- The number of i's kind. -/
noncomputable def no (M : Nat → Nat → Prop) (i : Nat) : Nat := nds M (fo M i)
theorem no_new {M : Nat → Nat → Prop} (hM : Kd M) {i : Nat} (h : nw M i) : no M i = nds M i := by
  obtain ⟨_, h2, h3⟩ := fo_spec hM i
  unfold no
  rw [first_one hM h2 h3 (hM.refl i) h (hM.refl i)]
theorem no_same {M : Nat → Nat → Prop} (hM : Kd M) {i j : Nat} (h : M i j) : no M i = no M j := by
  obtain ⟨_, h2, h3⟩ := fo_spec hM i
  obtain ⟨_, h5, h6⟩ := fo_spec hM j
  unfold no
  rw [first_one hM h2 h3 h5 h6 h]
theorem no_lt {M : Nat → Nat → Prop} (hM : Kd M) {i k : Nat} (h : i < k) : no M i < nds M k := by
  obtain ⟨h1, _, h3⟩ := fo_spec hM i
  exact nds_lt h3 (by omega)
theorem no_inj {M : Nat → Nat → Prop} (hM : Kd M) {i j : Nat} (h : no M i = no M j) : M i j := by
  obtain ⟨_, h2, h3⟩ := fo_spec hM i
  obtain ⟨_, h5, h6⟩ := fo_spec hM j
  have e : fo M i = fo M j := by
    rcases Nat.lt_trichotomy (fo M i) (fo M j) with q | q | q
    · have := nds_lt h3 q; unfold no at h; omega
    · exact q
    · have := nds_lt h6 q; unfold no at h; omega
  rw [e] at h2
  exact hM.trans _ _ _ (hM.symm _ _ h2) h5
theorem nw_congr {M M2 : Nat → Nat → Prop} {N : Nat} (h : ∀ i j, i < N → j < N → (M i j ↔ M2 i j)) {i : Nat} (hi : i < N) : nw M i ↔ nw M2 i :=
  ⟨fun q j hj m => q j hj ((h j i (by omega) hi).2 m), fun q j hj m => q j hj ((h j i (by omega) hi).1 m)⟩
theorem nds_congr {M M2 : Nat → Nat → Prop} {N : Nat} (h : ∀ i j, i < N → j < N → (M i j ↔ M2 i j)) : ∀ k, k ≤ N → nds M k = nds M2 k
  | 0, _ => rfl
  | k + 1, hk => by
    have h1 := nds_congr h k (by omega)
    by_cases q : nw M k
    · rw [nds_new q, nds_new ((nw_congr h (by omega)).1 q), h1]
    · rw [nds_old q, nds_old (fun q2 => q ((nw_congr h (by omega)).2 q2)), h1]
theorem no_congr {M M2 : Nat → Nat → Prop} (hM : Kd M) (hM2 : Kd M2) {N : Nat} (h : ∀ i j, i < N → j < N → (M i j ↔ M2 i j)) {i : Nat} (hi : i < N) : no M i = no M2 i := by
  obtain ⟨h1, h2, h3⟩ := fo_spec hM i
  obtain ⟨h4, h5, h6⟩ := fo_spec hM2 i
  have e : fo M i = fo M2 i := first_one hM2 ((h _ _ (by omega) hi).1 h2) ((nw_congr h (by omega)).1 h3) h5 h6 (hM2.refl i)
  unfold no
  rw [e]
  exact nds_congr h _ (by omega)
/-- There is one of each number, the first of its kind. -/
theorem no_onto {M : Nat → Nat → Prop} (hM : Kd M) : ∀ {k p : Nat}, p < nds M k → ∃ j, j < k ∧ nw M j ∧ no M j = p
  | 0, p, h => by exact absurd h (Nat.not_lt_zero _)
  | k + 1, p, h => by
    by_cases q : nw M k
    · rw [nds_new q] at h
      by_cases e : p = nds M k
      · exact ⟨k, by omega, q, by rw [no_new hM q, e]⟩
      · obtain ⟨j, h1, h2, h3⟩ := no_onto hM (k := k) (p := p) (by omega)
        exact ⟨j, by omega, h2, h3⟩
    · rw [nds_old q] at h
      obtain ⟨j, h1, h2, h3⟩ := no_onto hM h
      exact ⟨j, by omega, h2, h3⟩
theorem kd_fun (f : Nat → Int) : Kd fun i j => f i = f j := ⟨fun _ => rfl, fun _ _ h => h.symm, fun _ _ _ h h2 => h.trans h2⟩
theorem kd_rch (E : Nat → Nat → Prop) : Kd fun i j => Rch E i j ∧ Rch E j i := ⟨fun i => ⟨Rch.refl E i, Rch.refl E i⟩, fun _ _ h => ⟨h.2, h.1⟩, fun _ _ _ h h2 => ⟨h.1.trans h2.1, h2.2.trans h.2⟩⟩
end Go.Proofs.Ytjflnpcpnoccjaa

namespace Go.Proofs.Ytjflnpcpnoccjaa
open Go.RowKit Go.Maps

theorem lawI : Keyed Try.prog 3 := int_keyed Try.underlying3
theorem zeroI (w : World) : (zeroValue 3).run Try.prog w = .ok (.int .i64 0) w := by kernel_rfl
section
variable (w : World) {ops : Array Oper} {rest : List Oper} {o : Oper} {a : Act} {Q : Exit → Act → World → Prop}
theorem look_ok (hg : o.guard = none) (m x : Operand) (hop : o.op = Op.lookup 83 m x true) (b n : Nat) (D : DataW Unit) (hm : a.eval m = .map (some b)) (hown : w.ownsMap Try.prog 3 (plainElem Try.prog 3) b n D) (k : Int) (hx : a.eval x = .int .i64 k) (hwk : (Lit.int .i64 k).wf = true) (bb : Bool) (hh : Maps.has D (.int .i64 k) = bb) (hK : ∀ c : Int, wpList Try.prog ops Q rest (a.put o.dst (.tuple #[.int .i64 c, .bool bb])) w) :
    wpList Try.prog ops Q (o :: rest) a w :=
  wpList_lookup_own_ok_int w hg m x 83 hop 3 3 .i64 lawI Try.underlying83 Try.underlying3 (zeroI w) b n D hm hown _ _ hx (keyOf_int_mk Try.underlying3 hwk) (fun c _ _ => by rw [hh]; exact hK c)
theorem look_at (hg : o.guard = none) (m x : Operand) (hop : o.op = Op.lookup 83 m x false) (b n : Nat) (D : DataW Unit) (hm : a.eval m = .map (some b)) (hown : w.ownsMap Try.prog 3 (plainElem Try.prog 3) b n D) (k : Int) (hx : a.eval x = .int .i64 k) (hwk : (Lit.int .i64 k).wf = true) (c : Int) (hc : ∀ z, D.atKey (.int .i64 k) z = .lit (.int .i64 c)) (hK : wpList Try.prog ops Q rest (a.put o.dst (.int .i64 c)) w) :
    wpList Try.prog ops Q (o :: rest) a w :=
  wpList_lookup_own_int w hg m x 83 hop 3 3 .i64 lawI Try.underlying83 Try.underlying3 (zeroI w) b n D hm hown _ _ hx (keyOf_int_mk Try.underlying3 hwk) (fun c2 h2 _ => by
    rw [hc] at h2
    injection h2 with h2
    injection h2 with _ h2
    rw [← h2]
    exact hK)
theorem len_at (hg : o.guard = none) (m : Operand) (hop : o.op = Op.call { callee := Callee.builtin Builtin.len, args := #[m], argTypes := #[83] }) (b n : Nat) (D : DataW Unit) (hm : a.eval m = .map (some b)) (hown : w.ownsMap Try.prog 3 (plainElem Try.prog 3) b n D) (c : Nat) (hc : Maps.size D = c) (hK : wpList Try.prog ops Q rest (a.put o.dst (.int .i64 (c : Int))) w) :
    wpList Try.prog ops Q (o :: rest) a w :=
  wpList_len_own w hg m 83 hop 3 3 Try.underlying83 _ b n D hm hown (by rw [hc]; exact hK)
theorem upd_at (hg : o.guard = none) (m x v : Operand) (hop : o.op = Op.mapUpdate 83 m x v) (b n : Nat) (D : DataW Unit) (hm : a.eval m = .map (some b)) (hown : w.ownsMap Try.prog 3 (plainElem Try.prog 3) b n D) (hn : n < maxLen) (k c : Int) (hx : a.eval x = .int .i64 k) (hv : a.eval v = .int .i64 c) (hwk : (Lit.int .i64 k).wf = true) (hwc : (Lit.int .i64 c).wf = true) (hK : ∀ w', w'.ownsMap Try.prog 3 (plainElem Try.prog 3) b (n + 1) (D.put (.int .i64 k) (.lit (.int .i64 c))) → w.grownBy w' (some b) → wpList Try.prog ops Q rest (a.put o.dst undef) w') :
    wpList Try.prog ops Q (o :: rest) a w :=
  wpList_mapUpdate_own w hg m x v 83 hop 3 3 lawI Try.underlying83 _ b n D hm hown hn _ _ _ hx hv (keyOf_int_mk Try.underlying3 hwk) _ [] (plainElem_int Try.underlying3 hwc) hK
end
abbrev Sk (f : Nat → Int) (i j : Nat) : Prop := f i = f j
/-- The numbers that the map holds behind k keys. -/
structure Mp (f : Nat → Int) (k : Nat) (D : DataW Unit) : Prop where
  has : ∀ x : Int, Maps.has D (.int .i64 x) = true ↔ ∃ j, j < k ∧ f j = x
  at_ : ∀ j, j < k → ∀ z, D.atKey (.int .i64 (f j)) z = .lit (.int .i64 (no (Sk f) j : Int))
  siz : Maps.size D = nds (Sk f) k
theorem Mp.start (f : Nat → Int) : Mp f 0 (.map []) := ⟨fun x => ⟨fun h => (by simp [Maps.has] at h), fun h => by obtain ⟨j, hj, _⟩ := h; omega⟩, fun j hj => by omega, rfl⟩
theorem Mp.old {f : Nat → Int} {k : Nat} {D : DataW Unit} (h : Mp f k D) (hk : Maps.has D (.int .i64 (f k)) = true) : Mp f (k + 1) D := by
  obtain ⟨j0, hj0, e0⟩ := (h.has (f k)).1 hk
  have hn : ¬ nw (Sk f) k := fun q => q j0 hj0 e0
  refine ⟨fun x => ?_, fun j hj z => ?_, by rw [nds_old hn]; exact h.siz⟩
  · rw [h.has]
    refine ⟨fun ⟨j, hj, e⟩ => ⟨j, by omega, e⟩, fun ⟨j, hj, e⟩ => ?_⟩
    by_cases q : j = k
    · subst q; exact ⟨j0, hj0, e0.trans e⟩
    · exact ⟨j, by omega, e⟩
  · by_cases q : j = k
    · subst q
      rw [← e0, h.at_ j0 hj0 z, no_same (kd_fun f) (i := j0) (j := j) e0]
    · exact h.at_ j (by omega) z
theorem Mp.new {f : Nat → Int} {k : Nat} {D : DataW Unit} (h : Mp f k D) (hk : Maps.has D (.int .i64 (f k)) = false) (hD : Maps.Tidy D) : Mp f (k + 1) (D.put (.int .i64 (f k)) (.lit (.int .i64 (nds (Sk f) k : Int)))) := by
  have hno : ∀ j, j < k → f j ≠ f k := fun j hj e => by
    have := (h.has (f k)).2 ⟨j, hj, e⟩
    rw [hk] at this
    cases this
  have hn : nw (Sk f) k := fun j hj e => hno j hj e
  refine ⟨fun x => ?_, fun j hj z => ?_, by rw [nds_new hn, size_put hD, hk, h.siz]; rfl⟩
  · by_cases e : x = f k
    · subst e
      rw [has_put_same hD.isMap (show WideAt.IsKeyLit (.int .i64 (f k)) from trivial)]
      exact ⟨fun _ => ⟨k, by omega, rfl⟩, fun _ => rfl⟩
    · rw [has_put_other (by intro q; injection q with _ q; exact e q), h.has]
      refine ⟨fun ⟨j, hj, q⟩ => ⟨j, by omega, q⟩, fun ⟨j, hj, q⟩ => ⟨j, ?_, q⟩⟩
      by_cases e2 : j = k
      · subst e2; exact absurd q.symm e
      · omega
  · by_cases q : j = k
    · subst q
      rw [atKey_put_same hD.isMap (show WideAt.IsKeyLit (.int .i64 (f j)) from trivial), no_new (kd_fun f) hn]
    · rw [atKey_put_other (by intro e; injection e with _ e; exact hno j (by omega) e)]
      exact h.at_ j (by omega) z
noncomputable def nbv (f : Nat → Int) (k j : Nat) : Value := if j < k then .int .i64 (no (Sk f) j : Int) else .int .i64 0
theorem nbv_next (f : Nat → Int) (k : Nat) : (fun j => if j = k then Value.int .i64 (no (Sk f) k : Int) else nbv f k j) = nbv f (k + 1) := by
  funext j
  unfold nbv
  by_cases e : j = k
  · subst e; rw [if_pos rfl, if_pos (by omega)]
  · rw [if_neg e]
    by_cases e2 : j < k
    · rw [if_pos e2, if_pos (by omega)]
    · rw [if_neg e2, if_neg (by omega)]
/-- VALUES THAT FILL A BLOCK. -/
structure My (g n e : Nat) (F : Nat → Value) (W : World) : Prop where
  mv : Mv g n e F W
  sz : ∃ cur : Array Value, W.heap[g]? = some (.cells cur e (0, 0)) ∧ cur.size = n
theorem My.cell {g n e : Nat} {F : Nat → Value} {W : World} (h : My g n e F W) {k : Nat} (hk : k < n) : W.cell? ⟨g, k, none⟩ = some (F k) ∧ W.frozen? ⟨g, k, none⟩ = false := h.mv.cell hk
theorem My.lt {g n e : Nat} {F : Nat → Value} {W : World} (h : My g n e F W) : g < W.heap.size := h.mv.lt
theorem My.congr {g n e : Nat} {F G : Nat → Value} {W : World} (h : My g n e F W) (q : ∀ k, k < n → F k = G k) : My g n e G W := ⟨h.mv.congr q, h.sz⟩
theorem My.same {g n e : Nat} {F : Nat → Value} {W W2 : World} (h : My g n e F W) (q : W2.heap[g]? = W.heap[g]?) : My g n e F W2 := by
  obtain ⟨cur, h1, h2⟩ := h.sz
  exact ⟨h.mv.same q, cur, q.trans h1, h2⟩
theorem My.later {g n e : Nat} {F : Nat → Value} {W W2 : World} (h : My g n e F W) (hb : Below W.heap.size W W2) : My g n e F W2 := h.same (hb.block g h.lt)
theorem My.set {g n e : Nat} {F : Nat → Value} {W : World} (h : My g n e F W) {k : Nat} (hk : k < n) (x : Value) : My g n e (fun j => if j = k then x else F j) (W.setCell ⟨g, k, none⟩ x) := by
  obtain ⟨cur, h1, h2⟩ := h.sz
  exact ⟨h.mv.set hk x, _, set_blk h1 k x, by simpa using h2⟩
set_option maxRecDepth 100000 in
set_option maxHeartbeats 4000000 in
theorem numbered_any {n : Nat} {f : Nat → Int} {pa : Option Addr} {pc : Nat} {w : World} (hn : n ≤ 1048576) (hf : ∀ i, i < n → 0 ≤ f i ∧ f i < 1048576) (hF : Ri w pa n f) :
    Calls Try.prog 63 #[.slice pa n pc] w fun x w' => ∃ g, x = .returned (.tuple #[.slice (some ⟨g, 0, none⟩) n n, .int .i64 (nds (Sk f) n : Int)]) ∧ w.heap.size ≤ g ∧ My g n 3 (iv fun j => (no (Sk f) j : Int)) w' ∧ Below w.heap.size w w' := by
  have mk := makeI n (by omega)
  have hmm := @run_makeMap Try.prog
  obtain ⟨W0, hW0⟩ : ∃ W, W = (w.alloc (.cells (madeCells #[.int .i64 0] n) 3)).alloc (.map #[] 0) := ⟨_, rfl⟩
  have HM0 := hide (show My w.heap.size n 3 (nbv f 0) W0 from by
    rw [hW0]
    exact My.later ⟨⟨_, heap_new _ _, fun k hk => by rw [made_at _ _ _ hk]; rfl⟩, _, heap_new _ _, by simp [size_madeCells]⟩ (al _ _))
  have HB0 := hide (show Below w.heap.size w W0 from by rw [hW0]; exact (Below.refl _ w).alloc (Nat.le_refl _) _ |>.alloc (by rw [World.size_alloc]; omega) _)
  have HO0 := hide (show W0.ownsMap Try.prog 3 (plainElem (H := Unit) Try.prog 3) (w.heap.size + 1) 0 (.map []) from by
    rw [hW0]
    have := World.ownsMap_made (w.alloc (.cells (madeCells #[.int .i64 0] n) 3)) Try.prog 3 (plainElem (H := Unit) Try.prog 3)
    rw [World.size_alloc] at this
    exact this)
  have HF := hide hF
  have HFB := hide hf
  clear hF hf
  go_enter Try.func63, Try.ntmps63
  go_wp2_with fail
  rw [← hW0]
  obtain ⟨B, hB⟩ : ∃ x, x = w.heap.size + 1 := ⟨_, rfl⟩
  rw [← hB] at HO0
  rw [← hB]
  obtain ⟨g, hg⟩ : ∃ x, x = w.heap.size := ⟨_, rfl⟩
  rw [← hg]
  rw [← hg] at HM0
  have HG := hide (show w.heap.size ≤ g ∧ w.heap.size ≤ B ∧ B ≠ g from ⟨by omega, by omega, by omega⟩)
  clear hg hB hW0 mk hmm
  go_loopg [6, 7, 8, 9, 16] n (fun g1 _ _ _ _ vi wr => ∃ (k : Nat) (D : DataW Unit), vi = .int .i64 k ∧ k ≤ n ∧ n - k ≤ g1 ∧ Hid (Mp f k D) ∧ Hid (wr.ownsMap Try.prog 3 (plainElem Try.prog 3) B k D) ∧ Hid (My g n 3 (nbv f k) wr) ∧ Hid (Below w.heap.size w wr))
  case atStart => exact ⟨0, _, by go_num, by omega, by omega, hide (Mp.start f), HO0, HM0, HB0⟩
  case round =>
    clear HO0 HM0 HB0
    obtain ⟨k, D, rfl, hk, hg1, HP, HO, HM, HB⟩ := hrel
    by_cases hlt : k < n
    · obtain ⟨kb, ko, hpa, _, hck⟩ := ((unhide HF).later (unhide HB)).at hlt
      subst hpa
      unfold iv at hck
      have hfk := unhide HFB k hlt
      have hwf : (Lit.int .i64 (f k)).wf = true := WalkArith.wf_i64 (by omega)
      have hlt2 : (k : Int) < (n : Int) := by omega
      have HNX := hide (fun (W : World) (D : DataW Unit) (m : Nat) (hm : m ≤ k + 1) (h1 : W.ownsMap Try.prog 3 (plainElem Try.prog 3) B m D) (h2 : My g n 3 (nbv f k) W) (h3 : Below w.heap.size w W) => show (W.setCell ⟨g, k, none⟩ (.int .i64 (no (Sk f) k : Int))).ownsMap Try.prog 3 (plainElem Try.prog 3) B (k + 1) D ∧ My g n 3 (nbv f (k + 1)) (W.setCell ⟨g, k, none⟩ (.int .i64 (no (Sk f) k : Int))) ∧ Below w.heap.size w (W.setCell ⟨g, k, none⟩ (.int .i64 (no (Sk f) k : Int))) from by
        refine ⟨(World.ownsMap.setCell h1 (unhide HG).2.2 _).mono hm, ?_, h3.setCell (p := ⟨g, k, none⟩) (unhide HG).1 _⟩
        rw [← nbv_next]
        exact h2.set hlt _)
      by_cases hh : Maps.has D (.int .i64 (f k)) = true
      · have HP2 := hide ((unhide HP).old hh)
        have hat := (unhide HP2).at_ k (by omega)
        obtain ⟨cg, fg⟩ := (unhide HM).cell hlt
        have H2 := hide (unhide HNX wr D k (by omega) (unhide HO) (unhide HM) (unhide HB))
        clear HNX HP
        generalize no (Sk f) k = nk at *
        go_wp2_with (first | (at_lookup; refine look_ok _ rfl _ _ rfl B k D rfl (unhide HO) (f k) rfl hwf true hh ?_; intro c0) | (at_lookup; refine look_at _ rfl _ _ rfl B k D rfl (unhide HO) (f k) rfl hwf _ hat ?_))
        go_roundg (n - (k + 1))
        case measure => omega
        case rel => exact ⟨k + 1, D, by go_num, by omega, by omega, HP2, hide (unhide H2).1, hide (unhide H2).2.1, hide (unhide H2).2.2⟩
      · have hh2 : Maps.has D (.int .i64 (f k)) = false := by simpa using hh
        have HP2 := hide ((unhide HP).new hh2 (World.ownsMap.tidy (unhide HO) lawI))
        have hat := (unhide HP2).at_ k (by omega)
        have hsz := (unhide HP).siz
        have hle := nds_le (Sk f) k
        have hwc : (Lit.int .i64 (nds (Sk f) k : Int)).wf = true := WalkArith.wf_i64 (by omega)
        have HW1 := hide (fun (w1 : World) (h1 : w1.ownsMap Try.prog 3 (plainElem Try.prog 3) B (k + 1) (D.put (.int .i64 (f k)) (.lit (.int .i64 (nds (Sk f) k : Int))))) (h2 : wr.grownBy w1 (some B)) => show (∃ old, w1.cell? ⟨g, k, none⟩ = some old) ∧ w1.frozen? ⟨g, k, none⟩ = false ∧ _ from by
          have h3 := (unhide HM).same (h2.block g (unhide HM).lt (by intro e; injection e with e; exact (unhide HG).2.2 e.symm))
          exact ⟨⟨_, (h3.cell hlt).1⟩, (h3.cell hlt).2, unhide HNX w1 _ (k + 1) (Nat.le_refl _) h1 h3 ((unhide HB).grown h2 (unhide HB).size (fun j e => by cases e; exact (unhide HG).2.1))⟩)
        clear HNX HP hh
        generalize nds (Sk f) k = ck at *
        generalize no (Sk f) k = nk at *
        go_wp2_with (first | (at_lookup; refine look_ok _ rfl _ _ rfl B k D rfl (unhide HO) (f k) rfl hwf false hh2 ?_; intro c0) | (at_len; refine len_at _ rfl _ rfl B k D rfl (unhide HO) _ hsz ?_) | (at_mapUpdate; refine upd_at _ rfl _ _ _ rfl B k D rfl (unhide HO) (by unfold maxLen; omega) (f k) _ rfl rfl hwf hwc ?_; intro w1 hown1 hgrow1; obtain ⟨⟨old, cg⟩, fg, h2⟩ := unhide HW1 w1 hown1 hgrow1; have H2 := hide h2; have HO1 := hide hown1; clear h2 hown1 hgrow1) | (at_lookup; refine look_at _ rfl _ _ rfl B (k + 1) _ rfl (unhide HO1) (f k) rfl hwf _ hat ?_))
        go_roundg (n - (k + 1))
        case measure => omega
        case rel => exact ⟨k + 1, _, by go_num, by omega, by omega, HP2, hide (unhide H2).1, hide (unhide H2).2.1, hide (unhide H2).2.2⟩
    · obtain rfl : k = n := by omega
      have hsz := (unhide HP).siz
      have HM2 := hide (show My g k 3 (iv fun j => (no (Sk f) j : Int)) wr from (unhide HM).congr fun j hj => by unfold nbv iv; rw [if_pos hj])
      clear HM HP
      obtain ⟨ck, hck⟩ : ∃ c, c = nds (Sk f) k := ⟨_, rfl⟩
      rw [← hck] at hsz
      have HCK := hide hck
      clear hck
      go_wp2_with (at_len; refine len_at _ rfl _ rfl B k D rfl (unhide HO) _ hsz ?_)
      go_ret2
      exact ⟨g, by rw [← unhide HCK]; rfl, (unhide HG).1, unhide HM2, unhide HB⟩
end Go.Proofs.Ytjflnpcpnoccjaa

namespace Go.Proofs.Ytjflnpcpnoccjaa
open Go.RowKit Go.Shelf
attribute [local go_sem] Oper.semAt_some
attribute [local simp] wide_fn
attribute [local go_sem] wide_fn

/-- Of one part. -/
abbrev Mu (N : Nat) (ln : Nat → Nat) (L : Nat → Nat → Int) (i j : Nat) : Prop := Rch (Eg N ln L) i j ∧ Rch (Eg N ln L) j i
/-- The place of a node's part; how many parts there are. -/
noncomputable def pn (N : Nat) (ln : Nat → Nat) (L : Nat → Nat → Int) (i : Nat) : Nat := no (Mu N ln L) i
noncomputable def pc (N : Nat) (ln : Nat → Nat) (L : Nat → Nat → Int) : Nat := nds (Mu N ln L) N
theorem kd_mu (N : Nat) (ln : Nat → Nat) (L : Nat → Nat → Int) : Kd (Mu N ln L) := kd_rch _
theorem pn_lt (N : Nat) (ln : Nat → Nat) (L : Nat → Nat → Int) {i : Nat} (h : i < N) : pn N ln L i < pc N ln L := no_lt (kd_mu N ln L) h
theorem pc_le (N : Nat) (ln : Nat → Nat) (L : Nat → Nat → Int) : pc N ln L ≤ N := nds_le _ _
theorem Hds.no {N : Nat} {ln : Nat → Nat} {L : Nat → Nat → Int} {hd : Nat → Int} (h : Hds N ln L hd) {i : Nat} (hi : i < N) : no (Sk hd) i = pn N ln L i := no_congr (kd_fun hd) (kd_mu N ln L) h.2 hi
theorem Hds.nds {N : Nat} {ln : Nat → Nat} {L : Nat → Nat → Int} {hd : Nat → Int} (h : Hds N ln L hd) : nds (Sk hd) N = pc N ln L := nds_congr h.2 N (Nat.le_refl _)
theorem results_cell1 {fn : Func} {a : Tmp} {t : TypeId} (h : fn.results = #[.cell a t]) (tmps : Array Value) (P : Program) (w : World) (ad : Addr) (v : Value) (ha : tmps.getD a undef = .pointer (some ad)) (hl : (loadVar t ad).run P w = .ok v w) :
    (results fn tmps).run P w = .ok v w := by
  have ha2 : tmps[a]?.getD undef = .pointer (some ad) := by simpa using ha
  simp [results, h, asAddr, ha2, hl]
set_option maxRecDepth 100000 in
set_option maxHeartbeats 4000000 in
theorem divide_any {N : Nat} {ln : Nat → Nat} {L : Nat → Nat → Int} {na : Option Addr} {nc : Nat} {w : World} (hr : rgt N ln L = true) (hN : N ≤ 1048576) (hln : ∀ k, k < N → ln k ≤ 1048576) (hR : Rr w na N ln L) :
    Calls Try.prog 53 #[.slice na N nc] w fun x w' => ∃ g, x = .returned (.agg #[.slice (some ⟨g, 0, none⟩) N N, .int .i64 (pc N ln L : Int)]) ∧ w.heap.size ≤ g ∧ My g N 3 (iv fun j => (pn N ln L j : Int)) w' ∧ Below w.heap.size w w' := by
  have c1 := hide (heads_any (nc := nc) hr hN hln (hR.later (al w (.cells #[.slice none 0 0, .int .i64 0] 62))))
  have c2 := hide (fun (W : World) (g : Nat) (hd : Nat → Int) (h1 : Mv g N 3 (iv hd) W) (h2 : Hds N ln L hd) => show Calls Try.prog 63 #[.slice (some ⟨g, 0, none⟩) N N] W fun x w' => ∃ g, x = .returned (.tuple #[.slice (some ⟨g, 0, none⟩) N N, .int .i64 (pc N ln L : Int)]) ∧ W.heap.size ≤ g ∧ My g N 3 (iv fun j => (pn N ln L j : Int)) w' ∧ Below W.heap.size W w' from by
    refine (numbered_any (pc := N) hN (fun i hi => by obtain ⟨x, hx, e⟩ := h2.1 i hi; omega) h1.rv).mono ?_
    rintro x w' ⟨g2, rfl, q1, q2, q3⟩
    exact ⟨g2, by rw [h2.nds], q1, q2.congr fun k hk => by unfold iv; dsimp only; rw [h2.no hk], q3⟩)
  have hcc : ∀ W2, Below (w.alloc (.cells #[.slice none 0 0, .int .i64 0] 62)).heap.size (w.alloc (.cells #[.slice none 0 0, .int .i64 0] 62)) W2 → W2.heap[w.heap.size]? = some (.cells #[.slice none 0 0, .int .i64 0] 62 (0, 0)) := fun W2 h => (h.block _ (by rw [World.size_alloc]; omega)).trans (heap_new _ _)
  have HCC := hide hcc
  have HB1 := hide (al w (.cells #[.slice none 0 0, .int .i64 0] 62))
  clear hcc hR hr hln
  generalize pc N ln L = pcn at *
  go_enter Try.func53, Try.ntmps53
  go_wp2_with (first | (go_at_call 64; refine (unhide c1).mono ?_; rintro x1 w1 ⟨g1, hd1, rfl, q1, q2, q3, q4⟩; have H1 := hide (And.intro q2 (And.intro q3 q4)); clear q1 q2 q3 q4) | (go_at_call 63; refine (unhide c2 _ _ _ (unhide H1).1 (unhide H1).2.1).mono ?_; rintro x2 w2 ⟨g2, rfl, q1, q2, q3⟩; have H2 := hide (And.intro q1 (And.intro q2 q3)); have hcb := unhide HCC _ (bl_t (unhide H1).2.2 q3); obtain ⟨e0, f0⟩ := cell_blk hcb 0; obtain ⟨e1, f1⟩ := cell_blk hcb 1; clear q1 q2 q3))
  have hb2 := set_blk (set_blk (unhide HCC _ (bl_t (unhide H1).2.2 (unhide H2).2.2)) 0 (.slice (some ⟨g2, 0, none⟩) N N)) 1 (.int .i64 (pcn : Int))
  have z0 := (cell_blk hb2 0).1
  have z1 := (cell_blk hb2 1).1
  simp only [List.setIfInBounds_toArray, List.set_cons_zero, List.set_cons_succ] at z0 z1
  have hne : w.heap.size ≠ g2 := by
    have a1 := (unhide H2).1
    have a2 := (unhide H1).2.2.size
    rw [World.size_alloc] at a2
    omega
  have HM := hide ((unhide H2).2.1.same (W2 := (w2.setCell ⟨w.heap.size, 0, none⟩ (.slice (some ⟨g2, 0, none⟩) N N)).setCell ⟨w.heap.size, 1, none⟩ (.int .i64 (pcn : Int))) ((set_other _ _ _ _ _ hne.symm).trans (set_other _ _ _ _ _ hne.symm)))
  have HB := hide (((bl_t (unhide HB1) (bl_t (unhide H1).2.2 (unhide H2).2.2)).setCell (p := ⟨w.heap.size, 0, none⟩) (Nat.le_refl _) (.slice (some ⟨g2, 0, none⟩) N N)).setCell (p := ⟨w.heap.size, 1, none⟩) (Nat.le_refl _) (.int .i64 (pcn : Int)))
  have hge : w.heap.size ≤ g2 := by
    have a1 := (unhide H2).1
    have a2 := (unhide H1).2.2.size
    rw [World.size_alloc] at a2
    omega
  generalize (w2.setCell ⟨w.heap.size, 0, none⟩ (.slice (some ⟨g2, 0, none⟩) N N)).setCell ⟨w.heap.size, 1, none⟩ (.int .i64 (pcn : Int)) = W9 at *
  have c0 : W9.cell? ⟨w.heap.size, 0, none⟩ = some (.slice (some ⟨g2, 0, none⟩) N N) := z0
  have c9 : W9.cell? ⟨w.heap.size, 1, none⟩ = some (.int .i64 (pcn : Int)) := z1
  refine bodyPost_ret (results_cell1 (show Try.f53.results = #[.cell 2 62] from Try.results53) _ _ _ ⟨w.heap.size, 0, none⟩ (.agg #[.slice (some ⟨g2, 0, none⟩) N N, .int .i64 (pcn : Int)]) rfl (by simp [loadVar, go_sem, c0, c9])) rfl ?_
  exact ⟨g2, rfl, hge, unhide HM, unhide HB⟩
end Go.Proofs.Ytjflnpcpnoccjaa

