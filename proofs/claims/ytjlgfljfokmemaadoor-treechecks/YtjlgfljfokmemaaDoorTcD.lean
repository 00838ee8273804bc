import Derived.Test.YtjlgfljfokmemaaDoorTcC
namespace Go.Proofs.YtjlgfljfokmemaaDoor
open Go.RowKit Go.Maps Go.Shelf

abbrev Nm := ByteArray
def kl (x : Nm) : Lit := .string x.data.toList
theorem kl_inj {x y : Nm} (h : kl x = kl y) : x = y := by
  unfold kl at h
  injection h with h
  have : x.data = y.data := by simpa using h
  cases x; cases y; simp_all
def raw (v : Value) : Option (DataW Value × List MemPlace) := some (.held v, [])
theorem law9 : Keyed Tryd.prog 9 := string_keyed Tryd.underlying9
theorem key9 {x : Nm} (hx : x.size ≤ maxLen) : keyOf Tryd.prog 9 (.string x) = some (kl x) := WideMaps.keyOf_string_mk Tryd.underlying9 hx
/-- A SET OF NAMES AS IT LIES: THESE HAVE BEEN LAID IN. -/
def Ns (W : World) (b : Nat) (L : List Nm) (k : Nat) : Prop :=
  ∃ D, W.ownsMap Tryd.prog 9 raw b k D ∧ (∀ x : Nm, x.size ≤ maxLen → (Maps.has D (kl x) = true ↔ x ∈ L)) ∧ Maps.size D ≤ L.length ∧ (Maps.size D = L.length ↔ L.Nodup)
theorem Ns.make (W : World) : Ns (W.alloc (.map #[] 0)) W.heap.size [] 0 :=
  ⟨_, World.ownsMap_made W Tryd.prog 9 raw, fun x _ => ⟨fun h => by simp [Maps.has] at h, fun h => by cases h⟩, Nat.le_refl _, ⟨fun _ => List.nodup_nil, fun _ => rfl⟩⟩
theorem Ns.lt {W : World} {b : Nat} {L : List Nm} {k : Nat} (h : Ns W b L k) : b < W.heap.size := let ⟨_, o, _⟩ := h; o.lt
theorem Ns.same {W W2 : World} {b : Nat} {L : List Nm} {k : Nat} (h : Ns W b L k) (hb : W2.heap[b]? = W.heap[b]?) : Ns W2 b L k := by
  obtain ⟨D, ⟨es, clock, h1, h2⟩, r⟩ := h
  exact ⟨D, ⟨es, clock, hb.trans h1, h2⟩, r⟩
theorem Ns.later {W W2 : World} {b : Nat} {L : List Nm} {k : Nat} (h : Ns W b L k) (hb : RowKit.Below W.heap.size W W2) : Ns W2 b L k := h.same (hb.block b h.lt)
theorem nodup_snoc (L : List Nm) (x : Nm) : (L ++ [x]).Nodup ↔ L.Nodup ∧ x ∉ L := by
  rw [List.nodup_append]
  constructor
  · rintro ⟨h1, _, h3⟩
    exact ⟨h1, fun h => h3 x h x (by simp) rfl⟩
  · rintro ⟨h1, h2⟩
    refine ⟨h1, by simp, fun a ha b hb e => ?_⟩
    rw [List.mem_singleton] at hb
    subst hb
    subst e
    exact h2 ha
theorem Ns.put {W : World} {b k : Nat} {L : List Nm} (h : Ns W b L k) (hk : k < maxLen) {x : Nm} (hx : x.size ≤ maxLen) (f : Value) :
    ∃ W2, (Instr.mapUpdate 56 (.map (some b)) (.string x) f).run Tryd.prog W = .ok () W2 ∧ Ns W2 b (L ++ [x]) (k + 1) ∧ (W2.os = W.os ∧ W2.tape = W.tape ∧ W2.output = W.output ∧ W.heap.size ≤ W2.heap.size ∧ ∀ c, c < W.heap.size → c ≠ b → W2.heap[c]? = W.heap[c]?) := by
  obtain ⟨D, ho, r, s1, s2⟩ := h
  obtain ⟨W2, hr, ho2, ht⟩ := ho.store law9 Tryd.underlying56 hk (key9 (x := x) hx) (val := f) (d := .held f) (ps := []) rfl
  have hg := ht.grown
  have hD := ho.tidy law9
  refine ⟨W2, hr, ⟨_, ho2, fun y hy => ?_, ?_, ?_⟩, hg.1, hg.2, hg.3, hg.size, fun c hc hn => hg.block c hc (by intro q; cases q; exact hn rfl)⟩
  · by_cases e : y = x
    · subst e
      rw [has_put_same hD.isMap (show WideAt.IsKeyLit (kl y) from trivial)]
      simp
    · rw [has_put_other (fun q => e (kl_inj q)), r y hy]
      simp [e]
  · rw [size_put hD, List.length_append]
    cases Maps.has D (kl x) <;> simp <;> omega
  · rw [size_put hD, List.length_append, nodup_snoc]
    have hm := r x hx
    cases e : Maps.has D (kl x)
    · rw [e] at hm
      have hn : x ∉ L := fun q => by have := hm.2 q; cases this
      simp [hn]
      exact s2
    · rw [e] at hm
      have hn : x ∈ L := hm.1 rfl
      simp [hn]
      omega
theorem Ns.len {W : World} {b : Nat} {L : List Nm} {k : Nat} (h : Ns W b L k) (ty : TypeId) : ∃ n : Nat, (Builtin.len_ #[56] ty #[.map (some b)]).run Tryd.prog W = .ok (.int .i64 n) W ∧ n ≤ L.length ∧ (n = L.length ↔ L.Nodup) := by
  obtain ⟨D, ho, r, s1, s2⟩ := h
  exact ⟨Maps.size D, ho.len Tryd.underlying56 ty, s1, s2⟩

/-- THE NAMES THAT A STEP LAYS IN. -/
def nms (x : Stp) : List Nm := if x.f.toList = [] then [x.t] else [x.t, x.f]
def nmsL (l : List Stp) : List Nm := (l.map nms).flatten
theorem nmsL_snoc (l : List Stp) (k : Nat) (hk : k < l.length) : nmsL (l.take (k + 1)) = nmsL (l.take k) ++ nms l[k] := by
  unfold nmsL
  rw [List.take_succ_eq_append_getElem hk, List.map_append, List.flatten_append]
  simp
theorem nmsL_le (l : List Stp) : (nmsL l).length ≤ l.length * 2 := by
  induction l with
  | nil => exact Nat.le_refl _
  | cons x l ih =>
    have h1 : nmsL (x :: l) = nms x ++ nmsL l := rfl
    rw [h1, List.length_append, List.length_cons]
    have : (nms x).length ≤ 2 := by unfold nms; split <;> simp
    omega
/-- WHAT CHECK TELLS. -/
noncomputable def ckS (l : List Stp) : Int := by
  classical
  exact if l.all mb = true then (if (nmsL l).Nodup then 0 else 171) else 172
theorem ckS_bad (l : List Stp) (k : Nat) (hk : k < l.length) (h : mb l[k] = false) : ckS l = 172 := by
  unfold ckS
  rw [if_neg]
  intro e
  rw [List.all_eq_true] at e
  rw [e _ (List.getElem_mem hk)] at h
  cases h
theorem all_mb (l : List Stp) (h : ∀ k (hk : k < l.length), mb l[k] = true) : l.all mb = true := by
  rw [List.all_eq_true]
  intro x hx
  obtain ⟨i, hi, rfl⟩ := List.getElem_of_mem hx
  exact h i hi
theorem ckS_twice (l : List Stp) (h : ∀ k (hk : k < l.length), mb l[k] = true) (hn : ¬ (nmsL l).Nodup) : ckS l = 171 := by
  unfold ckS
  rw [if_pos (all_mb l h), if_neg hn]
theorem ckS_ok (l : List Stp) (h : ∀ k (hk : k < l.length), mb l[k] = true) (hn : (nmsL l).Nodup) : ckS l = 0 := by
  unfold ckS
  rw [if_pos (all_mb l h), if_pos hn]

end Go.Proofs.YtjlgfljfokmemaaDoor
