import Derived.Test.YtjflnpcpnoccjaaGrD
namespace Go.Proofs.Ytjflnpcpnoccjaa
open Go.RowKit

/-- WAYS OF SO MANY EDGES; THE LEAST NUMBER OF EDGES. -/
def Wk (E : Nat → Nat → Prop) (S : Nat → Prop) : Nat → Nat → Prop
  | 0, v => S v
  | k + 1, v => ∃ u, Wk E S k u ∧ E u v
def Ds (E : Nat → Nat → Prop) (S : Nat → Prop) (v : Nat) (d : Int) : Prop := (d = -1 ∧ ∀ k, ¬ Wk E S k v) ∨ ∃ k : Nat, d = (k : Int) ∧ Wk E S k v ∧ ∀ j, j < k → ¬ Wk E S j v
theorem Ds.uniq {E : Nat → Nat → Prop} {S : Nat → Prop} {v : Nat} {d e : Int} (h : Ds E S v d) (k : Ds E S v e) : d = e := by
  rcases h with ⟨rfl, h⟩ | ⟨a, rfl, h1, h2⟩
  · rcases k with ⟨rfl, _⟩ | ⟨b, _, k1, _⟩
    · rfl
    · exact absurd k1 (h b)
  · rcases k with ⟨_, k⟩ | ⟨b, rfl, k1, k2⟩
    · exact absurd h1 (k a)
    · by_cases e1 : a < b
      · exact absurd h1 (k2 a e1)
      · by_cases e2 : b < a
        · exact absurd k1 (h2 b e2)
        · obtain rfl : a = b := by omega
          rfl
theorem least {p : Nat → Prop} : ∀ n, p n → ∃ k, p k ∧ (∀ j, j < k → ¬ p j) := by
  intro n
  induction n using Nat.strongRecOn with
  | _ n ih =>
    intro hn
    by_cases h : ∃ j, j < n ∧ p j
    · obtain ⟨j, h1, h2⟩ := h
      exact ih j h1 h2
    · exact ⟨n, hn, fun j hj q => h ⟨j, hj, q⟩⟩
theorem Ds.ex (E : Nat → Nat → Prop) (S : Nat → Prop) (v : Nat) : ∃ d, Ds E S v d := by
  by_cases h : ∃ k, Wk E S k v
  · obtain ⟨k, hk⟩ := h
    obtain ⟨m, h1, h2⟩ := least (p := fun k => Wk E S k v) k hk
    exact ⟨m, .inr ⟨m, rfl, h1, h2⟩⟩
  · exact ⟨-1, .inl ⟨rfl, fun k hk => h ⟨k, hk⟩⟩⟩
noncomputable def ds (E : Nat → Nat → Prop) (S : Nat → Prop) (v : Nat) : Int := Classical.choose (Ds.ex E S v)
theorem ds_is (E : Nat → Nat → Prop) (S : Nat → Prop) (v : Nat) : Ds E S v (ds E S v) := Classical.choose_spec (Ds.ex E S v)
theorem ds_eq {E : Nat → Nat → Prop} {S : Nat → Prop} {v : Nat} {d : Int} (h : Ds E S v d) : ds E S v = d := (ds_is E S v).uniq h
theorem ds_ge (E : Nat → Nat → Prop) (S : Nat → Prop) (v : Nat) : -1 ≤ ds E S v := by
  rcases ds_is E S v with ⟨h, _⟩ | ⟨k, h, _⟩ <;> omega
theorem ds_no {E : Nat → Nat → Prop} {S : Nat → Prop} {v : Nat} (h : ds E S v = -1) (k : Nat) : ¬ Wk E S k v := by
  rcases ds_is E S v with ⟨_, h1⟩ | ⟨j, h2, _⟩
  · exact h1 k
  · omega
theorem ds_wk {E : Nat → Nat → Prop} {S : Nat → Prop} {v k : Nat} (h : ds E S v = (k : Int)) : Wk E S k v ∧ ∀ j, j < k → ¬ Wk E S j v := by
  rcases ds_is E S v with ⟨h1, _⟩ | ⟨j, h2, h3⟩
  · omega
  · obtain rfl : j = k := by omega
    exact h3
theorem ds_of {E : Nat → Nat → Prop} {S : Nat → Prop} {v k : Nat} (h : Wk E S k v) : ∃ j : Nat, j ≤ k ∧ ds E S v = (j : Int) := by
  rcases ds_is E S v with ⟨_, h1⟩ | ⟨j, h2, h3, h4⟩
  · exact absurd h (h1 k)
  · refine ⟨j, ?_, h2⟩
    by_cases e : k < j
    · exact absurd h (h4 k e)
    · omega
/-- One edge further is at most one more. -/
theorem ds_edge {E : Nat → Nat → Prop} {S : Nat → Prop} {u v k : Nat} (h : ds E S u = (k : Int)) (e : E u v) : ∃ j : Nat, j ≤ k + 1 ∧ ds E S v = (j : Int) := ds_of (k := k + 1) ⟨u, (ds_wk h).1, e⟩
/-- What is k + 1 far has one k far ahead of it. -/
theorem ds_back {E : Nat → Nat → Prop} {S : Nat → Prop} {v k : Nat} (h : ds E S v = ((k + 1 : Nat) : Int)) : ∃ u, E u v ∧ ds E S u = (k : Int) := by
  obtain ⟨⟨u, h1, h2⟩, h3⟩ := ds_wk h
  refine ⟨u, h2, ?_⟩
  obtain ⟨j, hj, e⟩ := ds_of h1
  by_cases q : j = k
  · rw [e, q]
  · obtain ⟨i, hi, e2⟩ := ds_edge e h2
    rw [h] at e2
    omega
/-- THE EDGES OF A GRAPH. -/
def Eg (N : Nat) (ln : Nat → Nat) (L : Nat → Nat → Int) (u v : Nat) : Prop := u < N ∧ ∃ i, i < ln u ∧ L u i = (v : Int)
def Ge (N : Nat) (ln : Nat → Nat) (L : Nat → Nat → Int) (u v : Nat) : Prop := Eg N ln L v u
theorem Eg.lt {N : Nat} {ln : Nat → Nat} {L : Nat → Nat → Int} (hr : rgt N ln L = true) {u v : Nat} (h : Eg N ln L u v) : v < N := by
  obtain ⟨h1, i, hi, e⟩ := h
  obtain ⟨x, hx, ex⟩ := rgt_at hr h1 hi
  omega
/-- HOW MANY ARE STILL OPEN. -/
def cnt (f : Nat → Int) (N : Nat) : Nat := ((List.range N).filter fun v => f v == -1).length
theorem cnt_succ (f : Nat → Int) (N : Nat) : cnt f (N + 1) = cnt f N + if f N = -1 then 1 else 0 := by
  unfold cnt
  rw [List.range_succ, List.filter_append, List.length_append]
  by_cases e : f N = -1
  · simp [e]
  · have : (f N == -1) = false := by simpa using e
    simp [e, this]
theorem cnt_le (f : Nat → Int) : ∀ N, cnt f N ≤ N
  | 0 => Nat.le_refl _
  | N + 1 => by
    have := cnt_le f N
    rw [cnt_succ]
    split <;> omega
theorem cnt_congr {f g : Nat → Int} : ∀ {N : Nat}, (∀ v, v < N → f v = g v) → cnt f N = cnt g N
  | 0, _ => rfl
  | N + 1, h => by rw [cnt_succ, cnt_succ, cnt_congr (N := N) fun v hv => h v (by omega), h N (by omega)]
def put (f : Nat → Int) (u : Nat) (x : Int) (v : Nat) : Int := if v = u then x else f v
theorem cnt_put {f : Nat → Int} {u : Nat} {x : Int} (hx : x ≠ -1) (hf : f u = -1) : ∀ {N : Nat}, u < N → cnt (put f u x) N + 1 = cnt f N
  | 0, h => by omega
  | N + 1, h => by
    rw [cnt_succ, cnt_succ]
    by_cases e : u = N
    · subst e
      have e1 : cnt (put f u x) u = cnt f u := cnt_congr fun v hv => if_neg (by omega)
      have e2 : put f u x u = x := if_pos rfl
      rw [e1, e2, if_neg hx, if_pos hf]
    · have := cnt_put (N := N) hx hf (by omega)
      have e2 : put f u x N = f N := if_neg (by omega)
      rw [e2]
      omega
/-- FROM LAYER TO LAYER: as far as n. -/
structure Ly (E : Nat → Nat → Prop) (S : Nat → Prop) (N : Nat) (n : Nat) (f : Nat → Int) (q : Nat) (la : Nat → Int) : Prop where
  kn : ∀ v, v < N → f v = -1 ∨ (f v = ds E S v ∧ ∃ j : Nat, j < n ∧ f v = (j : Int))
  all : ∀ v, v < N → ∀ j : Nat, j < n → ds E S v = (j : Int) → f v = (j : Int)
  nod : ∀ i, i < q → ∃ u : Nat, u < N ∧ la i = (u : Int) ∧ Wk E S n u
  has : ∀ v, v < N → ds E S v = (n : Int) → ∃ i, i < q ∧ la i = (v : Int)
/-- WITHIN A LAYER: i of its nodes have been looked at. -/
structure Lx (E : Nat → Nat → Prop) (S : Nat → Prop) (N : Nat) (n : Nat) (f : Nat → Int) (q : Nat) (la : Nat → Int) (i : Nat) (nx : List Int) : Prop where
  kn : ∀ v, v < N → f v = -1 ∨ (f v = ds E S v ∧ ∃ j : Nat, j ≤ n ∧ f v = (j : Int))
  all : ∀ v, v < N → ∀ j : Nat, j < n → ds E S v = (j : Int) → f v = (j : Int)
  nod : ∀ i, i < q → ∃ u : Nat, u < N ∧ la i = (u : Int) ∧ Wk E S n u
  has : ∀ v, v < N → ds E S v = (n : Int) → ∃ i, i < q ∧ la i = (v : Int)
  done : ∀ k, k < i → ∀ u : Nat, la k = (u : Int) → f u ≠ -1
  nx1 : ∀ x ∈ nx, ∃ v : Nat, v < N ∧ x = (v : Int) ∧ Wk E S (n + 1) v
  nx2 : ∀ u, u < N → f u = (n : Int) → ∀ v, E u v → ((v : Nat) : Int) ∈ nx
theorem Ly.start {E : Nat → Nat → Prop} {S : Nat → Prop} {N : Nat} {q : Nat} {la : Nat → Int} (h1 : ∀ i, i < q → ∃ u : Nat, u < N ∧ la i = (u : Int)) (h2 : ∀ v, S v ↔ ∃ i, i < q ∧ la i = (v : Int)) : Ly E S N 0 (fun _ => -1) q la where
  kn := fun _ _ => .inl rfl
  all := fun _ _ j hj => by omega
  nod := fun i hi => by
    obtain ⟨u, hu, e⟩ := h1 i hi
    exact ⟨u, hu, e, (h2 u).2 ⟨i, hi, e⟩⟩
  has := fun v _ e => (h2 v).1 (ds_wk e).1
theorem Ly.into {E : Nat → Nat → Prop} {S : Nat → Prop} {N n : Nat} {f : Nat → Int} {q : Nat} {la : Nat → Int} (h : Ly E S N n f q la) : Lx E S N n f q la 0 [] where
  kn := fun v hv => by
    rcases h.kn v hv with e | ⟨e, j, hj, e2⟩
    · exact .inl e
    · exact .inr ⟨e, j, by omega, e2⟩
  all := h.all
  nod := h.nod
  has := h.has
  done := fun k hk => by omega
  nx1 := fun x hx => absurd hx List.not_mem_nil
  nx2 := fun u hu e => by
    rcases h.kn u hu with e1 | ⟨_, j, hj, e2⟩ <;> omega
theorem Lx.skip {E : Nat → Nat → Prop} {S : Nat → Prop} {N n : Nat} {f : Nat → Int} {q : Nat} {la : Nat → Int} {i : Nat} {nx : List Int} (h : Lx E S N n f q la i nx) {u : Nat} (e : la i = (u : Int)) (hf : f u ≠ -1) : Lx E S N n f q la (i + 1) nx :=
  { h with
    done := fun k hk v ev => by
      by_cases q : k = i
      · subst q
        obtain rfl : u = v := by omega
        exact hf
      · exact h.done k (by omega) v ev }
theorem Lx.take {E : Nat → Nat → Prop} {S : Nat → Prop} {N n : Nat} {f : Nat → Int} {q : Nat} {la : Nat → Int} {i : Nat} {nx ne : List Int} (h : Lx E S N n f q la i nx) {u : Nat} (hi : i < q) (hu : u < N) (e : la i = (u : Int)) (hf : f u = -1)
    (hE1 : ∀ x ∈ ne, ∃ v : Nat, v < N ∧ x = (v : Int) ∧ E u v) (hE2 : ∀ v, E u v → ((v : Nat) : Int) ∈ ne) : Lx E S N n (put f u n) q la (i + 1) (nx ++ ne) := by
  have hw : Wk E S n u := by
    obtain ⟨u2, _, e2, h2⟩ := h.nod i hi
    obtain rfl : u2 = u := by omega
    exact h2
  have hd : ds E S u = (n : Int) := by
    obtain ⟨j, hj, ej⟩ := ds_of hw
    by_cases q : j = n
    · rw [ej, q]
    · have := h.all u hu j (by omega) ej
      omega
  refine ⟨fun v hv => ?_, fun v hv j hj ej => ?_, h.nod, h.has, fun k hk v ev => ?_, fun x hx => ?_, fun a ha ea v hv => ?_⟩
  · unfold put
    by_cases q : v = u
    · subst q
      rw [if_pos rfl]
      exact .inr ⟨hd.symm, n, Nat.le_refl _, rfl⟩
    · rw [if_neg q]
      exact h.kn v hv
  · unfold put
    by_cases q : v = u
    · subst q
      rw [hd] at ej
      omega
    · rw [if_neg q]
      exact h.all v hv j hj ej
  · unfold put
    by_cases q : v = u
    · rw [if_pos q]; omega
    · rw [if_neg q]
      by_cases q2 : k = i
      · subst q2; omega
      · exact h.done k (by omega) v ev
  · rcases List.mem_append.1 hx with q | q
    · exact h.nx1 x q
    · obtain ⟨v, hv, ev, hE⟩ := hE1 x q
      exact ⟨v, hv, ev, u, hw, hE⟩
  · unfold put at ea
    by_cases q : a = u
    · subst q
      exact List.mem_append_right _ (hE2 v hv)
    · rw [if_neg q] at ea
      exact List.mem_append_left _ (h.nx2 a ha ea v hv)
theorem Lx.next {E : Nat → Nat → Prop} {S : Nat → Prop} {N n : Nat} {f : Nat → Int} {q : Nat} {la : Nat → Int} {nx : List Int} (h : Lx E S N n f q la q nx) (hE : ∀ u v, E u v → u < N) : Ly E S N (n + 1) f nx.length (fun i => nx.getD i 0) where
  kn := fun v hv => by
    rcases h.kn v hv with e | ⟨e, j, hj, e2⟩
    · exact .inl e
    · exact .inr ⟨e, j, by omega, e2⟩
  all := fun v hv j hj ej => by
    by_cases q : j = n
    · subst q
      obtain ⟨i, hi, e⟩ := h.has v hv ej
      have := h.done i hi v e
      rcases h.kn v hv with e | ⟨e, _⟩
      · exact absurd e this
      · rw [e, ej]
    · exact h.all v hv j (by omega) ej
  nod := fun i hi => by
    have e : nx.getD i 0 = nx[i] := by simp [hi]
    rw [e]
    exact h.nx1 _ (List.getElem_mem hi)
  has := fun v hv ev => by
    obtain ⟨u, hu, eu⟩ := ds_back ev
    have hul := hE u v hu
    have hfu : f u = (n : Int) := by
      obtain ⟨i, hi, e⟩ := h.has u hul eu
      have := h.done i hi u e
      rcases h.kn u hul with e | ⟨e, _⟩
      · exact absurd e this
      · rw [e, eu]
    obtain ⟨i, hi, e⟩ := List.getElem_of_mem (h.nx2 u hul hfu v hu)
    exact ⟨i, hi, by simp [hi, e]⟩
/-- Where a layer is empty all is known. -/
theorem Ly.end {E : Nat → Nat → Prop} {S : Nat → Prop} {N n : Nat} {f : Nat → Int} {la : Nat → Int} (h : Ly E S N n f 0 la) (hE : ∀ u v, E u v → u < N) {v : Nat} (hv : v < N) : f v = ds E S v := by
  rcases h.kn v hv with e | ⟨e, _⟩
  · rcases ds_is E S v with ⟨e2, _⟩ | ⟨k, ek, _⟩
    · rw [e, e2]
    · by_cases q : k < n
      · have := h.all v hv k q ek
        omega
      · exfalso
        have hb : ∀ m (v : Nat), v < N → ds E S v = ((n + m : Nat) : Int) → False := by
          intro m
          induction m with
          | zero =>
            intro v hv e
            obtain ⟨i, hi, _⟩ := h.has v hv e
            omega
          | succ m ih =>
            intro v hv e
            obtain ⟨u, hu, eu⟩ := ds_back (k := n + m) e
            exact ih u (hE u v hu) eu
        exact hb (k - n) v hv (by rw [ek]; congr 1; omega)
  · exact e
end Go.Proofs.Ytjflnpcpnoccjaa
