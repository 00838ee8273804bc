import Derived.Test.YtjlgfljfokmemaaDoorTrJ
import Derived.Deep.RegionWith
import Derived.OwnWalk
import Derived.Laws.IdiomCopy
import Derived.Laws.MakeOwn
import Derived.Lib.SlBuf
import Derived.Deep.QuietTactic
import Derived.BigQuiet
import Derived.Deep.MidRow
import Derived.Deep.WholeRow
import Derived.Maps.OwnSet
import Derived.Maps.OwnOps
namespace Go.Proofs.YtjlgfljfokmemaaDoor
open Go.RowKit Go.Maps Go.Shelf

/-- A STEP. -/
structure Stp where
  k : Int
  f : ByteArray
  t : ByteArray
def Stp.cs (x : Stp) : List Value := [.int .i64 x.k, .string x.f, .string x.t]
/-- A SLICE OF THESE STEPS. -/
def Sps (w : World) (v : Value) (al : List Stp) : Prop :=
  ∃ a c, v = .slice a al.length c ∧ al.length ≤ 9223372036854775807 ∧ ∀ i (h : i < al.length), ∃ b o, a = some ⟨b, o, none⟩ ∧ b < w.heap.size ∧ w.cell? ⟨b, o + i * 3, none⟩ = some (.int .i64 al[i].k) ∧ w.cell? ⟨b, o + i * 3 + 1, none⟩ = some (.string al[i].f) ∧ w.cell? ⟨b, o + i * 3 + 2, none⟩ = some (.string al[i].t)
theorem Sps.later {w w' : World} {v : Value} {al : List Stp} (h : Sps w v al) (hb : Below w.heap.size w w') : Sps w' v al := by
  obtain ⟨a, c, h1, h2, h3⟩ := h
  refine ⟨a, c, h1, h2, fun i hi => ?_⟩
  obtain ⟨b, o, e1, e2, e3, e4, e5⟩ := h3 i hi
  exact ⟨b, o, e1, Nat.lt_of_lt_of_le e2 hb.size, (hb.cell (p := ⟨b, _, none⟩) e2).trans e3, (hb.cell (p := ⟨b, _, none⟩) e2).trans e4, (hb.cell (p := ⟨b, _, none⟩) e2).trans e5⟩
theorem Sps.shape {w : World} {v : Value} {al : List Stp} (h : Sps w v al) : ∃ a c, v = .slice a al.length c := by
  obtain ⟨a, c, e, _⟩ := h
  exact ⟨a, c, e⟩
theorem Sps.bigL {w : World} {v : Value} {al : List Stp} (h : Sps w v al) : al.length ≤ 9223372036854775807 := by
  obtain ⟨a, c, e, h2, _⟩ := h
  exact h2
theorem Sps.elem {w : World} {va : Option Addr} {n vc : Nat} {al : List Stp} (h : Sps w (.slice va n vc) al) (k : Nat) (hk : k < al.length) : ∃ b o, va = some ⟨b, o, none⟩ ∧ b < w.heap.size ∧ w.cell? ⟨b, o + k * 3, none⟩ = some (.int .i64 al[k].k) ∧ w.cell? ⟨b, o + k * 3 + 1, none⟩ = some (.string al[k].f) ∧ w.cell? ⟨b, o + k * 3 + 2, none⟩ = some (.string al[k].t) := by
  obtain ⟨a, c, e, _, h3⟩ := h
  cases e
  exact h3 k hk
def eqL {α : Type} (e : α → α → Bool) : List α → List α → Bool
  | [], [] => true
  | a :: l, b :: m => e a b && eqL e l m
  | _, _ => false
theorem eqL_len {α : Type} (e : α → α → Bool) : ∀ (l m : List α), l.length ≠ m.length → eqL e l m = false
  | [], [], h => absurd rfl h
  | [], b :: m, _ => rfl
  | a :: l, [], _ => rfl
  | a :: l, b :: m, h => by
    show (e a b && eqL e l m) = false
    rw [eqL_len e l m (by simpa using h), Bool.and_false]
theorem eqL_bad {α : Type} (e : α → α → Bool) : ∀ (l m : List α) (k : Nat) (h1 : k < l.length) (h2 : k < m.length), e l[k] m[k] = false → eqL e l m = false
  | [], _, k, h1, _, _ => absurd h1 (Nat.not_lt_zero _)
  | _ :: _, [], k, _, h2, _ => absurd h2 (Nat.not_lt_zero _)
  | a :: l, b :: m, 0, _, _, h => by
    have h' : e a b = false := h
    show (e a b && eqL e l m) = false
    rw [h', Bool.false_and]
  | a :: l, b :: m, k + 1, h1, h2, h => by
    show (e a b && eqL e l m) = false
    rw [eqL_bad e l m k (Nat.lt_of_succ_lt_succ h1) (Nat.lt_of_succ_lt_succ h2) h, Bool.and_false]
theorem eqL_good {α : Type} (e : α → α → Bool) : ∀ (l m : List α), l.length = m.length → (∀ k (h1 : k < l.length) (h2 : k < m.length), e l[k] m[k] = true) → eqL e l m = true
  | [], [], _, _ => rfl
  | [], _ :: _, h, _ => by cases h
  | _ :: _, [], h, _ => by cases h
  | a :: l, b :: m, h, hh => by
    have h0 : e a b = true := hh 0 (Nat.succ_pos _) (Nat.succ_pos _)
    show (e a b && eqL e l m) = true
    rw [h0, Bool.true_and]
    exact eqL_good e l m (by simpa using h) (fun k h1 h2 => hh (k + 1) (Nat.succ_lt_succ h1) (Nat.succ_lt_succ h2))
def eqG (a b : Stp) : Bool := (a.k == b.k && a.f.toList == b.f.toList) && a.t.toList == b.t.toList
theorem upto_two {α : Type} {e : α → α → Bool} {l m : List α} {k : Nat} (h : ∀ j (h1 : j < l.length) (h2 : j < m.length), j < k → e l[j] m[j] = true) (hk1 : k < l.length) (hk2 : k < m.length) (h0 : e l[k] m[k] = true) : ∀ j (h1 : j < l.length) (h2 : j < m.length), j < k + 1 → e l[j] m[j] = true := fun j h1 h2 hj => by
  by_cases e' : j < k
  · exact h j h1 h2 e'
  · obtain rfl : j = k := by omega
    exact h0

theorem run_copy_many {P : Program} (w : World) (dT sT ty elem : TypeId) (k b o dLen dCap : Nat) (a : Addr) (sLen sCap : Nat) (cs : List Value)
    (hu : P.underlying dT = some (.slice elem)) (hs : (P.info? elem).map (·.size) = some k) (hn : cs.length = Nat.min sLen dLen * k)
    (hsrc : ∀ j v, cs[j]? = some v → w.cell? (a.add j) = some v) (hc : ∀ j, j < cs.length → (w.cell? ⟨b, o + j, none⟩).isSome = true) (hf : ∀ j, j < cs.length → w.frozen? ⟨b, o + j, none⟩ = false) (h1 : ∀ v ∈ cs, v.oneCell' = true) :
    (Builtin.copy_ #[dT, sT] ty #[.slice (some ⟨b, o, none⟩) dLen dCap, .slice (some a) sLen sCap]).run P w = .ok (goInt (Nat.min sLen dLen)) (w.setCells b o cs) := by
  have hl := run_loadCells_list (P := P) w a cs hsrc
  have hst := run_storeCells_cells (P := P) b o cs 0 w (by simpa using hc) (by simpa using hf) h1
  cases hq : P.info? elem with
  | none => simp [hq] at hs
  | some i =>
    have hi : i.size = k := by simpa [hq] using hs
    simp [Builtin.copy_, run_underlying hu, Builtin.lenOf, Builtin.firstCells, sizeOf, typeInfo, hq, hi, ← hn, hl, hst]

theorem run_copy_nothing {P : Program} (w : World) (dT sT ty elem : TypeId) (d a : Option Addr) (k dLen dCap sCap : Nat) (hu : P.underlying dT = some (.slice elem)) (hs : (P.info? elem).map (·.size) = some k) :
    (Builtin.copy_ #[dT, sT] ty #[.slice d dLen dCap, .slice a 0 sCap]).run P w = .ok (goInt 0) w := by
  cases hq : P.info? elem with
  | none => simp [hq] at hs
  | some i =>
    have hl : ∀ (x : Addr), (loadCells x 0).run P w = .ok #[] w := fun x => by simpa using run_loadCells_list (P := P) w x [] (by simp)
    cases d <;> cases a <;> simp [Builtin.copy_, run_underlying hu, Builtin.lenOf, Builtin.firstCells, sizeOf, typeInfo, hq, storeCells, hl]
theorem size_setCells (b : Nat) : ∀ (vs : List Value) (o : Nat) (u : World), (u.setCells b o vs).heap.size = u.heap.size
  | [], _, _ => rfl
  | v :: r, o, u => by rw [World.setCells, size_setCells b r]; simp
theorem below_setCells {w : World} {base : Nat} (b : Nat) (hb : base ≤ b) : ∀ (vs : List Value) (o : Nat) (u : World), Below base w u → Below base w (u.setCells b o vs)
  | [], _, _, h => h
  | v :: r, o, u, h => by
    rw [World.setCells]
    exact below_setCells b hb r (o + 1) _ (h.setCell (p := ⟨b, o, none⟩) hb v)

theorem made_some (z : Array Value) (n j : Nat) (h : j < n) : ((madeCells z n)[j]?).isSome = true := by
  rw [Array.getElem?_eq_getElem (by rw [size_madeCells]; exact h)]; rfl

theorem off_ne {b i j : Nat} (h : i ≠ j) : (⟨b, i, none⟩ : Addr) ≠ ⟨b, j, none⟩ := fun e => h (by injection e)
theorem blk_ne {b c i j : Nat} (h : b ≠ c) : (⟨b, i, none⟩ : Addr) ≠ ⟨c, j, none⟩ := fun e => h (by injection e)

theorem flat_get (m : Nat) (hm : 0 < m) : ∀ (rs : List (List Value)) (_ : ∀ r ∈ rs, r.length = m) (t : Nat), rs.flatten[t]? = (rs[t / m]?).bind (fun r => r[t % m]?)
  | [], _, t => by simp
  | r :: rs, h, t => by
    have hr : r.length = m := h r List.mem_cons_self
    rw [List.flatten_cons]
    by_cases ht : t < m
    · rw [List.getElem?_append_left (by omega), Nat.div_eq_of_lt ht, Nat.mod_eq_of_lt ht]
      rfl
    · rw [List.getElem?_append_right (by omega), hr, flat_get m hm rs (fun x hx => h x (List.mem_cons_of_mem _ hx)) (t - m)]
      have e : t = (t - m) + m := by omega
      have e1 : t / m = (t - m) / m + 1 := by conv => lhs; rw [e, Nat.add_div_right _ hm]
      have e2 : t % m = (t - m) % m := by conv => lhs; rw [e, Nat.add_mod_right]
      rw [e1, e2, List.getElem?_cons_succ]
theorem flat_lenm (m : Nat) : ∀ (rs : List (List Value)) (_ : ∀ r ∈ rs, r.length = m), rs.flatten.length = rs.length * m
  | [], _ => by simp
  | r :: rs, h => by
    rw [List.flatten_cons, List.length_append, h r List.mem_cons_self, flat_lenm m rs (fun x hx => h x (List.mem_cons_of_mem _ hx)), List.length_cons]
    rw [Nat.add_mul]; omega

/-- A NEW BLOCK OF n CELLS, THE FIRST OF THEM WRITTEN. -/
structure Blk (W : World) (B : Nat) (cs : List Value) (n : Nat) : Prop where
  elem : ∀ j v, cs[j]? = some v → W.cell? ⟨B, j, none⟩ = some v
  spot : ∀ j, j < n → (W.cell? ⟨B, j, none⟩).isSome = true
  fr : ∀ j, W.frozen? ⟨B, j, none⟩ = false
  lt : B < W.heap.size
theorem Blk.of {W W' : World} {B n : Nat} {cs : List Value} (h : Blk W B cs n) (hc : ∀ j, W'.cell? ⟨B, j, none⟩ = W.cell? ⟨B, j, none⟩) (hf : ∀ j, W'.frozen? ⟨B, j, none⟩ = W.frozen? ⟨B, j, none⟩) (hl : W.heap.size ≤ W'.heap.size) : Blk W' B cs n :=
  ⟨fun j v hv => (hc j).trans (h.elem j v hv), fun j hj => by rw [hc]; exact h.spot j hj, fun j => (hf j).trans (h.fr j), Nat.lt_of_lt_of_le h.lt hl⟩
theorem Blk.later {W W' : World} {B n : Nat} {cs : List Value} (h : Blk W B cs n) (hb : Below W.heap.size W W') : Blk W' B cs n :=
  h.of (fun j => hb.cell (p := ⟨B, j, none⟩) h.lt) (fun j => hb.frozen (p := ⟨B, j, none⟩) h.lt) hb.size
theorem blk_of (w : World) (z : Array Value) (n : Nat) (t : TypeId) (cs : List Value) (hn : cs.length ≤ n) : Blk ((w.alloc (.cells (madeCells z n) t)).setCells w.heap.size 0 cs) w.heap.size cs n := by
  have hc : ∀ j, j < n → ((w.alloc (.cells (madeCells z n) t)).cell? ⟨w.heap.size, j, none⟩).isSome = true := fun j hj => by
    rw [World.cell?_alloc_at _ _ _ _ rfl]
    exact made_some _ _ _ hj
  refine ⟨fun j v hv => ?_, fun j hj => ?_, fun j => ?_, ?_⟩
  · have hj := (List.getElem?_eq_some_iff.1 hv).1
    have hin := World.cell?_setCells_in w.heap.size cs 0 _ (fun j hj => by rw [Nat.zero_add]; exact hc j (by omega)) j hj
    rw [Nat.zero_add] at hin
    rw [hin]
    exact (List.getElem?_eq_some_iff.1 hv).2 ▸ rfl
  · exact World.isSome_setCells _ _ _ _ _ (hc j hj)
  · rw [World.frozen?_setCells, World.frozen?_alloc_at _ _ _ _ rfl]
  · rw [size_setCells]; simp
/-- CELLS WRITTEN BEHIND. -/
theorem Blk.put {W : World} {B n : Nat} {cs : List Value} (h : Blk W B cs n) (o : Nat) (vs : List Value) (ho : cs.length ≤ o) : Blk (W.setCells B o vs) B cs n := by
  refine ⟨fun j v hv => ?_, fun j hj => World.isSome_setCells _ _ _ _ _ (h.spot j hj), fun j => ?_, by rw [size_setCells]; exact h.lt⟩
  · have hj := (List.getElem?_eq_some_iff.1 hv).1
    rw [World.cell?_setCells_out _ _ _ _ _ (fun _ _ => Or.inl (by show j < o; omega))]
    exact h.elem j v hv
  · rw [World.frozen?_setCells]; exact h.fr j

theorem info_parts2 {P : Program} {e : TypeId} {z : Value} {s b : Nat} (h : (P.info? e).map (fun i => (i.zero, i.size, i.bytes)) = some (some z, s, b)) : ∃ i, P.info? e = some i ∧ i.zero = some z ∧ i.size = s ∧ i.bytes = b := by
  obtain ⟨i, h1, h2⟩ := Option.map_eq_some_iff.1 h
  simp only [Prod.mk.injEq] at h2
  exact ⟨i, h1, h2.1, h2.2.1, h2.2.2⟩
theorem infoP : (Tryd.prog.info? 41).map (fun i => (i.zero, i.size, i.bytes)) = some (some (.agg #[.int .i64 0, .string ⟨#[]⟩, .string ⟨#[]⟩]), 3, 40) := by kernel_rfl
theorem infoP3 : (Tryd.prog.info? 41).map (·.size) = some 3 := by kernel_rfl
theorem makeQ (n : Nat) (hn : n ≤ 3518437208883) (u : World) : (Instr.makeSlice 35 (.int .i64 ((n : Int) + 1)) (.int .i64 ((n : Int) + 1))).run Tryd.prog u =
    .ok (.slice (some ⟨u.heap.size, 0, none⟩) (n + 1) (n + 1)) (u.alloc (.cells (madeCells #[.int .i64 0, .string ⟨#[]⟩, .string ⟨#[]⟩] ((n + 1) * 3)) 41)) := by
  obtain ⟨i0, hi, hz0, hz1, hz2⟩ := info_parts2 infoP
  have h := run_make (P := Tryd.prog) u 35 41 i0 (.agg #[.int .i64 0, .string ⟨#[]⟩, .string ⟨#[]⟩]) Tryd.underlying35 hi hz0 .i64 .i64 ((n : Int) + 1) ((n : Int) + 1) (by omega) (Int.le_refl _) (by rw [hz2]; omega) (by omega)
  have e : ((n : Int) + 1).toNat = n + 1 := by omega
  rw [e] at h
  simpa [hz1, Value.cells] using h
def flS (ws : List Stp) : List Value := (ws.map Stp.cs).flatten
theorem flS_len (ws : List Stp) : (flS ws).length = ws.length * 3 := by
  have := flat_lenm 3 (ws.map Stp.cs) (fun r hr => by obtain ⟨x, _, rfl⟩ := List.mem_map.1 hr; rfl)
  rw [List.length_map] at this
  exact this
theorem flS_get (ws : List Stp) (j : Nat) : (flS ws)[j]? = (ws[j / 3]?).bind fun x => x.cs[j % 3]? := by
  have := flat_get 3 (by omega) (ws.map Stp.cs) (fun r hr => by obtain ⟨x, _, rfl⟩ := List.mem_map.1 hr; rfl) j
  unfold flS
  rw [this, List.getElem?_map]
  cases ws[j / 3]? <;> rfl
theorem copy_sps (ws : List Stp) (a : Option Addr) (xc : Nat) (ty : TypeId) (C c : Nat) (u : World) (h : Sps u (.slice a ws.length xc) ws) (hs : ∀ j, j < ws.length * 3 → (u.cell? ⟨C, j, none⟩).isSome = true) (hf : ∀ j, u.frozen? ⟨C, j, none⟩ = false) :
    ∃ v', (Builtin.copy_ #[35, 35] ty #[.slice (some ⟨C, 0, none⟩) (ws.length + 1) c, .slice a ws.length xc]).run Tryd.prog u = .ok v' (u.setCells C 0 (flS ws)) := by
  have hlen := flS_len ws
  cases ws with
  | nil =>
    exact ⟨goInt 0, run_copy_nothing (P := Tryd.prog) u 35 35 ty 41 (some ⟨C, 0, none⟩) a 3 _ c xc Tryd.underlying35 infoP3⟩
  | cons y l =>
    obtain ⟨b, o, rfl, _, _⟩ := h.elem 0 (by simp)
    refine ⟨_, run_copy_many (P := Tryd.prog) u 35 35 ty 41 3 C 0 _ c ⟨b, o, none⟩ _ xc (flS (y :: l)) Tryd.underlying35 infoP3 ?_ ?_ ?_ ?_ ?_⟩
    · have e : Nat.min (y :: l).length ((y :: l).length + 1) = (y :: l).length := Nat.min_eq_left (Nat.le_succ _)
      rw [hlen, e]
    · intro j v hj
      rw [Addr.add_mid]
      rw [flS_get] at hj
      obtain ⟨r, hr, hv⟩ := Option.bind_eq_some_iff.1 hj
      obtain ⟨hk, rfl⟩ := List.getElem?_eq_some_iff.1 hr
      obtain ⟨b', o', e, _, e0, e1, e2⟩ := h.elem (j / 3) hk
      cases e
      rw [show o + j = o + j / 3 * 3 + j % 3 by omega]
      rcases (show j % 3 = 0 ∨ j % 3 = 1 ∨ j % 3 = 2 by omega) with q | q | q <;> rw [q] at hv ⊢ <;> cases hv
      · exact e0
      · exact e1
      · exact e2
    · intro j hj
      rw [Nat.zero_add]
      exact hs j (by rw [hlen] at hj; exact hj)
    · intro j _
      exact hf _
    · intro v hv
      obtain ⟨r, hr, hv⟩ := List.mem_flatten.1 hv
      obtain ⟨x, _, rfl⟩ := List.mem_map.1 hr
      simp [Stp.cs] at hv
      rcases hv with rfl | rfl | rfl <;> rfl
/-- STEPS IN A BLOCK OF THEIR OWN, THE MARK BEHIND THEM. -/
structure Sk (W : World) (B : Nat) (ws : List Stp) : Prop where
  el : ∀ (i : Nat) (x : Stp), ws[i]? = some x → W.rangeAt B (i * 3) x.cs
  mrk : W.cell? ⟨B, ws.length * 3, none⟩ = some (.int .i64 77)
  fr : ∀ j, W.frozen? ⟨B, j, none⟩ = false
  lt : B < W.heap.size
theorem Sk.sps {W : World} {B c : Nat} {ws : List Stp} (h : Sk W B ws) (hl : ws.length ≤ 9223372036854775807) : Sps W (.slice (some ⟨B, 0, none⟩) ws.length c) ws := by
  refine ⟨_, _, rfl, hl, fun i hi => ⟨B, 0, rfl, h.lt, ?_⟩⟩
  have hx : ws[i]? = some ws[i] := List.getElem?_eq_getElem hi
  refine ⟨?_, ?_, ?_⟩
  · rw [Nat.zero_add]; exact h.el i _ hx 0 _ rfl
  · rw [Nat.zero_add]; exact h.el i _ hx 1 _ rfl
  · rw [Nat.zero_add]; exact h.el i _ hx 2 _ rfl
theorem Sk.same {W W2 : World} {B : Nat} {ws : List Stp} (h : Sk W B ws) (hb : W2.heap[B]? = W.heap[B]?) : Sk W2 B ws := by
  have hc : ∀ j, W2.cell? ⟨B, j, none⟩ = W.cell? ⟨B, j, none⟩ := fun j => World.cell?_of_block hb
  have hf : ∀ j, W2.frozen? ⟨B, j, none⟩ = W.frozen? ⟨B, j, none⟩ := fun j => World.frozen?_of_block hb
  refine ⟨fun i x hx j v hv => (hc _).trans (h.el i x hx j v hv), (hc _).trans h.mrk, fun j => (hf j).trans (h.fr j), ?_⟩
  by_cases q : B < W2.heap.size
  · exact q
  · have h1 : W2.heap[B]? = none := Array.getElem?_eq_none (by omega)
    rw [h1] at hb
    have h2 := Array.getElem?_eq_none_iff.1 hb.symm
    have := h.lt
    omega
theorem Sk.later {W W2 : World} {B : Nat} {ws : List Stp} (h : Sk W B ws) (hb : RowKit.Below W.heap.size W W2) : Sk W2 B ws := h.same (hb.block B h.lt)
theorem Sk.cells {W : World} {B : Nat} {ws : List Stp} (h : Sk W B ws) {i : Nat} {x : Stp} (hx : ws[i]? = some x) : W.cell? ⟨B, i * 3, none⟩ = some (.int .i64 x.k) ∧ W.cell? ⟨B, i * 3 + 1, none⟩ = some (.string x.f) ∧ W.cell? ⟨B, i * 3 + 2, none⟩ = some (.string x.t) :=
  ⟨h.el i x hx 0 _ rfl, h.el i x hx 1 _ rfl, h.el i x hx 2 _ rfl⟩
/-- A STEP WRITTEN OVER. -/
theorem Sk.write {W : World} {B : Nat} {ws : List Stp} (h : Sk W B ws) {i : Nat} (hi : i < ws.length) (y : Stp) : Sk (((W.setCell ⟨B, i * 3, none⟩ (.int .i64 y.k)).setCell ⟨B, i * 3 + 1, none⟩ (.string y.f)).setCell ⟨B, i * 3 + 2, none⟩ (.string y.t)) B (ws.set i y) := by
  obtain ⟨x, hx⟩ : ∃ x, ws[i]? = some x := ⟨_, List.getElem?_eq_getElem hi⟩
  obtain ⟨z0, z1, z2⟩ := h.cells hx
  have hel : ∀ j, j ≠ i * 3 → j ≠ i * 3 + 1 → j ≠ i * 3 + 2 → (((W.setCell ⟨B, i * 3, none⟩ (.int .i64 y.k)).setCell ⟨B, i * 3 + 1, none⟩ (.string y.f)).setCell ⟨B, i * 3 + 2, none⟩ (.string y.t)).cell? ⟨B, j, none⟩ = W.cell? ⟨B, j, none⟩ := fun j h0 h1 h2 => by
    rw [World.cell?_setCell_other _ _ _ _ (off_ne (Ne.symm h2)), World.cell?_setCell_other _ _ _ _ (off_ne (Ne.symm h1)), World.cell?_setCell_other _ _ _ _ (off_ne (Ne.symm h0))]
  refine ⟨fun k q hq => ?_, ?_, fun j => ?_, by simpa using h.lt⟩
  · by_cases e : i = k
    · subst e
      rw [List.getElem?_set_self hi] at hq
      cases hq
      intro j v hv
      have hj : j < 3 := (List.getElem?_eq_some_iff.1 hv).1
      rcases (show j = 0 ∨ j = 1 ∨ j = 2 by omega) with rfl | rfl | rfl <;> cases hv
      · show World.cell? _ ⟨B, i * 3, none⟩ = _
        rw [World.cell?_setCell_other _ _ _ _ (off_ne (by omega)), World.cell?_setCell_other _ _ _ _ (off_ne (by omega))]
        exact World.cell?_setCell_same _ _ _ z0
      · rw [World.cell?_setCell_other _ _ _ _ (off_ne (by omega))]
        exact World.cell?_setCell_same _ _ _ (by rw [World.cell?_setCell_other _ _ _ _ (off_ne (by omega))]; exact z1)
      · exact World.cell?_setCell_same _ _ _ (by rw [World.cell?_setCell_other _ _ _ _ (off_ne (by omega)), World.cell?_setCell_other _ _ _ _ (off_ne (by omega))]; exact z2)
    · rw [List.getElem?_set_ne e] at hq
      intro j v hv
      have hj : j < 3 := (List.getElem?_eq_some_iff.1 hv).1
      rw [hel _ (by omega) (by omega) (by omega)]
      exact h.el k q hq j v hv
  · rw [List.length_set, hel _ (by omega) (by omega) (by omega)]; exact h.mrk
  · rw [World.frozen?_setCell, World.frozen?_setCell, World.frozen?_setCell]; exact h.fr j
/-- WHAT make, copy AND THE MARK LEAVE. -/
def w3S (w1 : World) (ws : List Stp) : World := ((w1.alloc (.cells (madeCells #[.int .i64 0, .string ⟨#[]⟩, .string ⟨#[]⟩] ((ws.length + 1) * 3)) 41)).setCells w1.heap.size 0 (flS ws))
theorem sk_start (w1 : World) (ws : List Stp) : Sk ((w3S w1 ws).setCell ⟨w1.heap.size, ws.length * 3, none⟩ (.int .i64 77)) w1.heap.size ws ∧ (∃ z, (w3S w1 ws).cell? ⟨w1.heap.size, ws.length * 3, none⟩ = some z) ∧ (w3S w1 ws).frozen? ⟨w1.heap.size, ws.length * 3, none⟩ = false ∧ RowKit.Below w1.heap.size w1 ((w3S w1 ws).setCell ⟨w1.heap.size, ws.length * 3, none⟩ (.int .i64 77)) := by
  have hk := blk_of w1 #[.int .i64 0, .string ⟨#[]⟩, .string ⟨#[]⟩] ((ws.length + 1) * 3) 41 (flS ws) (by rw [flS_len]; omega)
  obtain ⟨z, hz⟩ := Option.isSome_iff_exists.1 (hk.spot (ws.length * 3) (by omega))
  refine ⟨⟨fun i x hx j v hv => ?_, World.cell?_setCell_same _ _ _ hz, fun j => ?_, ?_⟩, ⟨z, hz⟩, hk.fr _, ?_⟩
  · have hj : j < 3 := (List.getElem?_eq_some_iff.1 hv).1
    have hi := (List.getElem?_eq_some_iff.1 hx).1
    rw [World.cell?_setCell_other _ _ _ _ (off_ne (by omega))]
    refine hk.elem (i * 3 + j) v ?_
    rw [flS_get, show (i * 3 + j) / 3 = i by omega, show (i * 3 + j) % 3 = j by omega, hx]
    exact hv
  · rw [World.frozen?_setCell]; exact hk.fr j
  · have := hk.lt
    unfold w3S
    simpa using this
  · unfold w3S
    exact (below_setCells w1.heap.size (Nat.le_refl _) (flS ws) 0 _ ((Below.refl w1.heap.size w1).alloc (Nat.le_refl _) _)).setCell (p := ⟨w1.heap.size, _, none⟩) (Nat.le_refl _) _
end Go.Proofs.YtjlgfljfokmemaaDoor
