import Derived.Test.YtodlmbhlinpoeaaAuN
import Derived.Test.YtodlmbhlinpoeaaAuO
import Derived.Test.YtodlmbhlinpoeaaAuR
import Derived.Test.YtodlmbhlinpoeaaAuT
import Derived.Deep.Strs
import Derived.ChangeKeysEq
namespace Go.Proofs.Ytodlmbhlinpoeaa
open Go.RowKit

/-- A VALUE OF THE SAME KIND. -/
def Kq (u u' : Value) : Prop := u' = u ∨ (∃ s s' : Nm, u = .string s ∧ u' = .string s' ∧ s'.size ≤ maxLen) ∨ (∃ n n' : Int, u = .int .i64 n ∧ u' = .int .i64 n' ∧ (Lit.int .i64 n').wf = true)
theorem Kq.refl (u : Value) : Kq u u := .inl rfl
theorem Kq.trans {u v x : Value} (h : Kq u v) (k : Kq v x) : Kq u x := by
  rcases h with rfl | ⟨s, s', rfl, rfl, hs⟩ | ⟨n, n', rfl, rfl, hn⟩
  · exact k
  · rcases k with rfl | ⟨t, t', e, rfl, ht⟩ | ⟨m, m', e, rfl, hm⟩
    · exact .inr (.inl ⟨s, s', rfl, rfl, hs⟩)
    · exact .inr (.inl ⟨s, t', rfl, rfl, ht⟩)
    · cases e
  · rcases k with rfl | ⟨t, t', e, rfl, ht⟩ | ⟨m, m', e, rfl, hm⟩
    · exact .inr (.inr ⟨n, n', rfl, rfl, hn⟩)
    · cases e
    · exact .inr (.inr ⟨n, m', rfl, rfl, hm⟩)
theorem Kq.slice {a : Option Addr} {n c : Nat} {u : Value} (h : Kq (.slice a n c) u) : u = .slice a n c := by
  rcases h with rfl | ⟨_, _, e, _⟩ | ⟨_, _, e, _⟩
  · rfl
  · cases e
  · cases e
theorem Kq.bool {b : Bool} {u : Value} (h : Kq (.bool b) u) : u = .bool b := by
  rcases h with rfl | ⟨_, _, e, _⟩ | ⟨_, _, e, _⟩
  · rfl
  · cases e
  · cases e
theorem Kq.str {s : Nm} {u : Value} (h : Kq (.string s) u) : ∃ s' : Nm, u = .string s' ∧ (s.size ≤ maxLen → s'.size ≤ maxLen) := by
  rcases h with rfl | ⟨_, s', _, rfl, hs⟩ | ⟨_, _, e, _⟩
  · exact ⟨s, rfl, id⟩
  · exact ⟨s', rfl, fun _ => hs⟩
  · cases e
theorem Kq.int {n : Int} {u : Value} (h : Kq (.int .i64 n) u) : ∃ n' : Int, u = .int .i64 n' := by
  rcases h with rfl | ⟨_, _, e, _⟩ | ⟨_, n', _, rfl, _⟩
  · exact ⟨n, rfl⟩
  · cases e
  · exact ⟨n', rfl⟩
theorem Kq.one {u u' : Value} (h : Kq u u') (hu : u.oneCell' = true) : u'.oneCell' = true := by
  rcases h with rfl | ⟨_, _, _, rfl, _⟩ | ⟨_, _, _, rfl, _⟩
  · exact hu
  · rfl
  · rfl
/-- CELLS OF THE SAME KINDS. -/
def Kl (cs cs' : List Value) : Prop := cs'.length = cs.length ∧ ∀ (j : Nat) (u : Value), cs[j]? = some u → ∃ u', cs'[j]? = some u' ∧ Kq u u'
theorem Kl.piece {cs cs' : List Value} (h : Kl cs cs') (a b : Nat) : Kl ((cs.drop a).take b) ((cs'.drop a).take b) := by
  refine ⟨by simp only [List.length_take, List.length_drop, h.1], fun j u hj => ?_⟩
  have hjl : j < b := by
    have := (List.getElem?_eq_some_iff.1 hj).1
    simp only [List.length_take] at this
    omega
  rw [List.getElem?_take_of_lt hjl, List.getElem?_drop] at hj
  obtain ⟨u', h1, h2⟩ := h.2 _ _ hj
  exact ⟨u', by rw [List.getElem?_take_of_lt hjl, List.getElem?_drop]; exact h1, h2⟩
theorem Kl.back {cs cs' : List Value} (h : Kl cs cs') {j : Nat} {u' : Value} (hj : cs'[j]? = some u') : ∃ u, cs[j]? = some u ∧ Kq u u' := by
  have hl := (List.getElem?_eq_some_iff.1 hj).1
  rw [h.1] at hl
  obtain ⟨v, h1, h2⟩ := h.2 j _ (List.getElem?_eq_getElem hl)
  rw [hj] at h1
  cases h1
  exact ⟨_, List.getElem?_eq_getElem hl, h2⟩
theorem Kl.one {cs cs' : List Value} (h : Kl cs cs') (hu : ∀ u ∈ cs, u.oneCell' = true) : ∀ u ∈ cs', u.oneCell' = true := fun u hu' => by
  obtain ⟨j, hj, rfl⟩ := List.mem_iff_getElem.1 hu'
  obtain ⟨v, h1, h2⟩ := h.back (List.getElem?_eq_getElem hj)
  exact h2.one (hu v (List.mem_of_getElem? h1))
theorem Kl.sing {u : Value} {cs' : List Value} (h : Kl [u] cs') : ∃ u', cs' = [u'] ∧ Kq u u' := by
  obtain ⟨h1, h2⟩ := h
  match cs', h1 with
  | [u'], _ =>
    obtain ⟨x, h3, h4⟩ := h2 0 u rfl
    cases h3
    exact ⟨_, rfl, h4⟩
theorem mapM_all {α β : Type} (f : α → Option β) : ∀ (L : List α), (∃ ys, L.mapM f = some ys) ↔ ∀ x ∈ L, ∃ y, f x = some y
  | [] => ⟨fun _ x hx => (by cases hx), fun _ => ⟨[], rfl⟩⟩
  | a :: L => by
    have ih := mapM_all f L
    constructor
    · rintro ⟨ys, h⟩ x hx
      rw [List.mapM_cons] at h
      simp only [bind, Option.bind_eq_some_iff, pure, Option.some.injEq] at h
      obtain ⟨b, hb, bs, hbs, rfl⟩ := h
      rcases List.mem_cons.1 hx with rfl | hx
      · exact ⟨b, hb⟩
      · exact ih.1 ⟨bs, hbs⟩ x hx
    · intro h
      obtain ⟨b, hb⟩ := h a List.mem_cons_self
      obtain ⟨bs, hbs⟩ := ih.2 fun x hx => h x (List.mem_cons_of_mem _ hx)
      exact ⟨b :: bs, by rw [List.mapM_cons]; simp [bind, hb, hbs, pure]⟩
/-- .. ARE A VALUE OF THE SAME TYPE. -/
theorem keyLits_kp {P : Program} : ∀ (d : Nat) (t : TypeId) (cs cs' : List Value) (l : List Lit), P.keyLits d t cs = some l → Kl cs cs' → ∃ l', P.keyLits d t cs' = some l'
  | 0, _, _, _, _, h, _ => by simp [Program.keyLits] at h
  | d + 1, t, cs, cs', l, h, hk => by
    have hlen := hk.1
    cases hu : P.underlying t with
    | none => unfold Program.keyLits at h; rw [hu] at h; simp at h
    | some u =>
      cases u with
      | int q =>
        obtain ⟨n, rfl, rfl⟩ := keyLits_int' hu h
        obtain ⟨u', rfl, hp⟩ := hk.sing
        rcases hp with rfl | ⟨_, _, e, _⟩ | ⟨n1, n', e, rfl, hw⟩
        · exact ⟨_, h⟩
        · cases e
        · injection e with e1 e2
          subst e1
          refine ⟨[.int .i64 n'], ?_⟩
          unfold Program.keyLits
          rw [hu]
          simp [hw]
      | string =>
        obtain ⟨s, rfl, rfl⟩ := keyLits_string' hu h
        obtain ⟨u', rfl, hp⟩ := hk.sing
        rcases hp with rfl | ⟨s1, s', e, rfl, hs⟩ | ⟨_, _, e, _⟩
        · exact ⟨_, h⟩
        · refine ⟨[.string s'.data.toList], ?_⟩
          unfold Program.keyLits
          rw [hu]
          simp [hs]
        · cases e
      | bool =>
        obtain ⟨b, rfl, _⟩ := keyLits_bool' hu h
        obtain ⟨u', rfl, hp⟩ := hk.sing
        rw [hp.bool]
        exact ⟨_, h⟩
      | array n e =>
        unfold Program.keyLits at h ⊢
        rw [hu] at h ⊢
        simp only at h ⊢
        split at h
        · rename_i hc
          obtain ⟨ls, h1, rfl⟩ := Option.map_eq_some_iff.1 h
          have hall := (mapM_all _ _).1 ⟨ls, h1⟩
          obtain ⟨ls', h2⟩ := (mapM_all (fun i => P.keyLits d e ((cs'.drop (i * P.cellsOf e)).take (P.cellsOf e))) (List.range n)).2 fun i hi => by
            obtain ⟨y, hy⟩ := hall i hi
            exact keyLits_kp d e _ _ _ hy (hk.piece _ _)
          exact ⟨ls'.flatten, by rw [if_pos (by rw [hlen]; exact hc), h2]; rfl⟩
        · cases h
      | struct fs =>
        unfold Program.keyLits at h ⊢
        rw [hu] at h ⊢
        simp only at h ⊢
        split at h
        · rename_i hc
          obtain ⟨ls, h1, rfl⟩ := Option.map_eq_some_iff.1 h
          have hall := (mapM_all _ _).1 ⟨ls, h1⟩
          obtain ⟨ls', h2⟩ := (mapM_all (fun f : Field => P.keyLits d f.type ((cs'.drop f.offset).take (P.cellsOf f.type))) fs.toList).2 fun f hf => by
            obtain ⟨y, hy⟩ := hall f hf
            exact keyLits_kp d f.type _ _ _ hy (hk.piece _ _)
          exact ⟨ls'.flatten, by rw [if_pos (by rw [hlen]; exact hc), h2]; rfl⟩
        · cases h
      | _ => unfold Program.keyLits at h; rw [hu] at h; simp at h
theorem isT.kl {t k : Nat} {cs cs' : List Value} (h : isT t k cs) (hk : Kl cs cs') : isT t k cs' := by
  obtain ⟨h1, ⟨ls, h2⟩, h3⟩ := h
  exact ⟨hk.1.trans h1, keyLits_kp 6 t cs cs' ls h2 hk, hk.one h3⟩
/-- A WORLD WRITTEN OVER, EACH CELL BY ITS OWN KIND. -/
structure Kd (lo : Nat) (W W' : World) : Prop where
  bel : RowKit.Below lo W W'
  cell : ∀ (a : Addr) (u : Value), W.cell? a = some u → ∃ u', W'.cell? a = some u' ∧ Kq u u'
  fr : ∀ a, W'.frozen? a = W.frozen? a
theorem Kd.refl (lo : Nat) (W : World) : Kd lo W W := ⟨Below.refl _ _, fun _ u h => ⟨u, h, Kq.refl u⟩, fun _ => rfl⟩
theorem Kd.set {lo : Nat} {W W' : World} (h : Kd lo W W') {b o : Nat} {u u' : Value} (hc : W'.cell? ⟨b, o, none⟩ = some u) (hp : Kq u u') (hb : lo ≤ b) : Kd lo W (W'.setCell ⟨b, o, none⟩ u') := by
  refine ⟨h.bel.setCell (p := ⟨b, o, none⟩) hb _, fun a v hv => ?_, fun a => by rw [World.frozen?_setCell]; exact h.fr a⟩
  obtain ⟨v', h1, h2⟩ := h.cell a v hv
  by_cases e : (⟨b, o, none⟩ : Addr) = a
  · subst e
    rw [hc] at h1
    cases h1
    exact ⟨u', World.cell?_setCell_same _ _ _ hc, h2.trans hp⟩
  · exact ⟨v', by rw [World.cell?_setCell_other _ _ _ _ e]; exact h1, h2⟩
theorem Kd.slice {lo : Nat} {W W' : World} (h : Kd lo W W') {p : Addr} {a : Option Addr} {n c : Nat} (hc : W.cell? p = some (.slice a n c)) : W'.cell? p = some (.slice a n c) := by
  obtain ⟨u, h1, h2⟩ := h.cell _ _ hc
  rw [h2.slice] at h1
  exact h1
theorem Kd.str {lo : Nat} {W W' : World} (h : Kd lo W W') {p : Addr} {s : Nm} (hc : W.cell? p = some (.string s)) : ∃ s' : Nm, W'.cell? p = some (.string s') ∧ (s.size ≤ maxLen → s'.size ≤ maxLen) := by
  obtain ⟨u, h1, h2⟩ := h.cell _ _ hc
  obtain ⟨s', rfl, hs⟩ := h2.str
  exact ⟨s', h1, hs⟩
theorem Kd.int {lo : Nat} {W W' : World} (h : Kd lo W W') {p : Addr} {n : Int} (hc : W.cell? p = some (.int .i64 n)) : ∃ n' : Int, W'.cell? p = some (.int .i64 n') := by
  obtain ⟨u, h1, h2⟩ := h.cell _ _ hc
  obtain ⟨n', rfl⟩ := h2.int
  exact ⟨n', h1⟩
theorem Kd.range {lo : Nat} {W W' : World} (h : Kd lo W W') {b o : Nat} {cs : List Value} (hr : W.rangeAt b o cs) : ∃ cs', W'.rangeAt b o cs' ∧ Kl cs cs' := by
  have each : ∀ j, j < cs.length → ∃ u', W'.cell? ⟨b, o + j, none⟩ = some u' ∧ ∀ u, cs[j]? = some u → Kq u u' := fun j hj => by
    obtain ⟨u', h1, h2⟩ := h.cell _ _ (hr j _ (List.getElem?_eq_getElem hj))
    exact ⟨u', h1, fun u hu => by rw [List.getElem?_eq_getElem hj] at hu; cases hu; exact h2⟩
  have : Inhabited Value := ⟨.bool false⟩
  obtain ⟨f, hf⟩ := Go.Deep.choose_lt each
  have get : ∀ j, j < cs.length → ((List.range cs.length).map f)[j]? = some (f j) := fun j hj => by
    rw [List.getElem?_map, List.getElem?_range hj]
    rfl
  refine ⟨(List.range cs.length).map f, fun j v hv => ?_, by simp, fun j u hu => ?_⟩
  · have hj : j < cs.length := by have := (List.getElem?_eq_some_iff.1 hv).1; simpa using this
    rw [get j hj] at hv
    cases hv
    exact (hf j hj).1
  · have hj := (List.getElem?_eq_some_iff.1 hu).1
    exact ⟨f j, get j hj, (hf j hj).2 u hu⟩
/-- LISTS, READ AGAIN. -/
theorem Kd.rws {t k lo : Nat} {W W' : World} (h : Kd lo W W') {v : Value} {fl : List (List Value)} (hs : Rws t k W v fl) : ∃ fl', Rws t k W' v fl' ∧ fl'.length = fl.length := by
  obtain ⟨a, c, h1, h2, h3⟩ := hs
  have each : ∀ i, i < fl.length → ∃ x : List Value, ∀ (hi : i < fl.length), isT t k x ∧ ∀ b o, a = some ⟨b, o, none⟩ → W'.rangeAt b (o + i * k) x := fun i hi => by
    obtain ⟨b, o, e1, e2, e3⟩ := h3 (by omega)
    obtain ⟨x, k1, k2⟩ := h.range (e3 i _ (List.getElem?_eq_getElem hi))
    refine ⟨x, fun _ => ⟨(h2 _ (List.getElem_mem hi)).kl k2, fun b' o' e => ?_⟩⟩
    rw [e1] at e
    cases e
    exact k1
  have : Inhabited (List Value) := ⟨[]⟩
  obtain ⟨f, hf⟩ := Go.Deep.choose_lt each
  have get : ∀ j, j < fl.length → ((List.range fl.length).map f)[j]? = some (f j) := fun j hj => by
    rw [List.getElem?_map, List.getElem?_range hj]
    rfl
  refine ⟨(List.range fl.length).map f, ⟨a, c, by simpa using h1, fun r hr => ?_, fun h0 => ?_⟩, by simp⟩
  · obtain ⟨i, hi, rfl⟩ := List.mem_map.1 hr
    have hi' := List.mem_range.1 hi
    exact (hf i hi' hi').1
  · have h0' : 0 < fl.length := by simpa using h0
    obtain ⟨b, o, e1, e2, _⟩ := h3 h0'
    refine ⟨b, o, e1, Nat.lt_of_lt_of_le e2 h.bel.size, fun i r hi => ?_⟩
    have hi' : i < fl.length := by have := (List.getElem?_eq_some_iff.1 hi).1; simpa using this
    rw [get i hi'] at hi
    cases hi
    exact (hf i hi' hi').2 b o e1
theorem Kd.slc {lo : Nat} {W W' : World} (h : Kd lo W W') {p : Addr} {v : Value} (hc : W.cell? p = some v) (hv : ∃ a n c, v = .slice a n c) : W'.cell? p = some v := by
  obtain ⟨a, n, c, rfl⟩ := hv
  exact h.slice hc
theorem Kd.cls {lo : Nat} {W W' : World} (h : Kd lo W W') {v : Value} {cl : List (List (List Value))} (hs : Cls W v cl) : ∃ cl', Cls W' v cl' ∧ cl'.map List.length = cl.map List.length := by
  obtain ⟨a, c, h1, h2⟩ := hs
  have each : ∀ i, i < cl.length → ∃ al' : List (List Value), ∀ (hi : i < cl.length), al'.length = cl[i].length ∧ ∀ b o, a = some ⟨b, o, none⟩ → ∃ x, W'.cell? ⟨b, o + i, none⟩ = some x ∧ Rws 55 3 W' x al' := fun i hi => by
    obtain ⟨b, o, e1, e2, e3⟩ := h2 (by omega)
    obtain ⟨x, e4, e5⟩ := e3 i _ (List.getElem?_eq_getElem hi)
    obtain ⟨al', k1, k2⟩ := h.rws e5
    refine ⟨al', fun _ => ⟨k2, fun b' o' e => ?_⟩⟩
    rw [e1] at e
    cases e
    obtain ⟨xa, xc, rfl⟩ := e5.form
    exact ⟨_, h.slice e4, k1⟩
  have : Inhabited (List (List Value)) := ⟨[]⟩
  obtain ⟨f, hf⟩ := Go.Deep.choose_lt each
  have get : ∀ j, j < cl.length → ((List.range cl.length).map f)[j]? = some (f j) := fun j hj => by
    rw [List.getElem?_map, List.getElem?_range hj]
    rfl
  refine ⟨(List.range cl.length).map f, ⟨a, c, by simpa using h1, fun h0 => ?_⟩, ?_⟩
  · have h0' : 0 < cl.length := by simpa using h0
    obtain ⟨b, o, e1, e2, _⟩ := h2 h0'
    refine ⟨b, o, e1, Nat.lt_of_lt_of_le e2 h.bel.size, fun i al hi => ?_⟩
    have hi' : i < cl.length := by have := (List.getElem?_eq_some_iff.1 hi).1; simpa using this
    rw [get i hi'] at hi
    cases hi
    exact (hf i hi' hi').2 b o e1
  · refine List.ext_getElem? fun i => ?_
    by_cases hi : i < cl.length
    · rw [List.getElem?_map, get i hi, List.getElem?_map, List.getElem?_eq_getElem hi]
      show some _ = some _
      rw [(hf i hi hi).1]
    · rw [List.getElem?_eq_none (by simp; omega), List.getElem?_eq_none (by simp; omega)]
theorem len_map {α : Type} {a b : List (List α)} (h : a.map List.length = b.map List.length) : a.length = b.length := by
  have := congrArg List.length h
  simpa using this
theorem mem_mapL {α : Type} {a b : List (List α)} {n : Nat} (h : a.map List.length = b.map List.length) (hb : ∀ al ∈ b, al.length ≤ n) : ∀ al ∈ a, al.length ≤ n := fun al hal => by
  have : al.length ∈ a.map List.length := List.mem_map.2 ⟨al, hal, rfl⟩
  rw [h] at this
  obtain ⟨x, hx, e⟩ := List.mem_map.1 this
  rw [← e]
  exact hb x hx
theorem Kd.hk {lo : Nat} {W W' : World} (h : Kd lo W W') {b o : Nat} {cs : List Value} {p : Hk} {d r c v f : Value} (hr : W.rangeAt b o cs) (hc : HkC cs p d r c v f) (hl : HkL W p d r c v f) (hu : HkZ p) : ∃ p', (∃ cs' d r c v f, W'.rangeAt b o cs' ∧ HkC cs' p' d r c v f ∧ HkL W' p' d r c v f) ∧ HkZ p' := by
  obtain ⟨cs', hr', hk⟩ := h.range hr
  obtain ⟨dp, d1, d2⟩ := h.cls hl.dl
  obtain ⟨pr, r1, r2⟩ := h.cls hl.rl
  obtain ⟨cf, c1, c2⟩ := h.rws hl.cl
  obtain ⟨pv, v1, v2⟩ := h.rws hl.vl
  obtain ⟨fs, f1, f2⟩ := h.rws hl.fl
  have str : ∀ {j : Nat} {s : Nm}, cs[j]? = some (.string s) → ∃ s' : Nm, cs'[j]? = some (.string s') := fun hj => by
    obtain ⟨u, k1, k2⟩ := hk.2 _ _ hj
    obtain ⟨s', rfl, _⟩ := k2.str
    exact ⟨s', k1⟩
  have slc : ∀ {j : Nat} {u : Value}, cs[j]? = some u → (∃ a n c, u = .slice a n c) → cs'[j]? = some u := fun hj ⟨a, n, c, e⟩ => by
    subst e
    obtain ⟨u, k1, k2⟩ := hk.2 _ _ hj
    rw [k2.slice] at k1
    exact k1
  obtain ⟨nm, n1⟩ := str hc.c0
  obtain ⟨vr, w1⟩ := str hc.c1
  obtain ⟨ar, a1⟩ := str hc.c8
  obtain ⟨sy, y1⟩ := str hc.c42
  obtain ⟨u2, b1, b2⟩ := hk.2 _ _ hc.c2
  rw [b2.bool] at b1
  obtain ⟨u9, z1, z2⟩ := hk.2 _ _ hc.c9
  obtain ⟨sz, rfl⟩ := z2.int
  obtain ⟨u43, m1, m2⟩ := hk.2 _ _ hc.c43
  obtain ⟨mr, rfl⟩ := m2.int
  have q3 := slc hc.c3 (let ⟨a, n, e⟩ := hl.dl.form; ⟨a, _, n, e⟩)
  have q4 := slc hc.c4 (let ⟨a, n, e⟩ := hl.rl.form; ⟨a, _, n, e⟩)
  have q5 := slc hc.c5 (let ⟨a, n, e⟩ := hl.cl.form; ⟨a, _, n, e⟩)
  have q6 := slc hc.c6 (let ⟨a, n, e⟩ := hl.vl.form; ⟨a, _, n, e⟩)
  have q7 := slc hc.c7 (let ⟨a, n, e⟩ := hl.fl.form; ⟨a, _, n, e⟩)
  have hsm : p.sm = (cs.drop 10).take 32 := by
    refine List.ext_getElem? fun j => ?_
    by_cases hj : j < 32
    · rw [List.getElem?_take_of_lt hj, List.getElem?_drop]
      have hj2 : j < p.sm.length := by rw [hu.sl.1]; exact hj
      rw [hc.cs0 j _ (List.getElem?_eq_getElem hj2), List.getElem?_eq_getElem hj2]
    · rw [List.getElem?_eq_none (by rw [hu.sl.1]; omega), List.getElem?_eq_none (by simp only [List.length_take]; omega)]
  have hku : Kl p.sm ((cs'.drop 10).take 32) := by rw [hsm]; exact hk.piece 10 32
  refine ⟨⟨nm, vr, p.es, dp, pr, cf, pv, fs, ar, sz, (cs'.drop 10).take 32, sy, mr⟩, ⟨cs', d, r, c, v, f, hr', ⟨hk.1.trans hc.len, hk.one hc.one, n1, w1, b1, q3, q4, q5, q6, q7, a1, z1, fun j x hj => ?_, y1, m1⟩, ⟨d1, r1, c1, v1, f1⟩⟩, ⟨by rw [len_map d2]; exact hu.dl, mem_mapL d2 hu.dls, by rw [len_map r2]; exact hu.rl, mem_mapL r2 hu.rls, by rw [c2]; exact hu.cl, by rw [v2]; exact hu.vl, by rw [f2]; exact hu.fl, hu.sl.kl hku⟩⟩
  have hj2 : ((cs'.drop 10).take 32)[j]? = some x := hj
  have hj' : j < 32 := by
    have := (List.getElem?_eq_some_iff.1 hj2).1
    simp only [List.length_take] at this
    omega
  rw [List.getElem?_take_of_lt hj', List.getElem?_drop] at hj2
  exact hj2
theorem Kd.hds {lo : Nat} {W W' : World} (h : Kd lo W W') {v : Value} {ps : List Hk} (hs : Hds W v ps) (hu : ∀ p ∈ ps, HkZ p) : ∃ ps', Hds W' v ps' ∧ ps'.length = ps.length ∧ ∀ p ∈ ps', HkZ p := by
  obtain ⟨a, c, h1, h2⟩ := hs
  have each : ∀ i, i < ps.length → ∃ p' : Hk, ∀ (hi : i < ps.length), HkZ p' ∧ ∀ b o, a = some ⟨b, o, none⟩ → ∃ cs' d r c v f, W'.rangeAt b (o + i * 44) cs' ∧ HkC cs' p' d r c v f ∧ HkL W' p' d r c v f := fun i hi => by
    obtain ⟨b, o, e1, e2, e3⟩ := h2 (by omega)
    obtain ⟨cs, d, r, c, v, f, k1, k2, k3⟩ := e3 i _ (List.getElem?_eq_getElem hi)
    obtain ⟨p', k4, k5⟩ := h.hk k1 k2 k3 (hu _ (List.getElem_mem hi))
    refine ⟨p', fun _ => ⟨k5, fun b' o' e => ?_⟩⟩
    rw [e1] at e
    cases e
    exact k4
  have : Inhabited Hk := ⟨⟨.empty, .empty, false, [], [], [], [], [], .empty, 0, [], .empty, 0⟩⟩
  obtain ⟨f, hf⟩ := Go.Deep.choose_lt each
  have get : ∀ j, j < ps.length → ((List.range ps.length).map f)[j]? = some (f j) := fun j hj => by
    rw [List.getElem?_map, List.getElem?_range hj]
    rfl
  refine ⟨(List.range ps.length).map f, ⟨a, c, by simpa using h1, fun h0 => ?_⟩, by simp, fun p hp => ?_⟩
  · have h0' : 0 < ps.length := by simpa using h0
    obtain ⟨b, o, e1, e2, _⟩ := h2 h0'
    refine ⟨b, o, e1, Nat.lt_of_lt_of_le e2 h.bel.size, fun i p hi => ?_⟩
    have hi' : i < ps.length := by have := (List.getElem?_eq_some_iff.1 hi).1; simpa using this
    rw [get i hi'] at hi
    cases hi
    exact (hf i hi' hi').2 b o e1
  · obtain ⟨i, hi, rfl⟩ := List.mem_map.1 hp
    have hi' := List.mem_range.1 hi
    exact (hf i hi' hi').1
end Go.Proofs.Ytodlmbhlinpoeaa
