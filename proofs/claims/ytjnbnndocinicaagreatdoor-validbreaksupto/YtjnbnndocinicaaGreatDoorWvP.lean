import Derived.Test.YtjnbnndocinicaaGreatDoorUmG
import Derived.Test.YtjnbnndocinicaaGreatDoorVmF
namespace Go.Proofs.YtjnbnndocinicaaGreatDoor
open Go.RowKit Go.Maps

/-- THE PACKAGES AS THEIR NAMES ARE ASKED. -/
def Sim (xs : List Pd) (ps : List Pk) : Prop := xs.length = ps.length ∧ ∀ (i : Nat) (x : Pd) (p : Pk), xs[i]? = some x → ps[i]? = some p → x.nm = p.nm ∧ x.vr = p.vr ∧ x.pl = p.pv
theorem Sim.at {xs : List Pd} {ps : List Pk} (h : Sim xs ps) {i : Nat} {x : Pd} (hx : xs[i]? = some x) : ∃ p, ps[i]? = some p ∧ x.nm = p.nm ∧ x.vr = p.vr ∧ x.pl = p.pv := by
  have hl := (List.getElem?_eq_some_iff.1 hx).1
  rw [h.1] at hl
  exact ⟨_, List.getElem?_eq_getElem hl, h.2 i x _ hx (List.getElem?_eq_getElem hl)⟩
theorem Sim.back {xs : List Pd} {ps : List Pk} (h : Sim xs ps) {i : Nat} {p : Pk} (hp : ps[i]? = some p) : ∃ x, xs[i]? = some x ∧ x.nm = p.nm ∧ x.vr = p.vr ∧ x.pl = p.pv := by
  have hl := (List.getElem?_eq_some_iff.1 hp).1
  rw [← h.1] at hl
  exact ⟨_, List.getElem?_eq_getElem hl, h.2 i _ p (List.getElem?_eq_getElem hl) hp⟩
theorem sim_of {w : World} {v : Value} {ps : List Pk} (h : Pkl w v ps) (hv : ∀ p ∈ ps, p.vr.size ≤ maxLen) : ∃ xs : List Pd, Pks w v xs ∧ Sim xs ps := by
  obtain ⟨a, c, rfl, h2⟩ := h
  by_cases h0 : 0 < ps.length
  · obtain ⟨b, o, rfl, hb, hc⟩ := h2 h0
    have step : ∀ n, n ≤ ps.length → ∃ xs : List Pd, xs.length = n ∧ ∀ (i : Nat) (x : Pd) (p : Pk), xs[i]? = some x → ps[i]? = some p → (w.rangeAt b (o + i * 43) x.cs ∧ PdOk w x) ∧ x.nm = p.nm ∧ x.vr = p.vr ∧ x.pl = p.pv := by
      intro n
      induction n with
      | zero => intro _; exact ⟨[], rfl, fun i x p hx => by simp at hx⟩
      | succ n ih =>
        intro hn
        obtain ⟨xs, hl, hx⟩ := ih (by omega)
        obtain ⟨p, hp⟩ : ∃ p, ps[n]? = some p := ⟨_, List.getElem?_eq_getElem (by omega)⟩
        obtain ⟨cs, d, r, c, v, f, k1, k2, k3⟩ := hc n p hp
        refine ⟨xs ++ [⟨cs, p.nm, p.vr, v, p.pv⟩], by simp [hl], fun i x q hi hq => ?_⟩
        by_cases e : i < n
        · rw [List.getElem?_append_left (by omega)] at hi
          exact hx i x q hi hq
        · have hi' := (List.getElem?_eq_some_iff.1 hi).1
          rw [List.length_append, hl, List.length_singleton] at hi'
          obtain rfl : i = n := by omega
          rw [List.getElem?_append_right (by omega), hl, Nat.sub_self] at hi
          simp at hi
          subst hi
          rw [hp] at hq; cases hq
          exact ⟨⟨k1, ⟨k2.len, k2.c0, k2.c1, k2.c6⟩, k3.vl, hv p (List.mem_of_getElem? hp)⟩, rfl, rfl, rfl⟩
    obtain ⟨xs, hl, hx⟩ := step ps.length (Nat.le_refl _)
    refine ⟨xs, ⟨_, c, by rw [hl], fun _ => ⟨b, o, rfl, hb, fun i x hi => ?_⟩⟩, hl, fun i x p hi hp => (hx i x p hi hp).2⟩
    obtain ⟨p, hp⟩ : ∃ p, ps[i]? = some p := ⟨_, List.getElem?_eq_getElem (by rw [← hl]; exact (List.getElem?_eq_some_iff.1 hi).1)⟩
    exact (hx i x p hi hp).1
  · have e : ps = [] := by cases ps with
      | nil => rfl
      | cons p ps => simp at h0
    subst e
    exact ⟨[], ⟨a, c, rfl, fun h => absurd h (by simp)⟩, rfl, fun i x p hx => by simp at hx⟩
/-- DOES THE PACKAGE AT A PLACE MEET AN ATOM? -/
def mP (ps : List Pk) (a : At) (p : Nat) : Bool := match ps[p]? with | some q => meetsA a.n a.op a.v q.nm q.vr q.pv | none => false
theorem mP_lt {ps : List Pk} {a : At} {p : Nat} (h : mP ps a p = true) : p < ps.length := by
  unfold mP at h
  cases e : ps[p]? with
  | none => rw [e] at h; cases h
  | some q => exact (List.getElem?_eq_some_iff.1 e).1
theorem mt_mP {xs : List Pd} {ps : List Pk} (h : Sim xs ps) (a : At) (p : Nat) : mt xs a.n a.op a.v p = mP ps a p := by
  unfold mt mP
  cases e : xs[p]? with
  | none =>
    have : ps[p]? = none := by rw [List.getElem?_eq_none_iff] at e ⊢; rw [← h.1]; exact e
    rw [this]
  | some x =>
    obtain ⟨q, hq, h1, h2, h3⟩ := h.at e
    rw [hq]
    simp only
    rw [h1, h2, h3]
theorem satL_mem {xs : List Pd} {ps : List Pk} (h : Sim xs ps) (a : At) (p : Nat) : p ∈ satL xs a.n a.op a.v (nmP xs xs.length a.n) (pvP xs xs.length a.n) ↔ mP ps a p = true := by
  unfold satL
  rw [List.mem_filter, mt_mP h]
  refine ⟨fun h => h.2, fun hm => ⟨?_, hm⟩⟩
  rw [← mt_mP h] at hm
  unfold mt at hm
  cases e : xs[p]? with
  | none => rw [e] at hm; cases hm
  | some x =>
    rw [e] at hm
    simp only at hm
    have hp := (List.getElem?_eq_some_iff.1 e).1
    unfold meetsA at hm
    rw [Bool.or_eq_true, Bool.and_eq_true, Bool.and_eq_true] at hm
    rw [List.mem_append]
    rcases hm with ⟨h1, _⟩ | ⟨_, h2⟩
    · exact .inl ((nmP_mem xs _ _ _).2 ⟨hp, x, e, toList_eq.1 h1⟩)
    · exact .inr ((pvP_mem xs _ _ _).2 ⟨hp, x, e, (Lib.containsS_iff _ _).1 h2⟩)
/-- WHERE A NAME STANDS, RISING. -/
def isN (ps : List Pk) (x : Nm) (i : Nat) : Bool := match ps[i]? with | some q => decide (q.nm = x) | none => false
theorem nmP_eq {xs : List Pd} {ps : List Pk} (h : Sim xs ps) (x : Nm) : ∀ n, nmP xs n x = (List.range n).filter (isN ps x)
  | 0 => rfl
  | n + 1 => by
    have ih := nmP_eq h x n
    rw [List.range_succ, List.filter_append, ← ih, show nmP xs (n + 1) = (match xs[n]? with | some q => upF (nmP xs n) q.nm (nmP xs n q.nm ++ [n]) | none => nmP xs n) from rfl, List.filter_cons, List.filter_nil]
    cases e : xs[n]? with
    | none =>
      have e2 : ps[n]? = none := by rw [List.getElem?_eq_none_iff] at e ⊢; rw [← h.1]; exact e
      have e3 : isN ps x n = false := by unfold isN; rw [e2]
      rw [e3]
      simp only [Bool.false_eq_true, if_false, List.append_nil]
    | some q =>
      obtain ⟨p, hp, h1, _⟩ := h.at e
      have e3 : isN ps x n = decide (p.nm = x) := by unfold isN; rw [hp]
      rw [e3]
      simp only
      rw [h1]
      by_cases q2 : p.nm = x
      · rw [q2, upF_same, decide_eq_true rfl, if_pos rfl]
      · rw [upF_other _ _ (fun e => q2 e.symm), decide_eq_false q2]
        simp
/-- IS A CLAUSE MET IN A PART, BY ANOTHER THAN ONE? -/
def hitP (inn : Nat → Bool) (but : Int) (p : Nat) : Bool := inn p && !(decide ((p : Int) = but))
def imP (ps : List Pk) (inn : Nat → Bool) (but : Int) (al : List At) : Bool := al.any fun a => (List.range ps.length).any fun p => mP ps a p && hitP inn but p
theorem imP_one {xs : List Pd} {ps : List Pk} (h : Sim xs ps) (inn : Nat → Bool) (but : Int) (a : At) : (satL xs a.n a.op a.v (nmP xs xs.length a.n) (pvP xs xs.length a.n)).any (hitP inn but) = (List.range ps.length).any fun p => mP ps a p && hitP inn but p := by
  rw [Bool.eq_iff_iff, List.any_eq_true, List.any_eq_true]
  constructor
  · rintro ⟨p, hp, hh⟩
    have hm := (satL_mem h a p).1 hp
    exact ⟨p, List.mem_range.2 (mP_lt hm), by rw [hm, hh]; rfl⟩
  · rintro ⟨p, hp, hh⟩
    rw [Bool.and_eq_true] at hh
    exact ⟨p, (satL_mem h a p).2 hh.1, hh.2⟩
/-- SIZES THAT WILL DO. -/
structure SmP (ps : List Pk) : Prop where
  l : ps.length ≤ 262144
  t : (ps.map fun p => p.pv.length).sum ≤ 1048576
  sd : (ps.map fun p => p.dp.length).sum ≤ 1048576
  sr : (ps.map fun p => p.pr.length).sum ≤ 1048576
  sc : (ps.map fun p => p.cf.length).sum ≤ 1048576
  sf : (ps.map fun p => p.fs.length).sum ≤ 1048576
  z : ∀ p ∈ ps, p.nm.size ≤ maxLen ∧ p.vr.size ≤ maxLen ∧ ∀ n ∈ p.pv, n.size ≤ maxLen
  d : ∀ p ∈ ps, ∀ al ∈ p.dp, al.length ≤ 1048576 ∧ ∀ a ∈ al, a.n.size ≤ maxLen ∧ a.v.size ≤ maxLen
  r : ∀ p ∈ ps, ∀ al ∈ p.pr, al.length ≤ 1048576 ∧ ∀ a ∈ al, a.n.size ≤ maxLen ∧ a.v.size ≤ maxLen
  c : ∀ p ∈ ps, ∀ a ∈ p.cf, a.n.size ≤ maxLen ∧ a.v.size ≤ maxLen
  f : ∀ p ∈ ps, ∀ x ∈ p.fs, ∃ s : Nm, x[0]? = some (Value.string s) ∧ s.size ≤ maxLen
theorem le_sum {α : Type} (g : α → Nat) {l : List α} {x : α} (h : x ∈ l) : g x ≤ (l.map g).sum := by
  induction l with
  | nil => cases h
  | cons a l ih =>
    rw [List.map_cons, List.sum_cons]
    rcases List.mem_cons.1 h with rfl | h
    · omega
    · have := ih h; omega
theorem totX_le {xs : List Pd} {ps : List Pk} (h : Sim xs ps) : ∀ n, totP xs n ≤ ((ps.take n).map fun p => p.pv.length).sum
  | 0 => Nat.zero_le _
  | n + 1 => by
    have ih := totX_le h n
    rw [List.take_add_one, List.map_append, List.sum_append]
    unfold totP
    cases e : xs[n]? with
    | none => simp only; omega
    | some x =>
      obtain ⟨p, hp, _, _, h3⟩ := h.at e
      rw [hp]
      have e3 : ((some p).toList.map fun p => p.pv.length).sum = p.pv.length := by simp
      rw [e3]
      simp only
      rw [h3]
      omega
theorem SmP.tot {xs : List Pd} {ps : List Pk} (sm : SmP ps) (h : Sim xs ps) : totP xs xs.length ≤ 1048576 := by
  have := totX_le h xs.length
  rw [h.1, List.take_length] at this
  rw [h.1]
  exact Nat.le_trans this sm.t
theorem SmP.sz {xs : List Pd} {ps : List Pk} (sm : SmP ps) (h : Sim xs ps) : ∀ q ∈ xs, q.nm.size ≤ maxLen ∧ ∀ n ∈ q.pl, n.size ≤ maxLen := fun q hq => by
  obtain ⟨i, hi, e⟩ := List.getElem_of_mem hq
  obtain ⟨p, hp, h1, _, h3⟩ := h.at (show xs[i]? = some q by rw [List.getElem?_eq_getElem hi, e])
  have hz := sm.z p (List.mem_of_getElem? hp)
  rw [h1, h3]
  exact ⟨hz.1, hz.2.2⟩
end Go.Proofs.YtjnbnndocinicaaGreatDoor
