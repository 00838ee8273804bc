import Derived.Test.YtmckmeoondlcpaaDoorVmL
namespace Go.Proofs.YtmckmeoondlcpaaDoor
open Go.RowKit

/-- WHAT Met ASKS OF A PACKAGE. -/
def pdOf (p : Pk) (cs : List Value) (v : Value) : Pd := ⟨cs, p.nm, p.vr, v, p.pv⟩
theorem pd_ok {w : World} {p : Pk} {cs : List Value} {d r c v f : Value} (h : PkC cs p d r c v f) (l : PkL w p d r c v f) (hv : p.vr.size ≤ maxLen) : PdOk w (pdOf p cs v) :=
  ⟨⟨h.len, h.c0, h.c1, h.c6⟩, l.vl, hv⟩
/-- THE NAMES, VERSIONS AND PROVIDED NAMES. -/
def same3 (a b : Pd) : Prop := a.nm = b.nm ∧ a.vr = b.vr ∧ a.pl = b.pl
theorem metA_same : ∀ (ps qs : List Pd) (who : Int) (pre : Bool) (al : List At), ps.length = qs.length → (∀ (i : Nat) (a b : Pd), ps[i]? = some a → qs[i]? = some b → same3 a b) → metA ps who pre al = metA qs who pre al := by
  intro ps qs who pre al hl h
  have key : ∀ (ps qs : List Pd) (k : Nat), ps.length = qs.length → (∀ (i : Nat) (a b : Pd), ps[i]? = some a → qs[i]? = some b → same3 a b) → ((ps.zipIdx k).any fun q => hitA who pre al q.2 q.1) = ((qs.zipIdx k).any fun q => hitA who pre al q.2 q.1) := by
    intro ps
    induction ps with
    | nil => intro qs k hl _; cases qs with
      | nil => rfl
      | cons b qs => simp at hl
    | cons a ps ih =>
      intro qs k hl h
      cases qs with
      | nil => simp at hl
      | cons b qs =>
        have h0 := h 0 a b rfl rfl
        have e : hitA who pre al k a = hitA who pre al k b := by unfold hitA; rw [h0.1, h0.2.1, h0.2.2]
        rw [List.zipIdx_cons, List.zipIdx_cons, List.any_cons, List.any_cons, e, ih qs (k + 1) (by simpa using hl) (fun i x y hx hy => h (i + 1) x y (by simpa using hx) (by simpa using hy))]
  exact key ps qs 0 hl h
/-- A LIST OF PACKAGES AS Met READS IT. -/
theorem pks_of {w : World} {v : Value} {ps : List Pk} (h : Pkl w v ps) (hv : ∀ p ∈ ps, p.vr.size ≤ maxLen) : ∃ xs : List Pd, Pks w v xs ∧ xs.length = ps.length ∧ ∀ (i : Nat) (x : Pd) (p : Pk), xs[i]? = some x → ps[i]? = some p → x.nm = p.nm ∧ x.vr = p.vr ∧ x.pl = p.pv := by
  obtain ⟨a, c, rfl, h2⟩ := h
  by_cases h0 : 0 < ps.length
  · obtain ⟨b, o, rfl, hb, hc⟩ := h2 h0
    have step : ∀ n, n ≤ ps.length → ∃ xs : List Pd, xs.length = n ∧ ∀ (i : Nat) (x : Pd) (p : Pk), xs[i]? = some x → ps[i]? = some p → (w.rangeAt b (o + i * 43) x.cs ∧ PdOk w x) ∧ x.nm = p.nm ∧ x.vr = p.vr ∧ x.pl = p.pv := by
      intro n
      induction n with
      | zero => intro _; exact ⟨[], rfl, fun i x p hx => by simp at hx⟩
      | succ n ih =>
        intro hn
        obtain ⟨xs, hl, hx⟩ := ih (by omega)
        obtain ⟨p, hp⟩ : ∃ p, ps[n]? = some p := ⟨_, List.getElem?_eq_getElem (by omega)⟩
        obtain ⟨cs, d, r, c, v, f, k1, k2, k3⟩ := hc n p hp
        refine ⟨xs ++ [pdOf p cs v], by simp [hl], fun i x q hi hq => ?_⟩
        by_cases e : i < n
        · rw [List.getElem?_append_left (by omega)] at hi
          exact hx i x q hi hq
        · have hi' := (List.getElem?_eq_some_iff.1 hi).1
          rw [List.length_append, hl, List.length_singleton] at hi'
          obtain rfl : i = n := by omega
          rw [List.getElem?_append_right (by omega), hl, Nat.sub_self] at hi
          simp at hi
          subst hi
          rw [hp] at hq; cases hq
          exact ⟨⟨k1, pd_ok k2 k3 (hv p (List.mem_of_getElem? hp))⟩, rfl, rfl, rfl⟩
    obtain ⟨xs, hl, hx⟩ := step ps.length (Nat.le_refl _)
    refine ⟨xs, ⟨_, c, by rw [hl], fun _ => ⟨b, o, rfl, hb, fun i x hi => ?_⟩⟩, hl, fun i x p hi hp => (hx i x p hi hp).2⟩
    obtain ⟨p, hp⟩ : ∃ p, ps[i]? = some p := ⟨_, List.getElem?_eq_getElem (by rw [← hl]; exact (List.getElem?_eq_some_iff.1 hi).1)⟩
    exact (hx i x p hi hp).1
  · have e : ps = [] := by cases ps with
      | nil => rfl
      | cons p ps => simp at h0
    subst e
    exact ⟨[], ⟨a, c, rfl, fun h => absurd h (by simp)⟩, rfl, fun i x p hx => by simp at hx⟩
end Go.Proofs.YtmckmeoondlcpaaDoor
