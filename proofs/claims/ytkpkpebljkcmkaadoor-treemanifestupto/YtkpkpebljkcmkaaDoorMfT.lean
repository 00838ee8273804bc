import Derived.Test.YtkpkpebljkcmkaaDoorMfS
namespace Go.Proofs.YtkpkpebljkcmkaaDoor
open Go.RowKit

/-- PACKAGES WRITTEN OVER, READ AGAIN. -/
theorem Kd.pk {lo : Nat} {W W' : World} (h : Kd lo W W') {b o : Nat} {cs : List Value} {p : Pk} {x : Value} (hr : W.rangeAt b o cs) (hc : PkC cs p x) (hf : Rws 40 34 W x p.fs) : ∃ p' : Pk, (∃ cs', W'.rangeAt b o cs' ∧ PkC cs' p' x ∧ Rws 40 34 W' x p'.fs) ∧ p'.fs.length = p.fs.length := by
  obtain ⟨cs', hr', hk⟩ := h.range hr
  obtain ⟨fs, f1, f2⟩ := h.rws hf
  have str : ∀ {j : Nat} {s : Nm}, cs[j]? = some (.string s) → ∃ s' : Nm, cs'[j]? = some (.string s') := fun hj => by
    obtain ⟨u, k1, k2⟩ := hk.2 _ _ hj
    obtain ⟨s', rfl, _⟩ := k2.str
    exact ⟨s', k1⟩
  obtain ⟨nm, n1⟩ := str hc.c0
  obtain ⟨vr, v1⟩ := str hc.c1
  obtain ⟨xa, xc, rfl⟩ := hf.form
  obtain ⟨u, k1, k2⟩ := hk.2 _ _ hc.c7
  rw [k2.slice] at k1
  exact ⟨⟨nm, vr, fs⟩, ⟨cs', hr', ⟨hk.1.trans hc.len, hk.one hc.one, n1, v1, k1⟩, f1⟩, f2⟩
theorem Kd.pks {lo : Nat} {W W' : World} (h : Kd lo W W') {v : Value} {ps : List Pk} (hp : Pks W v ps) : ∃ ps', Pks W' v ps' ∧ ps'.map (·.fs.length) = ps.map (·.fs.length) := by
  obtain ⟨a, c, h1, h2⟩ := hp
  have each : ∀ i, i < ps.length → ∃ p' : Pk, ∀ (hi : i < ps.length), p'.fs.length = (ps[i]).fs.length ∧ ∀ b o, a = some ⟨b, o, none⟩ → ∃ cs' x, W'.rangeAt b (o + i * 43) cs' ∧ PkC cs' p' x ∧ Rws 40 34 W' x p'.fs := fun i hi => by
    obtain ⟨b, o, e1, e2, e3⟩ := h2 (by omega)
    obtain ⟨cs, x, k1, k2, k3⟩ := e3 i _ (List.getElem?_eq_getElem hi)
    obtain ⟨p', ⟨cs', q1, q2, q3⟩, q4⟩ := h.pk k1 k2 k3
    refine ⟨p', fun _ => ⟨q4, fun b' o' e => ?_⟩⟩
    rw [e1] at e
    cases e
    exact ⟨cs', x, q1, q2, q3⟩
  have : Inhabited Pk := ⟨⟨.empty, .empty, []⟩⟩
  obtain ⟨f, hf⟩ := Go.Deep.choose_lt each
  have get : ∀ j, j < ps.length → ((List.range ps.length).map f)[j]? = some (f j) := fun j hj => by
    rw [List.getElem?_map, List.getElem?_range hj]
    rfl
  refine ⟨(List.range ps.length).map f, ⟨a, c, by simpa using h1, fun h0 => ?_⟩, ?_⟩
  · have h0' : 0 < ps.length := by simpa using h0
    obtain ⟨b, o, e1, e2, _⟩ := h2 h0'
    refine ⟨b, o, e1, Nat.lt_of_lt_of_le e2 h.bel.size, fun i p hi => ?_⟩
    have hi' : i < ps.length := by have := (List.getElem?_eq_some_iff.1 hi).1; simpa using this
    rw [get i hi'] at hi
    cases hi
    exact (hf i hi' hi').2 b o e1
  · refine List.ext_getElem? fun i => ?_
    by_cases hi : i < ps.length
    · rw [List.getElem?_map, get i hi, List.getElem?_map, List.getElem?_eq_getElem hi]
      exact congrArg some (hf i hi hi).1
    · rw [List.getElem?_eq_none (by simp; omega), List.getElem?_eq_none (by simp; omega)]
theorem allF_count (ps : List Pk) : (allF ps).length = (ps.map (·.fs.length)).sum := by
  unfold allF
  rw [List.length_flatMap]
theorem allF_same {ps qs : List Pk} (h : qs.map (·.fs.length) = ps.map (·.fs.length)) : (allF qs).length = (allF ps).length ∧ qs.length = ps.length := by
  refine ⟨by rw [allF_count, allF_count, h], ?_⟩
  have := congrArg List.length h
  simpa using this
end Go.Proofs.YtkpkpebljkcmkaaDoor
