import Derived.Test.YtohnjmhdbbkmbaaDoorSbI
import Derived.Deep.Onto
namespace Go.Proofs.YtohnjmhdbbkmbaaDoor
open Go.RowKit

def PO (b0 : Nat) (W : World) (v : Value) (p : List Fd) : Prop := ∃ xs : List Fs, xs.map (·.f) = p ∧ W.ownsRow b0 49 3 v xs.length (xs.flatMap cells3) ∧ ∀ x ∈ xs, Fok 0 W x
theorem cells3_get : ∀ (xs : List Fs) (i : Nat) (x : Fs) (j : Nat) (u : Value), xs[i]? = some x → (cells3 x)[j]? = some u → (xs.flatMap cells3)[i * 3 + j]? = some u
  | [], i, x, j, u, h, _ => by cases h
  | y :: r, 0, x, j, u, h, hu => by
    cases h
    have hj : j < (cells3 y).length := (List.getElem?_eq_some_iff.1 hu).1
    rw [List.flatMap_cons, Nat.zero_mul, Nat.zero_add, List.getElem?_append_left hj]
    exact hu
  | y :: r, i + 1, x, j, u, h, hu => by
    rw [List.flatMap_cons, List.getElem?_append_right (by simp [cells3]; omega)]
    have e : (i + 1) * 3 + j - (cells3 y).length = i * 3 + j := by simp [cells3]; omega
    rw [e]
    exact cells3_get r i x j u h hu
theorem PO.parC {b0 : Nat} {W : World} {v : Value} {p : List Fd} (h : PO b0 W v p) : ParC W v p := by
  obtain ⟨xs, h1, h2, h3⟩ := h
  have hl : p.length = xs.length := by rw [← h1]; simp
  rcases h2.2 with ⟨e1, e2⟩ | ⟨g, cap, cur, e1, _, hg, _, _, _, htk⟩
  · exact ⟨none, 0, by rw [hl, e2]; exact e1, fun h0 => by omega⟩
  · refine ⟨some ⟨g, 0, none⟩, cap, by rw [hl]; exact e1, fun _ => ⟨g, 0, rfl, fun i f hi => ?_⟩⟩
    rw [← h1, List.getElem?_map] at hi
    cases hx : xs[i]? with
    | none => rw [hx] at hi; cases hi
    | some x =>
      rw [hx] at hi
      obtain rfl : x.f = f := Option.some.inj hi
      have hok := h3 x (List.mem_of_getElem? hx)
      rw [Nat.zero_add]
      refine ⟨(cell_blk hg _).1.trans (take_get htk (cells3_get xs i x 0 _ hx rfl)), ?_, ?_⟩
      · rcases hok.l.2 with ⟨e, _⟩ | ⟨b, c, cu, e, _, hb, r1, _, _, r4⟩
        · cases e
        · cases e
          refine ⟨x.lg, 0, x.lc, (cell_blk hg _).1.trans (take_get htk (cells3_get xs i x 1 _ hx rfl)), r1, (Array.getElem?_eq_some_iff.1 hb).1, fun j u hj => ?_⟩
          rw [Nat.zero_add]
          exact (cell_blk hb j).1.trans (take_get r4 hj)
      · exact ⟨_, x.ac, (cell_blk hg _).1.trans (take_get htk (cells3_get xs i x 2 _ hx rfl)), Cl.of_owns hok.a⟩
theorem Wh.po {a b : Nat} {W : World} {v : Value} {p : List Fd} (h : Wh a b W v p) : PO 0 W v p := by
  obtain ⟨xs, h1, h2, _⟩ := (h.lower (Nat.zero_le a)).sh
  exact ⟨xs, h1, h2.row, h2.ok⟩
theorem own_shape1 {W : World} {base n sz : Nat} {e : TypeId} {v : Value} {cs : List Value} (h : W.ownsRow base e sz v n cs) : ∃ pa c, v = .slice pa n c := by
  rcases h.2 with ⟨h1, h2⟩ | ⟨g, cap, cur, h1, _⟩
  · exact ⟨none, 0, by rw [h1, h2]⟩
  · exact ⟨_, _, h1⟩
theorem doc_of {b : Nat} {W : World} {lv : Value} {vs : List Value} {ps : List (List Fd)} (hl : vs.length = ps.length) (hr : W.ownsRow b 39 1 lv vs.length vs) (he : ∀ (i : Nat) v p, vs[i]? = some v → ps[i]? = some p → ParC W v p) : DocC W lv ps := by
  obtain ⟨pa, c, hv⟩ := own_shape1 hr
  refine ⟨pa, c, by rw [← hl]; exact hv, fun h0 => ?_⟩
  obtain ⟨m, hm⟩ : ∃ m, vs.length = m + 1 := ⟨vs.length - 1, by omega⟩
  rw [hm] at hr
  obtain ⟨g, cap, cur, e, hg, _, htk, _⟩ := slice_of hr
  rw [e] at hv
  injection hv with q1 _ _
  refine ⟨g, 0, q1.symm, fun i p hi => ?_⟩
  have hlt : i < vs.length := by rw [hl]; exact (List.getElem?_eq_some_iff.1 hi).1
  refine ⟨vs[i], ?_, he i _ p (List.getElem?_eq_getElem hlt) hi⟩
  rw [Nat.zero_add]
  exact (cell_blk hg i).1.trans (take_get htk (List.getElem?_eq_getElem hlt))

/-- EVERY LINE THAT IS READ HAS A NUMBER. -/
def NsS (st : St) : Prop := (∀ p ∈ st.all, ∀ f ∈ p, f.ns.length = f.ls.length) ∧ ∀ f ∈ st.p, f.ns.length = f.ls.length
theorem stp_ns (st : St) (x : Nat × Bs) (h : NsS st) : NsS (stp st x) := by
  obtain ⟨all, p, e⟩ := st
  obtain ⟨h1, h2⟩ := h
  simp only at h1 h2
  cases e with
  | some y => exact ⟨h1, h2⟩
  | none =>
    have hsh : ∀ q ∈ shut ⟨all, p, none⟩, ∀ f ∈ q, f.ns.length = f.ls.length := by
      intro q hq
      unfold shut at hq
      split at hq
      · exact h1 q hq
      · rcases List.mem_append.1 hq with hq | hq
        · exact h1 q hq
        · rw [List.mem_singleton.1 hq]; exact h2
    unfold stp
    simp only
    split
    · exact ⟨hsh, fun f hf => by cases hf⟩
    · split
      · refine ⟨h1, ?_⟩
        show ∀ f ∈ (takeP p x.1 x.2).2, f.ns.length = f.ls.length
        unfold takeP
        split
        · exact h2
        · split
          · unfold goP
            split
            · exact h2
            · rcases List.eq_nil_or_concat p with e | ⟨a, b, e⟩
              · rw [e]; intro f hf; cases hf
              · have e2 : p = a ++ [b] := by rw [e]; simp
                subst e2
                rw [extL_end]
                intro f hf
                rcases List.mem_append.1 hf with hf | hf
                · exact h2 f (List.mem_append_left _ hf)
                · rw [List.mem_singleton.1 hf]
                  have := h2 b (by simp)
                  simp [this]
          · split
            · unfold beP
              split
              · split
                · exact h2
                · intro f hf
                  rcases List.mem_append.1 hf with hf | hf
                  · exact h2 f hf
                  · rw [List.mem_singleton.1 hf]; simp
              · exact h2
            · exact h2
      · exact ⟨h1, h2⟩
theorem run_ns : ∀ (xs : List (Nat × Bs)) (st : St), NsS st → NsS (xs.foldl stp st)
  | [], _, h => h
  | x :: r, st, h => run_ns r _ (stp_ns st x h)
theorem parse_ns (t : Bs) : ∀ p ∈ shut (parseT t), ∀ f ∈ p, f.ns.length = f.ls.length := by
  have h : NsS (parseT t) := run_ns _ st0 ⟨(fun p hp => by cases hp), fun f hf => by cases hf⟩
  intro p hp
  unfold shut at hp
  split at hp
  · exact h.1 p hp
  · rcases List.mem_append.1 hp with hp | hp
    · exact h.1 p hp
    · rw [List.mem_singleton.1 hp]; exact h.2

end Go.Proofs.YtohnjmhdbbkmbaaDoor
