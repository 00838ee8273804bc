import Derived.Test.YtohncccejlccbaaSqC
namespace Go.Proofs.Ytohncccejlccbaa
open Go.RowKit Go.Shelf

theorem flat_set : ∀ (ts : List Tv) (k : Nat) (t : Tv) (v : Value), ts[k]? = some t → (flat ts).set (k * 3) v = flat (ts.set k ⟨v, t.b, t.c⟩)
  | [], k, t, v, h => by simp at h
  | x :: r, 0, t, v, h => by
    simp at h
    subst h
    rfl
  | x :: r, k + 1, t, v, h => by
    have h2 : r[k]? = some t := by simpa using h
    have ih := flat_set r k t v h2
    rw [show (k + 1) * 3 = k * 3 + 3 by omega]
    show x.a :: x.b :: x.c :: (flat r).set (k * 3) v = _
    rw [ih]
    rfl
theorem Sp.setN {lo Pb : Nat} {d : Sd} {Nm : Nat → Nat → ByteArray} {L A : Nat → Nat → List Value} {w0 W : World} (h : Sp lo Pb d Nm L A W) (hf : Fr d w0 W) {i k : Nat} (hi : i < d.n) (hk : k < d.pl i) (x : ByteArray) :
    Sp lo Pb d (upd Nm i k x) L A (W.setCell ⟨d.pb i, k * 3, none⟩ (.string x)) ∧ Fr d w0 (W.setCell ⟨d.pb i, k * 3, none⟩ (.string x)) ∧ W.frozen? ⟨d.pb i, k * 3, none⟩ = false := by
  obtain ⟨r, _⟩ := (h.par i hi).stored (k * 3) (.string x)
  obtain ⟨cur, hc⟩ := own_cells (h.par i hi)
  have ets : (d.ts Nm i).set k ⟨.string x, d.lv i k, d.av i k⟩ = d.ts (upd Nm i k x) i := by
    apply List.ext_getElem?
    intro q
    rw [List.getElem?_set]
    unfold Sd.ts
    by_cases e : k = q
    · subst e
      rw [if_pos rfl, List.length_map, List.length_range, if_pos hk]
      simp [hk, Sd.tv, upd]
    · rw [if_neg e]
      by_cases hq : q < d.pl i
      · have e' : ¬ q = k := fun h => e h.symm
        simp [hq, Sd.tv, upd, e']
      · rw [List.getElem?_eq_none (by simpa using hq), List.getElem?_eq_none (by simpa using hq)]
  rw [flat_set (d.ts Nm i) k (d.tv Nm i k) (.string x) (by simp [Sd.ts, hk])] at r
  have r' : (W.setCell ⟨d.pb i, k * 3, none⟩ (.string x)).ownsRow lo 30 3 (d.pv i) (d.pl i) (flat (d.ts (upd Nm i k x) i)) := by
    rw [← ets]
    exact r
  exact ⟨h.oneP hi (fun j hj => by funext b; unfold upd; rw [if_neg (fun e => hj e.1)]) r' fun q _ hq => set_other _ _ _ _ _ hq, hf.one (Env.set _ _ _) (by rw [set_size]; exact Nat.le_refl _) ⟨i, hi, .inl rfl⟩ fun q _ hq => set_other _ _ _ _ _ hq, by simp [World.frozen?, hc]⟩
/-- A paragraph that has grown by c. -/
def ExP (lo B0 g0 n0 cap0 : Nat) (xs : List Value) (W : World) (g cap c : Nat) : Prop :=
  ∃ ys, W.ownsRow lo 30 3 (.slice (some ⟨g, 0, none⟩) (n0 + c) cap) (n0 + c) ys ∧ ((g = g0 ∧ cap = cap0 ∧ ys.take (n0 * 3) = xs) ∨ B0 ≤ g)
theorem ExP.start {lo B0 g0 n0 cap0 : Nat} {xs : List Value} {W : World} (h : W.ownsRow lo 30 3 (.slice (some ⟨g0, 0, none⟩) n0 cap0) n0 xs) : ExP lo B0 g0 n0 cap0 xs W g0 cap0 0 :=
  ⟨xs, h, .inl ⟨rfl, rfl, List.take_of_length_le (by have := h.1; omega)⟩⟩
theorem stepP {lo Pb : Nat} {d : Sd} {Nm : Nat → Nat → ByteArray} {L A : Nat → Nat → List Value} {w W : World} (hS : Sp lo Pb d Nm L A W) (hF : Fr d w W) (hB : Bd0 d Pb w.heap.size) (hlo : lo ≤ w.heap.size) {i : Nat} (hi : i < d.n) {g cap c : Nat} (hE : ExP lo w.heap.size (d.pb i) (d.pl i) (d.pc i) (flat (d.ts Nm i)) W g cap c) (hb : d.pl i + c + 1 ≤ 1073741924) :
    ∃ g2 cap2 W2, (Builtin.append_ #[22, 22] 22 #[.slice (some ⟨g, 0, none⟩) (d.pl i + c) cap, .slice (some ⟨W.heap.size, 0, none⟩) 1 1]).run Try.prog (W.alloc (.cells #[.string ⟨#[109, 111, 114, 101]⟩, .slice none 0 0, .slice none 0 0] 30)) = .ok (.slice (some ⟨g2, 0, none⟩) (d.pl i + c + 1) cap2) W2 ∧
      Sp lo Pb d Nm L A W2 ∧ Fr d w W2 ∧ ExP lo w.heap.size (d.pb i) (d.pl i) (d.pc i) (flat (d.ts Nm i)) W2 g2 cap2 (c + 1) := by
  obtain ⟨ys, ho, hor⟩ := hE
  obtain ⟨i0, hi0, hz0, hz1, hz2⟩ := info_parts infoF39
  obtain ⟨g2, cap2, W2, hr, h2, hen, hsz, hcase⟩ := app_one (P := Try.prog) 22 30 i0 (.agg #[.string ⟨#[]⟩, .slice none 0 0, .slice none 0 0]) 3 64 Try.underlying22 hi0 hz0 hz1 hz2 rfl (by decide) lo g (d.pl i + c) cap ys [.string ⟨#[109, 111, 114, 101]⟩, .slice none 0 0, .slice none 0 0] W (Nat.le_trans hlo hF.size) ho rfl (by simp [Value.oneCell']) (by omega) (by unfold maxLen; omega)
  have hyl : ys.length = (d.pl i + c) * 3 := ho.1
  refine ⟨g2, cap2, W2, hr, ?_⟩
  rcases hcase with ⟨rfl, rfl, hk2⟩ | ⟨hg2, hk2⟩
  · rcases hor with ⟨rfl, rfl, ht⟩ | hge
    · have row' : W2.ownsRow lo 30 3 (d.pv i) (d.pl i) (flat (d.ts Nm i)) := by
        have := own_take h2 (d.pl i) (by omega)
        rw [List.take_append_of_le_length (by omega), ht] at this
        exact this
      exact ⟨hS.oneP hi (fun _ _ => rfl) row' hk2, hF.one hen hsz ⟨i, hi, .inl rfl⟩ hk2, ⟨_, h2, .inl ⟨rfl, rfl, by rw [List.take_append_of_le_length (by omega), ht]⟩⟩⟩
    · exact ⟨hS.keep0 hB fun q h1 h2 => hk2 q h2 (by omega), hF.keep0 hen hsz fun q h1 h2 => hk2 q h2 (by omega), ⟨_, h2, .inr hge⟩⟩
  · have hF2 := hF.size
    exact ⟨hS.keep0 hB fun q _ h2 => hk2 q h2, hF.keep0 hen hsz fun q _ h2 => hk2 q h2, ⟨_, h2, .inr (by omega)⟩⟩
theorem Sp.dr {lo Pb : Nat} {d : Sd} {Nm : Nat → Nat → ByteArray} {L A : Nat → Nat → List Value} {W : World} (h : Sp lo Pb d Nm L A W) (q : Nat) : Sp lo Pb d Nm L A (W.drewN q) := h.later fun _ _ => rfl
theorem Fr.dr {d : Sd} {w0 W : World} (h : Fr d w0 W) (q : Nat) : Fr d w0 (W.drewN q) := h.below (bl_drewN W q)
end Go.Proofs.Ytohncccejlccbaa
