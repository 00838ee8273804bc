import Derived.Test.YtiibobjbcgbknaaDoorScD
namespace Go.Proofs.YtiibobjbcgbknaaDoor
open Go.RowKit

theorem own_shape {W : World} {base n : Nat} {e : TypeId} {v : Value} {cs : List Value} (h : W.ownsRow base e 1 v n cs) : ∃ pa c, v = .slice pa n c := by
  rcases h.2 with ⟨h1, h2⟩ | ⟨g, cap, cur, h1, _⟩
  · exact ⟨none, 0, by rw [h1, h2]⟩
  · exact ⟨_, _, h1⟩
theorem flat_len : ∀ L : List Bs, L.length ≤ (L.flatMap fun l => l ++ [10]).length ∧ ∀ l ∈ L, l.length + 1 ≤ (L.flatMap fun l => l ++ [10]).length
  | [] => ⟨Nat.le_refl _, fun l h => by cases h⟩
  | x :: r => by
    obtain ⟨h1, h2⟩ := flat_len r
    rw [List.flatMap_cons, List.length_append, List.length_append]
    refine ⟨by simp only [List.length_cons, List.length_nil]; omega, fun l hl => ?_⟩
    rcases List.mem_cons.1 hl with rfl | hl
    · simp only [List.length_cons, List.length_nil]; omega
    · have := h2 l hl
      omega
theorem fld_len (f : Fd) (hf : okF f = true) : 1 ≤ (fldT f).length ∧ f.ls.length ≤ (fldT f).length ∧ ∀ l ∈ f.ls, l.length ≤ (fldT f).length := by
  obtain ⟨nm, ls, ns⟩ := f
  cases ls with
  | nil => simp [okF] at hf
  | cons a r =>
    obtain ⟨h1, h2⟩ := flat_len (linF ⟨nm, a :: r, ns⟩)
    have hl : (linF ⟨nm, a :: r, ns⟩).length = r.length + 1 := by simp [linF]
    refine ⟨?_, ?_, fun l hl2 => ?_⟩
    · show 1 ≤ ((linF ⟨nm, a :: r, ns⟩).flatMap fun l => l ++ [10]).length
      omega
    · show r.length + 1 ≤ ((linF ⟨nm, a :: r, ns⟩).flatMap fun l => l ++ [10]).length
      omega
    · show l.length ≤ ((linF ⟨nm, a :: r, ns⟩).flatMap fun l => l ++ [10]).length
      rcases List.mem_cons.1 hl2 with rfl | hl2
      · have h3 := h2 (headL nm l) (by simp [linF])
        have h4 : l.length ≤ (headL nm l).length := by
          unfold headL
          split
          · rename_i e; rw [e]; simp
          · simp; omega
        omega
      · have h3 := h2 (32 :: l) (List.mem_cons_of_mem _ (List.mem_map.2 ⟨l, hl2, rfl⟩))
        rw [List.length_cons] at h3
        omega
theorem par_len : ∀ (p : List Fd), p.all okF = true → p.length ≤ (parT p).length ∧ ∀ f ∈ p, (fldT f).length ≤ (parT p).length
  | [], _ => ⟨Nat.le_refl _, fun l h => by cases h⟩
  | x :: r, h => by
    simp only [List.all_cons, Bool.and_eq_true] at h
    obtain ⟨h1, h2⟩ := par_len r h.2
    have h3 := fld_len x h.1
    have h4 : parT (x :: r) = fldT x ++ parT r := by simp [parT]
    rw [h4, List.length_append]
    refine ⟨by simp; omega, fun f hf => ?_⟩
    rcases List.mem_cons.1 hf with rfl | hf
    · omega
    · have := h2 f hf; omega
theorem prR_len : ∀ (ps : List (List Fd)), ps.length ≤ (prR ps).length ∧ ∀ p ∈ ps, (parT p).length ≤ (prR ps).length
  | [] => ⟨Nat.le_refl _, fun l h => by cases h⟩
  | x :: r => by
    obtain ⟨h1, h2⟩ := prR_len r
    show _ ≤ (10 :: (parT x ++ prR r)).length ∧ _
    refine ⟨by simp; omega, fun p hp => ?_⟩
    show _ ≤ (10 :: (parT x ++ prR r)).length
    rw [List.length_cons, List.length_append]
    rcases List.mem_cons.1 hp with rfl | hp
    · omega
    · have := h2 p hp; omega
theorem prT_len (ps : List (List Fd)) : ps.length ≤ (prT ps).length + 1 ∧ ∀ p ∈ ps, (parT p).length ≤ (prT ps).length := by
  cases ps with
  | nil => exact ⟨by simp, fun l h => by cases h⟩
  | cons x r =>
    obtain ⟨h1, h2⟩ := prR_len r
    show _ ≤ (parT x ++ prR r).length + 1 ∧ _
    refine ⟨by simp; omega, fun p hp => ?_⟩
    show _ ≤ (parT x ++ prR r).length
    rw [List.length_append]
    rcases List.mem_cons.1 hp with rfl | hp
    · omega
    · have := h2 p hp; omega
theorem prR_app : ∀ (a b : List (List Fd)), prR (a ++ b) = prR a ++ prR b
  | [], _ => rfl
  | p :: r, b => by
    show 10 :: (parT p ++ prR (r ++ b)) = 10 :: (parT p ++ prR r) ++ prR b
    rw [prR_app r b]
    simp
theorem prT_app (a b : List (List Fd)) (h : a ≠ []) : prT (a ++ b) = prT a ++ prR b := by
  cases a with
  | nil => exact absurd rfl h
  | cons p r =>
    show parT p ++ prR (r ++ b) = parT p ++ prR r ++ prR b
    rw [prR_app, List.append_assoc]
/-- THE TEXT SO FAR: i paragraphs, a line's end, k fields of the next. -/
def sepB (i : Nat) : Bs := if i = 0 then [] else [10]
def midT (ps : List (List Fd)) (i : Nat) (p : List Fd) (k : Nat) : Bs := prT (ps.take i) ++ sepB i ++ parT (p.take k)
theorem mid_next (ps : List (List Fd)) (i : Nat) (hi : i < ps.length) : prT (ps.take (i + 1)) = midT ps i ps[i] ps[i].length := by
  unfold midT sepB
  rw [List.take_succ_eq_append_getElem hi, List.take_length]
  by_cases h0 : i = 0
  · subst h0
    simp [prT, prR]
  · have hne : ps.take i ≠ [] := by
      intro e
      have := congrArg List.length e
      rw [List.length_take, List.length_nil] at this
      omega
    rw [prT_app _ _ hne, if_neg h0]
    show prT (ps.take i) ++ (10 :: (parT ps[i] ++ [])) = _
    simp
theorem mid_step (ps : List (List Fd)) (i : Nat) (p : List Fd) (k : Nat) (hk : k < p.length) : midT ps i p (k + 1) = midT ps i p k ++ fldT p[k] := by
  unfold midT
  rw [List.take_succ_eq_append_getElem hk, parT_app, parT_one, List.append_assoc, List.append_assoc, List.append_assoc]
theorem prT_take_le (ps : List (List Fd)) (i : Nat) : (prT (ps.take i)).length ≤ (prT ps).length := by
  by_cases h : ps.take i = []
  · rw [h]; simp [prT]
  · conv => rhs; rw [← List.take_append_drop i ps, prT_app _ _ h]
    simp
theorem mid_le (ps : List (List Fd)) (i : Nat) (hi : i < ps.length) (k : Nat) : (midT ps i ps[i] k).length ≤ (prT ps).length := by
  refine Nat.le_trans ?_ (prT_take_le ps (i + 1))
  rw [mid_next ps i hi]
  unfold midT
  rw [List.take_length]
  conv => rhs; rw [← List.take_append_drop k ps[i], parT_app]
  simp
theorem encB_app (a b : Bs) : encB (a ++ b) = encB a ++ encB b := by simp [encB]

theorem appendField_of (f : Fd) (g o : Nat) (w : World) (hok : okF f = true) (hs : (fldT f).length ≤ 268435456) (hC : FdC w g o f) :
    ∃ b q lc na nn nc, w.cell? ⟨g, o, none⟩ = some (.string (ba f.nm)) ∧ w.cell? ⟨g, o + 1, none⟩ = some (.slice (some ⟨b, q, none⟩) f.ls.length lc) ∧ w.cell? ⟨g, o + 2, none⟩ = some (.slice na nn nc) ∧
      ∀ W tv n cs, Below w.heap.size w W → W.ownsRow w.heap.size 5 1 tv n cs → n ≤ 268435456 → Calls Tryd.prog 38 #[tv, .agg #[.string (ba f.nm), .slice (some ⟨b, q, none⟩) f.ls.length lc, .slice na nn nc]] W fun e w' => ∃ pa c, e = .returned (.slice pa (n + (fldT f).length) c) ∧ w'.ownsRow w.heap.size 5 1 (.slice pa (n + (fldT f).length) c) (n + (fldT f).length) (cs ++ encB (fldT f)) ∧ Below w.heap.size w w' := by
  obtain ⟨l1, l2, l3⟩ := fld_len f hok
  obtain ⟨nm, ls, ns⟩ := f
  obtain ⟨b, q, c, h1, h2, h3, h4⟩ := hC.ls
  obtain ⟨na, nn, nc, h5⟩ := hC.ns
  cases ls with
  | nil => simp [okF] at hok
  | cons a r =>
    refine ⟨b, q, c, na, nn, nc, hC.nm, h1, h5, fun W tv n cs hb hO hn => ?_⟩
    refine (appendField_yes w.heap.size nm a r ns b q c _ tv n cs W hb.size h3 h2 (fun i u hi => (hb.cell (p := ⟨b, q + i, none⟩) h3).trans (h4 i u hi)) hO hn hs (by simp at l2; omega)).mono ?_
    rintro e w' ⟨v', rfl, k1, k2⟩
    obtain ⟨pa, c2, rfl⟩ := own_shape k1
    exact ⟨pa, c2, rfl, k1, hb.trans k2⟩

end Go.Proofs.YtiibobjbcgbknaaDoor
