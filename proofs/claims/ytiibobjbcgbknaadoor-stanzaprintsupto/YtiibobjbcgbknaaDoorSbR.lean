import Derived.Test.YtiibobjbcgbknaaDoorSbQ
namespace Go.Proofs.YtiibobjbcgbknaaDoor
open Go

theorem dw_idem (f : UInt8 → Bool) : ∀ l : Bs, (l.dropWhile f).dropWhile f = l.dropWhile f
  | [] => rfl
  | x :: r => by
    by_cases hx : f x = true
    · rw [List.dropWhile_cons_of_pos hx]; exact dw_idem f r
    · rw [List.dropWhile_cons_of_neg hx, List.dropWhile_cons_of_neg hx]
theorem trimR_idem (s : Bs) : Lib.trimRightS (Lib.trimRightS s bl2) bl2 = Lib.trimRightS s bl2 := by
  unfold Lib.trimRightS
  rw [List.reverse_reverse, dw_idem]
theorem trimR_mem {s : Bs} {c : UInt8} (h : c ∈ Lib.trimRightS s bl2) : c ∈ s := by
  unfold Lib.trimRightS at h
  exact List.mem_reverse.1 ((List.dropWhile_suffix (l := s.reverse) (bl2.contains ·)).subset (List.mem_reverse.1 h))
theorem trimR_le (s : Bs) : (Lib.trimRightS s bl2).length ≤ s.length := by
  unfold Lib.trimRightS
  rw [List.length_reverse]
  exact Nat.le_trans (List.dropWhile_suffix (l := s.reverse) (bl2.contains ·)).length_le (by simp)
theorem trimS_mem {s : Bs} {c : UInt8} (h : c ∈ Lib.trimS s bl2) : c ∈ s := by
  unfold Lib.trimS Lib.trimLeftS at h
  exact trimR_mem ((List.dropWhile_suffix (bl2.contains ·)).subset h)
theorem trimS_le (s : Bs) : (Lib.trimS s bl2).length ≤ s.length :=
  Nat.le_trans (List.dropWhile_suffix (l := Lib.trimRightS s bl2) (bl2.contains ·)).length_le (trimR_le s)
theorem trimS_idem (s : Bs) : Lib.trimS (Lib.trimS s bl2) bl2 = Lib.trimS s bl2 := by
  have hr : Lib.trimRightS (Lib.trimS s bl2) bl2 = Lib.trimS s bl2 := by
    by_cases h : Lib.trimS s bl2 = []
    · rw [h]; rfl
    · have hne : Lib.trimRightS s bl2 ≠ [] := fun e => h (by unfold Lib.trimS; rw [e]; rfl)
      obtain ⟨b, hb1, hb2⟩ := trimR_last _ hne (trimR_idem s)
      refine trimR_keep _ b hb2 ?_
      obtain ⟨t, ht⟩ := List.dropWhile_suffix (l := Lib.trimRightS s bl2) (bl2.contains ·)
      have : Lib.trimRightS s bl2 = t ++ Lib.trimS s bl2 := ht.symm
      rw [this, List.getLast?_append] at hb1
      cases e : (Lib.trimS s bl2).getLast? with
      | none => exact absurd (List.getLast?_eq_none_iff.1 e) h
      | some y => rw [e] at hb1; exact hb1
  show Lib.trimLeftS (Lib.trimRightS (Lib.trimS s bl2) bl2) bl2 = _
  rw [hr]
  show ((Lib.trimRightS s bl2).dropWhile (bl2.contains ·)).dropWhile (bl2.contains ·) = _
  rw [dw_idem]
  rfl
theorem odd_sub {a s : Bs} (h : ∀ c ∈ a, c ∈ s) (hs : oddL s = false) : oddL a = false := by
  unfold oddL at hs ⊢
  rw [List.any_eq_false] at hs ⊢
  exact fun c hc => hs c (h c hc)
theorem lineL_sub {a s : Bs} (h : ∀ c ∈ a, c ∈ s) (hs : oddL s = false) (h10 : (10 : UInt8) ∉ s) : lineL a = true := by
  unfold lineL
  rw [odd_sub h hs]
  simp
  exact fun e => h10 (h _ e)
theorem fur_of {s : Bs} (hk : kd s = 2) (hs : oddL s = false) (h10 : (10 : UInt8) ∉ s) : furL (Lib.trimRightS (s.drop 1) bl2) = true := by
  unfold furL
  rw [lineL_sub (s := s) (fun c hc => List.mem_of_mem_drop (trimR_mem hc)) hs h10, trimR_idem]
  simp
  intro e
  unfold kd at hk
  by_cases ht : Lib.trimS s bl2 = []
  · rw [if_pos ht] at hk; cases hk
  · rw [if_neg ht] at hk
    cases s with
    | nil => cases hk
    | cons b r =>
      have hb : bl2.contains b = true := by
        simp only at hk
        rw [blank_iff]
        by_cases h1 : b = 35
        · rw [if_pos h1] at hk; cases hk
        · rw [if_neg h1] at hk
          by_cases h2 : b = 32
          · exact Or.inl h2
          · rw [if_neg h2] at hk
            by_cases h3 : b = 9
            · exact Or.inr h3
            · rw [if_neg h3] at hk; cases hk
      apply ht
      have hall : ∀ c ∈ r, bl2.contains c = true := fun c hc => by
        have : (r.reverse.dropWhile (bl2.contains ·)) = [] := by
          unfold Lib.trimRightS at e
          simpa using e
        exact dropW_nil _ _ this c (List.mem_reverse.2 hc)
      unfold Lib.trimS Lib.trimLeftS Lib.trimRightS
      have : ((b :: r).reverse.dropWhile (bl2.contains ·)) = [] := by
        have hg : ∀ l : Bs, (∀ c ∈ l, bl2.contains c = true) → l.dropWhile (bl2.contains ·) = [] := by
          intro l
          induction l with
          | nil => intro _; rfl
          | cons x y ih =>
            intro h
            rw [List.dropWhile_cons_of_pos (h x List.mem_cons_self)]
            exact ih fun c hc => h c (List.mem_cons_of_mem _ hc)
        refine hg _ fun c hc => ?_
        rcases List.mem_cons.1 (List.mem_reverse.1 hc) with rfl | h
        · exact hb
        · exact hall c h
      rw [this]
      rfl
theorem hasN_nm (p q : List Fd) (n : Bs) (h : p.map Fd.nm = q.map Fd.nm) : hasN p n = hasN q n := by
  have : ∀ p : List Fd, hasN p n = (p.map Fd.nm).any fun m => decide (small m = small n) := fun p => by simp [hasN, Function.comp_def]
  rw [this, this, h]
theorem apartN_nm : ∀ (p q : List Fd), p.map Fd.nm = q.map Fd.nm → apartN p = apartN q
  | [], [], _ => rfl
  | [], _ :: _, h => by simp at h
  | _ :: _, [], h => by simp at h
  | f :: p, g :: q, h => by
    simp only [List.map_cons, List.cons.injEq] at h
    unfold apartN
    rw [h.1, hasN_nm p q _ h.2, apartN_nm p q h.2]
theorem apartN_snoc (f : Fd) : ∀ p : List Fd, apartN p = true → hasN p f.nm = false → apartN (p ++ [f]) = true
  | [], _, _ => rfl
  | g :: r, h1, h2 => by
    simp only [apartN, Bool.and_eq_true, Bool.not_eq_true'] at h1
    have h3 := hasN_false.1 h2
    show (!(hasN (r ++ [f]) g.nm) && apartN (r ++ [f])) = true
    rw [hasN_app, h1.1, apartN_snoc f r h1.2 (hasN_false.2 fun x hx => h3 x (List.mem_cons_of_mem _ hx))]
    have : small f.nm ≠ small g.nm := fun e => h3 g List.mem_cons_self e.symm
    simp [hasN, this]

/-- WHAT HAS BEEN READ, AND ITS WEIGHT. -/
def OkS (st : St) : Prop := (∀ p ∈ st.all, okP p = true) ∧ st.p.all okF = true ∧ apartN st.p = true
def wtL : List (List Fd) → Nat
  | [] => 0
  | p :: r => (parT p).length + 1 + wtL r
def wtS (st : St) : Nat := wtL st.all + (parT st.p).length
theorem wtL_app : ∀ (a b : List (List Fd)), wtL (a ++ b) = wtL a + wtL b
  | [], b => by simp [wtL]
  | p :: r, b => by
    show (parT p).length + 1 + wtL (r ++ b) = (parT p).length + 1 + wtL r + wtL b
    rw [wtL_app r b]; omega
theorem prR_wt : ∀ ps, (prR ps).length = wtL ps
  | [] => rfl
  | p :: r => by
    show (10 :: (parT p ++ prR r)).length = (parT p).length + 1 + wtL r
    rw [List.length_cons, List.length_append, prR_wt r]; omega
theorem prT_wt (ps : List (List Fd)) : (prT ps).length ≤ wtL ps := by
  cases ps with
  | nil => exact Nat.le_refl _
  | cons p r =>
    show (parT p ++ prR r).length ≤ (parT p).length + 1 + wtL r
    rw [List.length_append, prR_wt r]; omega
theorem parT_app (p q : List Fd) : parT (p ++ q) = parT p ++ parT q := by simp [parT]
theorem parT_one (f : Fd) : parT [f] = fldT f := by simp [parT]
theorem shut_ok {st : St} (h : OkS st) : (∀ p ∈ shut st, okP p = true) ∧ wtL (shut st) ≤ wtS st + 1 := by
  unfold shut
  by_cases hp : st.p.length = 0
  · rw [if_pos hp]
    exact ⟨h.1, by unfold wtS; omega⟩
  · rw [if_neg hp]
    refine ⟨fun p hm => ?_, ?_⟩
    · rcases List.mem_append.1 hm with hm | hm
      · exact h.1 p hm
      · rw [List.mem_singleton.1 hm]
        have hne : st.p ≠ [] := by simpa using hp
        simp [okP, h.2.1, h.2.2, hne]
    · rw [wtL_app]
      show wtL st.all + ((parT st.p).length + 1 + 0) ≤ _
      unfold wtS; omega
theorem stp_keep (st : St) (k : Nat) (s : Bs) (h10 : (10 : UInt8) ∉ s) (h : OkS st) : OkS (stp st (k, s)) ∧ wtS (stp st (k, s)) ≤ wtS st + s.length + 4 := by
  obtain ⟨all, p, er⟩ := st
  cases er with
  | some x => exact ⟨h, by show wtS _ ≤ _; unfold stp; simp; omega⟩
  | none =>
    obtain ⟨h1, h2, h3⟩ := h
    simp only at h1 h2 h3
    by_cases hk0 : kd s = 0
    · have hs : stp ⟨all, p, none⟩ (k, s) = ⟨shut ⟨all, p, none⟩, [], none⟩ := by simp [stp, hk0]
      obtain ⟨s1, s2⟩ := shut_ok (st := ⟨all, p, none⟩) ⟨h1, h2, h3⟩
      rw [hs]
      refine ⟨⟨s1, rfl, rfl⟩, ?_⟩
      show wtL (shut ⟨all, p, none⟩) + (parT []).length ≤ _
      have : (parT []).length = 0 := rfl
      omega
    · by_cases ht : (takeP p k s).1 = 0
      · have hs : stp ⟨all, p, none⟩ (k, s) = ⟨all, (takeP p k s).2, none⟩ := by simp [stp, hk0, ht]
        rw [hs]
        have key : (takeP p k s).2.all okF = true ∧ apartN (takeP p k s).2 = true ∧ (parT (takeP p k s).2).length ≤ (parT p).length + s.length + 4 := by
          unfold takeP at ht ⊢
          cases ho : oddL s with
          | true => rw [ho, if_pos rfl] at ht; cases ht
          | false =>
            rw [ho, if_neg (by decide)] at ht
            rw [if_neg (by decide)]
            by_cases h2k : kd s = 2
            · rw [if_pos h2k] at ht ⊢
              unfold goP at ht ⊢
              by_cases hl : p.length = 0
              · rw [if_pos hl] at ht; cases ht
              · rw [if_neg hl]
                obtain ⟨p', f, rfl⟩ : ∃ p' f, p = p' ++ [f] := by
                  rcases List.eq_nil_or_concat p with e | ⟨a, b, e⟩
                  · rw [e] at hl; exact absurd rfl hl
                  · exact ⟨a, b, by rw [e]; simp⟩
                rw [extL_end]
                have hfu := fur_of h2k ho h10
                rw [List.all_append, Bool.and_eq_true] at h2
                have hf : okF f = true := by simpa using h2.2
                have hnm : (p' ++ [(⟨f.nm, f.ls ++ [Lib.trimRightS (s.drop 1) bl2], f.ns ++ [k]⟩ : Fd)]).map Fd.nm = (p' ++ [f]).map Fd.nm := by simp
                have hdl : (Lib.trimRightS (s.drop 1) bl2).length ≤ s.length := Nat.le_trans (trimR_le _) (by simp)
                generalize Lib.trimRightS (s.drop 1) bl2 = x at *
                obtain ⟨nm, ls, ns⟩ := f
                simp only [okF, Bool.and_eq_true] at hf
                cases ls with
                | nil => exact absurd hf.2 (by simp)
                | cons a r =>
                  simp only [Bool.and_eq_true] at hf
                  refine ⟨?_, (apartN_nm _ _ hnm).trans h3, ?_⟩
                  · rw [List.all_append, h2.1]
                    simp [okF, hf.1, hf.2.1, hfu]
                    exact fun y hy => List.all_eq_true.1 hf.2.2 y hy
                  · rw [parT_app, parT_app, parT_one, parT_one]
                    have : fldT ⟨nm, (a :: r) ++ [x], ns ++ [k]⟩ = fldT ⟨nm, a :: r, ns⟩ ++ (32 :: x ++ [10]) := by
                      simp [fldT, linF]
                    show (parT p' ++ fldT ⟨nm, (a :: r) ++ [x], ns ++ [k]⟩).length ≤ _
                    rw [this]
                    simp only [List.length_append, List.length_cons, List.length_nil]
                    omega
            · rw [if_neg h2k] at ht ⊢
              by_cases h3k : kd s = 3
              · rw [if_pos h3k] at ht ⊢
                unfold beP at ht ⊢
                by_cases hc : (decide ((58 : UInt8) ∈ s) && nameL (bef 58 s)) = true
                · rw [if_pos hc] at ht ⊢
                  simp only [Bool.and_eq_true, decide_eq_true_eq] at hc
                  cases hh : hasN p (bef 58 s) with
                  | true => rw [hh, if_pos rfl] at ht; cases ht
                  | false =>
                    rw [if_neg (by decide)]
                    obtain ⟨i1, i2, i3⟩ := (idx1 58 s).2 hc.1
                    have hlen : (bef 58 s).length + 1 + (aft 58 s).length = s.length := by
                      rw [← i3, List.length_drop]
                      have : (bef 58 s).length < s.length := by
                        by_cases hlt : (bef 58 s).length < s.length
                        · exact hlt
                        · exfalso
                          have hb := bef_le 58 s
                          have e : bef 58 s = s := by rw [← i2]; exact List.take_of_length_le (by omega)
                          have hm := hc.1
                          rw [← e] at hm
                          exact (nmB_parts ((nameL_parts hc.2).choose_spec.choose_spec.2.2.2 _ hm)).1 rfl
                      omega
                    have hsub : ∀ c ∈ Lib.trimS (aft 58 s) bl2, c ∈ s := fun c hc => by
                      have := trimS_mem hc
                      rw [← i3] at this
                      exact List.mem_of_mem_drop this
                    have hfir : firL (Lib.trimS (aft 58 s) bl2) = true := by
                      unfold firL
                      rw [lineL_sub hsub ho h10, trimS_idem]
                      simp
                    have hvl := trimS_le (aft 58 s)
                    generalize Lib.trimS (aft 58 s) bl2 = v at *
                    refine ⟨?_, apartN_snoc _ _ h3 hh, ?_⟩
                    · rw [List.all_append, h2]
                      simp [okF, hc.2, hfir]
                    · rw [parT_app, parT_one]
                      have : (fldT ⟨bef 58 s, [v], [k]⟩).length ≤ (bef 58 s).length + v.length + 3 := by
                        simp only [fldT, linF, headL, List.map_nil, List.flatMap_cons, List.flatMap_nil, List.append_nil, List.length_append, List.length_cons, List.length_nil]
                        split
                        · simp only [List.length_nil]; omega
                        · simp only [List.length_cons]; omega
                      rw [List.length_append]
                      omega
                · rw [if_neg hc] at ht; cases ht
              · rw [if_neg h3k]
                exact ⟨h2, h3, by show (parT p).length ≤ _; omega⟩
        refine ⟨⟨h1, key.1, key.2.1⟩, ?_⟩
        show wtL all + (parT (takeP p k s).2).length ≤ wtL all + (parT p).length + s.length + 4
        have := key.2.2
        omega
      · have hs : stp ⟨all, p, none⟩ (k, s) = ⟨all, p, some (k, (takeP p k s).1)⟩ := by simp [stp, hk0, ht]
        rw [hs]
        exact ⟨⟨h1, h2, h3⟩, by show wtL all + (parT p).length ≤ wtL all + (parT p).length + s.length + 4; omega⟩
def sumL : List Bs → Nat
  | [] => 0
  | l :: r => l.length + 4 + sumL r
theorem run_keep : ∀ (L : List Bs) (k : Nat) (st : St), (∀ l ∈ L, (10 : UInt8) ∉ l) → OkS st → OkS ((numb k L).foldl stp st) ∧ wtS ((numb k L).foldl stp st) ≤ wtS st + sumL L
  | [], k, st, _, h => ⟨h, Nat.le_refl _⟩
  | l :: L, k, st, h10, h => by
    obtain ⟨h1, h2⟩ := stp_keep st k l (h10 l List.mem_cons_self) h
    obtain ⟨h3, h4⟩ := run_keep L (k + 1) (stp st (k, l)) (fun x hx => h10 x (List.mem_cons_of_mem _ hx)) h1
    refine ⟨h3, ?_⟩
    show wtS ((numb (k + 1) L).foldl stp (stp st (k, l))) ≤ wtS st + (l.length + 4 + sumL L)
    omega
theorem lines_sum (n : Nat) : ∀ t : Bs, t.length ≤ n → sumL (linesL t) ≤ 5 * t.length ∧ ∀ l ∈ linesL t, (10 : UInt8) ∉ l := by
  induction n with
  | zero =>
    intro t h
    have : t = [] := List.length_eq_zero_iff.1 (by omega)
    subst this
    exact ⟨by simp [linesL_nil, sumL], fun l hl => by cases hl⟩
  | succ n ih =>
    intro t h
    by_cases ht : t = []
    · subst ht; exact ⟨by simp [linesL_nil, sumL], fun l hl => by cases hl⟩
    · rw [linesL_cons t ht]
      have hlt := aft_lt 10 t ht
      obtain ⟨i1, i2⟩ := ih (aft 10 t) (by omega)
      refine ⟨?_, fun l hl => ?_⟩
      · show (bef 10 t).length + 4 + sumL (linesL (aft 10 t)) ≤ _
        have h0 : 0 < t.length := by cases t with | nil => exact absurd rfl ht | cons a b => simp
        have hb := bef_le 10 t
        by_cases hm : (10 : UInt8) ∈ t
        · obtain ⟨j1, j2, j3⟩ := (idx1 10 t).2 hm
          have hl : (aft 10 t).length = t.length - ((bef 10 t).length + 1) := by rw [← j3, List.length_drop]
          omega
        · obtain ⟨_, j2, j3⟩ := (idx1 10 t).1 hm
          rw [j3] at i1 ⊢
          simp only [List.length_nil] at i1
          rw [j2]
          omega
      · rcases List.mem_cons.1 hl with rfl | hl
        · exact bef_no t
        · exact i2 l hl
/-- WHAT IS READ MAY BE PRINTED, AND IS NOT MUCH LONGER. -/
theorem parse_ok (t : Bs) : (∀ p ∈ shut (parseT t), okP p = true) ∧ (prT (shut (parseT t))).length ≤ 5 * t.length + 1 := by
  obtain ⟨h1, h2⟩ := lines_sum t.length t (Nat.le_refl _)
  obtain ⟨h3, h4⟩ := run_keep (linesL t) 1 st0 h2 ⟨(fun p hp => by cases hp), rfl, rfl⟩
  obtain ⟨h5, h6⟩ := shut_ok h3
  refine ⟨h5, ?_⟩
  have h7 := prT_wt (shut (parseT t))
  have h8 : wtS st0 = 0 := rfl
  have h9 : wtL (shut (parseT t)) ≤ wtS (parseT t) + 1 := h6
  have h10 : wtS (parseT t) ≤ wtS st0 + sumL (linesL t) := h4
  omega

end Go.Proofs.YtiibobjbcgbknaaDoor
