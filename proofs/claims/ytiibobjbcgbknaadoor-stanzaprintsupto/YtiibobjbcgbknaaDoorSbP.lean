import Derived.Test.YtiibobjbcgbknaaDoorStU
namespace Go.Proofs.YtiibobjbcgbknaaDoor
open Go

/-- WHAT MAY BE PRINTED. -/
def lineL (s : Bs) : Bool := !oddL s && decide ((10 : UInt8) ∉ s)
def firL (s : Bs) : Bool := lineL s && decide (Lib.trimS s bl2 = s)
def furL (s : Bs) : Bool := lineL s && (decide (s ≠ []) && decide (Lib.trimRightS s bl2 = s))
def okF (f : Fd) : Bool := nameL f.nm && match f.ls with
  | [] => false
  | a :: r => firL a && r.all furL
def apartN : List Fd → Bool
  | [] => true
  | f :: r => !(hasN r f.nm) && apartN r
def okP (p : List Fd) : Bool := p.all okF && (decide (p ≠ []) && apartN p)
/-- WHAT IS PRINTED. -/
def headL (nm a : Bs) : Bs := nm ++ 58 :: (if a = [] then [] else 32 :: a)
def linF (f : Fd) : List Bs := match f.ls with
  | [] => []
  | a :: r => headL f.nm a :: r.map (fun l => 32 :: l)
def fldT (f : Fd) : Bs := (linF f).flatMap fun l => l ++ [10]
def parT (p : List Fd) : Bs := p.flatMap fldT
def prR : List (List Fd) → Bs
  | [] => []
  | p :: r => 10 :: (parT p ++ prR r)
def prT : List (List Fd) → Bs
  | [] => []
  | p :: r => parT p ++ prR r
def er (f : Fd) : Bs × List Bs := (f.nm, f.ls)

theorem blank_iff (b : UInt8) : bl2.contains b = true ↔ b = 32 ∨ b = 9 := by
  simp [bl2]

theorem dropW_nil (f : UInt8 → Bool) : ∀ l : Bs, l.dropWhile f = [] → ∀ c ∈ l, f c = true
  | [], _, _, h => by cases h
  | x :: r, h, c, hc => by
    by_cases hx : f x = true
    · rw [List.dropWhile_cons_of_pos hx] at h
      rcases List.mem_cons.1 hc with rfl | h'
      · exact hx
      · exact dropW_nil f r h c h'
    · rw [List.dropWhile_cons_of_neg hx] at h
      cases h

theorem trimR_last (s : Bs) (h : s ≠ []) (ht : Lib.trimRightS s bl2 = s) : ∃ b, s.getLast? = some b ∧ bl2.contains b = false := by
  obtain ⟨b, r, hr⟩ : ∃ b r, s.reverse = b :: r := by
    cases e : s.reverse with
    | nil => exact absurd (List.reverse_eq_nil_iff.1 e) h
    | cons b r => exact ⟨b, r, rfl⟩
  refine ⟨b, by rw [← List.head?_reverse, hr]; rfl, ?_⟩
  by_cases hb : bl2.contains b = true
  · have h2 : (s.reverse.dropWhile (bl2.contains ·)).length = s.reverse.length := by
      have := congrArg List.length ht
      unfold Lib.trimRightS at this
      rw [List.length_reverse] at this
      rw [this, List.length_reverse]
    have h3 : (s.reverse.dropWhile (bl2.contains ·)) = r.dropWhile (bl2.contains ·) := by rw [hr, List.dropWhile_cons_of_pos hb]
    have h4 := (List.dropWhile_suffix (l := r) (bl2.contains ·)).length_le
    have h5 : s.reverse.length = r.length + 1 := by rw [hr]; rfl
    rw [h3, h5] at h2
    omega
  · simpa using hb
theorem trimR_keep (s : Bs) (b : UInt8) (hb : bl2.contains b = false) (hs : s.getLast? = some b) : Lib.trimRightS s bl2 = s := by
  unfold Lib.trimRightS
  rw [← List.head?_reverse] at hs
  cases e : s.reverse with
  | nil => rw [e] at hs; cases hs
  | cons c r =>
    rw [e] at hs
    cases hs
    rw [List.dropWhile_cons_of_neg (by rw [hb]; decide), ← e, List.reverse_reverse]
theorem trimS_ne (s : Bs) (b : UInt8) (hm : b ∈ s) (hb : bl2.contains b = false) : Lib.trimS s bl2 ≠ [] := by
  intro h
  unfold Lib.trimS Lib.trimLeftS at h
  have h1 : ∀ c ∈ Lib.trimRightS s bl2, bl2.contains c = true := by
    intro c hc
    exact dropW_nil _ _ h c hc
  have h3 : ∀ (l : Bs), b ∈ l → b ∈ l.dropWhile (bl2.contains ·) := by
    intro l
    induction l with
    | nil => intro h; cases h
    | cons x r ih =>
      intro hx
      by_cases hxb : bl2.contains x = true
      · rw [List.dropWhile_cons_of_pos hxb]
        rcases List.mem_cons.1 hx with rfl | h'
        · rw [hb] at hxb; cases hxb
        · exact ih h'
      · rw [List.dropWhile_cons_of_neg hxb]; exact hx
  have h2 : b ∈ Lib.trimRightS s bl2 := by
    unfold Lib.trimRightS
    exact List.mem_reverse.2 (h3 _ (List.mem_reverse.2 hm))
  rw [h1 b h2] at hb
  cases hb
theorem trimS_sp (a : Bs) (h : Lib.trimS a bl2 = a) (hn : a ≠ []) : Lib.trimS (32 :: a) bl2 = a := by
  have hr : Lib.trimRightS a bl2 = a := by
    have l1 : (Lib.trimRightS a bl2).length ≤ a.length := by
      unfold Lib.trimRightS
      rw [List.length_reverse]
      exact Nat.le_trans (List.dropWhile_suffix (l := a.reverse) (bl2.contains ·)).length_le (by simp)
    have l2 : (Lib.trimS a bl2).length ≤ (Lib.trimRightS a bl2).length := (List.dropWhile_suffix (l := Lib.trimRightS a bl2) (bl2.contains ·)).length_le
    rw [h] at l2
    unfold Lib.trimRightS
    have e1 : (a.reverse.dropWhile (bl2.contains ·)) = a.reverse := (List.dropWhile_suffix (l := a.reverse) (bl2.contains ·)).eq_of_length (by
      unfold Lib.trimRightS at l1 l2
      rw [List.length_reverse] at l1 l2 ⊢
      omega)
    rw [e1, List.reverse_reverse]
  obtain ⟨b, hb1, hb2⟩ := trimR_last a hn hr
  have hr2 : Lib.trimRightS (32 :: a) bl2 = 32 :: a := trimR_keep _ b hb2 (by rw [List.getLast?_cons, hb1]; rfl)
  unfold Lib.trimS
  rw [hr2]
  show (32 :: a).dropWhile (bl2.contains ·) = a
  rw [List.dropWhile_cons_of_pos (by decide)]
  have h2 := h
  unfold Lib.trimS at h2
  rw [hr] at h2
  exact h2

theorem bef_cut (c : UInt8) : ∀ (a X : Bs), c ∉ a → bef c (a ++ c :: X) = a ∧ aft c (a ++ c :: X) = X
  | [], X, _ => by simp [bef, aft]
  | b :: a, X, h => by
    have hb : b ≠ c := fun e => h (by rw [e]; exact List.mem_cons_self)
    obtain ⟨h1, h2⟩ := bef_cut c a X (fun h' => h (List.mem_cons_of_mem _ h'))
    simp [bef, aft, hb, h1, h2]

theorem nameL_parts {s : Bs} (h : nameL s = true) : ∃ b r, s = b :: r ∧ b ≠ 35 ∧ b.toNat ≠ 45 ∧ ∀ c ∈ s, nmB c = true := by
  cases s with
  | nil => cases h
  | cons b r =>
    simp only [nameL, Bool.and_eq_true, decide_eq_true_eq] at h
    obtain ⟨_, h1, h2, h3⟩ := h
    exact ⟨b, r, rfl, fun e => h1 (by rw [e]; rfl), h2, fun c hc => List.all_eq_true.1 h3 c hc⟩
theorem nmB_parts {c : UInt8} (h : nmB c = true) : c ≠ 58 ∧ c ≠ 32 ∧ c ≠ 9 ∧ c ≠ 10 ∧ oddB c = false := by
  simp only [nmB, Bool.and_eq_true, decide_eq_true_eq] at h
  refine ⟨fun e => ?_, fun e => ?_, fun e => ?_, fun e => ?_, ?_⟩
  · subst e; exact h.2.2 rfl
  · subst e; exact absurd h.1 (by decide)
  · subst e; exact absurd h.1 (by decide)
  · subst e; exact absurd h.1 (by decide)
  · unfold oddB
    have h1 : ¬ c.toNat < 32 := by omega
    have h2 : ¬ c.toNat = 127 := by omega
    simp [h1, h2]

theorem oddL_app (a b : Bs) : oddL (a ++ b) = (oddL a || oddL b) := by simp [oddL]
theorem lineL_parts {s : Bs} (h : lineL s = true) : oddL s = false ∧ (10 : UInt8) ∉ s := by
  simpa [lineL] using h

/-- A FIELD'S FIRST LINE, READ. -/
theorem head_read (p : List Fd) (k : Nat) (nm a : Bs) (hn : nameL nm = true) (ha : firL a = true) (hh : hasN p nm = false) :
    kd (headL nm a) ≠ 0 ∧ takeP p k (headL nm a) = (0, p ++ [⟨nm, [a], [k]⟩]) ∧ (10 : UInt8) ∉ headL nm a := by
  obtain ⟨b, r, rfl, hb35, _, hall⟩ := nameL_parts hn
  obtain ⟨hb58, hb32, hb9, _, _⟩ := nmB_parts (hall b List.mem_cons_self)
  have hbl : bl2.contains b = false := by
    cases e : bl2.contains b with
    | false => rfl
    | true => rcases (blank_iff b).1 e with h | h <;> contradiction
  simp only [firL, Bool.and_eq_true, decide_eq_true_eq] at ha
  obtain ⟨hl, htr⟩ := ha
  obtain ⟨ho, h10⟩ := lineL_parts hl
  have h58 : (58 : UInt8) ∉ (b :: r) := fun h => (nmB_parts (hall _ h)).1 rfl
  have hodd : oddL (b :: r) = false := by
    unfold oddL
    rw [List.any_eq_false]
    intro c hc
    simp [(nmB_parts (hall c hc)).2.2.2.2]
  have ht0 : Lib.trimS (headL (b :: r) a) bl2 ≠ [] := trimS_ne _ b (by simp [headL]) hbl
  have hkd : kd (headL (b :: r) a) = 3 := by
    unfold kd
    rw [if_neg ht0]
    simp [headL, hb35, hb32, hb9]
  have hoh : oddL (headL (b :: r) a) = false := by
    unfold headL
    rw [oddL_app, hodd]
    split
    · rfl
    · show (false || oddL (58 :: 32 :: a)) = false
      have : oddL (58 :: 32 :: a) = (oddB 58 || (oddB 32 || oddL a)) := rfl
      rw [this, ho]
      rfl
  have hb := bef_cut 58 (b :: r) (if a = [] then [] else 32 :: a) h58
  have htv : Lib.trimS (if a = [] then [] else 32 :: a) bl2 = a := by
    by_cases h : a = []
    · rw [if_pos h, h]; rfl
    · rw [if_neg h]; exact trimS_sp a htr h
  refine ⟨by rw [hkd]; decide, ?_, ?_⟩
  · unfold takeP
    rw [hoh, if_neg (by decide), hkd, if_neg (by decide), if_pos rfl]
    unfold beP
    have hm : (58 : UInt8) ∈ headL (b :: r) a := by simp [headL]
    show (if decide (58 ∈ headL (b :: r) a) && nameL (bef 58 (headL (b :: r) a)) then _ else _) = _
    rw [show bef 58 (headL (b :: r) a) = b :: r from hb.1, show aft 58 (headL (b :: r) a) = _ from hb.2, hn, hh, htv]
    simp [hm]
  · unfold headL
    intro h
    rcases List.mem_append.1 h with h | h
    · exact (nmB_parts (hall _ h)).2.2.2.1 rfl
    · rcases List.mem_cons.1 h with h | h
      · cases h
      · split at h
        · cases h
        · rcases List.mem_cons.1 h with h | h
          · cases h
          · exact h10 h
theorem fur_read (p : List Fd) (k : Nat) (l : Bs) (hl : furL l = true) (hp : p ≠ []) :
    kd (32 :: l) ≠ 0 ∧ takeP p k (32 :: l) = (0, extL k (32 :: l) p) ∧ Lib.trimRightS l bl2 = l ∧ (10 : UInt8) ∉ (32 :: l) := by
  simp only [furL, Bool.and_eq_true, decide_eq_true_eq] at hl
  obtain ⟨hli, hne, htr⟩ := hl
  obtain ⟨ho, h10⟩ := lineL_parts hli
  obtain ⟨b, hb1, hb2⟩ := trimR_last l hne htr
  have ht0 : Lib.trimS (32 :: l) bl2 ≠ [] := trimS_ne _ b (List.mem_cons_of_mem _ (List.mem_of_getLast? hb1)) hb2
  have hkd : kd (32 :: l) = 2 := by
    unfold kd
    rw [if_neg ht0]
    simp
  have hoh : oddL (32 :: l) = false := by
    have : oddL (32 :: l) = (oddB 32 || oddL l) := rfl
    rw [this, ho]; rfl
  refine ⟨by rw [hkd]; decide, ?_, htr, ?_⟩
  · unfold takeP
    rw [hoh, if_neg (by decide), hkd, if_pos rfl]
    unfold goP
    rw [if_neg (by simpa using hp)]
  · intro h
    rcases List.mem_cons.1 h with h | h
    · cases h
    · exact h10 h

end Go.Proofs.YtiibobjbcgbknaaDoor
