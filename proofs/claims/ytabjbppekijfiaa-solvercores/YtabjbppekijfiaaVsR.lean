import Derived.Test.YtabjbppekijfiaaVsQ
namespace Go.Proofs.Ytabjbppekijfiaa
open Go.RowKit

/-- WHERE THE SEARCH STANDS. -/
structure Sx where
  tr : List Int
  tu : List (Nat × Nat)
  lk : Nat
/-- THE FIRST PLACE OF prefer, FROM k ON, THAT IS OPEN. -/
def lkR (tr : List Int) (f : Nat → Int) : Nat → Nat → Nat
  | 0, k => k
  | r + 1, k => if stn tr (f k) = 0 then k else lkR tr f r (k + 1)
def Pb.lk (P : Pb) (tr : List Int) (k : Nat) : Nat := lkR tr P.f (P.m - k) k
theorem Pb.lk_more (P : Pb) (tr : List Int) (k : Nat) (hk : k < P.m) (h : stn tr (P.f k) ≠ 0) : P.lk tr k = P.lk tr (k + 1) := by
  unfold Pb.lk
  rw [show P.m - k = (P.m - (k + 1)) + 1 by omega]
  show (if stn tr (P.f k) = 0 then k else lkR tr P.f (P.m - (k + 1)) (k + 1)) = _
  rw [if_neg h]
theorem Pb.lk_here (P : Pb) (tr : List Int) (k : Nat) (hk : k < P.m) (h : stn tr (P.f k) = 0) : P.lk tr k = k := by
  unfold Pb.lk
  rw [show P.m - k = (P.m - (k + 1)) + 1 by omega]
  show (if stn tr (P.f k) = 0 then k else lkR tr P.f (P.m - (k + 1)) (k + 1)) = _
  rw [if_pos h]
theorem Pb.lk_end (P : Pb) (tr : List Int) (k : Nat) (hk : P.m ≤ k) : P.lk tr k = k := by
  unfold Pb.lk
  rw [show P.m - k = 0 by omega]
  rfl
theorem Pb.lk_spec (P : Pb) (tr : List Int) : ∀ r k, P.m - k ≤ r → k ≤ P.m → k ≤ P.lk tr k ∧ P.lk tr k ≤ P.m ∧ (∀ i, k ≤ i → i < P.lk tr k → stn tr (P.f i) ≠ 0) ∧ (P.lk tr k < P.m → stn tr (P.f (P.lk tr k)) = 0)
  | 0, k, h, hk => by
    rw [P.lk_end tr k (by omega)]
    exact ⟨Nat.le_refl _, hk, fun i a b => by omega, fun h => by omega⟩
  | r + 1, k, h, hk => by
    by_cases e : k < P.m
    · by_cases q : stn tr (P.f k) = 0
      · rw [P.lk_here tr k e q]
        exact ⟨Nat.le_refl _, hk, fun i a b => by omega, fun _ => q⟩
      · rw [P.lk_more tr k e q]
        obtain ⟨a, b, c, d⟩ := P.lk_spec tr r (k + 1) (by omega) (by omega)
        refine ⟨by omega, b, fun i h1 h2 => ?_, d⟩
        by_cases z : i = k
        · subst z; exact q
        · exact c i (by omega) h2
    · rw [P.lk_end tr k (by omega)]
      exact ⟨Nat.le_refl _, hk, fun i a b => by omega, fun h => by omega⟩
/-- ONE ROUND. -/
inductive Ou where
  | done (v : Int)
  | next (s : Sx)
def Pb.dl (P : Pb) (s : Sx) : Int := if P.lk s.tr s.lk < P.m then P.f (P.lk s.tr s.lk) else (P.sc s.tr P.N).2
def Pb.step (P : Pb) (s : Sx) : Ou :=
  if P.ff s.tr ≠ -1 then
    match s.tu.getLast? with
    | none => .done 2
    | some t => .next ⟨s.tr.take t.1 ++ [-(s.tr.getD t.1 0)], s.tu.dropLast, t.2⟩
  else if (P.sc s.tr P.N).1 ≠ 0 then .next ⟨s.tr ++ [(P.sc s.tr P.N).1], s.tu, s.lk⟩
  else if P.dl s = 0 then .done 1
  else .next ⟨s.tr ++ [P.dl s], s.tu ++ [(s.tr.length, P.lk s.tr s.lk)], P.lk s.tr s.lk⟩
/-- WHAT HOLDS THROUGHOUT. -/
structure Iv (P : Pb) (s : Sx) : Prop where
  ok : ∀ l ∈ s.tr, okL P.n l = true
  nd : Nd s.tr
  pl : ∀ t ∈ s.tu, t.1 < s.tr.length ∧ t.2 ≤ P.m
  up : s.tu.Pairwise (fun a b => a.1 < b.1)
  lk : s.lk ≤ P.m
theorem Iv.start (P : Pb) : Iv P ⟨[], [], 0⟩ := ⟨by simp, by simp [Nd], by simp, by simp, Nat.zero_le _⟩
theorem Pb.unit_ok {P : Pb} (h : P.Ok) {tr : List Int} (hu : (P.sc tr P.N).1 ≠ 0) : okL P.n (P.sc tr P.N).1 = true ∧ stn tr (P.sc tr P.N).1 = 0 := by
  obtain ⟨i, hi, _, _, e⟩ := P.sc_unit tr P.N hu
  rw [e] at hu ⊢
  rcases acc_open tr (P.L i) (P.ln i) with q | ⟨j, hj, q1, q2⟩
  · exact absurd q hu
  · rw [show (P.ac tr i).o = P.L i j from q1]
    exact ⟨h.cl i hi j hj, q2⟩
theorem Pb.press_ok {P : Pb} (h : P.Ok) {tr : List Int} (hu : (P.sc tr P.N).2 ≠ 0) : okL P.n (P.sc tr P.N).2 = true ∧ stn tr (P.sc tr P.N).2 = 0 := by
  obtain ⟨i, hi, _, _, e⟩ := P.sc_press tr P.N hu
  rw [e] at hu ⊢
  rcases acc_open tr (P.L i) (P.ln i) with q | ⟨j, hj, q1, q2⟩
  · exact absurd q hu
  · rw [show (P.ac tr i).o = P.L i j from q1]
    exact ⟨h.cl i hi j hj, q2⟩
theorem Pb.dl_ok {P : Pb} (h : P.Ok) {s : Sx} (hl : s.lk ≤ P.m) (hu : P.dl s ≠ 0) : okL P.n (P.dl s) = true ∧ stn s.tr (P.dl s) = 0 := by
  unfold Pb.dl at *
  by_cases e : P.lk s.tr s.lk < P.m
  · rw [if_pos e]
    exact ⟨h.pf _ e, (P.lk_spec s.tr _ s.lk (Nat.le_refl _) hl).2.2.2 e⟩
  · rw [if_neg e] at hu ⊢
    exact P.press_ok h hu
theorem ok_snoc {n : Int} {tr : List Int} {l : Int} (h : ∀ x ∈ tr, okL n x = true) (hl : okL n l = true) : ∀ x ∈ tr ++ [l], okL n x = true := fun x hx => by
  rcases List.mem_append.1 hx with q | q
  · exact h x q
  · rw [List.mem_singleton.1 q]; exact hl
theorem getLast_app {α : Type} {l : List α} {t : α} (h : l.getLast? = some t) : l = l.dropLast ++ [t] := by
  cases l with
  | nil => cases h
  | cons a r =>
    rw [List.getLast?_eq_some_getLast (by simp)] at h
    cases h
    exact (List.dropLast_concat_getLast (by simp)).symm
theorem okL_neg {n l : Int} (h : okL n l = true) : okL n (-l) = true := by
  rw [okL_iff] at *
  omega
/-- Behind a step back. -/
theorem back_open {P : Pb} {s : Sx} (h : Iv P s) {t : Nat × Nat} (ht : t ∈ s.tu) : stn (s.tr.take t.1) (-(s.tr.getD t.1 0)) = 0 ∧ okL P.n (s.tr.getD t.1 0) = true := by
  have hlt := (h.pl t ht).1
  have e1 : s.tr.getD t.1 0 = s.tr[t.1] := by simp [hlt]
  have e2 : s.tr = s.tr.take t.1 ++ s.tr[t.1] :: s.tr.drop (t.1 + 1) := by
    rw [List.getElem_cons_drop, List.take_append_drop]
  have hok : okL P.n s.tr[t.1] = true := h.ok _ (List.getElem_mem hlt)
  rw [e1]
  refine ⟨?_, hok⟩
  have hnd := h.nd
  rw [e2] at hnd
  have hne := okL_ne hok
  have hv : vt (s.tr.take t.1) (s.tr[t.1].natAbs - 1) = 0 := by
    rcases vt_cases (s.tr.take t.1) (s.tr[t.1].natAbs - 1) with ⟨q, _⟩ | ⟨x, hx, q, _⟩
    · exact q
    · unfold Nd at hnd
      rw [List.map_append, List.map_cons, List.nodup_append] at hnd
      exact absurd (by omega) (hnd.2.2 _ (List.mem_map.2 ⟨x, hx, rfl⟩) _ List.mem_cons_self)
  unfold stn
  rw [show (-s.tr[t.1]).natAbs = s.tr[t.1].natAbs by omega, hv]
  split <;> rfl
theorem Iv.next {P : Pb} (hP : P.Ok) {s s' : Sx} (h : Iv P s) (e : P.step s = .next s') : Iv P s' := by
  unfold Pb.step at e
  split at e
  · cases ht : s.tu.getLast? with
    | none => rw [ht] at e; cases e
    | some t =>
      rw [ht] at e
      injection e with e
      subst e
      have hl := getLast_app ht
      have htm : t ∈ s.tu := by rw [hl]; simp
      have hlt := h.pl t htm
      obtain ⟨ho, hk⟩ := back_open h htm
      have hup := h.up
      rw [hl, List.pairwise_append] at hup
      refine ⟨ok_snoc (fun x hx => h.ok x (List.mem_of_mem_take hx)) (okL_neg hk), nd_snoc (nd_take h.nd _) (okL_ne (okL_neg hk)) ho, fun u hu => ?_, hup.1, hlt.2⟩
      have h1 := hup.2.2 u hu t (by simp)
      have h2 := h.pl u (by rw [hl]; simp [hu])
      refine ⟨?_, h2.2⟩
      simp
      omega
  · split at e
    · rename_i hu
      injection e with e
      subst e
      obtain ⟨h1, h2⟩ := P.unit_ok hP hu
      exact ⟨ok_snoc h.ok h1, nd_snoc h.nd hu h2, fun t ht => ⟨by have := (h.pl t ht).1; simp; omega, (h.pl t ht).2⟩, h.up, h.lk⟩
    · split at e
      · cases e
      · rename_i hu
        injection e with e
        subst e
        obtain ⟨h1, h2⟩ := P.dl_ok hP h.lk hu
        have h3 := P.lk_spec s.tr _ s.lk (Nat.le_refl _) h.lk
        refine ⟨ok_snoc h.ok h1, nd_snoc h.nd hu h2, fun t ht => ?_, ?_, h3.2.1⟩
        · rcases List.mem_append.1 ht with q | q
          · have := h.pl t q
            exact ⟨by simp; omega, this.2⟩
          · rw [List.mem_singleton.1 q]
            exact ⟨by simp, h3.2.1⟩
        · rw [List.pairwise_append]
          refine ⟨h.up, by simp, fun a ha b hb => ?_⟩
          rw [List.mem_singleton.1 hb]
          exact (h.pl a ha).1
/-- HOW MANY SCANS MAY STILL COME. -/
def tuS (n : Nat) (tu : List (Nat × Nat)) : Nat := (tu.map fun t => 2 ^ (n - t.1) - 1).sum
def Pb.ms (P : Pb) (s : Sx) : Nat := 2 ^ (P.n - s.tr.length + 1) - 1 + tuS P.n s.tu
theorem pow_pos2 (a : Nat) : 1 ≤ 2 ^ a := Nat.one_le_two_pow
theorem Pb.ms_pos (P : Pb) (s : Sx) : 1 ≤ P.ms s := by
  unfold Pb.ms
  have := pow_pos2 (P.n - s.tr.length)
  have h2 : 2 ^ (P.n - s.tr.length + 1) = 2 * 2 ^ (P.n - s.tr.length) := by rw [Nat.pow_succ]; omega
  omega
theorem Pb.ms_next {P : Pb} (hP : P.Ok) {s s' : Sx} (h : Iv P s) (e : P.step s = .next s') : P.ms s' < P.ms s := by
  have hI := h.next hP e
  have hle := trail_le hI.nd hI.ok
  have hle0 := trail_le h.nd h.ok
  unfold Pb.step at e
  split at e
  · cases ht : s.tu.getLast? with
    | none => rw [ht] at e; cases e
    | some t =>
      rw [ht] at e
      injection e with e
      subst e
      have hl := getLast_app ht
      have htm : t ∈ s.tu := by rw [hl]; simp
      have hlt := (h.pl t htm).1
      unfold Pb.ms
      have hs : tuS P.n s.tu = tuS P.n s.tu.dropLast + (2 ^ (P.n - t.1) - 1) := by
        conv => lhs; rw [hl]
        simp [tuS]
      rw [hs]
      have hlen : (s.tr.take t.1 ++ [-(s.tr.getD t.1 0)]).length = t.1 + 1 := by simp; omega
      simp only [hlen] at hle ⊢
      have a1 := pow_pos2 (P.n - s.tr.length)
      have a2 : 2 ^ (P.n - s.tr.length + 1) = 2 * 2 ^ (P.n - s.tr.length) := by rw [Nat.pow_succ]; omega
      have a3 : P.n - (t.1 + 1) + 1 = P.n - t.1 := by omega
      rw [a3]
      omega
  · split at e
    · injection e with e
      subst e
      unfold Pb.ms
      simp only [List.length_append, List.length_singleton] at hle ⊢
      have a1 := pow_pos2 (P.n - (s.tr.length + 1) + 1)
      have a2 : 2 ^ (P.n - s.tr.length + 1) = 2 * 2 ^ (P.n - (s.tr.length + 1) + 1) := by
        rw [show P.n - s.tr.length + 1 = (P.n - (s.tr.length + 1) + 1) + 1 by omega, Nat.pow_succ]; omega
      omega
    · split at e
      · cases e
      · injection e with e
        subst e
        unfold Pb.ms
        simp only [List.length_append, List.length_singleton] at hle ⊢
        have hs : tuS P.n (s.tu ++ [(s.tr.length, P.lk s.tr s.lk)]) = tuS P.n s.tu + (2 ^ (P.n - s.tr.length) - 1) := by simp [tuS]
        rw [hs]
        have a1 := pow_pos2 (P.n - s.tr.length)
        have a2 : 2 ^ (P.n - s.tr.length + 1) = 2 * 2 ^ (P.n - s.tr.length) := by rw [Nat.pow_succ]; omega
        have a3 : P.n - (s.tr.length + 1) + 1 = P.n - s.tr.length := by omega
        rw [a3]
        omega
end Go.Proofs.Ytabjbppekijfiaa
