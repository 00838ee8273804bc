import Derived.Test.YtabjbppekijfiaaVsE
namespace Go.Proofs.Ytabjbppekijfiaa
open Go.RowKit

/-- A VALUE AS THE DEFINITION KEEPS IT. -/
def ov (x : Int) : Int := if x = 0 then 0 else if x = 1 then 1 else 2
theorem ov_zero {x : Int} : ov x = 0 ↔ x = 0 := by
  unfold ov
  by_cases h : x = 0
  · simp [h]
  · by_cases h2 : x = 1 <;> simp [h, h2]
theorem ov_one {x : Int} : ov x = 1 ↔ x = 1 := by
  unfold ov
  by_cases h : x = 0
  · simp [h]
  · by_cases h2 : x = 1 <;> simp [h, h2]
theorem ov_neg {x : Int} (h : x = -1 ∨ x = 0 ∨ x = 1) : ov (-x) = if ov x = 0 then 0 else 3 - ov x := by
  rcases h with h | h | h <;> subst h <;> rfl
/-- THE OPEN LITERAL, SEVERAL OF THEM. -/
def ko (tr : List Int) (f : Nat → Int) : Nat → Int × Bool
  | 0 => (0, false)
  | k + 1 => if stn tr (f k) = 0 then (f k, (ko tr f k).2 || (!((ko tr f k).1 == 0) && !((ko tr f k).1 == f k))) else ko tr f k
theorem ko_acc (tr : List Int) (f : Nat → Int) : ∀ k, (∀ j, j < k → f j ≠ 0) → ((ko tr f k).1 = 0 ↔ (acc tr f k).o = 0) ∧ (ko tr f k).2 = !(acc tr f k).al ∧ ((acc tr f k).al = true → (ko tr f k).1 = (acc tr f k).o)
  | 0, _ => ⟨Iff.rfl, rfl, fun _ => rfl⟩
  | k + 1, h0 => by
    obtain ⟨i1, i2, i3⟩ := ko_acc tr f k (fun j hj => h0 j (by omega))
    unfold ko acc acN
    by_cases h : stn tr (f k) = 0
    · rw [if_pos h, if_pos h]
      have hf := h0 k (by omega)
      by_cases e : (acc tr f k).o = 0
      · have e' := i1.2 e
        simp only [e, if_true, e', i2]
        simp
      · have e' : (ko tr f k).1 ≠ 0 := fun q => e (i1.1 q)
        simp only [e, if_false, i2]
        refine ⟨⟨fun q => absurd q hf, fun q => q.elim⟩, ?_, ?_⟩
        · cases ha : (acc tr f k).al with
          | true =>
            rw [i3 ha]
            have : ((acc tr f k).o == 0) = false := by simpa using e
            rw [this]
            by_cases q : f k = (acc tr f k).o
            · simp [q]
            · have q2 : ((acc tr f k).o == f k) = false := by simpa using fun z => q z.symm
              simp [q, q2]
          | false => simp
        · intro ha
          simp only [Bool.and_eq_true, beq_iff_eq] at ha
          exact ha.2
    · rw [if_neg h, if_neg h]
      exact ⟨i1, i2, i3⟩
/-- WHAT A CLAUSE IS. -/
def kd (tr : List Int) (m : Nat) (f : Nat → Int) : Int × Int := if isT tr m f = true then (1, 0) else if (acc tr f m).o = 0 then (2, 0) else if (acc tr f m).al = true then (3, (acc tr f m).o) else (4, 0)
theorem kd_end {tr : List Int} {m : Nat} {f : Nat → Int} (h0 : ∀ j, j < m → f j ≠ 0) (hT : ∀ j, j < m → stn tr (f j) ≠ 1) : kd tr m f = if (ko tr f m).1 = 0 then (2, 0) else if (ko tr f m).2 = true then (4, 0) else (3, (ko tr f m).1) := by
  obtain ⟨i1, i2, i3⟩ := ko_acc tr f m h0
  unfold kd
  rw [isT_no hT, if_neg (by simp)]
  by_cases e : (acc tr f m).o = 0
  · rw [if_pos e, if_pos (i1.2 e)]
  · rw [if_neg e, if_neg (fun q => e (i1.1 q)), i2]
    cases ha : (acc tr f m).al with
    | true => simp [i3 ha]
    | false => simp
theorem kd_true {tr : List Int} {m : Nat} {f : Nat → Int} {k : Nat} (hk : k < m) (h : stn tr (f k) = 1) : kd tr m f = (1, 0) := by
  unfold kd
  rw [if_pos (isT_yes hk h)]
/-- A clause in the scan. -/
theorem kd_false {P : Pb} {tr : List Int} {i : Nat} : (kd tr (P.ln i) (P.L i)).1 = 2 ↔ P.fF tr i = true := by
  unfold kd Pb.fF Pb.tT Pb.ac
  by_cases h : isT tr (P.ln i) (P.L i) = true
  · simp [h]
  · by_cases e : (acc tr (P.L i) (P.ln i)).o = 0
    · simp [h, e]
    · by_cases a : (acc tr (P.L i) (P.ln i)).al = true <;> simp [h, e, a]
theorem sc_kd {P : Pb} {tr : List Int} {i : Nat} (hf : P.fF tr i = false) : (P.sc tr (i + 1)).1 = if (kd tr (P.ln i) (P.L i)).1 = 3 ∧ (P.sc tr i).1 = 0 then (kd tr (P.ln i) (P.L i)).2 else (P.sc tr i).1 := by
  show (P.sN tr i (P.sc tr i)).1 = _
  unfold Pb.sN
  unfold Pb.fF at hf
  unfold kd
  change (!isT tr (P.ln i) (P.L i) && ((acc tr (P.L i) (P.ln i)).o == 0)) = false at hf
  rw [show P.tT tr i = isT tr (P.ln i) (P.L i) from rfl, show P.ac tr i = acc tr (P.L i) (P.ln i) from rfl]
  by_cases h : isT tr (P.ln i) (P.L i) = true
  · simp [h]
  · by_cases e : (acc tr (P.L i) (P.ln i)).o = 0
    · simp [h, e] at hf
    · by_cases a : (acc tr (P.L i) (P.ln i)).al = true
      · by_cases z : (P.sc tr i).1 = 0
        · simp [h, e, a, z]
        · simp [h, e, a, z]
      · simp [h, e, a]
/-- What presses. -/
theorem sc2_next {P : Pb} {tr : List Int} {i : Nat} (h : (P.sc tr i).2 = 0) : (P.sc tr (i + 1)).2 = if P.tT tr i = false ∧ (P.ac tr i).pr = true then (P.ac tr i).o else 0 := by
  show (P.sN tr i (P.sc tr i)).2 = _
  unfold Pb.sN
  by_cases t : P.tT tr i = true
  · simp [t, h]
  · by_cases p : (P.ac tr i).pr = true
    · simp [t, p, h]
    · simp [t, p, h]
theorem sc2_stay {P : Pb} {tr : List Int} {i : Nat} (h : (P.sc tr i).2 ≠ 0) : ∀ d, (P.sc tr (i + d)).2 = (P.sc tr i).2
  | 0 => rfl
  | d + 1 => by
    have ih := sc2_stay h d
    show (P.sN tr (i + d) (P.sc tr (i + d))).2 = _
    unfold Pb.sN
    by_cases t : P.tT tr (i + d) = true
    · simp [t, ih]
    · have : ((P.sc tr (i + d)).2 == 0) = false := by rw [ih]; simpa using h
      simp only [t, this, Bool.and_false]
      simpa using ih
/-- THE SEARCH BY ITSELF. -/
def Pb.dl0 (P : Pb) (tr : List Int) : Int := if P.lk tr 0 < P.m then P.f (P.lk tr 0) else (P.sc tr P.N).2
def Pb.fr (P : Pb) (B : Nat) : Nat → List Int → Nat → Int × List Int × Nat
  | 0, tr, c => if B < c + P.cost tr then (3, tr, B) else if P.ff tr ≠ -1 then (2, tr, c + P.cost tr) else (1, tr, c + P.cost tr)
  | r + 1, tr, c => if B < c + P.cost tr then (3, tr, B) else if P.ff tr ≠ -1 then (2, tr, c + P.cost tr) else if (P.sc tr P.N).1 ≠ 0 then P.fr B r (tr ++ [(P.sc tr P.N).1]) (c + P.cost tr) else if P.dl0 tr = 0 then (1, tr, c + P.cost tr) else if (P.fr B r (tr ++ [P.dl0 tr]) (c + P.cost tr)).1 = 2 then P.fr B r (tr ++ [-P.dl0 tr]) (P.fr B r (tr ++ [P.dl0 tr]) (c + P.cost tr)).2.2 else P.fr B r (tr ++ [P.dl0 tr]) (c + P.cost tr)
theorem lk_from {P : Pb} {tr : List Int} {k : Nat} (hk : k ≤ P.m) (h : ∀ i, i < k → stn tr (P.f i) ≠ 0) : P.lk tr 0 = P.lk tr k := by
  obtain ⟨a1, a2, a3, a4⟩ := P.lk_spec tr P.m 0 (by omega) (by omega)
  obtain ⟨b1, b2, b3, b4⟩ := P.lk_spec tr P.m k (by omega) hk
  rcases Nat.lt_trichotomy (P.lk tr 0) (P.lk tr k) with q | q | q
  · have h1 := a4 (by omega)
    by_cases z : P.lk tr 0 < k
    · exact absurd h1 (h _ z)
    · exact absurd h1 (b3 _ (by omega) q)
  · exact q
  · exact absurd (b4 (by omega)) (a3 _ (by omega) q)
theorem dl_dl0 {P : Pb} (hP : P.Ok) {k : Nat} {s : Sx} {c : Nat} (h : Path P k s c) : P.dl s = P.dl0 s.tr ∧ P.lk s.tr s.lk = P.lk s.tr 0 := by
  have e := lk_from (h.iv hP).lk (h.lq hP).now
  unfold Pb.dl Pb.dl0
  rw [e]
  exact ⟨rfl, rfl⟩
theorem Path.dn {P : Pb} {r : Nat} {s : Sx} (hI : Iv P s) (hr : P.n - s.tr.length ≤ r) {l : Int} (hl : okL P.n l = true) (h0 : stn s.tr l = 0) : 0 < r ∧ P.n - (s.tr ++ [l]).length ≤ r - 1 := by
  have := len_snoc hI hl h0
  simp only [List.length_append, List.length_singleton]
  omega
/-- IT IS THE SAME SEARCH. -/
def Fq (P : Pb) (B : Nat) (s : Sx) (x : Int × List Int × Nat) : Prop :=
  (x.1 = 3 ∧ x.2.2 = B ∧ ∃ k' s' c', Path P k' s' c' ∧ c' ≤ B ∧ B < c' + P.cost s'.tr) ∨
  (x.1 = 1 ∧ x.2.2 ≤ B ∧ ∃ k' s' c', Path P k' s' c' ∧ P.step s' = .done 1 ∧ x.2.1 = s'.tr ∧ x.2.2 = c' + P.cost s'.tr) ∨
  (x.1 = 2 ∧ x.2.2 ≤ B ∧ ∃ k' s' c' ext, Path P k' s' c' ∧ P.ff s'.tr ≠ -1 ∧ s'.tu = s.tu ∧ s'.tr = s.tr ++ ext ∧ x.2.2 = c' + P.cost s'.tr ∧ x.2.1 = s'.tr)
theorem Fq.less {P : Pb} {B : Nat} {s s2 : Sx} {x : Int × List Int × Nat} (h : Fq P B s2 x) (h1 : s2.tu = s.tu) {l : Int} (h2 : s2.tr = s.tr ++ [l]) : Fq P B s x := by
  rcases h with h | h | ⟨a, b, k', s', c', ext, p1, p2, p3, p4, p5, p6⟩
  · exact .inl h
  · exact .inr (.inl h)
  · exact .inr (.inr ⟨a, b, k', s', c', l :: ext, p1, p2, p3.trans h1, by rw [p4, h2]; simp, p5, p6⟩)
theorem fr_fo {P : Pb} (hP : P.Ok) {B : Nat} : ∀ r k s c, Path P k s c → c ≤ B → P.n - s.tr.length ≤ r → Fq P B s (P.fr B r s.tr c)
  | 0, k, s, c, hp, hc, hr => by
    unfold Pb.fr
    by_cases h1 : B < c + P.cost s.tr
    · rw [if_pos h1]
      exact .inl ⟨rfl, rfl, k, s, c, hp, hc, h1⟩
    · rw [if_neg h1]
      by_cases h2 : P.ff s.tr = -1
      · rw [if_neg (fun q => q h2)]
        refine .inr (.inl ⟨rfl, by show c + P.cost s.tr ≤ B; omega, k, s, c, hp, ?_, rfl, rfl⟩)
        have hI := hp.iv hP
        by_cases h3 : (P.sc s.tr P.N).1 = 0
        · refine step_sat1 h2 h3 ?_
          by_cases h4 : P.dl s = 0
          · exact h4
          · obtain ⟨a, b⟩ := P.dl_ok hP hI.lk h4
            have := (Path.dn hI hr a b).1
            omega
        · obtain ⟨a, b⟩ := P.unit_ok hP h3
          have := (Path.dn hI hr a b).1
          omega
      · rw [if_pos h2]
        exact .inr (.inr ⟨rfl, by show c + P.cost s.tr ≤ B; omega, k, s, c, [], hp, h2, rfl, by simp, rfl, rfl⟩)
  | r + 1, k, s, c, hp, hc, hr => by
    unfold Pb.fr
    by_cases h1 : B < c + P.cost s.tr
    · rw [if_pos h1]
      exact .inl ⟨rfl, rfl, k, s, c, hp, hc, h1⟩
    · rw [if_neg h1]
      have hI := hp.iv hP
      by_cases h2 : P.ff s.tr = -1
      · rw [if_neg (fun q => q h2)]
        by_cases h3 : (P.sc s.tr P.N).1 = 0
        · rw [if_neg (fun q => q h3)]
          obtain ⟨e1, e2⟩ := dl_dl0 hP hp
          by_cases h4 : P.dl0 s.tr = 0
          · rw [if_pos h4]
            exact .inr (.inl ⟨rfl, by show c + P.cost s.tr ≤ B; omega, k, s, c, hp, step_sat1 h2 h3 (by rw [e1]; exact h4), rfl, rfl⟩)
          · rw [if_neg h4]
            have h5 : P.dl s ≠ 0 := by rw [e1]; exact h4
            obtain ⟨a, b⟩ := P.dl_ok hP hI.lk h5
            have st := step_dec h2 h3 h5
            have hp2 := hp.next st
            rw [e1] at st hp2 a b
            have hd := (Path.dn hI hr a b).2
            have f1 := fr_fo hP r _ _ _ hp2 (show c + P.cost s.tr ≤ B by omega) (by have := hd; simp only [List.length_append, List.length_singleton] at this ⊢; omega)
            by_cases h6 : (P.fr B r (s.tr ++ [P.dl0 s.tr]) (c + P.cost s.tr)).1 = 2
            · rw [if_pos h6]
              rcases f1 with ⟨q, _⟩ | ⟨q, _⟩ | ⟨_, qb, k', s', c', ext, p1, p2, p3, p4, p5, _⟩
              · rw [h6] at q; cases q
              · rw [h6] at q; cases q
              · have st2 := step_back p2 p3
                have p4' : s'.tr = s.tr ++ (P.dl0 s.tr :: ext) := by rw [p4]; simp
                have g1 : s'.tr.take s.tr.length = s.tr := by rw [p4', List.take_left']; rfl
                have g2 : s'.tr.getD s.tr.length 0 = P.dl0 s.tr := by rw [p4']; simp
                simp only [g1, g2] at st2
                have hp3 := p1.next st2
                rw [p5]
                rw [p5] at qb
                exact (fr_fo hP r _ _ _ hp3 qb (by have := hd; simp only [List.length_append, List.length_singleton] at this ⊢; omega)).less rfl rfl
            · rw [if_neg h6]
              rcases f1 with q | q | ⟨q, _⟩
              · exact .inl q
              · exact .inr (.inl q)
              · exact absurd q h6
        · rw [if_pos h3]
          obtain ⟨a, b⟩ := P.unit_ok hP h3
          exact (fr_fo hP r _ _ _ (hp.next (step_unit h2 h3)) (by omega) (Path.dn hI hr a b).2).less rfl rfl
      · rw [if_pos h2]
        exact .inr (.inr ⟨rfl, by show c + P.cost s.tr ≤ B; omega, k, s, c, [], hp, h2, rfl, by simp, rfl, rfl⟩)
/-- WHAT COMES OUT. -/
theorem fr_rs {P : Pb} (hP : P.Ok) {B : Nat} : Rs P B (P.fr B P.n [] 0).1 (P.fr B P.n [] 0).2.1 (P.fr B P.n [] 0).2.2 := by
  have h := fr_fo hP (B := B) P.n 0 ⟨[], [], 0⟩ 0 .zero (Nat.zero_le _) (by simp)
  rcases h with ⟨a, b, k', s', c', p1, p2, p3⟩ | ⟨a, b, k', s', c', p1, p2, p3, p4⟩ | ⟨a, b, k', s', c', ext, p1, p2, p3, p4, p5, p6⟩
  · exact ⟨k', s', c', p1, .inr ⟨a, b, p2, p3⟩⟩
  · refine ⟨k', s', c', p1, .inl ⟨?_, p3, p4, b⟩⟩
    rw [a]; exact p2
  · have e := step_none p2 p3
    refine ⟨k', s', c', p1, .inl ⟨?_, p6, p5, b⟩⟩
    rw [a]; exact e
end Go.Proofs.Ytabjbppekijfiaa
