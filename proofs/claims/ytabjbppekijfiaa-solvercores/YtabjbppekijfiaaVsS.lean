import Derived.Test.YtabjbppekijfiaaVsR
namespace Go.Proofs.Ytabjbppekijfiaa
open Go.RowKit

/-- THE WAY OF THE SEARCH. -/
inductive Path (P : Pb) : Nat → Sx → Nat → Prop
  | zero : Path P 0 ⟨[], [], 0⟩ 0
  | next {k : Nat} {s s' : Sx} {c : Nat} : Path P k s c → P.step s = .next s' → Path P (k + 1) s' (c + P.cost s.tr)
theorem Path.iv {P : Pb} (hP : P.Ok) {k : Nat} {s : Sx} {c : Nat} (h : Path P k s c) : Iv P s := by
  induction h with
  | zero => exact Iv.start P
  | next _ e ih => exact ih.next hP e
theorem Path.fn {P : Pb} {k : Nat} {s : Sx} {c : Nat} (h : Path P k s c) : ∀ {s' c'}, Path P k s' c' → s = s' ∧ c = c' := by
  induction h with
  | zero => intro s' c' h'; cases h'; exact ⟨rfl, rfl⟩
  | next _ e ih =>
    intro s' c' h'
    cases h' with
    | next h2 e2 =>
      obtain ⟨rfl, rfl⟩ := ih h2
      rw [e] at e2
      injection e2 with e2
      exact ⟨e2, rfl⟩
theorem Path.lt {P : Pb} {k' : Nat} {s' : Sx} {c' : Nat} (h : Path P k' s' c') : ∀ {k s c}, k < k' → Path P k s c → (∃ z, P.step s = .next z) ∧ c + P.cost s.tr ≤ c' := by
  induction h with
  | zero => intro k s c hk; omega
  | next h2 e ih =>
    rename_i k2 s2 s3 c2
    intro k s c hk hp
    by_cases q : k = k2
    · subst q
      obtain ⟨rfl, rfl⟩ := hp.fn h2
      exact ⟨⟨_, e⟩, Nat.le_refl _⟩
    · obtain ⟨a, b⟩ := ih (by omega) hp
      exact ⟨a, by omega⟩
theorem Path.ms {P : Pb} (hP : P.Ok) {k : Nat} {s : Sx} {c : Nat} (h : Path P k s c) : c + P.N * P.ms s ≤ P.N * P.ms ⟨[], [], 0⟩ := by
  induction h with
  | zero => omega
  | next h2 e ih =>
    rename_i k2 s2 s3 c2
    have a := P.ms_next hP (h2.iv hP) e
    have b := P.cost_le s2.tr
    have c := Nat.mul_le_mul_left P.N (show P.ms s3 + 1 ≤ P.ms s2 by omega)
    rw [Nat.mul_add] at c
    omega
/-- WHAT COMES OUT. -/
def Rs (P : Pb) (B : Nat) (v : Int) (tr : List Int) (S : Nat) : Prop :=
  ∃ k s c, Path P k s c ∧ ((P.step s = .done v ∧ tr = s.tr ∧ S = c + P.cost s.tr ∧ S ≤ B) ∨ (v = 3 ∧ S = B ∧ c ≤ B ∧ B < c + P.cost s.tr))
theorem Pb.done_v {P : Pb} {s : Sx} {v : Int} (h : P.step s = .done v) : v = 1 ∨ v = 2 := by
  unfold Pb.step at h
  split at h
  · cases ht : s.tu.getLast? with
    | none => rw [ht] at h; injection h with h; exact .inr h.symm
    | some t => rw [ht] at h; cases h
  · split at h
    · cases h
    · split at h
      · injection h with h; exact .inl h.symm
      · cases h
/-- Another budget, as great as the steps. -/
theorem Rs.again {P : Pb} {B B' : Nat} {v v' : Int} {tr tr' : List Int} {S S' : Nat} (h : Rs P B v tr S) (hv : v ≠ 3) (h' : Rs P B' v' tr' S') (hB : S ≤ B') : v' = v ∧ tr' = tr ∧ S' = S := by
  obtain ⟨k, s, c, hp, hr⟩ := h
  obtain ⟨k', s', c', hp', hr'⟩ := h'
  rcases hr with ⟨d, rfl, rfl, hS⟩ | ⟨q, _⟩
  · by_cases e1 : k < k'
    · obtain ⟨⟨z, e⟩, _⟩ := hp'.lt e1 hp
      rw [d] at e; cases e
    · by_cases e2 : k' < k
      · obtain ⟨⟨z, e⟩, hc⟩ := hp.lt e2 hp'
        rcases hr' with ⟨d', _⟩ | ⟨_, _, _, q⟩
        · rw [d'] at e; cases e
        · omega
      · obtain rfl : k = k' := by omega
        obtain ⟨rfl, rfl⟩ := hp.fn hp'
        rcases hr' with ⟨d', rfl, rfl, _⟩ | ⟨_, _, _, q⟩
        · rw [d] at d'; injection d' with d'
          exact ⟨d'.symm, rfl, rfl⟩
        · omega
  · exact absurd q hv
/-- The same budget. -/
theorem Rs.same {P : Pb} {B : Nat} {v v' : Int} {tr tr' : List Int} {S S' : Nat} (h : Rs P B v tr S) (h' : Rs P B v' tr' S') : v' = v ∧ S' = S ∧ (v ≠ 3 → tr' = tr) := by
  by_cases hv : v = 3
  · by_cases hv' : v' = 3
    · refine ⟨hv'.trans hv.symm, ?_, fun q => absurd hv q⟩
      have key : ∀ {v tr S}, Rs P B v tr S → v = 3 → S = B := fun h q => by
        obtain ⟨k, s, c, hp, hr⟩ := h
        rcases hr with ⟨d, _⟩ | ⟨_, q2, _⟩
        · have := P.done_v d; omega
        · exact q2
      rw [key h' hv', key h hv]
    · have hS : S' ≤ B := by
        obtain ⟨k, s, c, hp, hr⟩ := h'
        rcases hr with ⟨_, _, _, q⟩ | ⟨_, q, _⟩ <;> omega
      obtain ⟨a, b, c⟩ := h'.again hv' h hS
      exact absurd (a.symm.trans hv) hv'
  · have hS : S ≤ B := by
      obtain ⟨k, s, c, hp, hr⟩ := h
      rcases hr with ⟨_, _, _, q⟩ | ⟨_, q, _⟩ <;> omega
    obtain ⟨a, b, c⟩ := h.again hv h' hS
    exact ⟨a, c, fun _ => b⟩
theorem Rs.le {P : Pb} {B : Nat} {v : Int} {tr : List Int} {S : Nat} (h : Rs P B v tr S) : S ≤ B ∧ (v = 1 ∨ v = 2 ∨ (v = 3 ∧ S = B)) := by
  obtain ⟨k, s, c, hp, hr⟩ := h
  rcases hr with ⟨d, _, _, q⟩ | ⟨a, b, _⟩
  · have := P.done_v d
    omega
  · omega
/-- The budget that is enough. -/
theorem Rs.enough {P : Pb} (hP : P.Ok) {B : Nat} {v : Int} {tr : List Int} {S : Nat} (h : Rs P B v tr S) (hB : P.N * 2 ^ (P.n + 1) ≤ B) : v = 1 ∨ v = 2 := by
  obtain ⟨k, s, c, hp, hr⟩ := h
  rcases hr with ⟨d, _⟩ | ⟨_, _, _, q⟩
  · exact P.done_v d
  · exfalso
    have a := hp.ms hP
    have b := Nat.mul_le_mul_left P.N (P.ms_pos s)
    have c1 := P.cost_le s.tr
    have e : P.ms ⟨[], [], 0⟩ ≤ 2 ^ (P.n + 1) := by
      show 2 ^ (P.n - 0 + 1) - 1 + 0 ≤ _
      rw [Nat.sub_zero]
      exact Nat.sub_le _ _
    have f := Nat.le_trans (Nat.mul_le_mul_left P.N e) hB
    generalize P.N * P.ms ⟨[], [], 0⟩ = x0 at *
    generalize P.N * P.ms s = x1 at *
    clear hB e
    omega

/-- WHAT VALUES AGREE WITH A TRAIL. -/
def Ag (tr : List Int) (v : Nat → Bool) : Prop := ∀ l ∈ tr, says v l = true
theorem says_neg {v : Nat → Bool} {l : Int} (hl : l ≠ 0) : says v (-l) = !says v l := by
  unfold says
  rw [show (-l).natAbs = l.natAbs by omega]
  by_cases h : 0 < l
  · rw [show decide (0 < l) = true by simpa using h, show decide (0 < -l) = false by simp; omega]
    cases v (l.natAbs - 1) <;> rfl
  · rw [show decide (0 < l) = false by simpa using h, show decide (0 < -l) = true by simp; omega]
    cases v (l.natAbs - 1) <;> rfl
theorem stn_one {tr : List Int} {v : Nat → Bool} {l : Int} (hl : l ≠ 0) (ha : Ag tr v) (h : stn tr l = 1) : says v l = true := by
  unfold stn at h
  rcases vt_cases tr (l.natAbs - 1) with ⟨q, _⟩ | ⟨x, hx, q1, q2⟩
  · split at h <;> omega
  · have e : x = l := by
      rcases sg_cases x with ⟨_, s⟩ | ⟨_, s⟩ <;> split at h <;> omega
    exact e ▸ ha x hx
theorem stn_neg {tr : List Int} (l : Int) (hl : l ≠ 0) : stn tr (-l) = -(stn tr l) := by
  unfold stn
  rw [show (-l).natAbs = l.natAbs by omega]
  split <;> split <;> omega
theorem stn_less {tr : List Int} {v : Nat → Bool} {l : Int} (hl : l ≠ 0) (ha : Ag tr v) (h : stn tr l = -1) : says v l = false := by
  have := stn_one (l := -l) (by omega) ha (by rw [stn_neg l hl, h]; rfl)
  rw [says_neg hl] at this
  simpa using this
theorem clT_ex {v : Nat → Bool} {m : Nat} {f : Nat → Int} (h : clT v m f = true) : ∃ j, j < m ∧ says v (f j) = true := by
  by_cases e : ∃ j, j < m ∧ says v (f j) = true
  · exact e
  · rw [clT_no fun j hj => by
      cases q : says v (f j) with
      | false => rfl
      | true => exact absurd ⟨j, hj, q⟩ e] at h
    cases h
def Pb.Mo (P : Pb) (v : Nat → Bool) : Prop := ∀ i, i < P.N → clT v (P.ln i) (P.L i) = true
/-- Where it fails, nothing agrees. -/
theorem Pb.fail_no {P : Pb} (hP : P.Ok) {tr : List Int} {v : Nat → Bool} (hm : P.Mo v) (ha : Ag tr v) : P.ff tr = -1 := by
  rcases firstN_cases P.N (fun i => !P.fF tr i) with ⟨h, _⟩ | ⟨k, hk, _, h⟩
  · exact h
  · exfalso
    have hF : P.fF tr k = true := by simpa using h
    unfold Pb.fF at hF
    simp only [Bool.and_eq_true, Bool.not_eq_true', beq_iff_eq] at hF
    obtain ⟨j, hj, hs⟩ := clT_ex (hm k hk)
    have h0 := P.cl0 hP hk
    have h1 := isT_all hF.1 j hj
    have h2 := acc_none tr (P.L k) (P.ln k) h0 hF.2 j hj
    rcases stn_range tr (P.L k j) with q | q | q
    · rw [stn_less (h0 j hj) ha q] at hs; cases hs
    · exact h2 q
    · exact h1 q
theorem Pb.unit_says {P : Pb} (hP : P.Ok) {tr : List Int} {v : Nat → Bool} (hm : P.Mo v) (ha : Ag tr v) (hu : (P.sc tr P.N).1 ≠ 0) : says v (P.sc tr P.N).1 = true := by
  obtain ⟨i, hi, h1, h2, e⟩ := P.sc_unit tr P.N hu
  rw [e]
  obtain ⟨j, hj, hs⟩ := clT_ex (hm i hi)
  have h0 := P.cl0 hP hi
  rcases stn_range tr (P.L i j) with q | q | q
  · rw [stn_less (h0 j hj) ha q] at hs; cases hs
  · rw [show (P.ac tr i).o = P.L i j from (acc_al tr (P.L i) (P.ln i) h0 h2 j hj q).symm]
    exact hs
  · exact absurd q (isT_all h1 j hj)
/-- THE VALUES THAT ARE ANSWERED. -/
def mv (tr : List Int) (v : Nat) : Bool := vt tr v == 1
theorem mv_one {tr : List Int} {l : Int} (hl : l ≠ 0) (h : stn tr l = 1) : says (mv tr) l = true := by
  unfold stn at h
  unfold says mv
  by_cases q : l < 0
  · rw [if_pos q] at h
    rw [show vt tr (l.natAbs - 1) = -1 by omega, show decide (0 < l) = false by simp; omega]
    rfl
  · rw [if_neg q] at h
    rw [h, show decide (0 < l) = true by simp; omega]
    rfl
theorem Pb.dl_calm {P : Pb} (hP : P.Ok) {s : Sx} (h : Iv P s) (hd : P.dl s = 0) : P.lk s.tr s.lk = P.m ∧ (P.sc s.tr P.N).2 = 0 := by
  unfold Pb.dl at hd
  have h1 := P.lk_spec s.tr _ s.lk (Nat.le_refl _) h.lk
  by_cases e : P.lk s.tr s.lk < P.m
  · rw [if_pos e] at hd
    exact absurd hd (okL_ne (hP.pf _ e))
  · rw [if_neg e] at hd
    exact ⟨by omega, hd⟩
theorem Pb.step_sat {P : Pb} {s : Sx} (h : P.step s = .done 1) : P.ff s.tr = -1 ∧ (P.sc s.tr P.N).1 = 0 ∧ P.dl s = 0 := by
  unfold Pb.step at h
  split at h
  · cases ht : s.tu.getLast? with
    | none => rw [ht] at h; injection h with h; cases h
    | some t => rw [ht] at h; cases h
  · rename_i a
    split at h
    · cases h
    · rename_i b
      split at h
      · exact ⟨by simpa using a, by simpa using b, by assumption⟩
      · cases h
theorem Pb.sat_mo {P : Pb} (hP : P.Ok) {s : Sx} (h : Iv P s) (hs : P.step s = .done 1) : P.Mo (mv s.tr) := by
  obtain ⟨h1, h2, h3⟩ := P.step_sat hs
  obtain ⟨h4, h5⟩ := P.dl_calm hP h h3
  intro i hi
  have hf : ∀ i, i < P.N → P.fF s.tr i = false := by
    rcases firstN_cases P.N (fun i => !P.fF s.tr i) with ⟨_, q⟩ | ⟨k, hk, q, _⟩
    · exact fun i hi => by simpa using q i hi
    · unfold Pb.ff at h1
      omega
  have h0 := P.cl0 hP hi
  rcases P.sc_calm s.tr P.N h5 hf i hi with q | q
  · obtain ⟨j, hj, e⟩ := isT_ex q
    exact clT_yes hj (mv_one (h0 j hj) e)
  · obtain ⟨j, hj, e, e2⟩ := acc_pr s.tr (P.L i) (P.ln i) q
    refine clT_yes hj ?_
    have hne := h0 j hj
    unfold stn at e
    rw [if_pos (by omega)] at e
    unfold says mv
    rw [show vt s.tr ((P.L i j).natAbs - 1) = 0 by omega, show decide (0 < P.L i j) = false by simpa using e2]
    rfl
/-- WHERE VALUES PART FROM THE TRAIL: NOWHERE, OR AT A DECISION THAT IS OPEN, OF SOME KIND. -/
def Jv (K : Nat × Nat → Prop) (s : Sx) (v : Nat → Bool) : Prop := Ag s.tr v ∨ ∃ t ∈ s.tu, K t ∧ Ag (s.tr.take t.1) v ∧ says v (s.tr.getD t.1 0) = false
theorem ag_snoc {tr : List Int} {v : Nat → Bool} {l : Int} (h : Ag tr v) (hl : says v l = true) : Ag (tr ++ [l]) v := fun x hx => by
  rcases List.mem_append.1 hx with q | q
  · exact h x q
  · rw [List.mem_singleton.1 q]; exact hl
theorem Jv.keep {K : Nat × Nat → Prop} {s : Sx} {v : Nat → Bool} {l : Int} {tu : List (Nat × Nat)} {lk : Nat} (hp : ∀ t ∈ s.tu, t.1 < s.tr.length) (h : ∃ t ∈ s.tu, K t ∧ Ag (s.tr.take t.1) v ∧ says v (s.tr.getD t.1 0) = false) (hs : ∀ t ∈ s.tu, t ∈ tu) : Jv K ⟨s.tr ++ [l], tu, lk⟩ v := by
  obtain ⟨t, ht, hk, h1, h2⟩ := h
  have hlt := hp t ht
  refine .inr ⟨t, hs t ht, hk, ?_, ?_⟩
  · show Ag ((s.tr ++ [l]).take t.1) v
    rw [List.take_append_of_le_length (by omega)]
    exact h1
  · show says v ((s.tr ++ [l]).getD t.1 0) = false
    rw [show (s.tr ++ [l]).getD t.1 0 = s.tr.getD t.1 0 by simp [List.getElem?_append_left hlt]]
    exact h2
/-- It stays so; 'K' speaks of every decision behind which what is decided may part. -/
theorem Jv.next {P : Pb} (hP : P.Ok) {K : Nat × Nat → Prop} {s s' : Sx} {v : Nat → Bool} (h : Iv P s) (hm : P.Mo v) (hJ : Jv K s v)
    (hD : Ag s.tr v → P.dl s ≠ 0 → says v (P.dl s) = true ∨ K (s.tr.length, P.lk s.tr s.lk)) (e : P.step s = .next s') : Jv K s' v := by
  have hp : ∀ t ∈ s.tu, t.1 < s.tr.length := fun t ht => (h.pl t ht).1
  unfold Pb.step at e
  split at e
  · rename_i hf
    have hJ2 : ∃ t ∈ s.tu, K t ∧ Ag (s.tr.take t.1) v ∧ says v (s.tr.getD t.1 0) = false := by
      rcases hJ with q | q
      · exact absurd (P.fail_no hP hm q) hf
      · exact q
    cases ht : s.tu.getLast? with
    | none => rw [ht] at e; cases e
    | some t =>
      rw [ht] at e
      injection e with e
      subst e
      have hl := getLast_app ht
      have htm : t ∈ s.tu := by rw [hl]; simp
      obtain ⟨u, hu, hk, h1, h2⟩ := hJ2
      have hok := (back_open h htm).2
      by_cases q : u = t
      · subst q
        left
        refine ag_snoc h1 ?_
        rw [says_neg (okL_ne hok), h2]
        rfl
      · right
        have hud : u ∈ s.tu.dropLast := by
          rw [hl] at hu
          rcases List.mem_append.1 hu with z | z
          · exact z
          · exact absurd (List.mem_singleton.1 z) q
        have hup := h.up
        rw [hl, List.pairwise_append] at hup
        have hlt := hup.2.2 u hud t (by simp)
        have hlen := hp t htm
        refine ⟨u, hud, hk, ?_, ?_⟩
        · show Ag ((s.tr.take t.1 ++ [-(s.tr.getD t.1 0)]).take u.1) v
          rw [List.take_append_of_le_length (by simp; omega), List.take_take, Nat.min_eq_left (by omega)]
          exact h1
        · show says v ((s.tr.take t.1 ++ [-(s.tr.getD t.1 0)]).getD u.1 0) = false
          rw [show (s.tr.take t.1 ++ [-(s.tr.getD t.1 0)]).getD u.1 0 = s.tr.getD u.1 0 by
            rw [List.getD_eq_getElem?_getD, List.getElem?_append_left (by simp; omega), List.getElem?_take_of_lt (by omega), ← List.getD_eq_getElem?_getD]]
          exact h2
  · split at e
    · rename_i hu
      injection e with e
      subst e
      rcases hJ with q | q
      · exact .inl (ag_snoc q (P.unit_says hP hm q hu))
      · exact Jv.keep hp q (fun t ht => ht)
    · split at e
      · cases e
      · rename_i hd
        injection e with e
        subst e
        rcases hJ with q | q
        · cases hs : says v (P.dl s) with
          | true => exact .inl (ag_snoc q hs)
          | false =>
            rcases hD q hd with z | z
            · rw [hs] at z; cases z
            · refine .inr ⟨(s.tr.length, P.lk s.tr s.lk), by simp, z, ?_, ?_⟩
              · show Ag ((s.tr ++ [P.dl s]).take s.tr.length) v
                rw [List.take_left]
                exact q
              · show says v ((s.tr ++ [P.dl s]).getD s.tr.length 0) = false
                rw [show (s.tr ++ [P.dl s]).getD s.tr.length 0 = P.dl s by simp]
                exact hs
        · exact Jv.keep hp q (fun t ht => by simp [ht])
theorem Path.jv {P : Pb} (hP : P.Ok) {v : Nat → Bool} (hm : P.Mo v) {k : Nat} {s : Sx} {c : Nat} (h : Path P k s c) : Jv (fun _ => True) s v := by
  induction h with
  | zero => exact .inl (by simp [Ag])
  | next h2 e ih => exact ih.next hP (h2.iv hP) hm (fun _ _ => .inr trivial) e
theorem Pb.step_unsat {P : Pb} {s : Sx} (h : P.step s = .done 2) : P.ff s.tr ≠ -1 ∧ s.tu = [] := by
  unfold Pb.step at h
  split at h
  · rename_i a
    cases ht : s.tu.getLast? with
    | none => exact ⟨a, by simpa using ht⟩
    | some t => rw [ht] at h; cases h
  · split at h
    · cases h
    · split at h
      · injection h with h; cases h
      · cases h
/-- NO MODEL, WHERE THERE IS SAID TO BE NONE. -/
theorem Rs.unsat {P : Pb} (hP : P.Ok) {B : Nat} {tr : List Int} {S : Nat} (h : Rs P B 2 tr S) (v : Nat → Bool) : ¬ P.Mo v := fun hm => by
  obtain ⟨k, s, c, hp, hr⟩ := h
  rcases hr with ⟨d, _⟩ | ⟨q, _⟩
  · obtain ⟨h1, h2⟩ := P.step_unsat d
    rcases hp.jv hP hm with q | ⟨t, ht, _⟩
    · exact h1 (P.fail_no hP hm q)
    · rw [h2] at ht; cases ht
  · cases q
/-- A MODEL, WHERE THERE IS SAID TO BE ONE. -/
theorem Rs.sat {P : Pb} (hP : P.Ok) {B : Nat} {tr : List Int} {S : Nat} (h : Rs P B 1 tr S) : P.Mo (mv tr) := by
  obtain ⟨k, s, c, hp, hr⟩ := h
  rcases hr with ⟨d, rfl, _⟩ | ⟨q, _⟩
  · exact P.sat_mo hP (hp.iv hP) d
  · cases q
/-- prefer, as far as it has been gone through. -/
structure Lq (P : Pb) (s : Sx) : Prop where
  now : ∀ i, i < s.lk → stn s.tr (P.f i) ≠ 0
  then_ : ∀ t ∈ s.tu, ∀ i, i < t.2 → stn (s.tr.take t.1) (P.f i) ≠ 0
theorem stn_ext {A B : List Int} {l : Int} (h : stn A l ≠ 0) : stn (A ++ B) l = stn A l := by
  unfold stn at *
  have hv : vt A (l.natAbs - 1) ≠ 0 := by split at h <;> omega
  have : vt (A ++ B) (l.natAbs - 1) = vt A (l.natAbs - 1) := by
    rw [vt_app]
    rcases vt_cases A (l.natAbs - 1) with ⟨q, _⟩ | ⟨x, hx, q, _⟩
    · exact absurd q hv
    · rw [if_neg fun z => z x hx q]
  rw [this]
theorem Lq.next {P : Pb} {s s' : Sx} (hI : Iv P s) (h : Lq P s) (e : P.step s = .next s') : Lq P s' := by
  have hp : ∀ t ∈ s.tu, t.1 < s.tr.length := fun t ht => (hI.pl t ht).1
  have keep : ∀ l, ∀ t ∈ s.tu, ∀ i, i < t.2 → stn ((s.tr ++ [l]).take t.1) (P.f i) ≠ 0 := fun l t ht i hi => by
    rw [List.take_append_of_le_length (Nat.le_of_lt (hp t ht))]
    exact h.then_ t ht i hi
  have more : ∀ l i, stn s.tr (P.f i) ≠ 0 → stn (s.tr ++ [l]) (P.f i) ≠ 0 := fun l i q => by rw [stn_ext q]; exact q
  unfold Pb.step at e
  split at e
  · cases ht : s.tu.getLast? with
    | none => rw [ht] at e; cases e
    | some t =>
      rw [ht] at e
      injection e with e
      subst e
      have hl := getLast_app ht
      have htm : t ∈ s.tu := by rw [hl]; simp
      have hup := hI.up
      rw [hl, List.pairwise_append] at hup
      refine ⟨fun i hi => ?_, fun u hu i hi => ?_⟩
      · have := h.then_ t htm i hi
        show stn (s.tr.take t.1 ++ _) (P.f i) ≠ 0
        rw [stn_ext this]
        exact this
      · have hlt := hup.2.2 u hu t (by simp)
        have hlen := hp t htm
        show stn ((s.tr.take t.1 ++ [-(s.tr.getD t.1 0)]).take u.1) (P.f i) ≠ 0
        rw [List.take_append_of_le_length (by simp; omega), List.take_take, Nat.min_eq_left (by omega)]
        exact h.then_ u (by rw [hl]; simp [hu]) i hi
  · split at e
    · injection e with e
      subst e
      exact ⟨fun i hi => more _ i (h.now i hi), keep _⟩
    · split at e
      · cases e
      · injection e with e
        subst e
        have h3 := P.lk_spec s.tr _ s.lk (Nat.le_refl _) hI.lk
        have hall : ∀ i, i < P.lk s.tr s.lk → stn s.tr (P.f i) ≠ 0 := fun i hi => by
          by_cases q : i < s.lk
          · exact h.now i q
          · exact h3.2.2.1 i (by omega) hi
        refine ⟨fun i hi => more _ i (hall i hi), fun t ht i hi => ?_⟩
        rcases List.mem_append.1 ht with q | q
        · exact keep _ t q i hi
        · rw [List.mem_singleton.1 q] at hi ⊢
          show stn ((s.tr ++ [P.dl s]).take s.tr.length) (P.f i) ≠ 0
          rw [List.take_left]
          exact hall i hi
theorem Path.lq {P : Pb} (hP : P.Ok) {k : Nat} {s : Sx} {c : Nat} (h : Path P k s c) : Lq P s := by
  induction h with
  | zero => exact ⟨fun i hi => absurd hi (Nat.not_lt_zero _), by simp⟩
  | next h2 e ih => exact ih.next (h2.iv hP) e
theorem Path.jl {P : Pb} (hP : P.Ok) {v : Nat → Bool} (hm : P.Mo v) (hv : ∀ i, i < P.m → says v (P.f i) = true) {k : Nat} {s : Sx} {c : Nat} (h : Path P k s c) : Jv (fun t => t.2 = P.m) s v := by
  induction h with
  | zero => exact .inl (by simp [Ag])
  | next h2 e ih =>
    rename_i k2 s2 s3 c2
    refine ih.next hP (h2.iv hP) hm (fun _ _ => ?_) e
    have h3 := P.lk_spec s2.tr _ s2.lk (Nat.le_refl _) (h2.iv hP).lk
    by_cases q : P.lk s2.tr s2.lk < P.m
    · left
      unfold Pb.dl
      rw [if_pos q]
      exact hv _ q
    · right
      show P.lk s2.tr s2.lk = P.m
      omega
/-- WHAT IS PREFERRED AND CAN BE, IS. -/
theorem Rs.liking {P : Pb} (hP : P.Ok) {v : Nat → Bool} (hm : P.Mo v) (hv : ∀ i, i < P.m → says v (P.f i) = true) {B : Nat} {tr : List Int} {S : Nat} (h : Rs P B 1 tr S) : ∀ i, i < P.m → says (mv tr) (P.f i) = true := by
  obtain ⟨k, s, c, hp, hr⟩ := h
  rcases hr with ⟨d, rfl, _⟩ | ⟨q, _⟩
  · intro i hi
    have hI := hp.iv hP
    have hL := hp.lq hP
    obtain ⟨h1, h2, h3⟩ := P.step_sat d
    obtain ⟨h4, _⟩ := P.dl_calm hP hI h3
    have h5 := P.lk_spec s.tr _ s.lk (Nat.le_refl _) hI.lk
    have hne := okL_ne (hP.pf i hi)
    have hs : stn s.tr (P.f i) ≠ 0 := by
      by_cases q : i < s.lk
      · exact hL.now i q
      · exact h5.2.2.1 i (by omega) (by omega)
    refine mv_one hne ?_
    rcases hp.jl hP hm hv with q | ⟨t, ht, e, q, _⟩
    · rcases stn_range s.tr (P.f i) with z | z | z
      · have := stn_less hne q z
        rw [hv i hi] at this
        cases this
      · exact absurd z hs
      · exact z
    · have ht2 := hL.then_ t ht i (by have e' : t.2 = P.m := e; omega)
      have e2 : s.tr = s.tr.take t.1 ++ s.tr.drop t.1 := (List.take_append_drop _ _).symm
      rw [e2, stn_ext ht2]
      rcases stn_range (s.tr.take t.1) (P.f i) with z | z | z
      · have := stn_less hne q z
        rw [hv i hi] at this
        cases this
      · exact absurd z ht2
      · exact z
  · cases q
/-- WHAT IS PREFERRED ARE A MODEL'S TRUE ONES: THAT MODEL. -/
theorem Path.ag {P : Pb} (hP : P.Ok) {v : Nat → Bool} (hm : P.Mo v) (hv : ∀ i, i < P.m → says v (P.f i) = true) (hw : ∀ x, x < P.n → v x = true → ∃ i, i < P.m ∧ P.f i = (x : Int) + 1) {k : Nat} {s : Sx} {c : Nat} (h : Path P k s c) : Ag s.tr v := by
  have : Jv (fun _ => False) s v := by
    induction h with
    | zero => exact .inl (by simp [Ag])
    | next h2 e ih =>
      rename_i k2 s2 s3 c2
      refine ih.next hP (h2.iv hP) hm (fun ha hd => ?_) e
      have hI := h2.iv hP
      have hL := h2.lq hP
      have h3 := P.lk_spec s2.tr _ s2.lk (Nat.le_refl _) hI.lk
      left
      by_cases q : P.lk s2.tr s2.lk < P.m
      · unfold Pb.dl
        rw [if_pos q]
        exact hv _ q
      · exfalso
        unfold Pb.dl at hd
        rw [if_neg q] at hd
        obtain ⟨i, hi, p1, p2, _⟩ := P.sc_press s2.tr P.N hd
        obtain ⟨j, hj, hs⟩ := clT_ex (hm i hi)
        have h0 := P.cl0 hP hi j hj
        have hok := (okL_iff _ _).1 (hP.cl i hi j hj)
        rcases stn_range s2.tr (P.L i j) with z | z | z
        · rw [stn_less h0 ha z] at hs; cases hs
        · have hpos := acc_prT s2.tr (P.L i) (P.ln i) p2 j hj z
          have hvx : v ((P.L i j).natAbs - 1) = true := by
            unfold says at hs
            rw [show decide (0 < P.L i j) = true by simpa using hpos] at hs
            simpa using hs
          obtain ⟨i2, hi2, e2⟩ := hw _ (by omega) hvx
          have e3 : P.f i2 = P.L i j := by omega
          have hns : stn s2.tr (P.f i2) ≠ 0 := by
            by_cases y : i2 < s2.lk
            · exact hL.now i2 y
            · exact h3.2.2.1 i2 (by omega) (by omega)
          rw [e3] at hns
          exact hns z
        · exact absurd z (isT_all p1 j hj)
  rcases this with q | ⟨_, _, q, _⟩
  · exact q
  · exact q.elim
theorem Rs.wanted {P : Pb} (hP : P.Ok) {v : Nat → Bool} (hm : P.Mo v) (hv : ∀ i, i < P.m → says v (P.f i) = true) (hw : ∀ x, x < P.n → v x = true → ∃ i, i < P.m ∧ P.f i = (x : Int) + 1) {B : Nat} {tr : List Int} {S : Nat} (h : Rs P B 1 tr S) : ∀ x, x < P.n → mv tr x = v x := by
  intro x hx
  have hl := h.liking hP hm hv
  obtain ⟨k, s, c, hp, hr⟩ := h
  rcases hr with ⟨d, rfl, _⟩ | ⟨q, _⟩
  · have ha := hp.ag hP hm hv hw
    cases e : v x with
    | true =>
      obtain ⟨i, hi, e2⟩ := hw x hx e
      have := hl i hi
      rw [e2] at this
      unfold says at this
      rw [show decide (0 < (x : Int) + 1) = true from decide_eq_true (by omega), show ((x : Int) + 1).natAbs - 1 = x by omega] at this
      simpa using this
    | false =>
      unfold mv
      rcases vt_cases s.tr x with ⟨q, _⟩ | ⟨l, hl1, q, z⟩
      · rw [q]; rfl
      · rw [z]
        rcases sg_cases l with ⟨_, y⟩ | ⟨y1, y⟩
        · rw [y]; rfl
        · have := ha l hl1
          unfold says at this
          rw [show l.natAbs - 1 = x by omega, e, show decide (0 < l) = true by simp; omega] at this
          cases this
  · cases q
end Go.Proofs.Ytabjbppekijfiaa
