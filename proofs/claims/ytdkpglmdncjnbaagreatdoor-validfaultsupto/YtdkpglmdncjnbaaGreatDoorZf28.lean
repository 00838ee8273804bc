import Derived.Test.YtdkpglmdncjnbaaGreatDoorZf27
namespace Go.Proofs.YtdkpglmdncjnbaaGreatDoor
section
open Go.RowKit Go.Maps
theorem imP_iff2 {ps : List Pk} {inn : Nat → Bool} {but : Int} {al : List At} : imP ps inn but al = true ↔ ∃ a ∈ al, ∃ p, mP ps a p = true ∧ inn p = true ∧ (p : Int) ≠ but := by
 constructor
 ·intro h
  unfold imP at h
  rw [List.any_eq_true] at h
  obtain ⟨a, ha, h⟩ := h
  rw [List.any_eq_true] at h
  obtain ⟨p, _, h⟩ := h
  rw [Bool.and_eq_true] at h
  obtain ⟨h1, h2⟩ := h
  unfold hitP at h2
  rw [Bool.and_eq_true] at h2
  exact ⟨a, ha, p, h1, h2.1, by simpa using h2.2⟩
 ·rintro ⟨a, ha, p, hm, hi, hp⟩
  exact imP_yes ha hm (by unfold hitP; rw [hi, decide_eq_false hp]; rfl)
theorem imP_mono {ps : List Pk} {inn inn2 : Nat → Bool} (h : ∀ p, inn p = true → inn2 p = true) {but : Int} {al : List At} (hm : imP ps inn but al = true) : imP ps inn2 but al = true := by
 obtain ⟨a, ha, p, h1, h2, h3⟩ := imP_iff2.1 hm
 exact imP_iff2.2 ⟨a, ha, p, h1, h p h2, h3⟩
theorem Wh.mono {ps : List Pk} {inn inn2 : Nat → Bool} {p : Nat} {q : Pk} (hw : Wh ps inn p q) (h : ∀ p, inn p = true → inn2 p = true) : Wh ps inn2 p q :=
 ⟨fun al ha => imP_mono h (hw.1 al ha), fun al ha => imP_mono h (hw.2 al ha)⟩
def Clo (ps : List Pk) (inn : Nat → Bool) : Prop := ∀ (p : Nat) (q : Pk), ps[p]? = some q → inn p = true → Wh ps inn p q
theorem mP_nm {ps : List Pk} {a : At} {p : Nat} (h : mP ps a p = true) : ∃ q, ps[p]? = some q ∧ (a.n = q.nm ∨ a.n ∈ q.pv) := by
 unfold mP at h
 cases e : ps[p]? with
 | none => rw [e] at h; cases h
 | some q =>
   rw [e] at h
   simp only at h
   unfold meetsA at h
   rw [Bool.or_eq_true, Bool.and_eq_true, Bool.and_eq_true] at h
   refine ⟨q, rfl, ?_⟩
   rcases h with ⟨h1, _⟩ | ⟨_, h2⟩
   ·exact .inl (toList_eq.1 h1).symm
   ·exact .inr ((Lib.containsS_iff _ _).1 h2)
theorem fo_mem (F : Nm → List Nat) (i : Nat) (l : List Nm) (x : Nm) (p : Nat) : p ∈ fo F i l x ↔ p ∈ F x ∨ (p = i ∧ x ∈ l) := by
 induction l generalizing F with
 | nil => simp [fo]
 | cons y l ih =>
   show p ∈ fo (upF F y (F y ++ [i])) i l x ↔ _
   rw [ih]
   by_cases e : x = y
   ·subst e
    rw [upF_same]
    rw [List.mem_append, List.mem_singleton]
    constructor
    ·rintro ((h | h) | ⟨h, _⟩)
     ·exact .inl h
     ·exact .inr ⟨h, List.mem_cons_self⟩
     ·exact .inr ⟨h, List.mem_cons_self⟩
    ·rintro (h | ⟨h, _⟩)
     ·exact .inl (.inl h)
     ·exact .inl (.inr h)
   ·rw [upF_other _ _ e]
    simp only [List.mem_cons]
    constructor
    ·rintro (h | ⟨h1, h2⟩)
     ·exact .inl h
     ·exact .inr ⟨h1, .inr h2⟩
    ·rintro (h | ⟨h1, h2 | h2⟩)
     ·exact .inl h
     ·exact absurd h2 e
     ·exact .inr ⟨h1, h2⟩
theorem akP_mem (ps : List Pk) (x : Nm) (p : Nat) : ∀ n, p ∈ akP ps n x ↔ p < n ∧ ∃ q, ps[p]? = some q ∧ x ∈ akN q
 | 0 => by simp [akP]
 | n + 1 => by
   have ih := akP_mem ps x p n
   cases e : ps[n]? with
   | none =>
     have e2 : akP ps (n + 1) = akP ps n := by rw [akP, e]
     rw [e2, ih]
     constructor
     ·rintro ⟨h1, h2⟩; exact ⟨by omega, h2⟩
     ·rintro ⟨h1, q, h2, h3⟩
      refine ⟨?_, q, h2, h3⟩
      by_cases h : p = n
      ·subst h; rw [e] at h2; cases h2
      ·omega
   | some q =>
     have e2 : akP ps (n + 1) = fo (akP ps n) n (akN q) := by rw [akP, e]
     rw [e2, fo_mem, ih]
     constructor
     ·rintro (⟨h1, h2⟩ | ⟨rfl, h2⟩)
      ·exact ⟨by omega, h2⟩
      ·exact ⟨by omega, q, e, h2⟩
     ·rintro ⟨h1, q2, h2, h3⟩
      by_cases h : p = n
      ·subst h; rw [e] at h2; cases h2; exact .inr ⟨rfl, h3⟩
      ·exact .inl ⟨by omega, q2, h2, h3⟩
theorem akN_mem {q : Pk} {al : List At} {a : At} (ha : a ∈ al) (h : al ∈ q.dp ∨ al ∈ q.pr) : a.n ∈ akN q := by
 unfold akN clN
 rw [List.mem_append]
 have : ∀ cl : List (List At), al ∈ cl → a.n ∈ (cl.map fun al => al.map (·.n)).flatten := fun cl hc => List.mem_flatten.2 ⟨al.map (·.n), List.mem_map.2 ⟨al, hc, rfl⟩, List.mem_map.2 ⟨a, ha, rfl⟩⟩
 rcases h with h | h
 ·exact .inl (this _ h)
 ·exact .inr (this _ h)
structure Dp (ps : List Pk) (inn : Nat → Bool) (D : List Nat) (inn' : Nat → Bool) (L : List Nat) : Prop where
 sub : ∀ p, inn' p = true → inn p = true
 fal : ∀ p ∈ L, p ∈ D ∧ inn p = true ∧ inn' p = false
 new : ∀ p, inn p = true → inn' p = false → p ∈ L
 grt : ∀ G, Clo ps G → (∀ p, G p = true → inn p = true) → ∀ p, G p = true → inn' p = true
 chk : ∀ p ∈ D, inn' p = true → ∃ it : Nat → Bool, (∀ p, inn' p = true → it p = true) ∧ (∀ p, it p = true → inn p = true) ∧ ∀ q, ps[p]? = some q → Wh ps it p q
 len : L.length ≤ D.length
theorem Dp.start (ps : List Pk) (inn : Nat → Bool) : Dp ps inn [] inn [] :=
 ⟨fun _ h => h, fun p h => (by cases h), fun p h1 h2 => (by rw [h1] at h2; cases h2), fun G _ h => h, fun p h => (by cases h), Nat.le_refl _⟩
theorem Dp.out {ps : List Pk} {inn inn' : Nat → Bool} {D L : List Nat} {p : Nat} (h : Dp ps inn D inn' L) (hp : inn' p = false) : Dp ps inn (D ++ [p]) inn' L :=
 ⟨h.sub, fun x hx => ⟨List.mem_append.2 (.inl (h.fal x hx).1), (h.fal x hx).2⟩, h.new, h.grt, fun x hx hi => (by
  rcases List.mem_append.1 hx with hx | hx
  ·exact h.chk x hx hi
  ·rw [List.mem_singleton] at hx; subst hx; rw [hp] at hi; cases hi), by rw [List.length_append]; exact Nat.le_add_right_of_le h.len⟩
theorem Dp.keep {ps : List Pk} {inn inn' : Nat → Bool} {D L : List Nat} {p : Nat} (h : Dp ps inn D inn' L) (hw : ∀ q, ps[p]? = some q → Wh ps inn' p q) : Dp ps inn (D ++ [p]) inn' L :=
 ⟨h.sub, fun x hx => ⟨List.mem_append.2 (.inl (h.fal x hx).1), (h.fal x hx).2⟩, h.new, h.grt, fun x hx hi => (by
  rcases List.mem_append.1 hx with hx | hx
  ·exact h.chk x hx hi
  ·rw [List.mem_singleton] at hx; subst hx; exact ⟨inn', fun _ h => h, h.sub, hw⟩), by rw [List.length_append]; exact Nat.le_add_right_of_le h.len⟩
theorem Dp.drop {ps : List Pk} {inn inn' : Nat → Bool} {D L : List Nat} {p : Nat} {q : Pk} (h : Dp ps inn D inn' L) (hp : inn' p = true) (hq : ps[p]? = some q) (hw : ¬ Wh ps inn' p q) : Dp ps inn (D ++ [p]) (fun i => if i = p then false else inn' i) (L ++ [p]) := by
 have hs : ∀ x, (if x = p then false else inn' x) = true → inn' x = true := fun x hx => by
  by_cases e : x = p
  ·rw [if_pos e] at hx; cases hx
  ·rwa [if_neg e] at hx
 refine ⟨fun x hx => h.sub x (hs x hx), fun x hx => ?_, fun x h1 h2 => ?_, fun G hG hs2 x hx => ?_, fun x hx hi => ?_, ?_⟩
 ·rcases List.mem_append.1 hx with hx | hx
  ·refine ⟨List.mem_append.2 (.inl (h.fal x hx).1), (h.fal x hx).2.1, ?_⟩
   show (if x = p then false else inn' x) = false
   by_cases e : x = p
   ·rw [if_pos e]
   ·rw [if_neg e]; exact (h.fal x hx).2.2
  ·rw [List.mem_singleton] at hx
   subst hx
   exact ⟨by simp, h.sub x hp, if_pos rfl⟩
 ·by_cases e : x = p
  ·subst e; simp
  ·simp only [if_neg e] at h2
   exact List.mem_append.2 (.inl (h.new x h1 h2))
 ·have hg := h.grt G hG hs2
  show (if x = p then false else inn' x) = true
  by_cases e : x = p
  ·subst e
   exact absurd ((hG x q hq hx).mono hg) hw
  ·rw [if_neg e]; exact hg x hx
 ·rcases List.mem_append.1 hx with hx | hx
  ·obtain ⟨it, h1, h2, h3⟩ := h.chk x hx (hs x hi)
   exact ⟨it, fun y hy => h1 y (hs y hy), h2, h3⟩
  ·rw [List.mem_singleton] at hx
   subst hx
   simp at hi
 ·have := h.len
  rw [List.length_append, List.length_append, List.length_singleton]
  omega
def Ln (ps : List Pk) (L : List Nat) (p : Nat) : Prop := ∃ f ∈ L, ∃ q, ps[f]? = some q ∧ ∃ x, (x = q.nm ∨ x ∈ q.pv) ∧ p ∈ akP ps ps.length x
structure Cr (ps : List Pk) (inn : Nat → Bool) (D : List Nat) : Prop where
 grt : ∀ G, Clo ps G → ∀ p, p < ps.length → G p = true → inn p = true
 dou : ∀ p q, ps[p]? = some q → inn p = true → ¬ Wh ps inn p q → p ∈ D
 lt : ∀ p ∈ D, p < ps.length
 inl : ∀ p, inn p = true → p < ps.length
theorem Cr.start (ps : List Pk) : Cr ps (fun i => decide (i < ps.length)) (List.range ps.length) :=
 ⟨fun _ _ _ hp _ => decide_eq_true hp, fun _ _ hq _ _ => List.mem_range.2 (List.getElem?_eq_some_iff.1 hq).1, fun _ hp => List.mem_range.1 hp, fun _ h => of_decide_eq_true h⟩
theorem Clo.cut {ps : List Pk} {G : Nat → Bool} (h : Clo ps G) : Clo ps (fun i => G i && decide (i < ps.length)) := fun p q hq hp => by
 rw [Bool.and_eq_true] at hp
 have hw := h p q hq hp.1
 have : ∀ (but : Int) (al : List At), imP ps G but al = true → imP ps (fun i => G i && decide (i < ps.length)) but al = true := fun but al hm => by
  obtain ⟨a, ha, x, h1, h2, h3⟩ := imP_iff2.1 hm
  exact imP_iff2.2 ⟨a, ha, x, h1, by rw [h2, decide_eq_true (mP_lt h1)]; rfl, h3⟩
 exact ⟨fun al ha => this _ al (hw.1 al ha), fun al ha => this _ al (hw.2 al ha)⟩
theorem Cr.next {ps : List Pk} {inn inn' : Nat → Bool} {D L D' : List Nat} (h : Cr ps inn D) (d : Dp ps inn D inn' L) (hD : ∀ p, p ∈ D' ↔ Ln ps L p) : Cr ps inn' D' := by
 refine ⟨fun G hG p hp hg => ?_, fun p q hq hi hw => ?_, fun p hp => ?_, fun p hp => h.inl p (d.sub p hp)⟩
 ·refine d.grt _ hG.cut (fun x hx => ?_) p (by rw [hg, decide_eq_true hp]; rfl)
  rw [Bool.and_eq_true] at hx
  exact h.grt G hG x (of_decide_eq_true hx.2) hx.1
 ·obtain ⟨it, h1, h2, h3⟩ : ∃ it : Nat → Bool, (∀ p, inn' p = true → it p = true) ∧ (∀ p, it p = true → inn p = true) ∧ Wh ps it p q := by
   by_cases hm : p ∈ D
   ·obtain ⟨it, k1, k2, k3⟩ := d.chk p hm hi
    exact ⟨it, k1, k2, k3 q hq⟩
   ·refine ⟨inn, d.sub, fun _ h => h, Classical.byContradiction fun hn => hm (h.dou p q hq (d.sub p hi) hn)⟩
  rw [hD]
  obtain ⟨al, but, hal, hm1, hm2⟩ : ∃ (al : List At) (but : Int), (al ∈ q.dp ∨ al ∈ q.pr) ∧ imP ps it but al = true ∧ imP ps inn' but al ≠ true := by
   refine Classical.byContradiction fun hn => hw ⟨fun al ha => ?_, fun al ha => ?_⟩
   ·exact Classical.byContradiction fun hx => hn ⟨al, _, .inl ha, h3.1 al ha, hx⟩
   ·exact Classical.byContradiction fun hx => hn ⟨al, _, .inr ha, h3.2 al ha, hx⟩
  obtain ⟨a, ha, f, k1, k2, k3⟩ := imP_iff2.1 hm1
  have hf : inn' f = false := by
   cases e : inn' f with
   | false => rfl
   | true => exact absurd (imP_iff2.2 ⟨a, ha, f, k1, e, k3⟩) hm2
  obtain ⟨qf, hqf, hn⟩ := mP_nm k1
  exact ⟨f, d.new f (h2 f k2) hf, qf, hqf, a.n, hn, (akP_mem ps _ _ _).2 ⟨(List.getElem?_eq_some_iff.1 hq).1, q, hq, akN_mem ha hal⟩⟩
 ·obtain ⟨f, _, q, _, x, _, hx⟩ := (hD p).1 hp
  exact ((akP_mem ps _ _ _).1 hx).1
theorem Cr.stop {ps : List Pk} {inn inn' : Nat → Bool} {D : List Nat} (h : Cr ps inn D) (d : Dp ps inn D inn' []) : Clo ps inn' ∧ (∀ G, Clo ps G → ∀ p, p < ps.length → G p = true → inn' p = true) ∧ ∀ p, inn' p = true → p < ps.length := by
 have hb : ∀ p, inn p = true → inn' p = true := fun p hp => by
  cases e : inn' p with
  | true => rfl
  | false => exact absurd (d.new p hp e) (by simp)
 refine ⟨fun p q hq hi => ?_, fun G hG p hp hg => hb p (h.grt G hG p hp hg), fun p hp => h.inl p (d.sub p hp)⟩
 by_cases hm : p ∈ D
 ·obtain ⟨it, k1, k2, k3⟩ := d.chk p hm hi
  exact (k3 q hq).mono fun x hx => hb x (k2 x hx)
 ·exact (Classical.byContradiction fun hn => hm (h.dou p q hq (d.sub p hi) hn) : Wh ps inn p q).mono hb
theorem plL_less {n : Nat} {inn inn' : Nat → Bool} (hs : ∀ p, inn' p = true → inn p = true) {f : Nat} (hf : f < n) (h1 : inn f = true) (h2 : inn' f = false) : (plL inn' n).length < (plL inn n).length := by
 induction n with
 | zero => omega
 | succ n ih =>
   rw [plL_succ, plL_succ, List.length_append, List.length_append]
   have hle : (plL inn' n).length ≤ (plL inn n).length := by
    clear ih
    unfold plL
    induction n with
    | zero => exact Nat.le_refl _
    | succ n ih =>
      rw [List.range_succ, List.filter_append, List.filter_append, List.length_append, List.length_append]
      by_cases hfn : f = n + 1
      ·have := ih
       have hq : ((List.range n).filter inn').length ≤ ((List.range n).filter inn).length := List.Sublist.length_le (by
        have : (List.range n).filter inn' = ((List.range n).filter inn).filter inn' := by
         rw [List.filter_filter]
         refine List.filter_congr fun x _ => ?_
         cases e : inn' x with
         | false => rfl
         | true => rw [hs x e]; rfl
        rw [this]
        exact List.filter_sublist)
       have h9 : ([n].filter inn').length ≤ ([n].filter inn).length := by
        rw [List.filter_cons, List.filter_cons]
        cases e : inn' n with
        | false => simp
        | true => rw [hs n e]; simp
       omega
      ·have hq : ((List.range n).filter inn').length ≤ ((List.range n).filter inn).length := List.Sublist.length_le (by
        have : (List.range n).filter inn' = ((List.range n).filter inn).filter inn' := by
         rw [List.filter_filter]
         refine List.filter_congr fun x _ => ?_
         cases e : inn' x with
         | false => rfl
         | true => rw [hs x e]; rfl
        rw [this]
        exact List.filter_sublist)
       have h9 : ([n].filter inn').length ≤ ([n].filter inn).length := by
        rw [List.filter_cons, List.filter_cons]
        cases e : inn' n with
        | false => simp
        | true => rw [hs n e]; simp
       omega
   by_cases e : f = n
   ·subst e
    rw [h1, h2]
    simp
    omega
   ·have := ih (by omega)
    cases e1 : inn' n with
    | false => simp; omega
    | true => rw [hs n e1]; simp; omega
end
section
open Go.RowKit Go.Maps
theorem firstA_iff (al : List At) (nm vr : ByteArray) (pl : List ByteArray) : (firstA al nm vr pl).2 = true ↔ ∃ a ∈ al, meetsA a.n a.op a.v nm vr pl = true := by
 unfold firstA
 cases h : al.findIdx? (fun a => meetsA a.n a.op a.v nm vr pl) with
 | none =>
   rw [List.findIdx?_eq_none_iff] at h
   refine ⟨fun e => (by cases e), fun ⟨a, ha, hm⟩ => ?_⟩
   have := h a ha
   rw [hm] at this
   cases this
 | some i =>
   refine ⟨fun _ => ?_, fun _ => rfl⟩
   obtain ⟨hi, hm, _⟩ := List.findIdx?_eq_some_iff_getElem.1 h
   exact ⟨_, List.getElem_mem hi, hm⟩
theorem metA_imP {xs : List Pd} {ps : List Pk} (h : Sim xs ps) (who : Int) (pre : Bool) (al : List At) : metA xs who pre al = true ↔ ∃ a ∈ al, ∃ p, mP ps a p = true ∧ (pre = true → (p : Int) ≠ who) := by
 unfold metA
 rw [List.any_eq_true]
 constructor
 ·rintro ⟨⟨x, i⟩, hm, hh⟩
  have hx := List.mk_mem_zipIdx_iff_getElem?.1 hm
  unfold hitA at hh
  rw [Bool.and_eq_true] at hh
  obtain ⟨a, ha, hma⟩ := (firstA_iff _ _ _ _).1 hh.2
  obtain ⟨q, hq, e1, e2, e3⟩ := h.at hx
  refine ⟨a, ha, i, ?_, fun hp e => ?_⟩
  ·unfold mP; rw [hq]; simp only; rw [← e1, ← e2, ← e3]; exact hma
  ·have h1 := hh.1
   simp only [hp, e, Bool.true_and, beq_self_eq_true, Bool.not_true] at h1
   cases h1
 ·rintro ⟨a, ha, p, hm, hne⟩
  obtain ⟨x, hx⟩ : ∃ x, xs[p]? = some x := ⟨_, List.getElem?_eq_getElem (by rw [h.1]; exact mP_lt hm)⟩
  obtain ⟨q, hq, e1, e2, e3⟩ := h.at hx
  refine ⟨(x, p), List.mk_mem_zipIdx_iff_getElem?.2 hx, ?_⟩
  unfold hitA
  rw [Bool.and_eq_true]
  refine ⟨?_, (firstA_iff _ _ _ _).2 ⟨a, ha, ?_⟩⟩
  ·cases pre with
   | false => rfl
   | true =>
     have := hne rfl
     simp only [Bool.true_and]
     rw [show ((p : Int) == who) = false from beq_eq_false_iff_ne.2 this]
     rfl
  ·unfold mP at hm; rw [hq] at hm; simp only at hm; rw [e1, e2, e3]; exact hm
theorem metA_dep {xs : List Pd} {ps : List Pk} (h : Sim xs ps) (who : Int) (al : List At) : metA xs who false al = imP ps (fun _ => true) (-1) al := by
 rw [Bool.eq_iff_iff, metA_imP h, imP_iff]
 constructor
 ·rintro ⟨a, ha, p, hm, _⟩; exact ⟨a, ha, p, hm, by omega⟩
 ·rintro ⟨a, ha, p, hm, _⟩; exact ⟨a, ha, p, hm, fun e => by cases e⟩
theorem metA_pre {xs : List Pd} {ps : List Pk} (h : Sim xs ps) (who : Int) (al : List At) : metA xs who true al = imP ps (fun _ => true) who al := by
 rw [Bool.eq_iff_iff, metA_imP h, imP_iff]
 constructor
 ·rintro ⟨a, ha, p, hm, hn⟩; exact ⟨a, ha, p, hm, hn rfl⟩
 ·rintro ⟨a, ha, p, hm, hn⟩; exact ⟨a, ha, p, hm, fun _ => hn⟩
end
section
open Go.RowKit Go.Maps
set_option maxRecDepth 100000 in
set_option maxHeartbeats 4000000 in
theorem rwhole_any {w : World} {v : Value} {ps : List Pk} {p : Nat} {q : Pk} (sm : SmP ps) (pk : Pkl w v ps) (hq : ps[p]? = some q) :
 Calls Tryz.prog 38 #[v, .int .i64 (p : Int)] w fun e w' => ∃ b : Bool, e = .returned (.bool b) ∧ (b = true ↔ Cl1 ps p q) ∧ RowKit.Below w.heap.size w w' := by
 obtain ⟨xs, hxs, hsim⟩ := sim_of pk (fun p hp => (sm.z p hp).2.1)
 have hpl := (List.getElem?_eq_some_iff.1 hq).1
 have hpn : (p : Int) < (ps.length : Int) := by omega
 have hl := sm.l
 have hmem := List.mem_of_getElem? hq
 have hdl : q.dp.length ≤ 1048576 := Nat.le_trans (le_sum (fun p : Pk => p.dp.length) hmem) sm.sd
 have hrl : q.pr.length ≤ 1048576 := Nat.le_trans (le_sum (fun p : Pk => p.pr.length) hmem) sm.sr
 obtain ⟨vb, vo, vc, cs, dd, rr, cc, pv, ff, rfl, hvb, hr, hpc, hll⟩ := pk.at2 hq
 obtain ⟨da, dc, df, rfl, hcd⟩ := cv_of hll.dl
 obtain ⟨ra, rc, rf, rfl, hcr⟩ := cv_of hll.rl
 have HC := hide (show ∀ X, RowKit.Below w.heap.size w X → X.cell? ⟨vb, vo + p * 43 + 3, none⟩ = some (.slice da q.dp.length dc) ∧ X.cell? ⟨vb, vo + p * 43 + 4, none⟩ = some (.slice ra q.pr.length rc) from fun X hX => ⟨(hX.cell (p := ⟨vb, vo + p * 43 + 3, none⟩) hvb).trans (hr 3 _ hpc.c3), (hX.cell (p := ⟨vb, vo + p * 43 + 4, none⟩) hvb).trans (hr 4 _ hpc.c4)⟩)
 have HMD := hide (show ∀ X, RowKit.Below w.heap.size w X → ∀ i, i < q.dp.length → ∃ b o, da = some ⟨b, o, none⟩ ∧ X.cell? ⟨b, o + i, none⟩ = some (.slice (df i).a (df i).n (df i).c) ∧ Calls Tryz.prog 33 #[.slice (some ⟨vb, vo, none⟩) ps.length vc, .int .i64 (p : Int), .slice (df i).a (df i).n (df i).c, .bool false] X fun e w' => e = .returned (.bool (imP ps (fun _ => true) (-1) (q.dp.getD i []))) ∧ RowKit.Below X.heap.size X w' from fun X hX i hi => by
  obtain ⟨b, o, h1, h2, h3, h4⟩ := (hcd.later hX).at_ i hi
  refine ⟨b, o, h1, h3, ?_⟩
  have hz := (sm.d q hmem _ (getD_mem hi)).2
  have := rMet_any xs (p : Int) false (q.dp.getD i []) _ _ X (by rw [hsim.1]; omega) (fun j hj => (hz _ (List.getElem_mem hj)).2) (hxs.later hX) h4
  rw [metA_dep hsim] at this
  exact this)
 have HMR := hide (show ∀ X, RowKit.Below w.heap.size w X → ∀ i, i < q.pr.length → ∃ b o, ra = some ⟨b, o, none⟩ ∧ X.cell? ⟨b, o + i, none⟩ = some (.slice (rf i).a (rf i).n (rf i).c) ∧ Calls Tryz.prog 33 #[.slice (some ⟨vb, vo, none⟩) ps.length vc, .int .i64 (p : Int), .slice (rf i).a (rf i).n (rf i).c, .bool true] X fun e w' => e = .returned (.bool (imP ps (fun _ => true) (p : Int) (q.pr.getD i []))) ∧ RowKit.Below X.heap.size X w' from fun X hX i hi => by
  obtain ⟨b, o, h1, h2, h3, h4⟩ := (hcr.later hX).at_ i hi
  refine ⟨b, o, h1, h3, ?_⟩
  have hz := (sm.r q hmem _ (getD_mem hi)).2
  have := rMet_any xs (p : Int) true (q.pr.getD i []) _ _ X (by rw [hsim.1]; omega) (fun j hj => (hz _ (List.getElem_mem hj)).2) (hxs.later hX) h4
  rw [metA_pre hsim] at this
  exact this)
 have HCL := hide (show Cl1 ps p q ↔ (∀ i, i < q.dp.length → imP ps (fun _ => true) (-1) (q.dp.getD i []) = true) ∧ (∀ i, i < q.pr.length → imP ps (fun _ => true) (p : Int) (q.pr.getD i []) = true) from by
  have key : ∀ (cl : List (List At)) (F : List At → Prop), (∀ al ∈ cl, F al) ↔ ∀ i, i < cl.length → F (cl.getD i []) := fun cl F => by
   constructor
   ·intro h i hi; exact h _ (getD_mem hi)
   ·intro h al hal
    obtain ⟨i, hi, rfl⟩ := List.getElem_of_mem hal
    have := h i hi
    rwa [List.getD_eq_getElem?_getD, List.getElem?_eq_getElem hi] at this
  unfold Cl1
  rw [key q.dp, key q.pr])
 clear pk hq hmem hr hpc hll hcd hcr hxs hsim sm hpl
 generalize q.dp.length = D at *
 generalize q.pr.length = R at *
 go_enter Tryz.func38, Tryz.ntmps38
 go_wp2_with fail
 go_loopg [5, 6] D (fun gq iv _ wr => ∃ i : Nat, iv = .int .i64 i ∧ i ≤ D ∧ D - i ≤ gq ∧ Hid (RowKit.Below w.heap.size w wr ∧ ∀ j, j < i → imP ps (fun _ => true) (-1) (q.dp.getD j []) = true))
 case atStart => exact ⟨0, by go_num, by omega, by omega, hide ⟨Below.refl _ _, fun j h => by omega⟩⟩
 case round =>
  obtain ⟨i, rfl, hi, hg, HB⟩ := hrel
  obtain ⟨k3, _⟩ := unhide HC wr (unhide HB).1
  by_cases hlt : i < D
  ·have hin : (i : Int) < (D : Int) := by omega
   obtain ⟨b, o, rfl, c0, hcall⟩ := unhide HMD wr (unhide HB).1 i hlt
   have CM := hide hcall
   clear hcall
   cases hm : imP ps (fun _ => true) (-1) (q.dp.getD i []) with
   | true =>
     rw [hm] at CM
     have HM := hide hm
     clear hm
     go_wp2_with (go_at_call 33; refine (unhide CM).mono ?_; rintro e w5 ⟨rfl, hb5⟩; have HB5 := hide (bl_t (unhide HB).1 hb5); clear hb5 CM k3 c0)
     go_roundg (D - (i + 1))
     case measure => omega
     case rel => exact ⟨i + 1, by go_num, by omega, by omega, hide ⟨unhide HB5, fun j hj => by
      by_cases e : j = i
      ·subst e; exact unhide HM
      ·exact (unhide HB).2 j (by omega)⟩⟩
   | false =>
     rw [hm] at CM
     have HNO := hide (show ¬ Cl1 ps p q from fun h => by have := ((unhide HCL).1 h).1 i hlt; rw [hm] at this; cases this)
     clear hm
     go_wp2_with (go_at_call 33; refine (unhide CM).mono ?_; rintro e w5 ⟨rfl, hb5⟩; have HB5 := hide (bl_t (unhide HB).1 hb5); clear hb5 CM k3 c0)
     go_ret
     exact ⟨false, rfl, ⟨fun h => (by cases h), fun h => absurd h (unhide HNO)⟩, unhide HB5⟩
  ·obtain rfl : i = D := by omega
   rename World => W2
   have HB2 := hide (unhide HB).1
   have HD := hide (unhide HB).2
   clear HB
   go_wp2_with fail
   clear k3
   go_loopg [7, 8] R (fun gq iv _ wr => ∃ j : Nat, iv = .int .i64 j ∧ j ≤ R ∧ R - j ≤ gq ∧ Hid (RowKit.Below w.heap.size w wr ∧ ∀ k, k < j → imP ps (fun _ => true) (p : Int) (q.pr.getD k []) = true))
   case atStart => exact ⟨0, by go_num, by omega, by omega, hide ⟨unhide HB2, fun j h => by omega⟩⟩
   case round =>
    obtain ⟨j, rfl, hj, hgj, HB⟩ := hrel
    obtain ⟨_, k4⟩ := unhide HC wr (unhide HB).1
    by_cases hlt2 : j < R
    ·have hjn : (j : Int) < (R : Int) := by omega
     obtain ⟨b, o, rfl, c0, hcall⟩ := unhide HMR wr (unhide HB).1 j hlt2
     have CM := hide hcall
     clear hcall
     cases hm : imP ps (fun _ => true) (p : Int) (q.pr.getD j []) with
     | true =>
       rw [hm] at CM
       have HM := hide hm
       clear hm
       go_wp2_with (go_at_call 33; refine (unhide CM).mono ?_; rintro e w5 ⟨rfl, hb5⟩; have HB5 := hide (bl_t (unhide HB).1 hb5); clear hb5 CM k4 c0)
       go_roundg (R - (j + 1))
       case measure => omega
       case rel => exact ⟨j + 1, by go_num, by omega, by omega, hide ⟨unhide HB5, fun k hk => by
        by_cases e : k = j
        ·subst e; exact unhide HM
        ·exact (unhide HB).2 k (by omega)⟩⟩
     | false =>
       rw [hm] at CM
       have HNO := hide (show ¬ Cl1 ps p q from fun h => by have := ((unhide HCL).1 h).2 j hlt2; rw [hm] at this; cases this)
       clear hm
       go_wp2_with (go_at_call 33; refine (unhide CM).mono ?_; rintro e w5 ⟨rfl, hb5⟩; have HB5 := hide (bl_t (unhide HB).1 hb5); clear hb5 CM k4 c0)
       go_ret
       exact ⟨false, rfl, ⟨fun h => (by cases h), fun h => absurd h (unhide HNO)⟩, unhide HB5⟩
    ·obtain rfl : j = R := by omega
     go_wp2_with fail
     go_ret
     exact ⟨true, rfl, ⟨fun _ => (unhide HCL).2 ⟨unhide HD, (unhide HB).2⟩, fun _ => rfl⟩, (unhide HB).1⟩
end
section
open Go.RowKit Go.Maps
structure Dw (W wr : World) (gi n : Nat) (s : Value) (inn : Nat → Bool) (L : List Nat) : Prop where
 b : Bb wr gi n inn
 row : wr.ownsRow W.heap.size 3 1 s L.length (ints L)
 fx : Fx (fun c => c = gi) W wr
theorem Dw.later {W wr X : World} {gi n : Nat} {s : Value} {inn : Nat → Bool} {L : List Nat} (h : Dw W wr gi n s inn L) (hb : RowKit.Below wr.heap.size wr X) : Dw W X gi n s inn L :=
 ⟨h.b.later hb, own_same h.row fun b e => hb.block b (World.ownsRow.lt h.row b e).2, h.fx.trans (Fx.of hb)⟩
theorem Dw.set {W wr : World} {gi n : Nat} {s : Value} {inn : Nat → Bool} {L : List Nat} (h : Dw W wr gi n s inn L) (hg : gi < W.heap.size) {p : Nat} (hp : p < n) : Dw W (wr.setCell ⟨gi, p, none⟩ (.bool false)) gi n s (fun i => if i = p then false else inn i) L :=
 ⟨h.b.set hp false, own_same h.row fun b e => set_other wr gi p (.bool false) b (by have := (World.ownsRow.lt h.row b e).1; omega), h.fx.set rfl p (.bool false)⟩
theorem Dw.grow {W wr w9 : World} {gi n : Nat} {s v' : Value} {inn : Nat → Bool} {L : List Nat} {p : Nat} {o : Obj} (h : Dw W wr gi n s inn L) (hg : gi < W.heap.size) (hown : w9.ownsRow W.heap.size 3 1 v' (L.length + 1) (ints L ++ [.int .i64 (p : Int)])) (hgr : (wr.alloc o).grownBy w9 s.ownBlock) : Dw W w9 gi n v' inn (L ++ [p]) := by
 have hz := h.fx.size
 have b1 : RowKit.Below wr.heap.size wr (wr.alloc o) := (Below.refl _ wr).alloc (Nat.le_refl _) _
 have ne : ∀ c, c < W.heap.size → some c ≠ s.ownBlock := fun c hc e => by have := (World.ownsRow.lt h.row c e.symm).1; omega
 have kp : ∀ c, c < W.heap.size → w9.heap[c]? = wr.heap[c]? := fun c hc => (hgr.block c (by rw [World.size_alloc]; omega) (ne c hc)).trans (b1.block c (by omega))
 have b2 : RowKit.Below 0 wr w9 := (b1.mono (Nat.zero_le _)).grown hgr (Nat.zero_le _) (fun _ _ => Nat.zero_le _)
 refine ⟨?_, ?_, ⟨h.fx.bel.trans b2, fun c hc hn => (kp c hc).trans (h.fx.blk c hc hn)⟩⟩
 ·obtain ⟨cur, h1, h2⟩ := h.b.blk
  exact ⟨cur, (kp gi hg).trans h1, h2⟩
 ·rw [List.length_append, show ints (L ++ [p]) = ints L ++ [.int .i64 (p : Int)] from by simp [ints]]
  exact hown
theorem Bb.bls {W : World} {g n : Nat} {f : Nat → Bool} (h : Bb W g n f) : Bls W (.slice (some ⟨g, 0, none⟩) n n) f n := ⟨_, _, rfl, fun _ => ⟨g, rfl, h.lt, fun _ hi => (h.cell hi).1⟩⟩
theorem own_pl {lo : Nat} {w : World} {r : Value} {l : List Nat} (h : w.ownsRow lo 3 1 r l.length (ints l)) : Pl lo w r l := by
 rcases h.2 with ⟨q1, q2⟩ | ⟨g, cap, cur, q1, q2, q3, _⟩
 ·refine ⟨none, 0, by rw [q1, q2], fun i p hp => ?_⟩
  have hl : l = [] := List.length_eq_zero_iff.1 q2
  subst hl
  simp at hp
 ·refine ⟨some ⟨g, 0, none⟩, cap, q1, fun i p hp => ⟨g, rfl, q2, blk_lt q3, ?_⟩⟩
  have hc := h.cells (g := g) (by rw [q1]; rfl) i (.int .i64 (p : Int)) (by unfold ints; rw [List.getElem?_map, hp]; rfl)
  rw [Addr.add_mid, Nat.zero_add] at hc
  exact hc
theorem Pl.later {lo : Nat} {w w2 : World} {r : Value} {l : List Nat} (h : Pl lo w r l) (hb : RowKit.Below w.heap.size w w2) : Pl lo w2 r l := by
 obtain ⟨a, c, h1, h2⟩ := h
 refine ⟨a, c, h1, fun i p hp => ?_⟩
 obtain ⟨g, q1, q2, q3, q4⟩ := h2 i p hp
 exact ⟨g, q1, q2, Nat.lt_of_lt_of_le q3 hb.size, (hb.cell (p := ⟨g, i, none⟩) q3).trans q4⟩
theorem fx_below {w0 w w' : World} {gi : Nat} (h0 : RowKit.Below w0.heap.size w0 w) (hf : Fx (fun c => c = gi) w w') (hg : w0.heap.size ≤ gi) : RowKit.Below w0.heap.size w0 w' :=
 ⟨hf.bel.os.trans h0.os, hf.bel.tape.trans h0.tape, hf.bel.output.trans h0.output, Nat.le_trans h0.size hf.bel.size, fun c hc => (hf.blk c (Nat.lt_of_lt_of_le hc h0.size) (fun e => by omega)).trans (h0.block c hc)⟩
set_option maxRecDepth 100000 in
set_option maxHeartbeats 8000000 in
theorem drop_any {w0 w : World} {b1 b2 : Nat} {v r : Value} {xs : List Pd} {ps : List Pk} {base lo gi : Nat} {H1 H2 : Nm → Option Hd} {k1 k2 : Nat} {D : List Nat} (inn : Nat → Bool) (m1 : Mi w0 base (.map (some b1)) H1 (nmP xs xs.length) k1) (m2 : Mi w0 base (.map (some b2)) H2 (pvP xs xs.length) k2) (pks : Pks w0 v xs) (hs : Sim xs ps) (sm : SmP ps) (pk : Pkl w0 v ps) (h0 : RowKit.Below w0.heap.size w0 w) (hg : w0.heap.size ≤ gi) (hin : Bb w gi ps.length inn) (hr : Pl lo w r D) (hlo : gi < lo) (hlen : D.length ≤ 1048576) (hD : ∀ p ∈ D, p < ps.length) :
 Calls Tryz.prog 43 #[.agg #[v, .map (some b1), .map (some b2)], .slice (some ⟨gi, 0, none⟩) ps.length ps.length, r] w fun e w' => ∃ u inn' L, e = .returned u ∧ w'.ownsRow w.heap.size 3 1 u L.length (ints L) ∧ Bb w' gi ps.length inn' ∧ Dp ps inn D inn' L ∧ Fx (fun c => c = gi) w w' := by
 obtain ⟨i0, hi, hz0, hz1, hz2⟩ := info_parts2 infoI8
 obtain ⟨va, vc, rfl⟩ : ∃ a c, v = .slice a ps.length c := let ⟨a, c, e, _⟩ := pk; ⟨a, c, e⟩
 obtain ⟨ra, rk, rfl, hpl⟩ := hr
 have HR := hide (show ∀ X, Fx (fun c => c = gi) w X → ∀ j (hj : j < D.length), ∃ g, ra = some ⟨g, 0, none⟩ ∧ X.cell? ⟨g, j, none⟩ = some (.int .i64 (D[j] : Int)) from fun X hX j hj => by
  obtain ⟨g, e1, e2, e3, e4⟩ := hpl j D[j] (List.getElem?_eq_getElem hj)
  refine ⟨g, e1, ?_⟩
  rw [← e4]
  unfold World.cell?
  rw [show X.heap[(⟨g, j, none⟩ : Addr).block]? = w.heap[(⟨g, j, none⟩ : Addr).block]? from hX.blk g e3 (fun q => by omega)])
 have HW := hide (show ∀ (X : World) (it : Nat → Bool), Fx (fun c => c = gi) w X → Bb X gi ps.length it → ∀ (p : Nat) (q : Pk), ps[p]? = some q → Calls Tryz.prog 67 #[.agg #[.slice va ps.length vc, .map (some b1), .map (some b2)], .int .i64 (p : Int), .slice (some ⟨gi, 0, none⟩) ps.length ps.length] X fun e w' => ∃ b : Bool, e = .returned (.bool b) ∧ (b = true ↔ Wh ps it p q) ∧ RowKit.Below X.heap.size X w' from fun X it hX hb p q hq => by
  have bX := fx_below h0 hX hg
  exact isWhole_any it (m1.later bX) (m2.later bX) (pks.later bX) hs sm (pk.later bX) hb.bls hq)
 obtain ⟨W1, hW1⟩ : ∃ W, W = w.alloc (.cells #[.slice va ps.length vc, .map (some b1), .map (some b2)] 62) := ⟨_, rfl⟩
 have hgw := hin.lt
 have bW : RowKit.Below w.heap.size w W1 := by rw [hW1]; exact (Below.refl _ w).alloc (Nat.le_refl _) _
 have HB1 := hide (show RowKit.Below w.heap.size w W1 ∧ W1.heap[w.heap.size]? = some (.cells #[.slice va ps.length vc, .map (some b1), .map (some b2)] 62 (0, 0)) from ⟨bW, by rw [hW1]; exact World.alloc_heap_new w _⟩)
 have hgW : gi < W1.heap.size := Nat.lt_of_lt_of_le hgw bW.size
 have HST := hide (show Dw W1 W1 gi ps.length (.slice none 0 0) inn [] ∧ Dp ps inn (D.take 0) inn [] from ⟨⟨hin.later bW, World.ownsRow_nil _ _ _ _, Fx.refl _ _⟩, by rw [List.take_zero]; exact Dp.start ps inn⟩)
 obtain ⟨N, hN⟩ : ∃ N, N = D.length := ⟨_, rfl⟩
 have HN := hide hN
 have HD := hide hD
 rw [← hN] at hlen
 rw [← hN]
 clear m1 m2 pks hs sm pk hin hpl hD hN bW
 have hpsl : ps.length ≤ 262144 ∨ True := .inr trivial
 clear hpsl
 go_enter Tryz.func43, Tryz.ntmps43
 go_wp2_with fail
 rw [← hW1]
 clear hW1
 go_loopg [7, 9, 12] N (fun gq sv _ iv wr => ∃ (j : Nat) (it : Nat → Bool) (L : List Nat), iv = .int .i64 j ∧ j ≤ N ∧ N - j ≤ gq ∧ Hid (Dw W1 wr gi ps.length sv it L ∧ Dp ps inn (D.take j) it L))
 case atStart => exact ⟨0, _, _, by go_num, by omega, by omega, HST⟩
 case round =>
  clear HST
  obtain ⟨j, it, L, rfl, hj, hgj, HB⟩ := hrel
  by_cases hlt : j < N
  ·have hjn : (j : Int) < (N : Int) := by omega
   have hjl : j < D.length := by have := unhide HN; omega
   have fX : Fx (fun c => c = gi) w wr := (Fx.of (unhide HB1).1).next (unhide HB).1.fx (fun _ _ h => h)
   obtain ⟨g, rfl, c0⟩ := unhide HR wr fX j hjl
   have hp := unhide HD D[j] (List.getElem_mem hjl)
   have hpn : (D[j] : Int) < (ps.length : Int) := by omega
   obtain ⟨f0, z0⟩ := (unhide HB).1.b.cell hp
   obtain ⟨q, hq⟩ : ∃ q, ps[D[j]]? = some q := ⟨_, List.getElem?_eq_getElem hp⟩
   have HTK := hide (show D.take (j + 1) = D.take j ++ [D[j]] from by rw [List.take_add_one, List.getElem?_eq_getElem hjl]; rfl)
   have e1 := ((unhide HB).1.fx.blk _ (blk_lt (unhide HB1).2) (by have := (unhide HB1).1.size; intro h; have h2 := hgW; have := (unhide HB1).2; omega)).trans (unhide HB1).2
   have s0 := (cell_blk e1 0).1.trans (show #[Value.slice va ps.length vc, .map (some b1), .map (some b2)][0]? = some (.slice va ps.length vc) from rfl)
   have s1 := (cell_blk e1 1).1.trans (show #[Value.slice va ps.length vc, .map (some b1), .map (some b2)][1]? = some (.map (some b1)) from rfl)
   have s2 := (cell_blk e1 2).1.trans (show #[Value.slice va ps.length vc, .map (some b1), .map (some b2)][2]? = some (.map (some b2)) from rfl)
   have C := hide (unhide HW wr it fX (unhide HB).1.b D[j] q hq)
   have HQ := hide hq
   clear e1 fX hq
   generalize D[j] = p at *
   cases hf : it p with
   | false =>
     rw [hf] at f0
     have HF := hide ((unhide HB).2.out hf)
     clear C hf
     go_wp2_with fail
     go_roundg (N - (j + 1))
     case measure => omega
     case rel => exact ⟨j + 1, it, L, by go_num, by omega, by omega, hide ⟨(unhide HB).1, by rw [unhide HTK]; exact unhide HF⟩⟩
   | true =>
     rw [hf] at f0
     have HF := hide hf
     clear hf
     go_upto_region 6 with (go_at_call 67; refine (unhide C).mono ?_; rintro e w5 ⟨bw, rfl, hbw, hb5⟩; have HB5 := hide (And.intro hb5 hbw); clear hb5 hbw C c0 f0 z0 s0 s1 s2)
     ·have hbq : (!bw) = true := by assumption
      obtain rfl : bw = false := by simpa using hbq
      have HDP := hide ((unhide HB).2.drop (unhide HF) (unhide HQ) fun h => by have := (unhide HB5).2.2 h; cases this)
      have dw5 := (unhide HB).1.later (unhide HB5).1
      obtain ⟨f0, z0⟩ := dw5.b.cell hp
      have HD5 := hide (dw5.set hgW hp)
      have hll := (unhide HB).2.len
      rw [List.length_take] at hll
      clear dw5 hbq
      go_upto_region 7 with fail
      clear f0 z0
      obtain ⟨W6, hW6⟩ : ∃ W, W = w5.setCell ⟨gi, p, none⟩ (.bool false) := ⟨_, rfl⟩
      rw [← hW6] at HD5 ⊢
      clear hW6
      have hz5 := (unhide HD5).fx.size
      go_wp2_with (at_builtin; go_must (refine wpList_append_own _ rfl _ _ 34 rfl W1.heap.size 3 i0 (.int .i64 0) 1 8 Tryz.underlying34 hi hz0 hz1 hz2 rfl (by decide) _ _ _ rfl (own_same (unhide HD5).row fun b e => Below.heap_alloc _ _ _ (World.ownsRow.lt (unhide HD5).row b e).2) ⟨W6.heap.size, 0, none⟩ 1 1 [.int .i64 (p : Int)] rfl rfl (fun k u hk => by rw [Addr.add_mid, Nat.zero_add, World.cell?_alloc_new]; simpa using hk) (fun u hu => by simp at hu; subst hu; rfl) (by unfold maxLen; omega) (by omega) (by rw [World.size_alloc]; omega) ?_); intro v' w9 hown hgrow _; have HF9 := hide ((unhide HD5).grow hgW hown hgrow); clear hown hgrow)
      go_roundg (N - (j + 1))
      case measure => omega
      case rel => exact ⟨j + 1, _, _, by go_num, by omega, by omega, hide ⟨unhide HF9, by rw [unhide HTK]; exact unhide HDP⟩⟩
     ·have hbq : (!bw) = false := by assumption
      obtain rfl : bw = true := by simpa using hbq
      clear hbq
      have HF5 := hide (And.intro ((unhide HB).1.later (unhide HB5).1) ((unhide HB).2.keep (p := p) (fun q2 hq2 => by rw [unhide HQ] at hq2; cases hq2; exact (unhide HB5).2.1 rfl)))
      go_roundg (N - (j + 1))
      case measure => omega
      case rel => exact ⟨j + 1, it, L, by go_num, by omega, by omega, by rw [unhide HTK]; exact HF5⟩
  ·obtain rfl : j = N := by omega
   have HE := hide (show Dp ps inn D it L from by
    have h := (unhide HB).2
    rw [unhide HN, List.take_length] at h
    exact h)
   go_wp2_with fail
   go_ret
   exact ⟨_, it, L, rfl, row_lo2 (unhide HB).1.row (unhide HB1).1.size, (unhide HB).1.b, unhide HE, (Fx.of (unhide HB1).1).next (unhide HB).1.fx (fun _ _ h => h)⟩
end
end Go.Proofs.YtdkpglmdncjnbaaGreatDoor
