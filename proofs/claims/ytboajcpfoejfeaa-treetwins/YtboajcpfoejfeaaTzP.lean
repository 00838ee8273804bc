import Derived.Test.YtboajcpfoejfeaaTzA
namespace Go.Proofs.Ytboajcpfoejfeaa
open Go.RowKit Go.Maps

theorem snoc_ind {α : Type} {P : List α → Prop} (h0 : P []) (hs : ∀ l x, P l → P (l ++ [x])) : ∀ l, P l := by
  have h : ∀ l : List α, P l.reverse := fun l => by
    induction l with
    | nil => exact h0
    | cons x l ih => rw [List.reverse_cons]; exact hs _ x ih
  intro l
  have := h l.reverse
  rwa [List.reverse_reverse] at this
/-- A FILE. -/
structure Fi where
  p : Nm
  z : Int
  s : List Int
abbrev Ky := Int × List Int
def Fi.k (f : Fi) : Ky := (f.z, f.s)
/-- THE CONTENTS, EACH ONCE, AS THEY COME. -/
def hds (l : List Fi) : List Ky := l.foldl (fun h f => if f.k ∈ h then h else h ++ [f.k]) []
theorem hds_snoc (l : List Fi) (f : Fi) : hds (l ++ [f]) = if f.k ∈ hds l then hds l else hds l ++ [f.k] := by
  unfold hds
  rw [List.foldl_append]
  rfl
theorem hds_mem (l : List Fi) : ∀ k, k ∈ hds l ↔ ∃ f ∈ l, f.k = k := by
  refine snoc_ind (P := fun l => ∀ k, k ∈ hds l ↔ ∃ f ∈ l, f.k = k) (fun k => by simp [hds]) (fun l x ih k => ?_) l
  rw [hds_snoc]
  by_cases e : x.k ∈ hds l
  · rw [if_pos e, ih k]
    constructor
    · rintro ⟨f, hf, q⟩; exact ⟨f, List.mem_append_left _ hf, q⟩
    · rintro ⟨f, hf, q⟩
      rcases List.mem_append.1 hf with hf | hf
      · exact ⟨f, hf, q⟩
      · rw [List.mem_singleton] at hf
        subst hf
        rw [← q]
        exact (ih _).1 e
  · rw [if_neg e, List.mem_append, ih k, List.mem_singleton]
    constructor
    · rintro (⟨f, hf, q⟩ | q)
      · exact ⟨f, List.mem_append_left _ hf, q⟩
      · exact ⟨x, by simp, q.symm⟩
    · rintro ⟨f, hf, q⟩
      rcases List.mem_append.1 hf with hf | hf
      · exact .inl ⟨f, hf, q⟩
      · rw [List.mem_singleton] at hf
        subst hf
        exact .inr q.symm
theorem hds_nodup (l : List Fi) : (hds l).Nodup := by
  refine snoc_ind (P := fun l => (hds l).Nodup) (by simp [hds]) (fun l x ih => ?_) l
  rw [hds_snoc]
  by_cases e : x.k ∈ hds l
  · rw [if_pos e]; exact ih
  · rw [if_neg e, List.nodup_append]
    exact ⟨ih, by simp, fun a ha b hb q => e (by rw [List.mem_singleton] at hb; rw [← hb, ← q]; exact ha)⟩
theorem hds_len (l : List Fi) : (hds l).length ≤ l.length := by
  refine snoc_ind (P := fun l => (hds l).length ≤ l.length) (by simp [hds]) (fun l x ih => ?_) l
  rw [hds_snoc]
  by_cases e : x.k ∈ hds l
  · rw [if_pos e, List.length_append]; simp; omega
  · rw [if_neg e, List.length_append, List.length_append]; simp; omega
/-- THE PATHS OF A CONTENT. -/
def pth (l : List Fi) (k : Ky) : List Nm := (l.filter fun f => decide (f.k = k)).map (·.p)
theorem pth_snoc (l : List Fi) (f : Fi) (k : Ky) : pth (l ++ [f]) k = pth l k ++ (if f.k = k then [f.p] else []) := by
  unfold pth
  rw [List.filter_append, List.map_append]
  congr 1
  by_cases e : f.k = k
  · simp [e]
  · simp [e]
theorem pth_len (l : List Fi) (k : Ky) : (pth l k).length ≤ l.length := by
  unfold pth
  rw [List.length_map]
  exact List.length_filter_le _ _
theorem pth_none {l : List Fi} {k : Ky} (h : k ∉ hds l) : pth l k = [] := by
  unfold pth
  rw [List.map_eq_nil_iff, List.filter_eq_nil_iff]
  intro f hf
  simp only [decide_eq_true_eq]
  exact fun e => h ((hds_mem l k).2 ⟨f, hf, e⟩)
def grp (l : List Fi) : List (List Nm) := (hds l).map (pth l)
theorem grp_len (l : List Fi) : (grp l).length = (hds l).length := List.length_map _
/-- ONE MORE FILE. -/
theorem grp_old {l : List Fi} {f : Fi} {j : Nat} (h : (hds l)[j]? = some f.k) : grp (l ++ [f]) = (grp l).set j (pth l f.k ++ [f.p]) := by
  have hm : f.k ∈ hds l := List.mem_of_getElem? h
  have hn := hds_nodup l
  unfold grp
  rw [hds_snoc, if_pos hm]
  refine List.ext_getElem? fun i => ?_
  rw [List.getElem?_map, List.getElem?_set, List.length_map]
  by_cases e : j = i
  · subst e
    have hl := (List.getElem?_eq_some_iff.1 h).1
    rw [if_pos rfl, if_pos hl, h]
    show some (pth (l ++ [f]) f.k) = _
    rw [pth_snoc, if_pos rfl]
  · rw [if_neg e, List.getElem?_map]
    cases hi : (hds l)[i]? with
    | none => rfl
    | some k =>
      show some (pth (l ++ [f]) k) = some (pth l k)
      rw [pth_snoc, if_neg, List.append_nil]
      intro q
      obtain ⟨h1, h2⟩ := List.getElem?_eq_some_iff.1 h
      obtain ⟨h3, h4⟩ := List.getElem?_eq_some_iff.1 hi
      rw [← q, ← h2] at h4
      exact e ((List.getElem_inj hn).1 h4).symm
theorem grp_new {l : List Fi} {f : Fi} (h : f.k ∉ hds l) : grp (l ++ [f]) = grp l ++ [[f.p]] := by
  unfold grp
  rw [hds_snoc, if_neg h, List.map_append]
  congr 1
  · refine List.map_congr_left fun k hk => ?_
    rw [pth_snoc, if_neg (fun q => h (by rw [q]; exact hk)), List.append_nil]
  · rw [List.map_singleton, pth_snoc, if_pos rfl, pth_none h]
    rfl
/-- LISTS OF NAMES COMPARED. -/
def cmpL : List Nm → List Nm → Int
  | [], [] => 0
  | [], _ :: _ => -1
  | _ :: _, [] => 1
  | x :: a, y :: b => if lt x y then -1 else if lt y x then 1 else cmpL a b
theorem lt_irr (x : Nm) : ¬ lt x x := List.lt_irrefl _
theorem lt_asy {x y : Nm} (h : lt x y) : ¬ lt y x := fun k => lt_irr x (List.lt_trans h k)
theorem cmp_flip : ∀ a b : List Nm, cmpL b a = - cmpL a b
  | [], [] => rfl
  | [], _ :: _ => rfl
  | _ :: _, [] => rfl
  | x :: a, y :: b => by
    show (if lt y x then -1 else if lt x y then 1 else cmpL b a) = - (if lt x y then -1 else if lt y x then 1 else cmpL a b)
    by_cases h1 : lt x y
    · rw [if_neg (lt_asy h1), if_pos h1, if_pos h1]; rfl
    · by_cases h2 : lt y x
      · rw [if_pos h2, if_neg h1, if_pos h2]
      · rw [if_neg h2, if_neg h1, if_neg h1, if_neg h2, cmp_flip a b]
theorem cmp_zero : ∀ a b : List Nm, cmpL a b = 0 → a = b
  | [], [], _ => rfl
  | [], _ :: _, h => absurd h (by show ¬ (-1 : Int) = 0; decide)
  | _ :: _, [], h => absurd h (by show ¬ (1 : Int) = 0; decide)
  | x :: a, y :: b, h => by
    have h' : (if lt x y then -1 else if lt y x then 1 else cmpL a b) = 0 := h
    by_cases h1 : lt x y
    · rw [if_pos h1] at h'; omega
    · by_cases h2 : lt y x
      · rw [if_neg h1, if_pos h2] at h'; omega
      · rw [if_neg h1, if_neg h2] at h'
        have e : x = y := Classical.byContradiction fun e => h2 (lt_tri h1 e)
        rw [e, cmp_zero a b h']
theorem cmp_self : ∀ a : List Nm, cmpL a a = 0
  | [] => rfl
  | x :: a => by
    show (if lt x x then -1 else if lt x x then 1 else cmpL a a) = 0
    rw [if_neg (lt_irr x), if_neg (lt_irr x), cmp_self a]
theorem cmp_trans : ∀ a b c : List Nm, cmpL a b < 0 → cmpL b c < 0 → cmpL a c < 0
  | [], [], _, h, _ => absurd h (by show ¬ (0 : Int) < 0; decide)
  | [], _ :: _, [], _, h => absurd h (by show ¬ (1 : Int) < 0; decide)
  | [], _ :: _, _ :: _, _, _ => by show (-1 : Int) < 0; decide
  | _ :: _, [], _, h, _ => absurd h (by show ¬ (1 : Int) < 0; decide)
  | _ :: _, _ :: _, [], _, h => absurd h (by show ¬ (1 : Int) < 0; decide)
  | x :: a, y :: b, z :: c, h, k => by
    have h' : (if lt x y then -1 else if lt y x then 1 else cmpL a b) < 0 := h
    have k' : (if lt y z then -1 else if lt z y then 1 else cmpL b c) < 0 := k
    show (if lt x z then -1 else if lt z x then 1 else cmpL a c) < 0
    by_cases h1 : lt x y
    · by_cases k1 : lt y z
      · rw [if_pos (List.lt_trans h1 k1)]; decide
      · by_cases k2 : lt z y
        · rw [if_neg k1, if_pos k2] at k'; omega
        · have e : y = z := Classical.byContradiction fun e => k2 (lt_tri k1 e)
          rw [← e, if_pos h1]; decide
    · by_cases h2 : lt y x
      · rw [if_neg h1, if_pos h2] at h'; omega
      · have e : x = y := Classical.byContradiction fun e => h2 (lt_tri h1 e)
        rw [if_neg h1, if_neg h2] at h'
        subst e
        by_cases k1 : lt x z
        · rw [if_pos k1]; decide
        · by_cases k2 : lt z x
          · rw [if_neg k1, if_pos k2] at k'; omega
          · rw [if_neg k1, if_neg k2] at k' ⊢
            exact cmp_trans a b c h' k'
/-- LISTS THAT RISE BY THIS ORDER. -/
def Srt (L : List (List Nm)) : Prop := L.Pairwise fun a b => ¬ cmpL b a < 0
theorem srt_uniq {L M : List (List Nm)} (h : Srt L) (k : Srt M) (p : L.Perm M) : L = M :=
  List.Perm.eq_of_pairwise (le := fun a b => ¬ cmpL b a < 0) (fun a b _ _ h1 h2 => by
    have := cmp_flip a b
    exact cmp_zero a b (by omega)) h k p
noncomputable def rs (L : List Nm) : List Nm := Classical.choose (ris_ex L)
theorem rs_ris (L : List Nm) : Ris (rs L) L := Classical.choose_spec (ris_ex L)
theorem rs_of {l L : List Nm} (h : Ris l L) : l = rs L := h.uniq (rs_ris L)
/-- WHAT TWINS TELLS. -/
noncomputable def gal (l : List (List Nm)) : List (List Nm) := (l.map rs).filter fun l => decide (1 < l.length)
structure Tws (fs : List Fi) (L : List (List Nm)) : Prop where
  srt : Srt L
  perm : L.Perm (gal (grp fs))
theorem Tws.uniq {fs : List Fi} {L M : List (List Nm)} (h : Tws fs L) (k : Tws fs M) : L = M := srt_uniq h.srt k.srt (h.perm.trans k.perm.symm)
theorem Tws.len {fs : List Fi} {L : List (List Nm)} (h : Tws fs L) : L.length ≤ fs.length := by
  rw [h.perm.length_eq]
  refine Nat.le_trans (List.length_filter_le _ _) ?_
  rw [List.length_map, grp_len]
  exact hds_len fs
theorem Tws.row {fs : List Fi} {L : List (List Nm)} (h : Tws fs L) {l : List Nm} (hl : l ∈ L) : l.length ≤ fs.length := by
  have h1 := h.perm.mem_iff.1 hl
  obtain ⟨m, hm, rfl⟩ := List.mem_map.1 (List.mem_filter.1 h1).1
  refine Nat.le_trans (rs_ris m).len ?_
  unfold grp at hm
  obtain ⟨k, _, rfl⟩ := List.mem_map.1 hm
  exact pth_len fs k
theorem gal_snoc (l : List (List Nm)) (x : List Nm) : gal (l ++ [x]) = gal l ++ (if 1 < (rs x).length then [rs x] else []) := by
  unfold gal
  rw [List.map_append, List.filter_append]
  congr 1
  by_cases e : 1 < (rs x).length
  · simp [e]
  · simp [e]
end Go.Proofs.Ytboajcpfoejfeaa
