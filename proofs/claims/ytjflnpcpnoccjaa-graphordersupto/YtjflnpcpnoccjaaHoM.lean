import Derived.Test.YtjflnpcpnoccjaaHcA
namespace Go.Proofs.Ytjflnpcpnoccjaa
open Go.RowKit

/-! The order of a graph: each behind what it needs; it is short just where there is a knot. -/
def Fn (N : Nat) (ln : Nat → Nat) (L : Nat → Nat → Int) (t : List Nat) : Prop := ∀ a x b, t = a ++ x :: b → ∀ v, Eg N ln L x v → v ∈ a
theorem Fn.next {N : Nat} {ln : Nat → Nat} {L : Nat → Nat → Int} {t : List Nat} {u : Nat} (h : Fn N ln L t) (hu : Lst N ln L t u) : Fn N ln L (t ++ [u]) := by
  intro a x b e v hv
  by_cases hb : b = []
  · subst hb
    obtain ⟨e1, e2⟩ := List.append_inj' e rfl
    have e3 : u = x := by simpa using e2
    subst e3
    rw [← e1]
    exact hu.1.2.2 v hv
  · have e4 := List.dropLast_concat_getLast hb
    have e1 : t ++ [u] = (a ++ x :: b.dropLast) ++ [b.getLast hb] := by
      rw [e, List.append_assoc, List.cons_append, e4]
    obtain ⟨e2, _⟩ := List.append_inj' e1 rfl
    exact h a x _ e2 v hv
theorem least_ex {P : Nat → Prop} : ∀ n, (∃ x, P x ∧ x ≤ n) → ∃ u, P u ∧ ∀ x, P x → u ≤ x
  | 0, ⟨x, hx, h0⟩ => by
    obtain rfl : x = 0 := by omega
    exact ⟨0, hx, fun _ _ => Nat.zero_le _⟩
  | n + 1, ⟨x, hx, hn⟩ => by
    by_cases h : ∃ y, P y ∧ y ≤ n
    · exact least_ex n h
    · refine ⟨x, hx, fun y hy => ?_⟩
      have : ¬ y ≤ n := fun q => h ⟨y, hy, q⟩
      omega
theorem ordL_td {N : Nat} {ln : Nat → Nat} {L : Nat → Nat → Int} : ∀ (k : Nat) (t : List Nat), Td N ln L t → Fn N ln L t → k = N - t.length → Td N ln L (ordL N ln L k t) ∧ Fn N ln L (ordL N ln L k t) ∧ ((ordL N ln L k t).length = N ∨ ∀ x, ¬ rdy N ln L (ordL N ln L k t) x)
  | 0, t, h, hf, e => ⟨h, hf, .inl (by have := h.len; show t.length = N; omega)⟩
  | k + 1, t, h, hf, e => by
    by_cases hx : ∃ x, rdy N ln L t x
    · obtain ⟨x, hx⟩ := hx
      obtain ⟨u, h1, h2⟩ := least_ex (P := rdy N ln L t) x ⟨x, hx, Nat.le_refl _⟩
      have hu : Lst N ln L t u := ⟨h1, h2⟩
      rw [ordL_some hu]
      refine ordL_td k _ (h.next hu).1 (hf.next hu) ?_
      rw [List.length_append, List.length_cons, List.length_nil]
      omega
    · have hn : ∀ x, ¬ rdy N ln L t x := fun x q => hx ⟨x, q⟩
      rw [ordL_none hn]
      exact ⟨h, hf, .inr hn⟩
theorem od_td (N : Nat) (ln : Nat → Nat) (L : Nat → Nat → Int) : Td N ln L (od N ln L) ∧ Fn N ln L (od N ln L) ∧ ((od N ln L).length = N ∨ ∀ x, ¬ rdy N ln L (od N ln L) x) :=
  ordL_td N [] (Td.start N ln L) (fun a x b e => by simp at e) rfl
theorem cnt_lt {p q : Nat → Bool} {u N : Nat} (h : ∀ v, p v = true → q v = true) (hu : u < N) (hq : q u = true) (hp : p u = false) : (List.range N).countP p < (List.range N).countP q := by
  have h1 := cnt_one (p := q) (q := fun v => q v && !(v == u)) (u := u) (fun v hv => by simp [hv]) hq (by simp) N
  rw [if_pos hu] at h1
  have h2 : (List.range N).countP p ≤ (List.range N).countP (fun v => q v && !(v == u)) := List.countP_mono_left fun x _ hx => by
    have h3 : x ≠ u := fun e => by rw [e, hp] at hx; cases hx
    simp [h x hx, h3]
  omega
open Classical in
theorem stuck_cyc {N : Nat} {E : Nat → Nat → Prop} {S : Nat → Prop} (hS : ∀ x, S x → x < N) (hE : ∀ x, S x → ∃ y, E x y ∧ S y) : ∀ (n x : Nat), S x → (List.range N).countP (fun y => decide (Rch E x y)) ≤ n → ∃ x y, E x y ∧ Rch E y x
  | n, x, hx, hn => by
    obtain ⟨y, he, hy⟩ := hE x hx
    by_cases hc : Rch E y x
    · exact ⟨x, y, he, hc⟩
    · have hlt := cnt_lt (p := fun z => decide (Rch E y z)) (q := fun z => decide (Rch E x z)) (u := x) (N := N) (fun v hv => decide_eq_true (((Rch.refl E x).tail he).trans (of_decide_eq_true hv))) (hS x hx) (decide_eq_true (Rch.refl E x)) (decide_eq_false hc)
      cases n with
      | zero => omega
      | succ n => exact stuck_cyc hS hE n y hy (by omega)
theorem all_mem : ∀ (N : Nat) (t : List Nat), (∀ x, x < N → x ∈ t) → N ≤ t.length
  | 0, _, _ => Nat.zero_le _
  | N + 1, t, h => by
    have h1 := all_mem N (t.erase N) fun x hx => (List.mem_erase_of_ne (by omega)).2 (h x (by omega))
    have h2 := h N (by omega)
    rw [List.length_erase_of_mem h2] at h1
    have := List.length_pos_of_mem h2
    omega
theorem full_mem {N : Nat} {t : List Nat} (hn : t.Nodup) (hl : ∀ x ∈ t, x < N) (e : t.length = N) {x : Nat} (hx : x < N) : x ∈ t := by
  apply Classical.byContradiction
  intro q
  have := nodup_len N (x :: t) (List.nodup_cons.2 ⟨q, hn⟩) fun y hy => by
    rcases List.mem_cons.1 hy with r | r
    · omega
    · exact hl y r
  rw [List.length_cons] at this
  omega
theorem eg_lt {N : Nat} {ln : Nat → Nat} {L : Nat → Nat → Int} (hr : rgt N ln L = true) {x v : Nat} (hv : Eg N ln L x v) : v < N := by
  obtain ⟨hx, i, hi, e⟩ := hv
  obtain ⟨v2, h2, e2⟩ := rgt_at hr hx hi
  omega
theorem od_cyc {N : Nat} {ln : Nat → Nat} {L : Nat → Nat → Int} (hr : rgt N ln L = true) : (od N ln L).length < N ↔ ∃ x y, Eg N ln L x y ∧ Rch (Eg N ln L) y x := by
  obtain ⟨htd, hfn, hend⟩ := od_td N ln L
  constructor
  · intro hlt
    rcases hend with h | hno
    · omega
    · have hex : ∃ x, x < N ∧ x ∉ od N ln L := by
        apply Classical.byContradiction
        intro q
        have := all_mem N (od N ln L) fun x hx => Classical.byContradiction fun r => q ⟨x, hx, r⟩
        omega
      obtain ⟨x, hx⟩ := hex
      refine stuck_cyc (N := N) (S := fun x => x < N ∧ x ∉ od N ln L) (fun x h => h.1) (fun x h => ?_) _ x hx (Nat.le_refl _)
      apply Classical.byContradiction
      intro q
      refine hno x ⟨h.1, h.2, fun v hv => Classical.byContradiction fun r => q ⟨v, hv, eg_lt hr hv, r⟩⟩
  · rintro ⟨x, y, he, hc⟩
    apply Classical.byContradiction
    intro q
    have hlen : (od N ln L).length = N := by have := htd.len; omega
    have hx := full_mem htd.nd htd.lt hlen he.1
    obtain ⟨a, b, e⟩ := List.append_of_mem hx
    have hy := hfn a x b e y he
    have hxa : x ∈ a := Rch.closed (p := fun z => z ∈ a) (fun z w hz hw => by
      obtain ⟨a1, a2, e1⟩ := List.append_of_mem hz
      have := hfn a1 z (a2 ++ x :: b) (by rw [e, e1]; simp) w hw
      rw [e1]
      exact List.mem_append_left _ this) hc hy
    have hnd := htd.nd
    rw [e, List.nodup_append] at hnd
    exact hnd.2.2 x hxa x List.mem_cons_self rfl
theorem rch_head {E : Nat → Nat → Prop} {u v : Nat} (h : Rch E u v) (hne : u ≠ v) : ∃ w, E u w ∧ Rch E w v := by
  obtain ⟨k, hk⟩ := h
  revert v
  induction k with
  | zero => intro v hne hk; exact absurd hk.symm hne
  | succ k ih =>
    rintro v hne ⟨x, hx, he⟩
    by_cases e : u = x
    · subst e; exact ⟨v, he, Rch.refl _ _⟩
    · obtain ⟨w, h1, h2⟩ := ih e hx
      exact ⟨w, h1, h2.tail he⟩
theorem knot_iff {N : Nat} {ln : Nat → Nat} {L : Nat → Nat → Int} (hr : rgt N ln L = true) : ((∃ x, x < N ∧ Eg N ln L x x) ∨ ∃ x y, x < N ∧ y < N ∧ Mu N ln L x y ∧ x ≠ y) ↔ (od N ln L).length < N := by
  rw [od_cyc hr]
  constructor
  · rintro (⟨x, _, h⟩ | ⟨x, y, _, _, h, hne⟩)
    · exact ⟨x, x, h, Rch.refl _ _⟩
    · obtain ⟨w, h1, h2⟩ := rch_head h.1 hne
      exact ⟨x, w, h1, h2.trans h.2⟩
  · rintro ⟨x, y, he, hc⟩
    by_cases e : x = y
    · subst e; exact .inl ⟨x, he.1, he⟩
    · exact .inr ⟨x, y, he.1, eg_lt hr he, ⟨(Rch.refl _ _).tail he, hc⟩, e⟩
/-! The places. -/
def pl (t : List Nat) : Nat → Nat → Int
  | 0, _ => 0
  | i + 1, x => if x = t.getD i 0 then ((i + 1 : Nat) : Int) else pl t i x
theorem pl_no {t : List Nat} {x : Nat} : ∀ i, (∀ j, j < i → t.getD j 0 ≠ x) → pl t i x = 0
  | 0, _ => rfl
  | i + 1, h => by
    show (if x = t.getD i 0 then _ else pl t i x) = 0
    rw [if_neg (fun e => h i (by omega) e.symm)]
    exact pl_no i fun j hj => h j (by omega)
theorem nd_ne {t : List Nat} (hn : t.Nodup) {i j : Nat} (hij : j < i) (hi : i < t.length) : t.getD j 0 ≠ t.getD i 0 := by
  have h1 : t.getD j 0 = t[j] := by simp [show j < t.length by omega]
  have h2 : t.getD i 0 = t[i] := by simp [hi]
  rw [h1, h2]
  exact List.pairwise_iff_getElem.1 hn j i (by omega) hi hij
theorem pl_at {t : List Nat} (hn : t.Nodup) : ∀ i, i ≤ t.length → ∀ j, j < i → pl t i (t.getD j 0) = ((j + 1 : Nat) : Int)
  | 0, _, j, hj => by omega
  | i + 1, hi, j, hj => by
    show (if t.getD j 0 = t.getD i 0 then ((i + 1 : Nat) : Int) else pl t i (t.getD j 0)) = _
    by_cases e : j = i
    · subst e; rw [if_pos rfl]
    · rw [if_neg (nd_ne hn (by omega) (by omega))]
      exact pl_at hn i (by omega) j (by omega)
theorem pl_new {t : List Nat} (hn : t.Nodup) {i : Nat} (hi : i < t.length) : pl t i (t.getD i 0) = 0 := pl_no i fun _ hj => nd_ne hn hj hi
theorem pl_edge {N : Nat} {ln : Nat → Nat} {L : Nat → Nat → Int} (hlen : (od N ln L).length = N) {u v : Nat} (he : Eg N ln L u v) : pl (od N ln L) N v < pl (od N ln L) N u := by
  obtain ⟨htd, hfn, _⟩ := od_td N ln L
  have hx := full_mem htd.nd htd.lt hlen he.1
  obtain ⟨a, b, e⟩ := List.append_of_mem hx
  have hy := hfn a u b e v he
  obtain ⟨j, hj, ej⟩ := List.getElem_of_mem hy
  have hl : a.length < (od N ln L).length := by rw [e]; simp
  have hu : (od N ln L).getD a.length 0 = u := by rw [e]; simp
  have hv : (od N ln L).getD j 0 = v := by rw [e]; simp [List.getElem?_append_left hj, hj, ej]
  have h1 := pl_at htd.nd N (by omega) a.length (by omega)
  have h2 := pl_at htd.nd N (by omega) j (by omega)
  rw [hu] at h1
  rw [hv] at h2
  rw [h1, h2]
  omega
/-! The parts: they rise, their firsts rise, each node once. -/
theorem pt_srt (f : Nat → Nat) (k p : Nat) : (ptL f k p).Pairwise (· < ·) := List.Pairwise.filter _ List.pairwise_lt_range
theorem pt_rise {f : Nat → Nat} {k p i : Nat} (h : i + 1 < (ptL f k p).length) : LL (ptL f k) p i < LL (ptL f k) p (i + 1) := by
  have h1 := List.pairwise_iff_getElem.1 (pt_srt f k p) i (i + 1) (by omega) h (by omega)
  have e1 : (ptL f k p).getD i 0 = (ptL f k p)[i] := by simp [show i < (ptL f k p).length by omega]
  have e2 : (ptL f k p).getD (i + 1) 0 = (ptL f k p)[i + 1] := by simp [h]
  show (((ptL f k p).getD i 0 : Nat) : Int) < (((ptL f k p).getD (i + 1) 0 : Nat) : Int)
  rw [e1, e2]
  omega
theorem pt_at {f : Nat → Nat} {k p i : Nat} (h : i < (ptL f k p).length) : (ptL f k p).getD i 0 < k ∧ f ((ptL f k p).getD i 0) = p := by
  have e1 : (ptL f k p).getD i 0 = (ptL f k p)[i] := by simp [h]
  rw [e1]
  exact ptL_lt (List.getElem_mem h)
theorem pt_mem {f : Nat → Nat} {k p x : Nat} (hx : x < k) (e : f x = p) : x ∈ ptL f k p := List.mem_filter.2 ⟨List.mem_range.2 hx, by simp [e]⟩
theorem pt_fst {f : Nat → Nat} {k p x : Nat} (hx : x ∈ ptL f k p) : 0 < (ptL f k p).length ∧ (ptL f k p).getD 0 0 ≤ x := by
  have hpos := List.length_pos_of_mem hx
  refine ⟨hpos, ?_⟩
  obtain ⟨j, hj, e⟩ := List.getElem_of_mem hx
  have e1 : (ptL f k p).getD 0 0 = (ptL f k p)[0] := by simp [hpos]
  rw [e1, ← e]
  by_cases h0 : j = 0
  · subst h0; exact Nat.le_refl _
  · exact Nat.le_of_lt (List.pairwise_iff_getElem.1 (pt_srt f k p) 0 j hpos hj (by omega))
theorem pt_pos {N : Nat} {ln : Nat → Nat} {L : Nat → Nat → Int} {p : Nat} (hp : p < pc N ln L) : 0 < (ptL (pn N ln L) N p).length := by
  obtain ⟨j, hj, _, e⟩ := no_onto (kd_mu N ln L) (k := N) (p := p) hp
  exact (pt_fst (pt_mem hj e)).1
theorem pt_firsts {N : Nat} {ln : Nat → Nat} {L : Nat → Nat → Int} {p : Nat} (hp : p + 1 < pc N ln L) : LL (ptL (pn N ln L) N) p 0 < LL (ptL (pn N ln L) N) (p + 1) 0 := by
  obtain ⟨j, hj, hnw, e⟩ := no_onto (kd_mu N ln L) (k := N) (p := p) (Nat.lt_of_succ_lt hp)
  have h1 := (pt_fst (f := pn N ln L) (k := N) (p := p) (pt_mem hj e)).2
  have hpos := pt_pos hp
  obtain ⟨h2, h3⟩ := pt_at (f := pn N ln L) (k := N) (p := p + 1) (i := 0) hpos
  generalize hx : (ptL (pn N ln L) N (p + 1)).getD 0 0 = x at *
  have h4 : j < x := by
    apply Classical.byContradiction
    intro q
    by_cases e2 : x = j
    · subst e2
      have : pn N ln L x = p := e
      omega
    · have h5 := no_lt (kd_mu N ln L) (i := x) (k := j) (by omega)
      have h6 := no_new (kd_mu N ln L) hnw
      have h7 : no (Mu N ln L) x = p + 1 := h3
      have h8 : no (Mu N ln L) j = p := e
      omega
  show (((ptL (pn N ln L) N p).getD 0 0 : Nat) : Int) < (((ptL (pn N ln L) N (p + 1)).getD 0 0 : Nat) : Int)
  rw [hx]
  omega
def smL (ls : Nat → List Nat) : Nat → Nat
  | 0 => 0
  | p + 1 => smL ls p + (ls p).length
theorem sm_cnt (f : Nat → Nat) (k : Nat) : ∀ p, smL (ptL f k) p = (List.range k).countP fun i => decide (f i < p)
  | 0 => by simp [smL]
  | p + 1 => by
    show smL (ptL f k) p + (ptL f k p).length = _
    rw [sm_cnt f k p]
    unfold ptL
    rw [← List.countP_eq_length_filter]
    generalize List.range k = l
    induction l with
    | nil => rfl
    | cons y l ih =>
      simp only [List.countP_cons]
      rw [← ih]
      by_cases e1 : f y < p
      · have e2 : f y < p + 1 := by omega
        have e3 : f y ≠ p := by omega
        simp [e1, e2, e3]
        omega
      · by_cases e3 : f y = p
        · simp [e3]
          omega
        · have e2 : ¬ f y < p + 1 := by omega
          simp [e1, e2, e3]
theorem sm_all {N : Nat} {ln : Nat → Nat} {L : Nat → Nat → Int} : smL (ptL (pn N ln L) N) (pc N ln L) = N := by
  rw [sm_cnt]
  have : (List.range N).countP (fun i => decide (pn N ln L i < pc N ln L)) = (List.range N).length := List.countP_eq_length.2 fun i hi => decide_eq_true (pn_lt N ln L (List.mem_range.1 hi))
  rw [this, List.length_range]
theorem sm_le (f : Nat → Nat) (k p : Nat) : smL (ptL f k) p ≤ k := by
  rw [sm_cnt]
  exact Nat.le_trans List.countP_le_length (by rw [List.length_range]; exact Nat.le_refl _)
/-- Of one part just if they reach one another. -/
theorem pn_mu {N : Nat} {ln : Nat → Nat} {L : Nat → Nat → Int} (u v : Nat) : ((pn N ln L u : Int) == (pn N ln L v : Int)) = (rq N ln L u v && rq N ln L v u) := by
  refine b_eq ?_
  rw [beq_iff_eq, Bool.and_eq_true, rq_iff, rq_iff]
  constructor
  · intro e
    have h : no (Mu N ln L) u = no (Mu N ln L) v := by
      have : pn N ln L u = pn N ln L v := by omega
      exact this
    exact no_inj (kd_mu N ln L) h
  · intro h
    have : pn N ln L u = pn N ln L v := no_same (kd_mu N ln L) h
    omega
end Go.Proofs.Ytjflnpcpnoccjaa

namespace Go.Proofs.Ytjflnpcpnoccjaa
open Go.RowKit

/-! The condensed graph has no knot; its order, and the parts in that order. -/
theorem cd_rgt {N : Nat} {ln : Nat → Nat} {L : Nat → Nat → Int} (hr : rgt N ln L = true) (hN : N ≤ 1048576) : rgt (pc N ln L) (lnL (cdL N ln L)) (LL (cdL N ln L)) = true := by
  rw [← show tw (pc N ln L) (gwN N ln L) (gwL N ln L) = cdL N ln L from funext fun p => tw_gw hr hN p]
  exact tw_rgt (gw_rgt hr hN) (Nat.le_trans (pc_le N ln L) hN)
theorem cd_eg {N : Nat} {ln : Nat → Nat} {L : Nat → Nat → Int} (hr : rgt N ln L = true) (hN : N ≤ 1048576) {p q : Nat} (hq : q < pc N ln L) : Eg (pc N ln L) (lnL (cdL N ln L)) (LL (cdL N ln L)) p q ↔ p ≠ q ∧ bt N ln L p q = true := by
  rw [← show tw (pc N ln L) (gwN N ln L) (gwL N ln L) = cdL N ln L from funext fun p => tw_gw hr hN p]
  exact (tw_eg (gw_rgt hr hN) (Nat.le_trans (pc_le N ln L) hN) q p).trans ((gw_eg q p hq).trans (gw_mem hr hN p q))
noncomputable def co (N : Nat) (ln : Nat → Nat) (L : Nat → Nat → Int) : List Nat := od (pc N ln L) (lnL (cdL N ln L)) (LL (cdL N ln L))
theorem co_len {N : Nat} {ln : Nat → Nat} {L : Nat → Nat → Int} (hr : rgt N ln L = true) (hN : N ≤ 1048576) : (co N ln L).length = pc N ln L := by
  have hcr := cd_rgt hr hN
  apply Classical.byContradiction
  intro hne
  have hlt : (co N ln L).length < pc N ln L := by
    have := od_len (N := pc N ln L) (ln := lnL (cdL N ln L)) (L := LL (cdL N ln L))
    unfold co at hne ⊢
    omega
  obtain ⟨p, q, he, hc⟩ := (od_cyc hcr).1 hlt
  obtain ⟨hpq, hb⟩ := (cd_eg hr hN (eg_lt hcr he)).1 he
  obtain ⟨x0, y0, hx0, hy0, ex0, ey0, e0⟩ := (bt_iff _ _ _ _ _).1 hb
  obtain ⟨x, hx, ex, hr2⟩ := Rch.closed (p := fun r => ∃ x, x < N ∧ pn N ln L x = r ∧ Rch (Eg N ln L) y0 x) (fun r s ⟨x, hx, ex, hrx⟩ hrs => by
    obtain ⟨_, hb2⟩ := (cd_eg hr hN (eg_lt hcr hrs)).1 hrs
    obtain ⟨x1, y1, hx1, hy1, ex1, ey1, e1⟩ := (bt_iff _ _ _ _ _).1 hb2
    have hm : Mu N ln L x x1 := no_inj (kd_mu N ln L) (show no (Mu N ln L) x = no (Mu N ln L) x1 from ex.trans ex1.symm)
    exact ⟨y1, hy1, ey1, (hrx.trans hm.1).tail e1⟩) hc ⟨y0, hy0, ey0, Rch.refl _ _⟩
  have hm : Mu N ln L x x0 := no_inj (kd_mu N ln L) (show no (Mu N ln L) x = no (Mu N ln L) x0 from ex.trans ex0.symm)
  have hm2 : Mu N ln L x0 y0 := ⟨(Rch.refl _ _).tail e0, hr2.trans hm.1⟩
  have : pn N ln L x0 = pn N ln L y0 := no_same (kd_mu N ln L) hm2
  rw [ex0, ey0] at this
  exact hpq this
noncomputable def so (N : Nat) (ln : Nat → Nat) (L : Nat → Nat → Int) (k : Nat) : List Nat := ptL (pn N ln L) N ((co N ln L).getD k 0)
theorem co_nd (N : Nat) (ln : Nat → Nat) (L : Nat → Nat → Int) : (co N ln L).Nodup := (od_td _ _ _).1.nd
theorem co_lt {N : Nat} {ln : Nat → Nat} {L : Nat → Nat → Int} {k : Nat} (hk : k < (co N ln L).length) : (co N ln L).getD k 0 < pc N ln L := by
  have e : (co N ln L).getD k 0 = (co N ln L)[k] := by simp [hk]
  rw [e]
  exact (od_td _ _ _).1.lt _ (List.getElem_mem hk)
/-- The places, part by part. -/
noncomputable def ps (N : Nat) (ln : Nat → Nat) (L : Nat → Nat → Int) (k i x : Nat) : Int := if x ∈ (so N ln L k).take i then ((k + 1 : Nat) : Int) else pl (co N ln L) k (pn N ln L x)
theorem ps_put {N : Nat} {ln : Nat → Nat} {L : Nat → Nat → Int} {k i : Nat} (hi : i < (so N ln L k).length) : (fun j => if j = (so N ln L k).getD i 0 then Value.int .i64 ((k : Int) + 1) else iv (ps N ln L k i) j) = iv (ps N ln L k (i + 1)) := by
  funext j
  have e1 : (so N ln L k).getD i 0 = (so N ln L k)[i] := by simp [hi]
  have hm : j ∈ (so N ln L k).take (i + 1) ↔ j ∈ (so N ln L k).take i ∨ j = (so N ln L k).getD i 0 := by
    rw [List.take_add_one, List.mem_append, List.getElem?_eq_getElem hi, e1]
    simp
  show (if j = (so N ln L k).getD i 0 then Value.int .i64 ((k : Int) + 1) else .int .i64 (ps N ln L k i j)) = .int .i64 (ps N ln L k (i + 1) j)
  unfold ps
  by_cases e : j = (so N ln L k).getD i 0
  · rw [if_pos e, if_pos (hm.2 (.inr e))]
    rfl
  · rw [if_neg e]
    by_cases e2 : j ∈ (so N ln L k).take i
    · rw [if_pos e2, if_pos (hm.2 (.inl e2))]
    · rw [if_neg e2, if_neg (fun q => (hm.1 q).elim e2 e)]
theorem ps_new {N : Nat} {ln : Nat → Nat} {L : Nat → Nat → Int} {k i : Nat} (hk : k < (co N ln L).length) (hi : i < (so N ln L k).length) : (so N ln L k).getD i 0 < N ∧ ps N ln L k i ((so N ln L k).getD i 0) = 0 := by
  obtain ⟨h1, h2⟩ := pt_at (f := pn N ln L) (k := N) (p := (co N ln L).getD k 0) (i := i) hi
  refine ⟨h1, ?_⟩
  unfold ps
  rw [if_neg, show pn N ln L ((so N ln L k).getD i 0) = (co N ln L).getD k 0 from h2, pl_new (co_nd N ln L) hk]
  intro q
  obtain ⟨j, hj, e⟩ := List.getElem_of_mem q
  rw [List.getElem_take] at e
  have hj2 : j < i := by rw [List.length_take] at hj; omega
  have e1 : (so N ln L k).getD i 0 = (so N ln L k)[i] := by simp [hi]
  rw [e1] at e
  have := List.pairwise_iff_getElem.1 (pt_srt (pn N ln L) N ((co N ln L).getD k 0)) j i (by have : i < (ptL (pn N ln L) N ((co N ln L).getD k 0)).length := hi; omega) hi hj2
  have e3 : (ptL (pn N ln L) N ((co N ln L).getD k 0))[j]'(by have : i < (ptL (pn N ln L) N ((co N ln L).getD k 0)).length := hi; omega) = (ptL (pn N ln L) N ((co N ln L).getD k 0))[i] := e
  omega
theorem ps_row {N : Nat} {ln : Nat → Nat} {L : Nat → Nat → Int} {k x : Nat} (hx : x < N) : ps N ln L k (so N ln L k).length x = ps N ln L (k + 1) 0 x := by
  unfold ps
  rw [List.take_length, List.take_zero, if_neg List.not_mem_nil]
  show _ = if pn N ln L x = (co N ln L).getD k 0 then ((k + 1 : Nat) : Int) else pl (co N ln L) k (pn N ln L x)
  by_cases e : pn N ln L x = (co N ln L).getD k 0
  · rw [if_pos e, if_pos (show x ∈ so N ln L k from pt_mem hx e)]
  · rw [if_neg e, if_neg (fun q : x ∈ so N ln L k => e (ptL_lt q).2)]
theorem ps_start (N : Nat) (ln : Nat → Nat) (L : Nat → Nat → Int) (x : Nat) : ps N ln L 0 0 x = 0 := by
  unfold ps
  rw [List.take_zero, if_neg List.not_mem_nil]
  rfl
theorem so_cnt {N : Nat} {ln : Nat → Nat} {L : Nat → Nat → Int} : ∀ k, k ≤ (co N ln L).length → smL (so N ln L) k = (List.range N).countP fun x => !(pl (co N ln L) k (pn N ln L x) == 0)
  | 0, _ => by simp [smL, pl]
  | k + 1, hk => by
    show smL (so N ln L) k + (so N ln L k).length = _
    rw [so_cnt k (by omega)]
    unfold so ptL
    rw [← List.countP_eq_length_filter]
    generalize List.range N = l
    induction l with
    | nil => rfl
    | cons y l ih =>
      simp only [List.countP_cons]
      rw [← ih]
      have e0 : pl (co N ln L) (k + 1) (pn N ln L y) = if pn N ln L y = (co N ln L).getD k 0 then ((k + 1 : Nat) : Int) else pl (co N ln L) k (pn N ln L y) := rfl
      rw [e0]
      by_cases e : pn N ln L y = (co N ln L).getD k 0
      · have h0 := pl_new (co_nd N ln L) (show k < (co N ln L).length by omega)
        rw [← e] at h0
        have h1 : ¬ ((k : Int) + 1 = 0) := by omega
        rw [if_pos e, h0, e]
        simp [h1]
        omega
      · rw [if_neg e]
        have e2 : (pn N ln L y == (co N ln L).getD k 0) = false := beq_eq_false_iff_ne.2 e
        rw [e2]
        simp
        omega
theorem so_all {N : Nat} {ln : Nat → Nat} {L : Nat → Nat → Int} (hr : rgt N ln L = true) (hN : N ≤ 1048576) : smL (so N ln L) (pc N ln L) = N := by
  have hl := co_len hr hN
  rw [so_cnt _ (by omega)]
  have : (List.range N).countP (fun x => !(pl (co N ln L) (pc N ln L) (pn N ln L x) == 0)) = (List.range N).length := List.countP_eq_length.2 fun x hx => by
    have hp := pn_lt N ln L (List.mem_range.1 hx)
    have hm : pn N ln L x ∈ co N ln L := full_mem (co_nd N ln L) (od_td _ _ _).1.lt hl hp
    obtain ⟨j, hj, e⟩ := List.getElem_of_mem hm
    have h2 := pl_at (co_nd N ln L) (pc N ln L) (by omega) j (by omega)
    rw [show (co N ln L).getD j 0 = pn N ln L x by simp [hj, e]] at h2
    rw [h2]
    have h1 : ¬ ((j : Int) + 1 = 0) := by omega
    simp [h1]
  rw [this, List.length_range]
theorem so_le {N : Nat} {ln : Nat → Nat} {L : Nat → Nat → Int} (k : Nat) (hk : k ≤ (co N ln L).length) : smL (so N ln L) k ≤ N := by
  rw [so_cnt k hk]
  exact Nat.le_trans List.countP_le_length (by rw [List.length_range]; exact Nat.le_refl _)
theorem ps_edge {N : Nat} {ln : Nat → Nat} {L : Nat → Nat → Int} (hr : rgt N ln L = true) (hN : N ≤ 1048576) {u v : Nat} (he : Eg N ln L u v) : ps N ln L (pc N ln L) 0 v ≤ ps N ln L (pc N ln L) 0 u := by
  unfold ps
  rw [List.take_zero, if_neg List.not_mem_nil, if_neg List.not_mem_nil]
  by_cases e : pn N ln L u = pn N ln L v
  · rw [e]; exact Int.le_refl _
  · have hv := pn_lt N ln L (eg_lt hr he)
    have h1 : Eg (pc N ln L) (lnL (cdL N ln L)) (LL (cdL N ln L)) (pn N ln L u) (pn N ln L v) := (cd_eg hr hN hv).2 ⟨e, (bt_iff _ _ _ _ _).2 ⟨u, v, he.1, eg_lt hr he, rfl, rfl, he⟩⟩
    exact Int.le_of_lt (pl_edge (co_len hr hN) h1)
end Go.Proofs.Ytjflnpcpnoccjaa

namespace Go.Proofs.Ytjflnpcpnoccjaa
open Go.RowKit

theorem makeM (n : Nat) (hn : n * 24 ≤ 140737488351232) (u : World) : (Instr.makeSlice 22 (.int .i64 0) (.int .i64 (n : Int))).run Try.prog u = .ok (.slice (some ⟨u.heap.size, 0, none⟩) 0 n) (u.alloc (.cells (madeCells #[.slice none 0 0] n) 23)) := by
  obtain ⟨i0, hi, hz0, hz1, hz2⟩ := info_parts infoL
  have h := run_make (P := Try.prog) u 22 23 i0 (.slice none 0 0) Try.underlying22 hi hz0 .i64 .i64 0 (n : Int) (by omega) (by omega) (by rw [hz2]; omega) (by omega)
  simpa [hz1, Value.cells] using h
theorem own_made0 (u : World) (n lo : Nat) (hlo : lo ≤ u.heap.size) (hn : n ≤ 1048576) : (u.alloc (.cells (madeCells #[.slice none 0 0] n) 23)).ownsRow lo 23 1 (.slice (some ⟨u.heap.size, 0, none⟩) 0 n) 0 [] :=
  ⟨rfl, .inr ⟨u.heap.size, n, madeCells #[.slice none 0 0] n, rfl, hlo, heap_new _ _, Nat.zero_le _, by unfold maxLen; omega, by simp [size_madeCells], rfl⟩⟩
/-- The parts in order, as they lie: the list in a block of its own, the rows where the parts were told. -/
structure Sq (lo n g R : Nat) (ls : Nat → List Nat) (ra : Nat → Option Addr) (rc : Nat → Nat) (c : List Nat) (W : World) : Prop where
  own : W.ownsRow lo 23 1 (.slice (some ⟨g, 0, none⟩) n n) n (vl n fun k => .slice (ra (c.getD k 0)) (ls (c.getD k 0)).length (rc (c.getD k 0)))
  gs : Gs (R + 2) n R ls ra rc W
  at_ : lo ≤ R ∧ R < g ∧ ∀ k, k < n → ∀ b, (Value.slice (ra k) (ls k).length (rc k)).ownBlock = some b → b < g
theorem Sq.rr {lo n g R : Nat} {ls : Nat → List Nat} {ra : Nat → Option Addr} {rc : Nat → Nat} {c : List Nat} {W : World} (h : Sq lo n g R ls ra rc c W) (hc : ∀ k, k < n → c.getD k 0 < n) : Rr W (some ⟨g, 0, none⟩) n (fun k => (ls (c.getD k 0)).length) (fun k j => (((ls (c.getD k 0)).getD j 0 : Nat) : Int)) := by
  refine ⟨fun k => ra (c.getD k 0), fun k => rc (c.getD k 0), Rv.of_owns h.own, fun k hk => ?_⟩
  have h1 := h.gs.own _ (hc k hk)
  rw [tV_vl, nI_len] at h1
  show Ri W (ra (c.getD k 0)) (ls (c.getD k 0)).length (fun j => (((ls (c.getD k 0)).getD j 0 : Nat) : Int))
  generalize c.getD k 0 = y at *
  refine (Rv.of_owns h1).congr fun j hj => ?_
  unfold iv nI
  congr 1
  simp [hj]
theorem Gs.fxe {lo n R g : Nat} {ls : Nat → List Nat} {ga : Nat → Option Addr} {gc : Nat → Nat} {W W2 : World} (h : Gs lo n R ls ga gc W) (f : Fx (fun b => b = g) W W2) (hg : W.heap.size ≤ g) : Gs lo n R ls ga gc W2 :=
  h.same (fun b cur t hb => f.blk b (blk_lt hb) (fun e => by have := blk_lt hb; omega)) f.size
theorem Fx.grown {g : Nat} {A W W2 : World} (h : Fx (fun b => b = g) A W) (hg : W.grownBy W2 (some g)) : Fx (fun b => b = g) A W2 :=
  h.trans ⟨hg.size, fun b hb hp => hg.block b hb (fun e => hp (by cases e; rfl))⟩
set_option maxRecDepth 100000 in
set_option maxHeartbeats 8000000 in
theorem Sorted_any {N : Nat} {ln : Nat → Nat} {L : Nat → Nat → Int} {na : Option Addr} {nc : Nat} {w : World} (hN : N ≤ 1048576) (hln : ∀ k, k < N → ln k ≤ 1048576) (hR : Rr w na N ln L) :
    Calls Try.prog 26 #[.slice na N nc] w fun x w' => ∃ ga, x = .returned (.tuple #[.slice ga (ptN N ln L) (ptN N ln L), .int .i64 (ptE N ln L)]) ∧ ((ga = none ∧ ptN N ln L = 0) ∨ ∃ g R ra rc, ga = some ⟨g, 0, none⟩ ∧ Sq w.heap.size (ptN N ln L) g R (ptL (pn N ln L) N) ra rc (co N ln L) w') ∧ Below w.heap.size w w' := by
  have c1 := hide (isRight_any N ln L na nc w (by omega) (fun k hk => by have := hln k hk; omega) hR)
  unfold ptN ptE
  cases hr : rgt N ln L with
  | false =>
    rw [hr] at c1
    rw [if_neg (by simp), if_neg (by simp)]
    clear hR hln
    go_enter Try.func26, Try.ntmps26
    go_wp2_with (go_at_call 43; refine (unhide c1).mono ?_; rintro x1 w1 ⟨rfl, hw1⟩; rw [hw1]; clear hw1 w1)
    go_ret2
    exact ⟨none, rfl, .inl (by simp), Below.refl _ _⟩
  | true =>
    rw [hr] at c1
    rw [if_pos rfl, if_pos rfl]
    have c2 := hide (divide_any (nc := nc) hr hN hln hR)
    have hple := pc_le N ln L
    have hpcN : pc N ln L ≤ 1048576 := Nat.le_trans hple hN
    have hco := co_len hr hN
    have c3 := hide (fun (W : World) (g : Nat) (h : Mv g N 3 (iv fun j => (pn N ln L j : Int)) W) => parts_any hN (Nat.le_trans hple hN) (fun i hi => pn_lt N ln L hi) h)
    have c4 := hide (fun (W : World) (hW : Below w.heap.size w W) (g : Nat) (h : Mv g N 3 (iv fun j => (pn N ln L j : Int)) W) => condensed_any (nc := nc) hr hN hln (hR.later hW) h)
    have c5 := hide (fun (W : World) (R : Nat) (h : Rr W (some ⟨R, 0, none⟩) (pc N ln L) (lnL (cdL N ln L)) (LL (cdL N ln L))) => show Calls Try.prog 55 #[.slice (some ⟨R, 0, none⟩) (pc N ln L) (pc N ln L)] W (fun x w' => ∃ lb, x = .returned (.slice (some ⟨lb, 0, none⟩) (pc N ln L) (pc N ln L)) ∧ (W.heap.size ≤ lb ∧ lb < w'.heap.size + 1 ∧ ∀ i, i < pc N ln L → lb < w'.heap.size ∧ w'.cell? ⟨lb, i, none⟩ = some (.int .i64 (((co N ln L).getD i 0 : Nat) : Int))) ∧ Below W.heap.size W w') from by
      have h1 := (callsIn_wide (n := 8)).1 (ordered_in (nc := pc N ln L) (cd_rgt hr hN) hpcN (fun k _ => Nat.le_trans (cdL_len N ln L k) hN) h 8 (by omega))
      rw [show od (pc N ln L) (lnL (cdL N ln L)) (LL (cdL N ln L)) = co N ln L from rfl, hco] at h1
      refine h1.mono fun x w' ⟨lb, e, q1, q2, q3⟩ => ⟨lb, e, ⟨q1, ?_, fun i hi => ?_⟩, q3⟩
      · rcases q2.2 with ⟨z, _⟩ | ⟨g, cap, cur, z1, _, z3, _⟩
        · cases z
        · cases z1
          have := blk_lt z3
          omega
      · rcases q2.2 with ⟨z, _⟩ | ⟨g, cap, cur, z1, _, z3, _⟩
        · cases z
        · cases z1
          refine ⟨blk_lt z3, ?_⟩
          rw [tV_vl, nI_len, hco] at q2
          have h5 := owns_at q2 i _ (vl_at _ _ i hi)
          rw [h5]
          unfold iv nI
          simp [show i < (co N ln L).length by omega])
    have HCL := hide (fun (k : Nat) (hk : k < pc N ln L) => co_lt (N := N) (ln := ln) (L := L) (k := k) (by omega))
    have mk := makeM (pc N ln L) (by omega)
    obtain ⟨i0, hi0, hz0, hz1, hz2⟩ := info_parts infoL
    clear hR hln hr hple hco
    generalize co N ln L = c at *
    generalize hgp : ptL (pn N ln L) N = ls at *
    clear hgp
    generalize pc N ln L = n at *
    go_enter Try.func26, Try.ntmps26
    go_upto_region 4 with (first | (go_at_call 43; refine (unhide c1).mono ?_; rintro x1 w1 ⟨rfl, hw1⟩; rw [hw1]; clear hw1 w1) | (go_at_call 53; refine (unhide c2).mono ?_; rintro x2 w2 ⟨g2, rfl, q1, q2, q3⟩; have H2 := hide (And.intro q1 (And.intro q2 q3)); clear q1 q2 q3))
    obtain ⟨B, hB⟩ : ∃ x, x = w2.heap.size := ⟨_, rfl⟩
    obtain ⟨W3, hW3⟩ : ∃ x, x = w2.alloc (.cells #[.slice (some ⟨g2, 0, none⟩) N N, .int .i64 (n : Int)] 62) := ⟨_, rfl⟩
    have hblk : W3.heap[B]? = some (.cells #[.slice (some ⟨g2, 0, none⟩) N N, .int .i64 (n : Int)] 62 (0, 0)) := by rw [hW3, hB]; exact heap_new _ _
    have hb3 : Below w2.heap.size w2 W3 := by rw [hW3]; exact al w2 _
    have HB3 := hide (bl_t (unhide H2).2.2 hb3)
    have HM3 := hide ((unhide H2).2.1.mv.later hb3)
    have HBL := hide hblk
    have HCE := hide (fun (W : World) (h : Below W3.heap.size W3 W) => show W.cell? ⟨B, 0, none⟩ = some (.slice (some ⟨g2, 0, none⟩) N N) ∧ W.cell? ⟨B, 1, none⟩ = some (.int .i64 (n : Int)) from by
      have h3 := (h.block B (blk_lt (unhide HBL))).trans (unhide HBL)
      exact ⟨(cell_blk h3 0).1, (cell_blk h3 1).1⟩)
    obtain ⟨k0, k1⟩ := unhide HCE W3 (Below.refl _ _)
    rw [← hB]
    try rw [← hW3]
    clear hW3 hB hblk hb3 H2 HBL c1 c2
    go_upto_region 5 with (go_at_call 54; refine (unhide c3 _ _ (unhide HM3)).mono ?_; rintro x4 w4 ⟨R, ra, rc, rfl, q1, q2, q3⟩; have H4 := hide (And.intro (Nat.le_trans (unhide HB3).size q1) q2); have C4 := hide q3; clear q1 q2 q3)
    clear k0 k1 c3
    go_upto_region 6 with fail
    obtain ⟨g, hg⟩ : ∃ x, x = w4.heap.size := ⟨_, rfl⟩
    obtain ⟨W5, hW5⟩ : ∃ x, x = w4.alloc (.cells (madeCells #[.slice none 0 0] n) 23) := ⟨_, rfl⟩
    have hb5 : Below w4.heap.size w4 W5 := by rw [hW5]; exact al w4 _
    have HO5 := hide (show W5.ownsRow w.heap.size 23 1 (.slice (some ⟨g, 0, none⟩) 0 n) 0 [] from by
      rw [hW5, hg]
      exact own_made0 w4 n w.heap.size (bl_t (unhide HB3) (unhide C4)).size (by omega))
    have C5 := hide (bl_t (unhide C4) hb5)
    have B5 := hide (bl_t (unhide HB3) (unhide C5))
    have HM5 := hide ((unhide HM3).later (unhide C5))
    have HG5 := hide (show Gs (R + 2) n R ls ra rc W5 ∧ w.heap.size ≤ R ∧ R < g ∧ ∀ k, k < n → ∀ b, (Value.slice (ra k) (ls k).length (rc k)).ownBlock = some b → b < g from ⟨(unhide H4).2.later hb5, (unhide H4).1, by rw [hg]; exact (unhide H4).2.row.lt, fun k hk b e => by rw [hg]; exact ((unhide H4).2.own k hk).lt b e |>.2⟩)
    have HGB := hide (show w.heap.size ≤ g ∧ g < W5.heap.size from ⟨by rw [hg]; exact (bl_t (unhide HB3) (unhide C4)).size, by rw [hW5, World.size_alloc]; omega⟩)
    have HGE := hide (show w4.heap.size ≤ g from by omega)
    have HB45 := hide hb5
    have HG4 := hide (unhide H4).2
    obtain ⟨k0, k1⟩ := unhide HCE W5 (unhide C5)
    rw [← hg]
    try rw [← hW5]
    clear hg hW5 hb5 H4 C4 HM3 HB3 HCE mk
    go_upto_region 7 with (first | (go_at_call 56; refine (unhide c4 _ (unhide B5) _ (unhide HM5)).mono ?_; rintro x6 w6 ⟨Rc, rca, rcc, rfl, q1, q2, q3⟩; have G6 := hide (show Rr w6 (some ⟨Rc, 0, none⟩) n (lnL (cdL N ln L)) (LL (cdL N ln L)) from q2.rr); have C6 := hide q3; clear q1 q2 q3) | (go_at_call 55; refine (unhide c5 _ _ (unhide G6)).mono ?_; rintro x7 w7 ⟨lb, rfl, q1, q2⟩; have L7 := hide q1; have C7 := hide (bl_t (unhide C6) q2); have HLB := hide (show g < lb from by have := (unhide HGB).2; have := (unhide C6).size; have := q1.1; omega); clear q1 q2))
    have HO7 := hide (owns_below (unhide HO5) (unhide C7))
    have B7 := hide (bl_t (unhide B5) (unhide C7))
    have HG7 := hide (show Gs (R + 2) n R ls ra rc w7 from (unhide HG5).1.later (unhide C7))
    have HGQ := hide (unhide HG5).2
    have HF4 := hide (bl_t (unhide HB45) (unhide C7))
    have HLC := hide (unhide L7).2.2
    have HGW := hide (show g < w7.heap.size from Nat.lt_of_lt_of_le (unhide HGB).2 (unhide C7).size)
    have HGL := hide (unhide HGB).1
    clear k0 k1 HB45 HO5 B5 HM5 HG5 HGB C5 C6 C7 L7 G6 c4 c5
    go_wp2_with fail
    go_loopg [6, 8, 24] n (fun g1 vl_ _ vi wr => ∃ k : Nat, vi = .int .i64 k ∧ vl_ = .slice (some ⟨g, 0, none⟩) k n ∧ k ≤ n ∧ n - k ≤ g1 ∧ Hid (wr.ownsRow w.heap.size 23 1 (.slice (some ⟨g, 0, none⟩) k n) k (vl k fun k => .slice (ra (c.getD k 0)) (ls (c.getD k 0)).length (rc (c.getD k 0)))) ∧ Hid (Fx (fun b => b = g) w7 wr) ∧ Hid (Below w.heap.size w wr))
    case atStart => exact ⟨0, by go_num, rfl, by omega, by omega, HO7, hide (Fx.refl _ _), B7⟩
    case round =>
      clear HO7 B7
      obtain ⟨k, rfl, rfl, hk, hg1, HO, HF, HB⟩ := hrel
      by_cases hlt : k < n
      · have hlt2 : (k : Int) < (n : Int) := by omega
        obtain ⟨hlbw, hlc⟩ := unhide HLC k hlt
        have cl : wr.cell? ⟨lb, k, none⟩ = some (.int .i64 ((c.getD k 0 : Nat) : Int)) := by
          rw [← hlc]
          exact World.cell?_of_block ((unhide HF).blk lb hlbw (fun e => by have := unhide HLB; omega))
        have hcn := unhide HCL k hlt
        have hcn2 : ((c.getD k 0 : Nat) : Int) < (n : Int) := by omega
        have cR : wr.cell? ⟨R, c.getD k 0, none⟩ = some (.slice (ra (c.getD k 0)) (ls (c.getD k 0)).length (rc (c.getD k 0))) := by
          rw [← ((unhide HG7).row.cell hcn).1]
          exact World.cell?_of_block ((unhide HF).blk R (unhide HG7).row.lt (fun e => by have := (unhide HGQ).2.1; omega))
        have q1 : IntKind.i64.wrap ((k : Int) + 1) = (k : Int) + 1 := IntWalk.i64_in _ (by omega)
        have HVL := hide (vl_succ k fun k => .slice (ra (c.getD k 0)) (ls (c.getD k 0)).length (rc (c.getD k 0)))
        obtain ⟨x, hx⟩ : ∃ x, x = c.getD k 0 := ⟨_, rfl⟩
        rw [← hx] at cl hcn2 cR
        obtain ⟨row, hrow⟩ : ∃ v : Value, v = .slice (ra (c.getD k 0)) (ls (c.getD k 0)).length (rc (c.getD k 0)) := ⟨_, rfl⟩
        rw [hx] at cR
        have h1c : ∀ u ∈ [Value.slice (ra (c.getD k 0)) (ls (c.getD k 0)).length (rc (c.getD k 0))], u.oneCell' = true := by simp [Value.oneCell']
        have hrn : ((ls (c.getD k 0)).length : Int) = ((ls (c.getD k 0)).length : Int) := rfl
        rw [← hx] at cR
        have HA := hide (fun w9 (hown : w9.ownsRow w.heap.size 23 1 (.slice (some ⟨g, 0, none⟩) (k + 1) n) (k + 1) ((vl k fun k => .slice (ra (c.getD k 0)) (ls (c.getD k 0)).length (rc (c.getD k 0))) ++ [.slice (ra (c.getD k 0)) (ls (c.getD k 0)).length (rc (c.getD k 0))])) (hgr : (wr.alloc (.cells #[.slice (ra (c.getD k 0)) (ls (c.getD k 0)).length (rc (c.getD k 0))] 23)).grownBy w9 (some g)) => show Hid (w9.ownsRow w.heap.size 23 1 (.slice (some ⟨g, 0, none⟩) (k + 1) n) (k + 1) (vl (k + 1) fun k => .slice (ra (c.getD k 0)) (ls (c.getD k 0)).length (rc (c.getD k 0)))) ∧ Hid (Fx (fun b => b = g) w7 w9) ∧ Hid (Below w.heap.size w w9) from by
          refine ⟨hide (by rw [unhide HVL]; exact hown), hide (Fx.grown ((unhide HF).trans (Fx.of (al wr _))) hgr), hide ?_⟩
          have hb := bl_t (unhide HB) (al wr (.cells #[.slice (ra (c.getD k 0)) (ls (c.getD k 0)).length (rc (c.getD k 0))] 23))
          exact hb.grown hgr hb.size (fun j e => by cases e; exact unhide HGL))
        have HO2 := hide (owns_below (unhide HO) (al wr (.cells #[.slice (ra (c.getD k 0)) (ls (c.getD k 0)).length (rc (c.getD k 0))] 23)))
        generalize vl k (fun k => .slice (ra (c.getD k 0)) (ls (c.getD k 0)).length (rc (c.getD k 0))) = xs at *
        rw [← hx] at HA HO2 h1c
        clear HO hx hrow hrn hlbw hlc HVL
        generalize ra x = rax at *
        generalize hlx : (ls x).length = lx at *
        generalize rc x = rcx at *
        clear hlx
        go_wp2_with (at_builtin; go_must (refine wpList_append_fits _ rfl _ _ 22 rfl w.heap.size 23 i0 1 Try.underlying22 hi0 hz1 g k n xs rfl (unhide HO2) ⟨wr.heap.size, 0, none⟩ 1 1 [.slice rax lx rcx] rfl rfl (cell_one_new _ _ _) h1c (by omega) ?_); intro w9 hown hgrow; obtain ⟨HO9, HF9, HB9⟩ := unhide HA w9 hown hgrow; clear hown hgrow)
        go_roundg (n - (k + 1))
        case measure => omega
        case rel => exact ⟨k + 1, by go_num, rfl, by omega, by omega, HO9, HF9, HB9⟩
      · obtain rfl : k = n := by omega
        have HX := hide (show Sq w.heap.size k g R ls ra rc c wr from ⟨unhide HO, (unhide HG4).fxe ((Fx.of (unhide HF4)).trans (unhide HF)) (unhide HGE), unhide HGQ⟩)
        go_wp2_with fail
        go_ret2
        exact ⟨_, rfl, .inr ⟨g, R, ra, rc, rfl, unhide HX⟩, unhide HB⟩
end Go.Proofs.Ytjflnpcpnoccjaa

namespace Go.Proofs.Ytjflnpcpnoccjaa
open Go.RowKit

def tuN (N : Nat) (ln : Nat → Nat) (L : Nat → Nat → Int) : Nat := if rgt N ln L = true then N else 0
set_option maxRecDepth 100000 in
set_option maxHeartbeats 4000000 in
theorem Turned_any {N : Nat} {ln : Nat → Nat} {L : Nat → Nat → Int} {na : Option Addr} {nc : Nat} {w : World} (hN : N ≤ 1048576) (hln : ∀ k, k < N → ln k ≤ 1048576) (hR : Rr w na N ln L) :
    Calls Try.prog 36 #[.slice na N nc] w fun x w' => ∃ ga, x = .returned (.tuple #[.slice ga (tuN N ln L) (tuN N ln L), .int .i64 (ptE N ln L)]) ∧ AnL w.heap.size w'.heap.size ga (tuN N ln L) (tw N ln L) w' ∧ Below w.heap.size w w' := by
  have c1 := hide (isRight_any N ln L na nc w (by omega) (fun k hk => by have := hln k hk; omega) hR)
  unfold tuN ptE
  cases hr : rgt N ln L with
  | false =>
    rw [hr] at c1
    rw [if_neg (by simp), if_neg (by simp)]
    clear hR hln
    go_enter Try.func36, Try.ntmps36
    go_wp2_with (go_at_call 43; refine (unhide c1).mono ?_; rintro x1 w1 ⟨rfl, hw1⟩; rw [hw1]; clear hw1 w1)
    go_ret2
    exact ⟨none, rfl, .inl ⟨rfl, rfl⟩, Below.refl _ _⟩
  | true =>
    rw [hr] at c1
    rw [if_pos rfl, if_pos rfl]
    have c2 := hide (turned_any (nc := nc) hr hN hln hR)
    clear hR hln hr
    go_enter Try.func36, Try.ntmps36
    go_wp2_with (first | (go_at_call 43; refine (unhide c1).mono ?_; rintro x1 w1 ⟨rfl, hw1⟩; rw [hw1]; clear hw1 w1) | (go_at_call 48; refine (unhide c2).mono ?_; rintro x2 w2 ⟨R, ga, gc, rfl, q1, q2, q3⟩; have HX := hide (AnG.anl (.inr ⟨rfl, q1, q2⟩)); have HB := hide q3; clear q1 q2 q3))
    go_ret2
    exact ⟨_, rfl, unhide HX, unhide HB⟩
/-! Turned, the parts are the same. -/
theorem rch_tw {N : Nat} {ln : Nat → Nat} {L : Nat → Nat → Int} (hr : rgt N ln L = true) (hN : N ≤ 1048576) (i j : Nat) : Rch (Eg N (twN N ln L) (twL N ln L)) i j ↔ Rch (Eg N ln L) j i :=
  ⟨rch_turn fun x y h => (tw_eg hr hN y x).1 h, rch_turn fun x y h => (tw_eg hr hN x y).2 h⟩
theorem mu_tw {N : Nat} {ln : Nat → Nat} {L : Nat → Nat → Int} (hr : rgt N ln L = true) (hN : N ≤ 1048576) (i j : Nat) : Mu N (twN N ln L) (twL N ln L) i j ↔ Mu N ln L i j := by
  have h1 := rch_tw hr hN i j
  have h2 := rch_tw hr hN j i
  exact ⟨fun h => ⟨h2.1 h.2, h1.1 h.1⟩, fun h => ⟨h1.2 h.2, h2.2 h.1⟩⟩
theorem pn_tw {N : Nat} {ln : Nat → Nat} {L : Nat → Nat → Int} (hr : rgt N ln L = true) (hN : N ≤ 1048576) {i : Nat} (hi : i < N) : pn N (twN N ln L) (twL N ln L) i = pn N ln L i := no_congr (kd_mu _ _ _) (kd_mu _ _ _) (fun i j _ _ => mu_tw hr hN i j) hi
theorem pc_tw {N : Nat} {ln : Nat → Nat} {L : Nat → Nat → Int} (hr : rgt N ln L = true) (hN : N ≤ 1048576) : pc N (twN N ln L) (twL N ln L) = pc N ln L := nds_congr (fun i j _ _ => mu_tw hr hN i j) N (Nat.le_refl _)
theorem ptL_tw {N : Nat} {ln : Nat → Nat} {L : Nat → Nat → Int} (hr : rgt N ln L = true) (hN : N ≤ 1048576) : ptL (pn N (twN N ln L) (twL N ln L)) N = ptL (pn N ln L) N := by
  funext p
  unfold ptL
  apply List.filter_congr
  intro i hi
  rw [pn_tw hr hN (List.mem_range.1 hi)]
theorem eb_tw {N : Nat} {ln : Nat → Nat} {L : Nat → Nat → Int} (hr : rgt N ln L = true) (hN : N ≤ 1048576) {u v : Nat} (hu : u < N) (hv : v < N) : ebB (twN N ln L v) (twL N ln L v) (u : Int) = ebB (ln u) (L u) (v : Int) := by
  refine b_eq ?_
  rw [ebB_iff, ebB_iff]
  have h := tw_eg hr hN u v
  exact ⟨fun q => (h.1 ⟨hv, q⟩).2, fun q => (h.2 ⟨hu, q⟩).2⟩
/-! Who is reached by what is reached is reached. -/
theorem wk_more {E : Nat → Nat → Prop} {S T : Nat → Prop} (h : ∀ x, T x → ∃ j, Wk E S j x) : ∀ k y, Wk E T k y → ∃ m, Wk E S m y
  | 0, y, hy => h y hy
  | k + 1, y, ⟨x, hx, he⟩ => by
    obtain ⟨m, hm⟩ := wk_more h k x hx
    exact ⟨m + 1, x, hm, he⟩
theorem rb_iff (N : Nat) (ln : Nat → Nat) (L : Nat → Nat → Int) (q : Nat) (fs : Nat → Int) (v : Nat) : rb N ln L q fs v = true ↔ ∃ k, Wk (Eg N ln L) (Fr q fs) k v := by
  unfold rb
  rw [bne_iff_ne]
  constructor
  · intro h
    rcases ds_is (Eg N ln L) (Fr q fs) v with ⟨e, _⟩ | ⟨k, _, hk, _⟩
    · exact absurd e h
    · exact ⟨k, hk⟩
  · rintro ⟨k, hk⟩ e
    obtain ⟨j, _, ej⟩ := ds_of hk
    omega
def mL (F : Nat → Bool) (k : Nat) : List Nat := (List.range k).filter F
theorem mL_len (F : Nat → Bool) (k : Nat) : (mL F k).length ≤ k := by
  have := List.length_filter_le F (List.range k)
  rwa [List.length_range] at this
theorem mL_yes {F : Nat → Bool} {k : Nat} (h : F k = true) : mL F (k + 1) = mL F k ++ [k] := by
  unfold mL
  rw [List.range_succ, List.filter_append]
  simp [h]
theorem mL_no {F : Nat → Bool} {k : Nat} (h : F k = false) : mL F (k + 1) = mL F k := by
  unfold mL
  rw [List.range_succ, List.filter_append]
  simp [h]
def mV (F : Nat → Bool) (N j : Nat) : Int := (((mL F N).getD j 0 : Nat) : Int)
theorem mV_fr (F : Nat → Bool) (N x : Nat) : Fr (mL F N).length (mV F N) x ↔ x < N ∧ F x = true := by
  constructor
  · rintro ⟨i, hi, e⟩
    have h1 : mV F N i = (((mL F N)[i] : Nat) : Int) := by unfold mV; simp [hi]
    rw [h1] at e
    have h2 : (mL F N)[i] = x := by omega
    have h3 := List.getElem_mem hi
    rw [h2] at h3
    obtain ⟨a1, a2⟩ := List.mem_filter.1 h3
    exact ⟨List.mem_range.1 a1, a2⟩
  · rintro ⟨hx, hF⟩
    have h3 : x ∈ mL F N := List.mem_filter.2 ⟨List.mem_range.2 hx, hF⟩
    obtain ⟨i, hi, e⟩ := List.getElem_of_mem h3
    exact ⟨i, hi, by unfold mV; simp [hi, e]⟩
theorem rb_more (N : Nat) (ln : Nat → Nat) (L : Nat → Nat → Int) (q : Nat) (fs : Nat → Int) {y : Nat} (hy : y < N) : rb N ln L (mL (rb N ln L q fs) N).length (mV (rb N ln L q fs) N) y = rb N ln L q fs y := by
  refine b_eq ?_
  rw [rb_iff, rb_iff]
  constructor
  · rintro ⟨k, hk⟩
    exact wk_more (fun x hx => (rb_iff _ _ _ _ _ _).1 ((mV_fr _ _ _).1 hx).2) k y hk
  · intro h
    exact ⟨0, (mV_fr _ _ _).2 ⟨hy, (rb_iff _ _ _ _ _ _).2 h⟩⟩
theorem reO_more {N : Nat} {ln : Nat → Nat} {L : Nat → Nat → Int} (hr : rgt N ln L = true) (F : Nat → Bool) : reO N ln L (mL F N).length (mV F N) = true := by
  unfold reO
  rw [hr, Bool.true_and, bAll_iff]
  intro i hi
  rw [nd_iff]
  have h1 : mV F N i = (((mL F N)[i] : Nat) : Int) := by unfold mV; simp [hi]
  have h3 := (List.mem_filter.1 (List.getElem_mem hi)).1
  have := List.mem_range.1 h3
  rw [h1]
  omega
end Go.Proofs.Ytjflnpcpnoccjaa

namespace Go.Proofs.Ytjflnpcpnoccjaa
open Go.RowKit

def rdB (n : Nat) (f : Nat → Int) (F : Nat → Bool) : Bool := bAll n fun i => F (f i).toNat
set_option maxHeartbeats 2000000 in
set_option maxRecDepth 100000 in
theorem rready_any (N : Nat) (ln : Nat → Nat) (L : Nat → Nat → Int) (u g : Nat) (F : Nat → Bool) (pa : Option Addr) (c : Nat) (w : World) (hr : rgt N ln L = true) (hu : u < N) (hm : ln u ≤ 1048576) (h : Rr w pa N ln L) (hF : Mv g N 4 (bv F) w) :
    Calls Try.prog 59 #[.slice pa N c, .slice (some ⟨g, 0, none⟩) N N, .int .i64 (u : Int)] w fun x w' => x = .returned (.bool (rdB (ln u) (L u) F)) ∧ w' = w := by
  obtain ⟨b, o, ca, cc, rfl, hcu, hri⟩ := h.at hu
  have HR := hide hri
  have HLT := hide (fun (i : Nat) (hi : i < ln u) => rgt_at hr hu hi)
  have HF := hide hF
  have hu2 : (u : Int) < (N : Int) := by omega
  clear h hri hF hr
  generalize hg : ln u = n at *
  generalize L u = f at *
  clear hg
  go_enter Try.func59, Try.ntmps59
  go_wp2
  go_loop [7] (fun i => ∃ k : Nat, k ≤ n ∧ i = .int .i64 k ∧ Hid (∀ j, j < k → F (f j).toNat = true)) (fun i => n - (intOf i).toNat)
  case atStart => exact ⟨0, Nat.zero_le _, rfl, hide fun j h => absurd h (Nat.not_lt_zero _)⟩
  case round =>
    obtain ⟨k, hk, rfl, HA⟩ := hrel
    by_cases hlt : k < n
    · obtain ⟨b2, o2, rfl, hbw, hc⟩ := (unhide HR).at hlt
      unfold iv at hc
      obtain ⟨v, hv, ev⟩ := unhide HLT k hlt
      have cv := ((unhide HF).cell hv).1
      unfold bv at cv
      have hv2 : (v : Int) < (N : Int) := by omega
      have hlt2 : (k : Int) < (n : Int) := by omega
      cases hy : F v with
      | false =>
        rw [hy] at cv
        have HB := hide (show rdB n f F = false from by
          cases q : rdB n f F with
          | false => rfl
          | true =>
            have := (bAll_iff _ _).1 q k hlt
            rw [ev] at this
            rw [show ((v : Int)).toNat = v from rfl, hy] at this
            cases this)
        rw [ev] at hc
        clear hy ev
        go_wp2
        go_ret
        exact ⟨ret_b (unhide HB).symm, rfl⟩
      | true =>
        rw [hy] at cv
        have HA2 := hide (show ∀ j, j < k + 1 → F (f j).toNat = true from fun j hj => by
          by_cases e : j = k
          · subst e; rw [ev]; exact hy
          · exact unhide HA j (by omega))
        rw [ev] at hc
        clear hy ev
        go_wp2
        go_round
        case rel => exact ⟨k + 1, by omega, by go_num, HA2⟩
        case measure => simp [intOf]; omega
    · have HB := hide (show rdB n f F = true from (bAll_iff _ _).2 fun i hi => unhide HA i (by omega))
      have hlt2 : ¬ (k : Int) < (n : Int) := by omega
      go_wp2
      go_ret
      exact ⟨ret_b (unhide HB).symm, rfl⟩
open Classical in
noncomputable def tB (t : List Nat) (x : Nat) : Bool := decide (x ∈ t)
theorem tB_iff (t : List Nat) (x : Nat) : tB t x = true ↔ x ∈ t := by unfold tB; exact decide_eq_true_iff
theorem tB_put (t : List Nat) (u : Nat) : (fun j => if j = u then Value.bool true else bv (tB t) j) = bv (tB (t ++ [u])) := by
  funext j
  unfold bv
  by_cases e : j = u
  · rw [if_pos e]
    congr 1
    exact ((tB_iff _ _).2 (by rw [e]; simp)).symm
  · rw [if_neg e]
    congr 1
    refine b_eq ?_
    rw [tB_iff, tB_iff]
    simp [e]
theorem rdB_iff {N : Nat} {ln : Nat → Nat} {L : Nat → Nat → Int} (hr : rgt N ln L = true) {t : List Nat} {u : Nat} (hu : u < N) : rdB (ln u) (L u) (tB t) = true ↔ ∀ v, Eg N ln L u v → v ∈ t := by
  unfold rdB
  rw [bAll_iff]
  constructor
  · rintro h v ⟨_, i, hi, e⟩
    have := h i hi
    rw [e] at this
    exact (tB_iff _ _).1 this
  · intro h i hi
    obtain ⟨v, hv, e⟩ := rgt_at hr hu hi
    rw [e]
    exact (tB_iff _ _).2 (h v ⟨hu, i, hi, e⟩)
/-- The least that is ready, from i on. -/
def Nf (N : Nat) (ln : Nat → Nat) (L : Nat → Nat → Int) (t : List Nat) (i : Nat) (z : Int) : Prop := (z = -1 ∧ ∀ x, i ≤ x → ¬ rdy N ln L t x) ∨ ∃ y : Nat, z = (y : Int) ∧ rdy N ln L t y ∧ ∀ x, i ≤ x → rdy N ln L t x → y ≤ x
theorem Nf.start {N : Nat} {ln : Nat → Nat} {L : Nat → Nat → Int} {t : List Nat} : Nf N ln L t N (-1) := .inl ⟨rfl, fun x hx h => by have := h.1; omega⟩
theorem Nf.no {N : Nat} {ln : Nat → Nat} {L : Nat → Nat → Int} {t : List Nat} {i : Nat} {z : Int} (h : Nf N ln L t (i + 1) z) (hn : ¬ rdy N ln L t i) : Nf N ln L t i z := by
  rcases h with ⟨e, h⟩ | ⟨y, e, hy, h⟩
  · refine .inl ⟨e, fun x hx q => ?_⟩
    by_cases e2 : x = i
    · subst e2; exact hn q
    · exact h x (by omega) q
  · refine .inr ⟨y, e, hy, fun x hx q => ?_⟩
    by_cases e2 : x = i
    · subst e2; exact absurd q hn
    · exact h x (by omega) q
theorem Nf.yes {N : Nat} {ln : Nat → Nat} {L : Nat → Nat → Int} {t : List Nat} {i : Nat} (hi : rdy N ln L t i) : Nf N ln L t i (i : Int) := .inr ⟨i, rfl, hi, fun _ hx _ => hx⟩
set_option maxRecDepth 100000 in
set_option maxHeartbeats 8000000 in
theorem rOrder_any {N : Nat} {ln : Nat → Nat} {L : Nat → Nat → Int} {na : Option Addr} {nc : Nat} {w : World} (hN : N ≤ 1048576) (hln : ∀ k, k < N → ln k ≤ 1048576) (hR : Rr w na N ln L) :
    Calls Try.prog 40 #[.slice na N nc] w fun x w' => ∃ ga gc, x = .returned (.tuple #[.slice ga (orN N ln L) gc, .int .i64 (orE N ln L)]) ∧ Rh w.heap.size w'.heap.size w' ga (orN N ln L) (iv (oV N ln L)) ∧ Below w.heap.size w w' := by
  have c1 := hide (rRight_any N ln L na nc w (by omega) (fun k hk => by have := hln k hk; omega) hR)
  cases hr : rgt N ln L with
  | false =>
    rw [hr] at c1
    rw [show orN N ln L = 0 from by unfold orN; rw [if_neg (by rw [hr]; simp)], show orE N ln L = 120 from by unfold orE; rw [if_neg (by rw [hr]; simp)]]
    clear hR hln
    go_enter Try.func40, Try.ntmps40
    go_wp2_with (go_at_call 46; refine (unhide c1).mono ?_; rintro x1 w1 ⟨rfl, hw1⟩; rw [hw1]; clear hw1 w1)
    go_ret2
    exact ⟨none, 0, rfl, fun h => by omega, Below.refl _ _⟩
  | true =>
    rw [hr] at c1
    have cR := hide (fun (W : World) (h : Below w.heap.size w W) (u g : Nat) (F : Nat → Bool) (hu : u < N) (hF : Mv g N 4 (bv F) W) => rready_any N ln L u g F na nc W hr hu (hln u hu) (hR.later h) hF)
    have HRD := hide (fun (t : List Nat) (u : Nat) (hu : u < N) => rdB_iff (t := t) hr hu)
    have mk := makeT N (by omega)
    obtain ⟨i0, hi0, hz0, hz1, hz2⟩ := info_parts infoI
    have HKN := hide (show (od N ln L).length < N → orN N ln L = 0 ∧ orE N ln L = 121 from fun q => ⟨by unfold orN; rw [if_pos hr, if_pos q], by unfold orE; rw [if_pos hr, if_pos q]⟩)
    have HOK := hide (show ¬ (od N ln L).length < N → orN N ln L = N ∧ orE N ln L = 0 from fun q => ⟨by unfold orN; rw [if_pos hr, if_neg q], by unfold orE; rw [if_pos hr, if_neg q]⟩)
    clear hR hln hr
    generalize orN N ln L = oN at *
    generalize orE N ln L = oE at *
    go_enter Try.func40, Try.ntmps40
    go_upto_region 5 with (go_at_call 46; refine (unhide c1).mono ?_; rintro x1 w1 ⟨rfl, hw1⟩; rw [hw1]; clear hw1 w1)
    have HM0 := hide (show Mv w.heap.size N 4 (bv (tB [])) (w.alloc (.cells (madeCells #[.bool false] N) 4)) from ⟨_, heap_new _ _, fun k hk => by
      rw [made_at _ _ _ hk]
      unfold bv
      rw [show tB [] k = false from by
        cases q : tB [] k with
        | false => rfl
        | true => exact absurd ((tB_iff _ _).1 q) List.not_mem_nil]⟩)
    have HB0 := hide (al w (.cells (madeCells #[.bool false] N) 4))
    obtain ⟨gm, hgm⟩ : ∃ x, x = w.heap.size := ⟨_, rfl⟩
    have HGM := hide hgm
    obtain ⟨W1, hW1⟩ : ∃ x, x = w.alloc (.cells (madeCells #[.bool false] N) 4) := ⟨_, rfl⟩
    have HGW := hide (show gm + 1 = W1.heap.size from by rw [hW1, World.size_alloc, hgm])
    rw [← hgm, ← hW1] at HM0
    rw [← hW1] at HB0
    rw [← hgm]
    try rw [← hW1]
    clear hgm hW1 mk c1
    go_wp2_with fail
    go_loopg [6, 7, 8, 9, 10] N (fun g1 vl_ vr _ _ _ wr => ∃ (r : Nat) (t : List Nat) (la : Option Addr) (lc : Nat), vr = .int .i64 r ∧ vl_ = .slice la r lc ∧ r ≤ N ∧ N - r ≤ g1 ∧ Hid (r = t.length ∧ Td N ln L t) ∧ Hid (wr.ownsRow (gm + 1) 3 1 (.slice la r lc) r (tV (nI t))) ∧ Hid (Mv gm N 4 (bv (tB t)) wr) ∧ Hid (Below w.heap.size w wr ∧ W1.heap.size ≤ wr.heap.size))
    case atStart => exact ⟨0, [], none, 0, by go_num, rfl, by omega, by omega, hide ⟨rfl, Td.start N ln L⟩, hide (World.ownsRow_nil _ _ _ _), HM0, hide ⟨unhide HB0, Nat.le_refl _⟩⟩
    case round =>
      clear HM0 HB0
      obtain ⟨r, t, la, lc, rfl, rfl, hrN, hg1, HT, HO, HM, HB⟩ := hrel
      by_cases hlt : r < N
      · have hlt2 : (r : Int) < (N : Int) := by omega
        have q1 : IntKind.i64.wrap ((N : Int) - 1) = (N : Int) - 1 := IntWalk.i64_in _ (by omega)
        go_wp2_with fail
        go_loopg [8, 9, 10] (N + 1) (fun g2 vz vu _ w2 => ∃ (i : Nat) (z : Int), vz = .int .i64 z ∧ vu = .int .i64 ((i : Int) - 1) ∧ i ≤ N ∧ i + 1 ≤ g2 ∧ w2 = wr ∧ Hid (Nf N ln L t i z))
        case atStart => exact ⟨N, -1, rfl, rfl, by omega, by omega, rfl, hide Nf.start⟩
        case round =>
          obtain ⟨i, z, rfl, rfl, hi, hg2, hw2, HN⟩ := hrel
          subst hw2
          by_cases hi0 : i = 0
          · subst hi0
            rw [show ((0 : Nat) : Int) - 1 = -1 from rfl]
            rcases unhide HN with ⟨rfl, hno⟩ | ⟨y, rfl, hy, hle⟩
            · obtain ⟨e1, e2⟩ := unhide HKN (by rw [(unhide HT).2.end fun x => hno x (Nat.zero_le _), ← (unhide HT).1]; exact hlt)
              subst e1
              subst e2
              clear HN hno HKN HOK
              go_wp2_with fail
              go_ret2
              exact ⟨none, 0, rfl, fun h => by omega, (unhide HB).1⟩
            · have hyN := hy.1
              have hyN2 : (y : Int) < (N : Int) := by omega
              have hy0 : ¬ (y : Int) < 0 := by omega
              have HT2 := hide (show r + 1 = (t ++ [y]).length ∧ Td N ln L (t ++ [y]) from ⟨by rw [List.length_append, ← (unhide HT).1]; rfl, ((unhide HT).2.next ⟨hy, fun x hx => hle x (Nat.zero_le _) hx⟩).1⟩)
              obtain ⟨Z, hZ⟩ : ∃ x, x = wr.setCell ⟨gm, y, none⟩ (.bool true) := ⟨_, rfl⟩
              have HMZ := hide (show Mv gm N 4 (bv (tB (t ++ [y]))) Z from by rw [hZ, ← tB_put]; exact (unhide HM).set hyN _)
              have HOZ := hide (show Z.ownsRow (gm + 1) 3 1 (.slice la r lc) r (tV (nI t)) from by rw [hZ]; exact ownsRow_setCell_below (unhide HO) (Nat.lt_succ_self gm) _)
              have HSZ := hide (show Z.heap.size = wr.heap.size from by rw [hZ]; simp)
              have HBZ := hide (show Below w.heap.size w Z from by rw [hZ]; exact (unhide HB).1.setCell (p := ⟨gm, y, none⟩) (Nat.le_of_eq (unhide HGM).symm) _)
              obtain ⟨cm, fm⟩ := (unhide HM).cell hyN
              have HLO := hide (show gm + 1 ≤ wr.heap.size from by have := unhide HGW; have := (unhide HB).2; omega)
              have HE2 := hide (show tV (nI t) ++ [.int .i64 (y : Int)] = tV (nI (t ++ [y])) from by simp [tV, nI])
              have HW1 := hide (unhide HB).2
              clear HN hy hle HT HO HM HB HKN HOK
              have HZE := hide hZ
              clear hZ
              have hsz : gm + 1 ≤ Z.heap.size := by rw [unhide HSZ]; exact unhide HLO
              go_wp2_with (at_builtin; rw [← unhide HZE]; go_must (refine wpList_append_lies _ rfl _ _ 23 rfl (gm + 1) 3 i0 (.int .i64 0) 1 8 Try.underlying23 hi0 hz0 hz1 hz2 rfl (by decide) (.slice la r lc) r (tV (nI t)) rfl ((unhide HOZ).alloc _) ⟨wr.heap.size, 0, none⟩ 1 1 [.int .i64 (y : Int)] rfl rfl (by rw [← unhide HSZ]; exact cell_one_new _ _ _) (by simp [Value.oneCell']) (by decide) (by unfold maxLen; omega) (by omega) (by simp; omega) _ rfl ?_); intro gg c9 w9 hown hgrow hat _; have HO9 := hide hown; have hnb : some gm ≠ (Value.slice la r lc).ownBlock := (fun e => by have := ((unhide HOZ).lt gm e.symm).1; omega); have HB9 := hide (show Below w.heap.size w w9 ∧ W1.heap.size ≤ w9.heap.size from ⟨((bl_t (unhide HBZ) (al Z (.cells #[.int .i64 (y : Int)] 3)))).grown hgrow (by have := unhide HGM; simp; omega) (fun j e => by have := ((unhide HOZ).lt j e).1; have := unhide HGM; omega), by have := hgrow.size; rw [World.size_alloc, unhide HSZ] at this; have := unhide HW1; omega⟩); have HM9 := hide (show Mv gm N 4 (bv (tB (t ++ [y]))) w9 from ((unhide HMZ).later (al Z (.cells #[.int .i64 (y : Int)] 3))).same (hgrow.block gm (by simp; omega) hnb)); rw [unhide HE2] at HO9; clear hown hgrow hat hnb)
              go_roundg (N - (r + 1))
              case measure => omega
              case rel => exact ⟨r + 1, t ++ [y], _, c9, by go_num, rfl, by omega, by omega, HT2, HO9, HM9, HB9⟩
          · obtain ⟨u, rfl⟩ : ∃ u, i = u + 1 := ⟨i - 1, by omega⟩
            rw [show ((u + 1 : Nat) : Int) - 1 = (u : Int) from by omega]
            have huN : u < N := by omega
            have huN2 : (u : Int) < (N : Int) := by omega
            have hu0 : (0 : Int) ≤ (u : Int) := by omega
            have q2 : IntKind.i64.wrap ((u : Int) - 1) = (u : Int) - 1 := IntWalk.i64_in _ (by omega)
            have cR1 := hide (unhide cR wr (unhide HB).1 u gm (tB t) huN (unhide HM))
            have ct := ((unhide HM).cell huN).1
            unfold bv at ct
            have hrd := unhide HRD t u huN
            have htb := tB_iff t u
            generalize rdB (ln u) (L u) (tB t) = b1 at *
            generalize tB t u = b2 at *
            have HN2 := hide (show Nf N ln L t u (if (!b2 && b1) = true then (u : Int) else z) from by
              by_cases e : (!b2 && b1) = true
              · rw [if_pos e]
                rw [Bool.and_eq_true] at e
                refine Nf.yes ⟨huN, fun q => ?_, hrd.1 e.2⟩
                rw [htb.2 q] at e
                exact absurd e.1 (by simp)
              · rw [if_neg e]
                refine (unhide HN).no fun q => e ?_
                rw [hrd.2 q.2.2]
                cases b2 with
                | false => rfl
                | true => exact absurd (htb.1 rfl) q.2.1)
            clear HN hrd htb
            cases b1 <;> cases b2
            all_goals go_wp2_with (go_at_call 59; refine (unhide cR1).mono ?_; rintro x3 w3 ⟨rfl, hw3⟩; rw [hw3]; clear hw3 w3)
            all_goals go_roundg (u + 1)
            case measure => omega
            all_goals first | omega | exact ⟨u, _, rfl, rfl, by omega, by omega, rfl, HN2⟩
      · obtain rfl : r = N := by omega
        have hod := (unhide HT).2.full (unhide HT).1.symm
        obtain ⟨e1, e2⟩ := unhide HOK (by rw [hod, ← (unhide HT).1]; omega)
        have e3 := e1.symm
        clear e1
        subst e3
        subst e2
        have HX := hide (show Rh w.heap.size wr.heap.size wr la r (iv (oV r ln L)) from fun h0 => by
          have hq := unhide HO
          rcases hq.2 with ⟨_, z⟩ | ⟨g, cap, cur, z1, z2, z3, _⟩
          · omega
          · cases z1
            refine ⟨g, 0, rfl, by have := unhide HGM; omega, blk_lt z3, blk_lt z3, fun i hi => ?_⟩
            rw [tV_vl, nI_len, ← (unhide HT).1] at hq
            rw [Nat.zero_add, owns_at hq i _ (vl_at _ _ i hi)]
            unfold iv nI oV
            rw [hod]
            have : i < t.length := by rw [← (unhide HT).1]; exact hi
            simp [this])
        have HBX := hide (unhide HB).1
        clear hod HT HO HM HB HKN HOK
        go_wp2_with fail
        go_ret2
        exact ⟨la, lc, rfl, unhide HX, unhide HBX⟩
end Go.Proofs.Ytjflnpcpnoccjaa

namespace Go.Proofs.Ytjflnpcpnoccjaa
open Go.RowKit

theorem Gs.congr {lo n R : Nat} {ls ls2 : Nat → List Nat} {ga : Nat → Option Addr} {gc : Nat → Nat} {W : World} (h : Gs lo n R ls ga gc W) (e : ∀ k, k < n → ls k = ls2 k) : Gs lo n R ls2 ga gc W :=
  ⟨h.row.congr fun k hk => by rw [e k hk], fun k hk => by rw [← e k hk]; exact h.own k hk, fun i j hi hj hij b => by rw [← e i hi, ← e j hj]; exact h.ne i j hi hj hij b, h.low⟩
def tuS (ln : Nat → Nat) (L : Nat → Nat → Int) (u v j : Nat) : List Nat := ((List.range u).filter fun x => ebB (ln x) (L x) (j : Int)) ++ if j < v ∧ ebB (ln u) (L u) (j : Int) = true then [u] else []
theorem tuS_yes {ln : Nat → Nat} {L : Nat → Nat → Int} {u v : Nat} (h : ebB (ln u) (L u) (v : Int) = true) : upd (tuS ln L u v) v (tuS ln L u v v ++ [u]) = tuS ln L u (v + 1) := by
  funext j
  unfold upd
  by_cases e : j = v
  · subst e
    rw [if_pos rfl]
    unfold tuS
    rw [if_neg (fun q => Nat.lt_irrefl _ q.1), if_pos ⟨Nat.lt_succ_self _, h⟩, List.append_nil]
  · rw [if_neg e]
    unfold tuS
    congr 1
    by_cases q : j < v ∧ ebB (ln u) (L u) (j : Int) = true
    · rw [if_pos q, if_pos ⟨by omega, q.2⟩]
    · rw [if_neg q, if_neg (fun r => q ⟨by have := r.1; omega, r.2⟩)]
theorem tuS_no {ln : Nat → Nat} {L : Nat → Nat → Int} {u v : Nat} (h : ebB (ln u) (L u) (v : Int) = false) : tuS ln L u v = tuS ln L u (v + 1) := by
  funext j
  unfold tuS
  congr 1
  by_cases q : j < v ∧ ebB (ln u) (L u) (j : Int) = true
  · rw [if_pos q, if_pos ⟨by omega, q.2⟩]
  · rw [if_neg q, if_neg (fun r => by
      by_cases e : j = v
      · subst e; rw [h] at r; cases r.2
      · exact q ⟨by have := r.1; omega, r.2⟩)]
theorem tuS_row {ln : Nat → Nat} {L : Nat → Nat → Int} {u N j : Nat} (hj : j < N) : tuS ln L u N j = tuS ln L (u + 1) 0 j := by
  have e : tuS ln L (u + 1) 0 j = (List.range (u + 1)).filter fun x => ebB (ln x) (L x) (j : Int) := by
    unfold tuS
    rw [if_neg (fun q => Nat.not_lt_zero _ q.1), List.append_nil]
  rw [e, List.range_succ, List.filter_append]
  unfold tuS
  congr 1
  cases h : ebB (ln u) (L u) (j : Int) with
  | true => rw [if_pos ⟨hj, rfl⟩]; simp [h]
  | false => rw [if_neg (fun q => by cases q.2)]; simp [h]
theorem tuS_len (ln : Nat → Nat) (L : Nat → Nat → Int) (u v : Nat) : (tuS ln L u v v).length ≤ u := by
  unfold tuS
  rw [if_neg (fun q => Nat.lt_irrefl _ q.1), List.append_nil]
  have := List.length_filter_le (fun x => ebB (ln x) (L x) (v : Int)) (List.range u)
  rwa [List.length_range] at this
theorem tuS_end {N : Nat} {ln : Nat → Nat} {L : Nat → Nat → Int} (hr : rgt N ln L = true) (hN : N ≤ 1048576) (j : Nat) : tuS ln L N 0 j = tw N ln L j := by
  have e : tuS ln L N 0 j = (List.range N).filter fun x => ebB (ln x) (L x) (j : Int) := by
    unfold tuS
    rw [if_neg (fun q => Nat.not_lt_zero _ q.1), List.append_nil]
  rw [e]
  refine srt_ext (List.Pairwise.filter _ List.pairwise_lt_range) (tw_srt N ln L j) fun x => ?_
  rw [List.mem_filter, List.mem_range, tw_mem hr hN, ebB_iff]
  exact ⟨fun h => ⟨h.1, h.2⟩, fun h => ⟨h.1, h.2⟩⟩
set_option maxRecDepth 100000 in
set_option maxHeartbeats 8000000 in
theorem rTurned_any {N : Nat} {ln : Nat → Nat} {L : Nat → Nat → Int} {na : Option Addr} {nc : Nat} {w : World} (hN : N ≤ 1048576) (hln : ∀ k, k < N → ln k ≤ 1048576) (hR : Rr w na N ln L) :
    Calls Try.prog 42 #[.slice na N nc] w fun x w' => ∃ ga gc, x = .returned (.tuple #[.slice ga (poN N ln L) gc, .int .i64 (ptE N ln L)]) ∧ Rq w.heap.size w'.heap.size w' ga (poN N ln L) (lnL (tw N ln L)) (LL (tw N ln L)) ∧ Below w.heap.size w w' := by
  have c1 := hide (rRight_any N ln L na nc w (by omega) (fun k hk => by have := hln k hk; omega) hR)
  unfold poN ptE
  cases hr : rgt N ln L with
  | false =>
    rw [hr] at c1
    rw [if_neg (by simp), if_neg (by simp)]
    clear hR hln
    go_enter Try.func42, Try.ntmps42
    go_wp2_with (go_at_call 46; refine (unhide c1).mono ?_; rintro x1 w1 ⟨rfl, hw1⟩; rw [hw1]; clear hw1 w1)
    go_ret2
    exact ⟨none, 0, rfl, Rq.none _ _ _ _ _ _, Below.refl _ _⟩
  | true =>
    rw [hr] at c1
    rw [if_pos rfl, if_pos rfl]
    obtain ⟨i0, hi0, hz0, hz1, hz2⟩ := info_parts infoI
    have cE := hide (fun (W : World) (h : Below w.heap.size w W) (u v : Nat) (hu : u < N) => redge_any N ln L u (v : Int) na nc W hu (by omega) (by have := hln u hu; omega) (hR.later h))
    have HEND := hide (fun j => tuS_end (N := N) (ln := ln) (L := L) hr hN j)
    have mk := makeL N (by omega)
    clear hR hln hr
    go_enter Try.func42, Try.ntmps42
    go_upto_region 5 with (go_at_call 46; refine (unhide c1).mono ?_; rintro x1 w1 ⟨rfl, hw1⟩; rw [hw1]; clear hw1 w1)
    clear c1 mk
    obtain ⟨W0, hW0⟩ : ∃ W, W = w.alloc (.cells (madeCells #[.slice none 0 0] N) 23) := ⟨_, rfl⟩
    have HG0 := hide (show Gs (w.heap.size + 1) N w.heap.size (tuS ln L 0 0) (fun _ => none) (fun _ => 0) W0 from by
      have hnil : ∀ j, tuS ln L 0 0 j = [] := fun j => by
        unfold tuS
        rw [if_neg (fun q => Nat.not_lt_zero _ q.1)]
        rfl
      refine ⟨?_, fun k _ => by rw [hnil]; exact World.ownsRow_nil _ _ _ _, fun i j _ _ _ b hb => (by cases hb), by omega, by rw [hW0, World.size_alloc]; omega⟩
      rw [hW0]
      exact ⟨_, heap_new _ _, fun k hk => by rw [made_at _ _ _ hk]; dsimp only; rw [hnil]; rfl⟩)
    have HB0 := hide (show Below w.heap.size w W0 from by rw [hW0]; exact al w _)
    obtain ⟨R, hRR⟩ : ∃ x, x = w.heap.size := ⟨_, rfl⟩
    rw [← hRR]
    try rw [← hW0]
    rw [← hRR] at HG0
    have HDG := hide (show w.heap.size ≤ R from by omega)
    clear hW0 hRR
    go_wp2_with fail
    go_loopg [6, 7, 8] N (fun g1 vi _ _ wr => ∃ (u : Nat) (ga : Nat → Option Addr) (gc : Nat → Nat), vi = .int .i64 u ∧ u ≤ N ∧ N - u ≤ g1 ∧ Hid (Gs (R + 1) N R (tuS ln L u 0) ga gc wr) ∧ Hid (Below w.heap.size w wr))
    case atStart => exact ⟨0, _, _, by go_num, by omega, by omega, HG0, HB0⟩
    case round =>
      clear HG0 HB0
      obtain ⟨u, ga, gc, rfl, hu, hg1, HG, HB⟩ := hrel
      by_cases hlt : u < N
      · have hlt2 : (u : Int) < (N : Int) := by omega
        go_wp2_with fail
        go_loopg [7, 8] N (fun g2 vi _ wr => ∃ (v : Nat) (ga : Nat → Option Addr) (gc : Nat → Nat), vi = .int .i64 v ∧ v ≤ N ∧ N - v ≤ g2 ∧ Hid (Gs (R + 1) N R (tuS ln L u v) ga gc wr) ∧ Hid (Below w.heap.size w wr))
        case atStart => exact ⟨0, ga, gc, by go_num, by omega, by omega, HG, HB⟩
        case round =>
          clear HG HB ga gc
          obtain ⟨v, ga, gc, rfl, hv, hg2, HG, HB⟩ := hrel
          by_cases hvl : v < N
          · have hvl2 : (v : Int) < (N : Int) := by omega
            have cE1 := hide (unhide cE wr (unhide HB) u v hlt)
            cases hb : ebB (ln u) (L u) (v : Int) with
            | false =>
              rw [hb] at cE1
              have HG2 := hide (show Gs (R + 1) N R (tuS ln L u (v + 1)) ga gc wr from by rw [← tuS_no hb]; exact unhide HG)
              clear hb HG
              go_wp2_with (go_at_call 52; refine (unhide cE1).mono ?_; rintro x3 w3 ⟨rfl, hw3⟩; rw [hw3]; clear hw3 w3)
              go_roundg (N - (v + 1))
              case measure => omega
              case rel => exact ⟨v + 1, ga, gc, by go_num, by omega, by omega, HG2, HB⟩
            | true =>
              rw [hb] at cE1
              have HYS := hide (tuS_yes (v := v) hb)
              have hlen := tuS_len ln L u v
              clear hb
              obtain ⟨cl, _⟩ := (unhide HG).row.cell hvl
              have cl' : wr.cell? ⟨R, v, none⟩ = some (.slice (ga v) (tuS ln L u v v).length (gc v)) := cl
              have hsz := (unhide HG).low.2
              have HOW := hide (show (wr.alloc (.cells #[.int .i64 (u : Int)] 3)).ownsRow (R + 1) 3 1 (.slice (ga v) (tuS ln L u v v).length (gc v)) (tuS ln L u v v).length (tV (nI (tuS ln L u v v))) from ((unhide HG).own v hvl).alloc _)
              have HPT := hide (fun (w9 : World) (g c : Nat) (h1 : w9.ownsRow (R + 1) 3 1 (.slice (some ⟨g, 0, none⟩) ((tuS ln L u v v).length + 1) c) ((tuS ln L u v v).length + 1) (tV (nI (tuS ln L u v v)) ++ [.int .i64 (u : Int)])) (h2 : (wr.alloc (.cells #[.int .i64 (u : Int)] 3)).grownBy w9 (Value.slice (ga v) (tuS ln L u v v).length (gc v)).ownBlock) (h3 : (Value.slice (ga v) (tuS ln L u v v).length (gc v)).ownBlock = some g ∨ g = (wr.alloc (.cells #[.int .i64 (u : Int)] 3)).heap.size) => show (∃ old, w9.cell? ⟨R, v, none⟩ = some old) ∧ w9.frozen? ⟨R, v, none⟩ = false ∧ Gs (R + 1) N R (tuS ln L u (v + 1)) (upd ga v (some ⟨g, 0, none⟩)) (upd gc v c) (w9.setCell ⟨R, v, none⟩ (.slice (some ⟨g, 0, none⟩) ((tuS ln L u v v).length + 1) c)) ∧ Below w.heap.size w (w9.setCell ⟨R, v, none⟩ (.slice (some ⟨g, 0, none⟩) ((tuS ln L u v v).length + 1) c)) from by
                have hG := (unhide HG).later (al wr (.cells #[.int .i64 (u : Int)] 3))
                have hrow : ∀ j, (Value.slice (ga v) (tuS ln L u v v).length (gc v)).ownBlock = some j → R + 1 ≤ j := fun j e => ((hG.own v hvl).lt j e).1
                have h5 := hG.row.same (h2.block R hG.row.lt (fun e => by have := hrow R e.symm; omega))
                refine ⟨⟨_, (h5.cell hvl).1⟩, (h5.cell hvl).2, ?_, ?_⟩
                · rw [← unhide HYS]
                  exact hG.put hvl h1 h2 (h3.imp id fun e => by rw [e]; exact Nat.le_refl _)
                · refine Below.setCell (p := ⟨R, v, none⟩) ?_ (unhide HDG) _
                  exact (bl_t (unhide HB) (al wr _)).grown h2 (by rw [World.size_alloc]; have := (unhide HB).size; omega) (fun j e => by have := hrow j e; have := unhide HDG; omega))
              clear cl HG
              generalize tV (nI (tuS ln L u v v)) = xs at *
              generalize (tuS ln L u v v).length = m at *
              generalize ga v = gap at *
              generalize gc v = gcp at *
              go_wp2_with (first | (go_at_call 52; refine (unhide cE1).mono ?_; rintro x3 w3 ⟨rfl, hw3⟩; rw [hw3]; clear hw3 w3) | (at_builtin; go_must (refine wpList_append_lies _ rfl _ _ 23 rfl (R + 1) 3 i0 (.int .i64 0) 1 8 Try.underlying23 hi0 hz0 hz1 hz2 rfl (by decide) (.slice gap m gcp) m xs rfl (unhide HOW) ⟨wr.heap.size, 0, none⟩ 1 1 [.int .i64 (u : Int)] rfl rfl (cell_one_new _ _ _) (by simp [Value.oneCell']) (by decide) (by unfold maxLen; omega) (by omega) (by simp; omega) _ rfl ?_); intro gg c9 w9 hown hgrow hat _; obtain ⟨⟨old, co⟩, fo9, hg9, hb9⟩ := unhide HPT w9 gg c9 hown hgrow hat; have HG9 := hide hg9; have HB9 := hide hb9; clear hown hgrow hat hg9 hb9))
              go_roundg (N - (v + 1))
              case measure => omega
              case rel => exact ⟨v + 1, _, _, by go_num, by omega, by omega, HG9, HB9⟩
          · obtain rfl : v = N := by omega
            have HG2 := hide (show Gs (R + 1) v R (tuS ln L (u + 1) 0) ga gc wr from (unhide HG).congr fun j hj => tuS_row hj)
            clear HG
            go_wp2_with fail
            go_roundg (v - (u + 1))
            case measure => omega
            case rel => exact ⟨u + 1, ga, gc, by go_num, by omega, by omega, HG2, HB⟩
      · obtain rfl : u = N := by omega
        have HX := hide (show Rq w.heap.size wr.heap.size wr (some ⟨R, 0, none⟩) u (lnL (tw u ln L)) (LL (tw u ln L)) from ((unhide HG).congr (ls2 := tw u ln L) fun j _ => unhide HEND j).rq.low (lo2 := w.heap.size) (by have := unhide HDG; omega))
        clear HG
        go_wp2_with fail
        go_ret2
        exact ⟨_, u, rfl, unhide HX, unhide HB⟩
end Go.Proofs.Ytjflnpcpnoccjaa

namespace Go.Proofs.Ytjflnpcpnoccjaa
open Go.RowKit

set_option maxRecDepth 100000 in
set_option maxHeartbeats 8000000 in
theorem rSorted_any {N : Nat} {ln : Nat → Nat} {L : Nat → Nat → Int} {na : Option Addr} {nc : Nat} {w : World} (hN : N ≤ 1048576) (hln : ∀ k, k < N → ln k ≤ 1048576) (hR : Rr w na N ln L) :
    Calls Try.prog 41 #[.slice na N nc] w fun x w' => ∃ ga gc, x = .returned (.tuple #[.slice ga (ptN N ln L) gc, .int .i64 (ptE N ln L)]) ∧ Rq w.heap.size w'.heap.size w' ga (ptN N ln L) (lnL (so N ln L)) (LL (so N ln L)) ∧ Below w.heap.size w w' := by
  have c1 := hide (rParts_any (nc := nc) hN hln hR)
  have c2 := hide (fun (W : World) (h : Below w.heap.size w W) => rCondense_any (nc := nc) hN hln (hR.later h))
  unfold ptN ptE at *
  cases hr : rgt N ln L with
  | false =>
    clear c2
    rw [hr] at c1
    rw [if_neg (by simp), if_neg (by simp)] at *
    clear hR hln
    go_enter Try.func41, Try.ntmps41
    go_wp2_with (go_at_call 31; refine (unhide c1).mono ?_; rintro x1 w1 ⟨ga, gc, rfl, q1, q2⟩; have HB := hide q2; clear q1 q2)
    go_ret2
    exact ⟨none, 0, rfl, Rq.none _ _ _ _ _ _, unhide HB⟩
  | true =>
    rw [hr] at c1 c2
    rw [if_pos rfl, if_pos rfl] at *
    obtain ⟨i0, hi0, hz0, hz1, hz2⟩ := info_parts infoL
    have hpcN : pc N ln L ≤ 1048576 := Nat.le_trans (pc_le N ln L) hN
    have hco := co_len hr hN
    have hnl : ¬ (od (pc N ln L) (lnL (cdL N ln L)) (LL (cdL N ln L))).length < pc N ln L := by
      have : (od (pc N ln L) (lnL (cdL N ln L)) (LL (cdL N ln L))).length = pc N ln L := hco
      omega
    have c3 := hide (fun (W : World) (ga : Option Addr) (gc : Nat) (h1 : Rr W ga (pc N ln L) (lnL (cdL N ln L)) (LL (cdL N ln L))) => rOrder_any (nc := gc) hpcN (fun k _ => Nat.le_trans (cdL_len N ln L k) hN) h1)
    rw [show orN (pc N ln L) (lnL (cdL N ln L)) (LL (cdL N ln L)) = pc N ln L from by unfold orN; rw [if_pos (cd_rgt hr hN), if_neg hnl], show orE (pc N ln L) (lnL (cdL N ln L)) (LL (cdL N ln L)) = 0 from by unfold orE; rw [if_pos (cd_rgt hr hN), if_neg hnl], show oV (pc N ln L) (lnL (cdL N ln L)) (LL (cdL N ln L)) = fun j => (((co N ln L).getD j 0 : Nat) : Int) from rfl] at c3
    have HCL := hide (fun (k : Nat) (hk : k < pc N ln L) => co_lt (N := N) (ln := ln) (L := L) (k := k) (by omega))
    have HSO := hide (fun k => show so N ln L k = ptL (pn N ln L) N ((co N ln L).getD k 0) from rfl)
    clear hR hln hr hco hnl
    generalize so N ln L = sl at *
    generalize co N ln L = c at *
    generalize ptL (pn N ln L) N = ls at *
    generalize cdL N ln L = cd at *
    generalize pc N ln L = n at *
    go_enter Try.func41, Try.ntmps41
    go_upto_region 6 with (first | (go_at_call 31; refine (unhide c1).mono ?_; rintro x1 w1 ⟨pa, pcc, rfl, q1, q2⟩; have P1 := hide q1; have B1 := hide q2; clear q1 q2) | (go_at_call 34; refine (unhide c2 _ (unhide B1)).mono ?_; rintro x2 w2 ⟨ca2, cc2, rfl, q1, q2⟩; have P2 := hide q1.rr; have C2 := hide q2; have B2 := hide (bl_t (unhide B1) q2); clear q1 q2) | (go_at_call 40; refine (unhide c3 _ _ _ (unhide P2)).mono ?_; rintro x3 w3 ⟨oa, oc, rfl, q1, q2⟩; have O3 := hide q1; have C3 := hide (bl_t (unhide C2) q2); have B3 := hide (bl_t (unhide B2) q2); clear q1 q2))
    obtain ⟨ra, rc, r1, r2⟩ := unhide P1
    have R1 := hide r1
    have R2 := hide r2
    clear r1 r2 P1 P2 B1 B2 C2 c1 c2 c3
    go_wp2_with fail
    go_loopg [10, 11] n (fun g1 vl_ vi wr => ∃ (k : Nat) (la : Option Addr) (lc : Nat), vi = .int .i64 k ∧ vl_ = .slice la k lc ∧ k ≤ n ∧ n - k ≤ g1 ∧ Hid (wr.ownsRow w3.heap.size 23 1 (.slice la k lc) k (vl k fun k => .slice (ra (c.getD k 0)) (ls (c.getD k 0)).length (rc (c.getD k 0)))) ∧ Hid (Below w3.heap.size w3 wr))
    case atStart => exact ⟨0, none, 0, by go_num, rfl, by omega, by omega, hide (World.ownsRow_nil _ _ _ _), hide (Below.refl _ _)⟩
    case round =>
      obtain ⟨k, la, lc, rfl, rfl, hk, hg1, HO, HB⟩ := hrel
      by_cases hlt : k < n
      · have hlt2 : (k : Int) < (n : Int) := by omega
        obtain ⟨ob, oo, eo, _, _, ol, oc3⟩ := unhide O3 (by omega)
        have cl : wr.cell? ⟨ob, oo + k, none⟩ = some (.int .i64 ((c.getD k 0 : Nat) : Int)) := ((unhide HB).cell (p := ⟨ob, oo + k, none⟩) ol).trans (oc3 k hlt)
        have hcn := unhide HCL k hlt
        have hcn2 : ((c.getD k 0 : Nat) : Int) < (n : Int) := by omega
        obtain ⟨pb, po, ep, _, _, pl3, pc3⟩ := unhide R1 (by omega)
        have cR : wr.cell? ⟨pb, po + c.getD k 0, none⟩ = some (.slice (ra (c.getD k 0)) (ls (c.getD k 0)).length (rc (c.getD k 0))) := ((bl_t (unhide C3) (unhide HB)).cell (p := ⟨pb, po + c.getD k 0, none⟩) pl3).trans (pc3 _ hcn)
        have hsz := (unhide HB).size
        have HVL := hide (vl_succ k fun k => .slice (ra (c.getD k 0)) (ls (c.getD k 0)).length (rc (c.getD k 0)))
        obtain ⟨x, hx⟩ : ∃ x, x = c.getD k 0 := ⟨_, rfl⟩
        have HA := hide (fun w9 (g c9 : Nat) (hown : w9.ownsRow w3.heap.size 23 1 (.slice (some ⟨g, 0, none⟩) (k + 1) c9) (k + 1) ((vl k fun k => .slice (ra (c.getD k 0)) (ls (c.getD k 0)).length (rc (c.getD k 0))) ++ [.slice (ra (c.getD k 0)) (ls (c.getD k 0)).length (rc (c.getD k 0))])) (hgr : (wr.alloc (.cells #[.slice (ra (c.getD k 0)) (ls (c.getD k 0)).length (rc (c.getD k 0))] 23)).grownBy w9 (Value.slice la k lc).ownBlock) => show Hid (w9.ownsRow w3.heap.size 23 1 (.slice (some ⟨g, 0, none⟩) (k + 1) c9) (k + 1) (vl (k + 1) fun k => .slice (ra (c.getD k 0)) (ls (c.getD k 0)).length (rc (c.getD k 0)))) ∧ Hid (Below w3.heap.size w3 w9) from by
          refine ⟨hide (by rw [unhide HVL]; exact hown), hide ?_⟩
          have hb := bl_t (unhide HB) (al wr (.cells #[.slice (ra (c.getD k 0)) (ls (c.getD k 0)).length (rc (c.getD k 0))] 23))
          exact hb.grown hgr hb.size (fun j e => ((unhide HO).lt j e).1))
        have HO2 := hide ((unhide HO).alloc (.cells #[.slice (ra (c.getD k 0)) (ls (c.getD k 0)).length (rc (c.getD k 0))] 23))
        have h1c : ∀ u ∈ [Value.slice (ra (c.getD k 0)) (ls (c.getD k 0)).length (rc (c.getD k 0))], u.oneCell' = true := by simp [Value.oneCell']
        rw [← hx] at cl hcn2 cR HA HO2 h1c
        generalize vl k (fun k => .slice (ra (c.getD k 0)) (ls (c.getD k 0)).length (rc (c.getD k 0))) = xs at *
        subst eo
        subst ep
        clear HO hx HVL oc3 pc3
        generalize ra x = rax at *
        generalize hlx : (ls x).length = lx at *
        generalize rc x = rcx at *
        clear hlx
        go_wp2_with (at_builtin; go_must (refine wpList_append_lies _ rfl _ _ 22 rfl w3.heap.size 23 i0 (.slice none 0 0) 1 24 Try.underlying22 hi0 hz0 hz1 hz2 rfl (by decide) (.slice la k lc) k xs rfl (unhide HO2) ⟨wr.heap.size, 0, none⟩ 1 1 [.slice rax lx rcx] rfl rfl (cell_one_new _ _ _) h1c (by decide) (by unfold maxLen; omega) (by omega) (by simp; omega) _ rfl ?_); intro gg c9 w9 hown hgrow hat _; obtain ⟨HO9, HB9⟩ := unhide HA w9 gg c9 hown hgrow; clear hown hgrow hat)
        go_roundg (n - (k + 1))
        case measure => omega
        case rel => exact ⟨k + 1, _, c9, by go_num, rfl, by omega, by omega, HO9, HB9⟩
      · obtain rfl : k = n := by omega
        have HX := hide (show Rq w.heap.size wr.heap.size wr la k (lnL sl) (LL sl) from by
          refine ⟨fun k => ra (c.getD k 0), fun k => rc (c.getD k 0), fun h0 => ?_, fun i hi => ?_⟩
          · have hq := unhide HO
            rcases hq.2 with ⟨_, z⟩ | ⟨g, cap, cur, z1, z2, z3, _⟩
            · omega
            · cases z1
              refine ⟨g, 0, rfl, by have := (unhide B3).size; omega, blk_lt z3, blk_lt z3, fun i hi => ?_⟩
              rw [Nat.zero_add, owns_at hq i _ (vl_at _ _ i hi)]
              show _ = some (Value.slice (ra (c.getD i 0)) (sl i).length (rc (c.getD i 0)))
              rw [unhide HSO i]
          · show Rh w.heap.size wr.heap.size wr (ra (c.getD i 0)) (sl i).length (iv fun j => (((sl i).getD j 0 : Nat) : Int))
            rw [unhide HSO i]
            intro h0
            obtain ⟨b, o, e, l1, l2, l3, cc⟩ := unhide R2 _ (unhide HCL i hi) h0
            have hbb := bl_t (unhide C3) (unhide HB)
            have := hbb.size
            exact ⟨b, o, e, l1, by omega, by omega, fun j hj => (hbb.cell (p := ⟨b, o + j, none⟩) l3).trans (cc j hj)⟩)
        have HBX := hide (bl_t (unhide B3) (unhide HB))
        clear HO HB
        go_wp2_with fail
        go_ret2
        exact ⟨la, lc, rfl, unhide HX, unhide HBX⟩
end Go.Proofs.Ytjflnpcpnoccjaa

namespace Go.Proofs.Ytjflnpcpnoccjaa
open Go.RowKit

/-- LISTS OF NUMBERS THAT ARE AN ANSWER, IN MEMORY BETWEEN lo AND hi, the list anywhere among its rows. -/
def AnS (lo hi : Nat) (ga : Option Addr) (n : Nat) (ls : Nat → List Nat) (W : World) : Prop := (ga = none ∧ n = 0) ∨ ∃ (g : Nat) (ra : Nat → Option Addr) (rc : Nat → Nat), ga = some ⟨g, 0, none⟩ ∧ lo ≤ g ∧ g < hi ∧ Mv g n 23 (fun k => .slice (ra k) (ls k).length (rc k)) W ∧ (∀ k, k < n → W.ownsRow lo 3 1 (.slice (ra k) (ls k).length (rc k)) (ls k).length (tV (nI (ls k)))) ∧ (∀ i j, i < n → j < n → i ≠ j → ∀ b, (Value.slice (ra i) (ls i).length (rc i)).ownBlock = some b → (Value.slice (ra j) (ls j).length (rc j)).ownBlock ≠ some b) ∧ ∀ k, k < n → ∀ b, (Value.slice (ra k) (ls k).length (rc k)).ownBlock = some b → b < hi
theorem AnS.fx {P : Nat → Prop} {lo hi : Nat} {ga : Option Addr} {n : Nat} {ls : Nat → List Nat} {W W2 : World} (h : AnS lo hi ga n ls W) (f : Fx P W W2) (hp : ∀ b, lo ≤ b → b < hi → ¬ P b) : AnS lo hi ga n ls W2 := by
  rcases h with h | ⟨R, ra, rc, h1, h2, h3, h4, h5, h6, h7⟩
  · exact .inl h
  · exact .inr ⟨R, ra, rc, h1, h2, h3, h4.fx f (hp R h2 h3), fun k hk => own_same (h5 k hk) fun b cur t hb eb => f.blk b (blk_lt hb) (hp b ((h5 k hk).lt b eb).1 (h7 k hk b eb)), h6, h7⟩
theorem AnS.later {lo hi : Nat} {ga : Option Addr} {n : Nat} {ls : Nat → List Nat} {W W2 : World} (h : AnS lo hi ga n ls W) (hb : Below W.heap.size W W2) : AnS lo hi ga n ls W2 := h.fx (P := fun _ => False) (Fx.of hb) (fun _ _ _ q => q)
theorem AnS.low {lo lo2 hi : Nat} {ga : Option Addr} {n : Nat} {ls : Nat → List Nat} {W : World} (h : AnS lo hi ga n ls W) (hl : lo2 ≤ lo) : AnS lo2 hi ga n ls W := by
  rcases h with h | ⟨R, ra, rc, h1, h2, h3, h4, h5, h6⟩
  · exact .inl h
  · exact .inr ⟨R, ra, rc, h1, Nat.le_trans hl h2, h3, h4, fun k hk => own_up (h5 k hk) hl, h6⟩
theorem AnS.congr {lo hi : Nat} {ga : Option Addr} {n : Nat} {ls ls2 : Nat → List Nat} {W : World} (h : AnS lo hi ga n ls W) (e : ∀ k, k < n → ls k = ls2 k) : AnS lo hi ga n ls2 W := by
  rcases h with h | ⟨R, ra, rc, h1, h2, h3, h4, h5, h6, h7⟩
  · exact .inl h
  · exact .inr ⟨R, ra, rc, h1, h2, h3, h4.congr fun k hk => by rw [e k hk], fun k hk => by rw [← e k hk]; exact h5 k hk, fun i j hi hj hij => by rw [← e i hi, ← e j hj]; exact h6 i j hi hj hij, fun k hk => by rw [← e k hk]; exact h7 k hk⟩
theorem AnS.rr {lo hi : Nat} {ga : Option Addr} {n : Nat} {ls : Nat → List Nat} {W : World} (h : AnS lo hi ga n ls W) : Rr W ga n (lnL ls) (LL ls) := by
  rcases h with ⟨_, h2⟩ | ⟨R, ra, rc, h1, h2, h3, h4, h5, h6⟩
  · rw [h2]; exact (Rq.none 0 0 W ga _ _).rr
  · rw [h1]
    refine ⟨ra, rc, h4.rv, fun k hk => ?_⟩
    have q := h5 k hk
    rw [tV_vl, nI_len] at q
    refine (Rv.of_owns q).congr fun j hj => ?_
    unfold iv nI LL
    congr 1
    simp [hj]
theorem AnS.apart {lo hi : Nat} {ga : Option Addr} {n : Nat} {ls : Nat → List Nat} {W : World} (h : AnS lo hi ga n ls W) (hn : n ≤ 2097152) (hl : ∀ k, k < n → (ls k).length ≤ 1099511627776) (hlo : lo ≤ W.heap.size) :
    Calls Try.prog 23 #[.slice ga n n] W fun x w' => x = .returned (.bool true) ∧ Fx (fun b => lo ≤ b ∧ b < hi) W w' ∧ Below lo W w' := by
  rcases h with ⟨h1, h2⟩ | ⟨R, ra, rc, h1, h2, h3, h4, h5, h6, h7⟩
  · subst h1
    subst h2
    exact (apart_nil W).mono fun x w' hx => ⟨hx.1, Fx.of hx.2, hx.2.mono hlo⟩
  · subst h1
    have ho : ∀ k, k < n → ∃ g, Rw lo W.heap.size (ra k) g (ls k).length (rc k) (LL ls k) W := fun k hk => by
      have q := h5 k hk
      rw [tV_vl, nI_len] at q
      obtain ⟨g, hg⟩ := Rw.of q
      exact ⟨g, hg.cong fun j hj => by
        unfold nI LL
        simp [hj]⟩
    have hg : ∀ k, k < n → Rw lo W.heap.size (ra k) (blkOf (ra k)) (ls k).length (rc k) (LL ls k) W := fun k hk => by
      obtain ⟨g, hr⟩ := ho k hk
      rcases hr.1 with q | ⟨cur, q1, q⟩
      · exact ⟨.inl q, fun e => by rw [q.1] at e; cases e⟩
      · have e : blkOf (ra k) = g := by rw [q1]; rfl
        rw [e]
        exact hr
    have hob : ∀ k, ra k = some ⟨blkOf (ra k), 0, none⟩ → (Value.slice (ra k) (ls k).length (rc k)).ownBlock = some (blkOf (ra k)) := fun k e => by
      generalize blkOf (ra k) = b at e
      rw [e]
      rfl
    have hrp : Rp lo R n ra (fun k => blkOf (ra k)) (lnL ls) rc (LL ls) W := by
      obtain ⟨cur, q1, q2⟩ := h4
      exact ⟨⟨cur, q1, q2⟩, fun k hk => (hg k hk).low (Nat.le_refl _), fun i j hi hj hij e1 e2 e3 => h6 i j hi hj hij _ (hob i e1) (by rw [e3]; exact hob j e2)⟩
    refine (apart_any hn hl hlo hrp).mono fun x w' hx => ⟨hx.1, ⟨hx.2.size, fun b hb hnp => hx.2.kb b hb fun k hk e q => hnp ?_⟩, hx.2.bel⟩
    have z := hob k e
    rw [← q] at z
    exact ⟨((h5 k hk).lt b z).1, h7 k hk b z⟩
theorem Sorted_L {N : Nat} {ln : Nat → Nat} {L : Nat → Nat → Int} {na : Option Addr} {nc : Nat} {w : World} (hN : N ≤ 1048576) (hln : ∀ k, k < N → ln k ≤ 1048576) (hR : Rr w na N ln L) :
    Calls Try.prog 26 #[.slice na N nc] w fun x w' => ∃ ga, x = .returned (.tuple #[.slice ga (ptN N ln L) (ptN N ln L), .int .i64 (ptE N ln L)]) ∧ AnS w.heap.size w'.heap.size ga (ptN N ln L) (so N ln L) w' ∧ Below w.heap.size w w' := by
  refine (Sorted_any (nc := nc) hN hln hR).mono fun x w' ⟨ga, e, hq, hb⟩ => ⟨ga, e, ?_, hb⟩
  rcases hq with q | ⟨g, R, ra, rc, rfl, q⟩
  · exact .inl q
  · cases hr : rgt N ln L with
    | false =>
      have h0 : ptN N ln L = 0 := if_neg (by rw [hr]; simp)
      have hm := Mv.of_owns q.own
      rw [h0]
      have hg : w.heap.size ≤ g := by have := q.at_; omega
      exact .inr ⟨g, ra, rc, rfl, hg, hm.lt, by rw [h0] at hm; exact ⟨hm.choose, hm.choose_spec.1, fun k hk => by omega⟩, fun k hk => by omega, fun i j hi => by omega, fun k hk => by omega⟩
    | true =>
      have h0 : ptN N ln L = pc N ln L := if_pos hr
      rw [h0] at q ⊢
      have hm := Mv.of_owns q.own
      have hcl := co_len hr hN
      have hc : ∀ k, k < pc N ln L → (co N ln L).getD k 0 < pc N ln L := fun k hk => co_lt (by omega)
      have hg : w.heap.size ≤ g := by have := q.at_; omega
      have hne : ∀ i j, i < pc N ln L → j < pc N ln L → i ≠ j → (co N ln L).getD i 0 ≠ (co N ln L).getD j 0 := fun i j hi hj hij => by
        rcases Nat.lt_or_gt_of_ne hij with z | z
        · exact nd_ne (co_nd N ln L) z (by omega)
        · exact (nd_ne (co_nd N ln L) z (by omega)).symm
      exact .inr ⟨g, fun k => ra ((co N ln L).getD k 0), fun k => rc ((co N ln L).getD k 0), rfl, hg, hm.lt, hm, fun k hk => own_up (q.gs.own _ (hc k hk)) (by have := q.at_.1; omega), fun i j hi hj hij => q.gs.ne _ _ (hc i hi) (hc j hj) (hne i j hi hj hij), fun k hk b e => Nat.lt_trans (q.at_.2.2 _ (hc k hk) b e) hm.lt⟩
theorem Turned_L {N : Nat} {ln : Nat → Nat} {L : Nat → Nat → Int} {na : Option Addr} {nc : Nat} {w : World} (hN : N ≤ 1048576) (hln : ∀ k, k < N → ln k ≤ 1048576) (hR : Rr w na N ln L) :
    Calls Try.prog 36 #[.slice na N nc] w fun x w' => ∃ ga, x = .returned (.tuple #[.slice ga (poN N ln L) (poN N ln L), .int .i64 (ptE N ln L)]) ∧ AnL w.heap.size w'.heap.size ga (poN N ln L) (tw N ln L) w' ∧ Below w.heap.size w w' := Turned_any hN hln hR
theorem so_len (N : Nat) (ln : Nat → Nat) (L : Nat → Nat → Int) (k : Nat) : (so N ln L k).length ≤ N := ptL_len _ _ _
theorem tw_len_at {N : Nat} {ln : Nat → Nat} {L : Nat → Nat → Int} (hN : N ≤ 1048576) (k : Nat) (hk : k < poN N ln L) : (tw N ln L k).length ≤ N := by
  cases hr : rgt N ln L with
  | false => rw [show poN N ln L = 0 from if_neg (by rw [hr]; simp)] at hk; omega
  | true => exact twN_le hr hN k
theorem le_bign {l : Nat → Nat} {m n : Nat} (hm : m ≤ 1048576) (h : ∀ k, k < n → l k ≤ m) : ∀ k, k < n → l k ≤ 140737488355328 := fun k hk => by have := h k hk; omega
theorem le_midn {l : Nat → Nat} {m n : Nat} (hm : m ≤ 1048576) (h : ∀ k, k < n → l k ≤ m) : ∀ k, k < n → l k ≤ 1099511627776 := fun k hk => by have := h k hk; omega
/-! Another's answers. -/
theorem od_two {ln : Nat → Nat} {L : Nat → Nat → Int} (eg : ∀ u v, Eg 2 ln L u v ↔ u = 0 ∧ v = 1) : od 2 ln L = [1, 0] := by
  have h1 : Lst 2 ln L [] 1 := ⟨⟨by omega, List.not_mem_nil, fun v hv => by have := (eg 1 v).1 hv; omega⟩, fun x hx => by
    by_cases e : x = 0
    · subst e
      exact absurd (hx.2.2 1 ((eg 0 1).2 ⟨rfl, rfl⟩)) List.not_mem_nil
    · omega⟩
  have h2 : Lst 2 ln L [1] 0 := ⟨⟨by omega, by simp, fun v hv => by have := (eg 0 v).1 hv; simp [this.2]⟩, fun x _ => Nat.zero_le _⟩
  show ordL 2 ln L 2 [] = _
  rw [ordL_some h1, show ([] : List Nat) ++ [1] = [1] from rfl, ordL_some h2]
  rfl
theorem coA : co 3 lnA LA = [1, 0] := by
  unfold co
  have hcr := cd_rgt rgtA (by omega)
  have hce := fun (p q : Nat) (hq : q < pc 3 lnA LA) => cd_eg rgtA (by omega) (p := p) (q := q) hq
  rw [pcA] at *
  refine od_two fun u v => ?_
  constructor
  · intro h
    have hv := eg_lt hcr h
    obtain ⟨h1, h2⟩ := (hce u v hv).1 h
    have hu := h.1
    by_cases e : u = 0
    · exact ⟨e, by omega⟩
    · have e1 : u = 1 := by omega
      have e2 : v = 0 := by omega
      subst e1
      subst e2
      rw [btA10] at h2
      cases h2
  · rintro ⟨rfl, rfl⟩
    exact (hce 0 1 (by omega)).2 ⟨by omega, btA01⟩
def rL : Nat → List Nat
  | 0 => [2]
  | _ => [0, 1]
theorem soA (k : Nat) (hk : k < 2) : so 3 lnA LA k = rL k := by
  unfold so
  rw [coA]
  match k, hk with
  | 0, _ => exact ptA 1 (by omega)
  | 1, _ => exact ptA 0 (by omega)
theorem Sorted_A {na : Option Addr} {nc : Nat} {w : World} (hR : Rr w na 3 lnA LA) :
    Calls Try.prog 26 #[.slice na 3 nc] w fun x w' => ∃ ga, x = .returned (.tuple #[.slice ga 2 2, .int .i64 0]) ∧ AnS w.heap.size w'.heap.size ga 2 rL w' ∧ Below w.heap.size w w' := by
  have h := Sorted_L (nc := nc) (by omega) lnA_le hR
  rw [ptNA, ptEA] at h
  exact h.mono fun _ _ ⟨ga, e, h, hb⟩ => ⟨ga, e, h.congr soA, hb⟩
def zL : Nat → List Nat
  | 0 => [1]
  | 1 => [0]
  | _ => [1]
theorem twA (k : Nat) (hk : k < 3) : tw 3 lnA LA k = zL k := by
  match k, hk with
  | 0, _ => rfl
  | 1, _ => rfl
  | 2, _ => rfl
theorem Turned_A {na : Option Addr} {nc : Nat} {w : World} (hR : Rr w na 3 lnA LA) :
    Calls Try.prog 36 #[.slice na 3 nc] w fun x w' => ∃ ga, x = .returned (.tuple #[.slice ga 3 3, .int .i64 0]) ∧ AnL w.heap.size w'.heap.size ga 3 zL w' ∧ Below w.heap.size w w' := by
  have h := Turned_L (nc := nc) (by omega) lnA_le hR
  rw [poNA, ptEA] at h
  exact h.mono fun _ _ ⟨ga, e, h, hb⟩ => ⟨ga, e, h.congr twA, hb⟩
theorem rL_len (k : Nat) : (rL k).length ≤ 2 := by
  match k with
  | 0 => exact Nat.le_succ 1
  | _ + 1 => exact Nat.le_refl 2
theorem zL_len (k : Nat) : (zL k).length ≤ 2 := by
  match k with
  | 0 => exact Nat.le_succ 1
  | 1 => exact Nat.le_succ 1
  | _ + 2 => exact Nat.le_succ 1
theorem lit_r (W : World) : Rr (((W.alloc (.cells #[.int .i64 2] 3)).alloc (.cells #[.int .i64 0, .int .i64 1] 3)).alloc (.cells #[.slice (some ⟨W.heap.size, 0, none⟩) 1 1, .slice (some ⟨W.heap.size + 1, 0, none⟩) 2 2] 23)) (some ⟨W.heap.size + 1 + 1, 0, none⟩) 2 (lnL rL) (LL rL) := by
  have b2 := heap_new (W.alloc (.cells #[.int .i64 2] 3)) (.cells #[.int .i64 0, .int .i64 1] 3)
  have b1 := ((al (W.alloc (.cells #[.int .i64 2] 3)) (.cells #[.int .i64 0, .int .i64 1] 3)).block W.heap.size (by simp)).trans (heap_new W (.cells #[.int .i64 2] 3))
  rw [World.size_alloc] at b2
  have h := rr_lits (n1 := 1) (n2 := 2) (m1 := 1) (m2 := 2) (ls := rL) b1 b2 (fun i hi => by
    match i, hi with
    | 0, _ => rfl) (fun i hi => by
    match i, hi with
    | 0, _ => rfl
    | 1, _ => rfl) rfl rfl
  simp only [World.size_alloc] at h
  exact h
theorem lit_t (W : World) : Rr ((((W.alloc (.cells #[.int .i64 1] 3)).alloc (.cells #[.int .i64 0] 3)).alloc (.cells #[.int .i64 1] 3)).alloc (.cells #[.slice (some ⟨W.heap.size, 0, none⟩) 1 1, .slice (some ⟨W.heap.size + 1, 0, none⟩) 1 1, .slice (some ⟨W.heap.size + 1 + 1, 0, none⟩) 1 1] 23)) (some ⟨W.heap.size + 1 + 1 + 1, 0, none⟩) 3 (lnL zL) (LL zL) := by
  have b3 := heap_new ((W.alloc (.cells #[.int .i64 1] 3)).alloc (.cells #[.int .i64 0] 3)) (.cells #[.int .i64 1] 3)
  have b2 : (((W.alloc (.cells #[.int .i64 1] 3)).alloc (.cells #[.int .i64 0] 3)).alloc (.cells #[.int .i64 1] 3)).heap[W.heap.size + 1]? = some (.cells #[.int .i64 0] 3 (0, 0)) := by
    have h0 := heap_new (W.alloc (.cells #[.int .i64 1] 3)) (.cells #[.int .i64 0] 3)
    rw [World.size_alloc] at h0
    exact ((al ((W.alloc (.cells #[.int .i64 1] 3)).alloc (.cells #[.int .i64 0] 3)) (.cells #[.int .i64 1] 3)).block (W.heap.size + 1) (by simp)).trans h0
  have b1 := ((bl2 (W.alloc (.cells #[.int .i64 1] 3)) (.cells #[.int .i64 0] 3) (.cells #[.int .i64 1] 3)).block W.heap.size (by simp)).trans (heap_new W (.cells #[.int .i64 1] 3))
  rw [World.size_alloc, World.size_alloc] at b3
  have h := rr_three (n1 := 1) (n2 := 1) (n3 := 1) (m1 := 1) (m2 := 1) (m3 := 1) (ln := lnL zL) (L := LL zL) b1 b2 b3 (only_one (Nat.le_refl _) rfl) (only_one (Nat.le_refl _) rfl) (only_one (Nat.le_refl _) rfl) rfl rfl rfl
  simp only [World.size_alloc] at h
  exact h
end Go.Proofs.Ytjflnpcpnoccjaa

namespace Go.Proofs.Ytjflnpcpnoccjaa
open Go.RowKit

/-- WHAT HAS BEEN ANSWERED. -/
structure QX (n m l : Nat) (ls ks : Nat → List Nat) (V : Nat → Int) (s2 s3 s4 s5 s6 s7 s8 s9 s10 s11 s12 s13 s14 s15 s16 s17 : Nat) (ga3 ga4 ga5 ga6 ga7 ga8 ga9 ga10 ga11 ga12 ga13 ga14 ga15 ga16 ga17 : Option Addr) (k3 k4 k5 k6 c3 c4 c5 c6 : Nat) (W : World) : Prop where
  f3 : Rw s2 s3 ga3 k3 n c3 V W
  f4 : Rw s3 s4 ga4 k4 n c4 V W
  f5 : Rw s4 s5 ga5 k5 2 c5 bV W
  f6 : Rw s5 s6 ga6 k6 n c6 V W
  f7 : Rh s6 s7 W ga7 n (iv V)
  f8 : AnS s7 s8 ga8 m ls W
  f9 : AnS s8 s9 ga9 m ls W
  f10 : AnS s9 s10 ga10 2 rL W
  f11 : AnS s10 s11 ga11 m ls W
  f12 : Rq s11 s12 W ga12 m (lnL ls) (LL ls)
  f13 : AnL s12 s13 ga13 l ks W
  f14 : AnL s13 s14 ga14 l ks W
  f15 : AnL s14 s15 ga15 3 zL W
  f16 : AnL s15 s16 ga16 l ks W
  f17 : Rq s16 s17 W ga17 l (lnL ks) (LL ks)
  o : s2 ≤ s3 ∧ s3 ≤ s4 ∧ s4 ≤ s5 ∧ s5 ≤ s6 ∧ s6 ≤ s7 ∧ s7 ≤ s8 ∧ s8 ≤ s9 ∧ s9 ≤ s10 ∧ s10 ≤ s11 ∧ s11 ≤ s12 ∧ s12 ≤ s13 ∧ s13 ≤ s14 ∧ s14 ≤ s15 ∧ s15 ≤ s16 ∧ s16 ≤ s17
theorem QX.later {n m l : Nat} {ls ks : Nat → List Nat} {V : Nat → Int} {s2 s3 s4 s5 s6 s7 s8 s9 s10 s11 s12 s13 s14 s15 s16 s17 : Nat} {ga3 ga4 ga5 ga6 ga7 ga8 ga9 ga10 ga11 ga12 ga13 ga14 ga15 ga16 ga17 : Option Addr} {k3 k4 k5 k6 c3 c4 c5 c6 : Nat} {W W2 : World} (h : QX n m l ls ks V s2 s3 s4 s5 s6 s7 s8 s9 s10 s11 s12 s13 s14 s15 s16 s17 ga3 ga4 ga5 ga6 ga7 ga8 ga9 ga10 ga11 ga12 ga13 ga14 ga15 ga16 ga17 k3 k4 k5 k6 c3 c4 c5 c6 W) (hb : Below W.heap.size W W2) : QX n m l ls ks V s2 s3 s4 s5 s6 s7 s8 s9 s10 s11 s12 s13 s14 s15 s16 s17 ga3 ga4 ga5 ga6 ga7 ga8 ga9 ga10 ga11 ga12 ga13 ga14 ga15 ga16 ga17 k3 k4 k5 k6 c3 c4 c5 c6 W2 :=
  ⟨h.f3.later hb, h.f4.later hb, h.f5.later hb, h.f6.later hb, h.f7.later hb, h.f8.later hb, h.f9.later hb, h.f10.later hb, h.f11.later hb, h.f12.later hb, h.f13.later hb, h.f14.later hb, h.f15.later hb, h.f16.later hb, h.f17.later hb, h.o⟩
end Go.Proofs.Ytjflnpcpnoccjaa

namespace Go.Proofs.Ytjflnpcpnoccjaa
open Go.RowKit

set_option maxRecDepth 100000 in
set_option maxHeartbeats 16000000 in
theorem orders_walk (N : Nat) (ln : Nat → Nat) (L : Nat → Nat → Int) (na : Option Addr) (nc : Nat) (w : World) (hN : N ≤ 1048576) (hln : ∀ k, k < N → ln k ≤ 1048576) (hR : Rr w na N ln L) :
    Calls Try.prog 9 #[.slice na N nc] w fun x w' => x = .returned (.bool true) ∧ Below w.heap.size w w' := by
  have hnn := orN_le N ln L
  have hmm := ptN_le N ln L
  have hll := poN_le N ln L
  have HL2 := hide (fun k (_ : k < ptN N ln L) => so_len N ln L k)
  have HL3 := hide (fun k (hk : k < poN N ln L) => tw_len_at (ln := ln) (L := L) hN k hk)
  have cT := hide (twin_any N ln L na nc w (by omega) (fun k hk => by have := hln k hk; omega) hR)
  have cQ0 := hide (fun (W : World) (ga : Option Addr) (gc : Nat) (h1 : Rr W ga N ln L) => Order_any (nc := gc) hN hln h1)
  have cR0 := hide (fun (W : World) (h1 : Below w.heap.size w W) => rOrder_any (nc := nc) hN hln (hR.later h1))
  have cQ1 := hide (fun (W : World) (ga : Option Addr) (gc : Nat) (h1 : Rr W ga N ln L) => Sorted_L (nc := gc) hN hln h1)
  have cR1 := hide (fun (W : World) (h1 : Below w.heap.size w W) => rSorted_any (nc := nc) hN hln (hR.later h1))
  have cQ2 := hide (fun (W : World) (ga : Option Addr) (gc : Nat) (h1 : Rr W ga N ln L) => Turned_L (nc := gc) hN hln h1)
  have cR2 := hide (fun (W : World) (h1 : Below w.heap.size w W) => rTurned_any (nc := nc) hN hln (hR.later h1))
  have cUn := hide (fun (B cB : Nat) (g cp : Nat → Nat) (qa : Option Addr) (qc : Nat) (W : World) (h1 : Tw w.heap.size B N cB ln g cp L W) (h2 : Rv W qa N (Hd g ln cp)) (h3 : Rr W na N ln L) => untouched_any w.heap.size B N cB ln g cp L qa na qc nc W (by omega) (fun k hk => by have := hln k hk; omega) h1 h2 h3)
  have HR := hide hR
  have HLN := hide hln
  clear hR hln
  generalize hg1 : orN N ln L = n at *
  generalize hg2 : ptE N ln L = eP at *
  generalize hg3 : ptN N ln L = m at *
  generalize hg7 : poN N ln L = l at *
  generalize hg8 : orE N ln L = eO at *
  generalize hg4 : so N ln L = ls at *
  generalize hg5 : tw N ln L = ks at *
  generalize hg6 : oV N ln L = V at *
  clear hg1 hg2 hg3 hg4 hg5 hg6 hg7 hg8
  go_enter Try.func9, Try.ntmps9
  go_upto_region 2 with (go_at_call 10; refine (unhide cT).mono ?_; rintro x1 w1 ⟨B, cB, g, cp, rfl, htw, hb1⟩; have T1 := hide htw.tx; have B1 := hide hb1; clear htw hb1)
  go_upto_region 3 with (go_at_call 11; refine (headers_own N (Hd g ln cp) (fun _ => rfl) _ _ _ (by omega) (unhide T1).tw.hd).mono ?_; rintro x2 w2 ⟨qa, qc, rfl, hrv, hb2⟩; have T2 := hide hrv.rh; have B2 := hide hb2; clear hrv hb2)
  have K2 := hide (show KP w na N ln L w1.heap.size w2.heap.size B cB g cp qa w2 from ⟨(unhide T1).later (unhide B2), unhide T2, (unhide HR).later (bl_t (unhide B1) (unhide B2)), bl_t (unhide B1) (unhide B2), (unhide B2).size⟩)
  clear T1 T2 B1 B2 cT
  generalize w1.heap.size = s1 at K2
  go_upto_region 4 with (go_at_call 29; refine (unhide cQ0 _ _ _ (unhide K2).tx.tw.rr).mono ?_; rintro x3 w3 ⟨ga3, k3, c3, rfl, ha, hb⟩; have A3 := hide ha; have B3 := hide hb; have K3 := hide ((unhide K2).later hb); clear ha hb)
  go_upto_region 5 with (go_at_call 29; refine (unhide cQ0 _ _ _ (unhide K3).tx.tw.rr).mono ?_; rintro x4 w4 ⟨ga4, k4, c4, rfl, ha, hb⟩; have A4 := hide ha; have B4 := hide hb; have K4 := hide ((unhide K3).later hb); clear ha hb)
  have B5a := hide (bl3 w4 (.cells #[.int .i64 1] 3) (.cells #[] 3) (.cells #[.slice (some ⟨w4.heap.size, 0, none⟩) 1 1, .slice (some ⟨w4.heap.size + 1, 0, none⟩) 0 0] 23))
  go_upto_region 6 with (go_at_call 29; refine (Order_C (lit_C w4)).mono ?_; rintro x5 w5 ⟨ga5, k5, c5, rfl, ha, hb⟩; have A5 := hide ha; have B5 := hide (bl_t (unhide B5a) hb); have K5 := hide ((unhide K4).later (bl_t (unhide B5a) hb)); clear ha hb)
  go_upto_region 7 with (go_at_call 29; refine (unhide cQ0 _ _ _ (unhide K5).tx.tw.rr).mono ?_; rintro x6 w6 ⟨ga6, k6, c6, rfl, ha, hb⟩; have A6 := hide ha; have B6 := hide hb; have K6 := hide ((unhide K5).later hb); clear ha hb)
  go_upto_region 8 with (go_at_call 40; refine (unhide cR0 _ (unhide K6).bel).mono ?_; rintro x7 w7 ⟨ga7, gc7, rfl, ha, hb⟩; have A7 := hide ha; have B7 := hide hb; have K7 := hide ((unhide K6).later hb); clear ha hb)
  go_upto_region 9 with (go_at_call 26; refine (unhide cQ1 _ _ _ (unhide K7).tx.tw.rr).mono ?_; rintro x8 w8 ⟨ga8, rfl, ha, hb⟩; have A8 := hide ha; have B8 := hide hb; have K8 := hide ((unhide K7).later hb); clear ha hb)
  go_upto_region 10 with (go_at_call 26; refine (unhide cQ1 _ _ _ (unhide K8).tx.tw.rr).mono ?_; rintro x9 w9 ⟨ga9, rfl, ha, hb⟩; have A9 := hide ha; have B9 := hide hb; have K9 := hide ((unhide K8).later hb); clear ha hb)
  go_upto_region 11 with (first | (go_at_call 14; refine (another_any _).mono ?_; rintro x10a w10a ⟨BA10, rfl, hra, hb⟩; have RA10 := hide hra; have B10a := hide hb; clear hra hb) | (go_at_call 26; refine (Sorted_A (unhide RA10)).mono ?_; rintro x10 w10 ⟨ga10, rfl, ha, hb⟩; have A10 := hide ha; have B10 := hide (bl_t (unhide B10a) hb); have K10 := hide ((unhide K9).later (bl_t (unhide B10a) hb)); clear ha hb))
  go_upto_region 12 with (go_at_call 26; refine (unhide cQ1 _ _ _ (unhide K10).tx.tw.rr).mono ?_; rintro x11 w11 ⟨ga11, rfl, ha, hb⟩; have A11 := hide ha; have B11 := hide hb; have K11 := hide ((unhide K10).later hb); clear ha hb)
  go_upto_region 13 with (go_at_call 41; refine (unhide cR1 _ (unhide K11).bel).mono ?_; rintro x12 w12 ⟨ga12, gc12, rfl, ha, hb⟩; have A12 := hide ha; have B12 := hide hb; have K12 := hide ((unhide K11).later hb); clear ha hb)
  go_upto_region 14 with (go_at_call 36; refine (unhide cQ2 _ _ _ (unhide K12).tx.tw.rr).mono ?_; rintro x13 w13 ⟨ga13, rfl, ha, hb⟩; have A13 := hide ha; have B13 := hide hb; have K13 := hide ((unhide K12).later hb); clear ha hb)
  go_upto_region 15 with (go_at_call 36; refine (unhide cQ2 _ _ _ (unhide K13).tx.tw.rr).mono ?_; rintro x14 w14 ⟨ga14, rfl, ha, hb⟩; have A14 := hide ha; have B14 := hide hb; have K14 := hide ((unhide K13).later hb); clear ha hb)
  go_upto_region 16 with (first | (go_at_call 14; refine (another_any _).mono ?_; rintro x15a w15a ⟨BA15, rfl, hra, hb⟩; have RA15 := hide hra; have B15a := hide hb; clear hra hb) | (go_at_call 36; refine (Turned_A (unhide RA15)).mono ?_; rintro x15 w15 ⟨ga15, rfl, ha, hb⟩; have A15 := hide ha; have B15 := hide (bl_t (unhide B15a) hb); have K15 := hide ((unhide K14).later (bl_t (unhide B15a) hb)); clear ha hb))
  go_upto_region 17 with (go_at_call 36; refine (unhide cQ2 _ _ _ (unhide K15).tx.tw.rr).mono ?_; rintro x16 w16 ⟨ga16, rfl, ha, hb⟩; have A16 := hide ha; have B16 := hide hb; have K16 := hide ((unhide K15).later hb); clear ha hb)
  go_upto_region 18 with (go_at_call 42; refine (unhide cR2 _ (unhide K16).bel).mono ?_; rintro x17 w17 ⟨ga17, gc17, rfl, ha, hb⟩; have A17 := hide ha; have B17 := hide hb; have K17 := hide ((unhide K16).later hb); clear ha hb)
  have X := hide (show QX n m l ls ks V w2.heap.size w3.heap.size w4.heap.size w5.heap.size w6.heap.size w7.heap.size w8.heap.size w9.heap.size w10.heap.size w11.heap.size w12.heap.size w13.heap.size w14.heap.size w15.heap.size w16.heap.size w17.heap.size ga3 ga4 ga5 ga6 ga7 ga8 ga9 ga10 ga11 ga12 ga13 ga14 ga15 ga16 ga17 k3 k4 k5 k6 c3 c4 c5 c6 w17 from by
    have b17 := unhide B17
    have b16 := bl_t (unhide B16) b17
    have b15 := bl_t (unhide B15) b16
    have b14 := bl_t (unhide B14) b15
    have b13 := bl_t (unhide B13) b14
    have b12 := bl_t (unhide B12) b13
    have b11 := bl_t (unhide B11) b12
    have b10 := bl_t (unhide B10) b11
    have b9 := bl_t (unhide B9) b10
    have b8 := bl_t (unhide B8) b9
    have b7 := bl_t (unhide B7) b8
    have b6 := bl_t (unhide B6) b7
    have b5 := bl_t (unhide B5) b6
    have b4 := bl_t (unhide B4) b5
    exact ⟨(unhide A3).later b4, (unhide A4).later b5, ((unhide A5).lowr (unhide B5a).size).later b6, (unhide A6).later b7, (unhide A7).later b8, (unhide A8).later b9, (unhide A9).later b10, ((unhide A10).low (unhide B10a).size).later b11, (unhide A11).later b12, (unhide A12).later b13, (unhide A13).later b14, (unhide A14).later b15, ((unhide A15).low (unhide B15a).size).later b16, (unhide A16).later b17, (unhide A17), (unhide B3).size, (unhide B4).size, (unhide B5).size, (unhide B6).size, (unhide B7).size, (unhide B8).size, (unhide B9).size, (unhide B10).size, (unhide B11).size, (unhide B12).size, (unhide B13).size, (unhide B14).size, (unhide B15).size, (unhide B16).size, (unhide B17).size⟩)
  clear A3 B3 A4 B4 A5 B5 A6 B6 A7 B7 A8 B8 A9 B9 A10 B10 A11 B11 A12 B12 A13 B13 A14 B14 A15 B15 A16 B16 A17 B17 K2 K3 K4 K5 K6 K7 K8 K9 K10 K11 K12 K13 K14 K15 K16 B5a RA10 B10a RA15 B15a cQ0 cQ1 cQ2 cR0 cR1 cR2
  generalize w2.heap.size = s2 at *
  generalize w3.heap.size = s3 at *
  generalize w4.heap.size = s4 at *
  generalize w5.heap.size = s5 at *
  generalize w6.heap.size = s6 at *
  generalize w7.heap.size = s7 at *
  generalize w8.heap.size = s8 at *
  generalize w9.heap.size = s9 at *
  generalize w10.heap.size = s10 at *
  generalize w11.heap.size = s11 at *
  generalize w12.heap.size = s12 at *
  generalize w13.heap.size = s13 at *
  generalize w14.heap.size = s14 at *
  generalize w15.heap.size = s15 at *
  generalize w16.heap.size = s16 at *
  generalize hsl : w17.heap.size = s17 at X
  have HSL := hide (Nat.le_of_eq hsl.symm)
  clear hsl
  have er : (eP != eP) = false := by simp
  have er2 : (eO != eO) = false := by simp
  have HOR := hide (unhide X).o
  have G1 := hide trivial
  have G2 := hide trivial
  have G3 := hide trivial
  go_upto_region 20 with (first | (go_at_call 20; have _u := G1; clear _u G1; refine (numbers_any n V ga3 ga7 c3 gc7 _ (by omega) (unhide X).f3.ri (unhide X).f7.rv).mono ?_; rintro y18 w18 ⟨rfl, hb⟩; have E18 := hide hb; clear hb) | (go_at_call 35; have _u := G2; clear _u G2; refine (lists_any m (lnL ls) (LL ls) ga8 ga12 m gc12 _ (by omega) (le_bign hN (unhide HL2)) ((unhide X).f8.rr.later (unhide E18)) ((unhide X).f12.rr.later (unhide E18))).mono ?_; rintro y19 w19 ⟨rfl, hb⟩; have E19 := hide (bl_t (unhide E18) hb); clear hb) | (go_at_call 35; have _u := G3; clear _u G3; refine (lists_any l (lnL ks) (LL ks) ga13 ga17 l gc17 _ (by omega) (le_bign hN (unhide HL3)) ((unhide X).f13.rr.later (unhide E19)) ((unhide X).f17.rr.later (unhide E19))).mono ?_; rintro y20 w20 ⟨rfl, hb⟩; have E20 := hide (bl_t (unhide E19) hb); clear hb) | (go_at_call 21; refine (unhide cUn _ _ _ _ _ _ _ ((unhide K17).later (unhide E20)).tx.tw ((unhide K17).later (unhide E20)).hd.rv ((unhide K17).later (unhide E20)).cl).mono ?_; rintro y21 w21 ⟨rfl, hb⟩; have E21 := hide (bl_t (unhide E20) hb); clear hb) | (go_at_call 19; refine (num_any _ _).mono ?_; rintro yn w999 ⟨rfl, hw⟩; rw [hw]; clear hw w999))
  have G4 := hide trivial
  have G5 := hide trivial
  have G6 := hide trivial
  have G7 := hide trivial
  have G8 := hide trivial
  have G9 := hide trivial
  go_upto_region 22 with (first | (go_at_call 20; have _u := G4; clear _u G4; refine (numbers_any n V ga4 ga7 c4 gc7 _ (by omega) (Ri.later (unhide X).f4.ri (unhide E21)) ((unhide X).f7.rv.later (unhide E21))).mono ?_; rintro y22 w22 ⟨rfl, hb⟩; have E22 := hide (bl_t (unhide E21) hb); clear hb) | (go_at_call 20; have _u := G5; clear _u G5; refine (numbers_any n V ga6 ga7 c6 gc7 _ (by omega) (Ri.later (unhide X).f6.ri (unhide E22)) ((unhide X).f7.rv.later (unhide E22))).mono ?_; rintro y23 w23 ⟨rfl, hb⟩; have E23 := hide (bl_t (unhide E22) hb); clear hb) | (go_at_call 35; have _u := G6; clear _u G6; refine (lists_any m (lnL ls) (LL ls) ga9 ga12 m gc12 _ (by omega) (le_bign hN (unhide HL2)) ((unhide X).f9.rr.later (unhide E23)) ((unhide X).f12.rr.later (unhide E23))).mono ?_; rintro y24 w24 ⟨rfl, hb⟩; have E24 := hide (bl_t (unhide E23) hb); clear hb) | (go_at_call 35; have _u := G7; clear _u G7; refine (lists_any m (lnL ls) (LL ls) ga11 ga12 m gc12 _ (by omega) (le_bign hN (unhide HL2)) ((unhide X).f11.rr.later (unhide E24)) ((unhide X).f12.rr.later (unhide E24))).mono ?_; rintro y25 w25 ⟨rfl, hb⟩; have E25 := hide (bl_t (unhide E24) hb); clear hb) | (go_at_call 35; have _u := G8; clear _u G8; refine (lists_any l (lnL ks) (LL ks) ga14 ga17 l gc17 _ (by omega) (le_bign hN (unhide HL3)) ((unhide X).f14.rr.later (unhide E25)) ((unhide X).f17.rr.later (unhide E25))).mono ?_; rintro y26 w26 ⟨rfl, hb⟩; have E26 := hide (bl_t (unhide E25) hb); clear hb) | (go_at_call 35; have _u := G9; clear _u G9; refine (lists_any l (lnL ks) (LL ks) ga16 ga17 l gc17 _ (by omega) (le_bign hN (unhide HL3)) ((unhide X).f16.rr.later (unhide E26)) ((unhide X).f17.rr.later (unhide E26))).mono ?_; rintro y27 w27 ⟨rfl, hb⟩; have E27 := hide (bl_t (unhide E26) hb); clear hb))
  have G10 := hide trivial
  have G11 := hide trivial
  have G12 := hide trivial
  go_upto_region 24 with (first | (go_at_call 20; have _u := G10; clear _u G10; refine (numbers_any 2 bV ga5 (some ⟨w27.heap.size, 0, none⟩) c5 2 _ (by omega) (Ri.later (unhide X).f5.ri (bl_t (unhide E27) (al w27 _))) (lit_b w27)).mono ?_; rintro y28 w28 ⟨rfl, hb⟩; have E28 := hide (bl_t (bl_t (unhide E27) (al w27 _)) hb); clear hb) | (go_at_call 35; have _u := G11; clear _u G11; refine (lists_any 2 (lnL rL) (LL rL) ga10 (some ⟨w28.heap.size + 1 + 1, 0, none⟩) 2 2 _ (by omega) (le_big (Nat.le_refl _) (fun k => Nat.le_trans (rL_len k) (by omega)) _) ((unhide X).f10.rr.later (bl_t (unhide E28) (bl3 w28 _ _ _))) (lit_r w28)).mono ?_; rintro y29 w29 ⟨rfl, hb⟩; have E29 := hide (bl_t (bl_t (unhide E28) (bl3 w28 _ _ _)) hb); clear hb) | (go_at_call 35; have _u := G12; clear _u G12; refine (lists_any 3 (lnL zL) (LL zL) ga15 (some ⟨w29.heap.size + 1 + 1 + 1, 0, none⟩) 3 3 _ (by omega) (le_big (Nat.le_refl _) (fun k => Nat.le_trans (zL_len k) (by omega)) _) ((unhide X).f15.rr.later (bl_t (unhide E29) (bl4 w29 _ _ _ _))) (lit_t w29)).mono ?_; rintro y30 w30 ⟨rfl, hb⟩; have E30 := hide (bl_t (bl_t (unhide E29) (bl4 w29 _ _ _ _)) hb); clear hb))
  have Y := hide ((unhide X).later (unhide E30))
  have KY := hide ((unhide K17).later (unhide E30))
  have HSY := hide (Nat.le_trans (unhide HSL) (unhide E30).size)
  have BL0 := hide (unhide KY).bel
  have HW2 := hide (show w.heap.size ≤ s2 from by have h1 := (unhide KY).tx.tw.ge; have h2 := (unhide KY).tx.bk; have h3 := (unhide KY).o; omega)
  clear X K17 HSL E18 E19 E20 E21 E22 E23 E24 E25 E26 E27 E28 E29 E30
  have W0 := hide (show w.heap.size ≤ s7 from by have := unhide HOR; have := unhide HW2; omega)
  have Z0 := hide (show ∀ W : World, s17 ≤ W.heap.size → s7 ≤ W.heap.size from fun W h => by have := unhide HOR; omega)
  have D11 := hide (show ∀ b, s10 ≤ b → b < s11 → ¬ (s7 ≤ b ∧ b < s8) from fun b h1 h2 e => by have := unhide HOR; omega)
  have W1 := hide (show w.heap.size ≤ s10 from by have := unhide HOR; have := unhide HW2; omega)
  have Z1 := hide (show ∀ W : World, s17 ≤ W.heap.size → s10 ≤ W.heap.size from fun W h => by have := unhide HOR; omega)
  have D13 := hide (show ∀ b, s12 ≤ b → b < s13 → ¬ ((s7 ≤ b ∧ b < s8) ∨ (s10 ≤ b ∧ b < s11)) from fun b h1 h2 e => by have := unhide HOR; omega)
  have W2 := hide (show w.heap.size ≤ s12 from by have := unhide HOR; have := unhide HW2; omega)
  have Z2 := hide (show ∀ W : World, s17 ≤ W.heap.size → s12 ≤ W.heap.size from fun W h => by have := unhide HOR; omega)
  have D16 := hide (show ∀ b, s15 ≤ b → b < s16 → ¬ (((s7 ≤ b ∧ b < s8) ∨ (s10 ≤ b ∧ b < s11)) ∨ (s12 ≤ b ∧ b < s13)) from fun b h1 h2 e => by have := unhide HOR; omega)
  have W3 := hide (show w.heap.size ≤ s15 from by have := unhide HOR; have := unhide HW2; omega)
  have Z3 := hide (show ∀ W : World, s17 ≤ W.heap.size → s15 ≤ W.heap.size from fun W h => by have := unhide HOR; omega)
  have D3 := hide (show ∀ b, s2 ≤ b → b < s3 → ¬ ((((s7 ≤ b ∧ b < s8) ∨ (s10 ≤ b ∧ b < s11)) ∨ (s12 ≤ b ∧ b < s13)) ∨ (s15 ≤ b ∧ b < s16)) from fun b h1 h2 e => by have := unhide HOR; omega)
  have D6 := hide (show ∀ b, s5 ≤ b → b < s6 → ¬ ((((s7 ≤ b ∧ b < s8) ∨ (s10 ≤ b ∧ b < s11)) ∨ (s12 ≤ b ∧ b < s13)) ∨ (s15 ≤ b ∧ b < s16)) from fun b h1 h2 e => by have := unhide HOR; omega)
  have D5 := hide (show ∀ b, s4 ≤ b → b < s5 → ¬ ((((s7 ≤ b ∧ b < s8) ∨ (s10 ≤ b ∧ b < s11)) ∨ (s12 ≤ b ∧ b < s13)) ∨ (s15 ≤ b ∧ b < s16)) from fun b h1 h2 e => by have := unhide HOR; omega)
  have W4 := hide (show w.heap.size ≤ s2 from by have := unhide HOR; have := unhide HW2; omega)
  have Z4 := hide (show ∀ W : World, s17 ≤ W.heap.size → s2 ≤ W.heap.size from fun W h => by have := unhide HOR; omega)
  have D10 := hide (show ∀ b, s9 ≤ b → b < s10 → ¬ (((((s7 ≤ b ∧ b < s8) ∨ (s10 ≤ b ∧ b < s11)) ∨ (s12 ≤ b ∧ b < s13)) ∨ (s15 ≤ b ∧ b < s16)) ∨ ((s2 ≤ b ∧ b < s3) ∨ (s4 ≤ b ∧ b < s6))) from fun b h1 h2 e => by have := unhide HOR; omega)
  have W5 := hide (show w.heap.size ≤ s9 from by have := unhide HOR; have := unhide HW2; omega)
  have Z5 := hide (show ∀ W : World, s17 ≤ W.heap.size → s9 ≤ W.heap.size from fun W h => by have := unhide HOR; omega)
  have D15 := hide (show ∀ b, s14 ≤ b → b < s15 → ¬ ((((((s7 ≤ b ∧ b < s8) ∨ (s10 ≤ b ∧ b < s11)) ∨ (s12 ≤ b ∧ b < s13)) ∨ (s15 ≤ b ∧ b < s16)) ∨ ((s2 ≤ b ∧ b < s3) ∨ (s4 ≤ b ∧ b < s6))) ∨ (s9 ≤ b ∧ b < s10)) from fun b h1 h2 e => by have := unhide HOR; omega)
  have W6 := hide (show w.heap.size ≤ s14 from by have := unhide HOR; have := unhide HW2; omega)
  have Z6 := hide (show ∀ W : World, s17 ≤ W.heap.size → s14 ≤ W.heap.size from fun W h => by have := unhide HOR; omega)
  have G13 := hide trivial
  have G14 := hide trivial
  have G15 := hide trivial
  have G16 := hide trivial
  have G17 := hide trivial
  have G18 := hide trivial
  have G19 := hide trivial
  go_upto_region 26 with (first | (go_at_call 23; have _u := G13; clear _u G13; refine (AnS.apart (unhide Y).f8 (by omega) (le_midn hN (unhide HL2)) (unhide Z0 _ (unhide HSY))).mono ?_; rintro y31 w31 ⟨rfl, hfx, hbb⟩; have FC1 := hide hfx; have BL1 := hide ((unhide BL0).trans (hbb.mono (unhide W0))); clear hfx hbb) | (go_at_call 23; have _u := G14; clear _u G14; refine (AnS.apart ((unhide Y).f11.fx (unhide FC1) (unhide D11)) (by omega) (le_midn hN (unhide HL2)) (unhide Z1 _ (Nat.le_trans (unhide HSY) (unhide FC1).size))).mono ?_; rintro y32 w32 ⟨rfl, hfx, hbb⟩; have FC2 := hide (Fx.or (unhide FC1) hfx); have BL2 := hide ((unhide BL1).trans (hbb.mono (unhide W1))); clear hfx hbb) | (go_at_call 23; have _u := G15; clear _u G15; refine (AnL.apart ((unhide Y).f13.fx (unhide FC2) (unhide D13)) (by omega) (le_midn hN (unhide HL3)) (unhide Z2 _ (Nat.le_trans (unhide HSY) (unhide FC2).size))).mono ?_; rintro y33 w33 ⟨rfl, hfx, hbb⟩; have FC3 := hide (Fx.or (unhide FC2) hfx); have BL3 := hide ((unhide BL2).trans (hbb.mono (unhide W2))); clear hfx hbb) | (go_at_call 23; have _u := G16; clear _u G16; refine (AnL.apart ((unhide Y).f16.fx (unhide FC3) (unhide D16)) (by omega) (le_midn hN (unhide HL3)) (unhide Z3 _ (Nat.le_trans (unhide HSY) (unhide FC3).size))).mono ?_; rintro y34 w34 ⟨rfl, hfx, hbb⟩; have FC4 := hide (Fx.or (unhide FC3) hfx); have BL4 := hide ((unhide BL3).trans (hbb.mono (unhide W3))); clear hfx hbb) | (go_at_call 23; have _u := G17; clear _u G17; refine (apart3r ((unhide Y).f3.fx (unhide FC4) (unhide D3)) ((unhide Y).f6.fx (unhide FC4) (unhide D6)) ((unhide Y).f5.fx (unhide FC4) (unhide D5)) (by have := unhide HOR; omega) (unhide Z4 _ (Nat.le_trans (unhide HSY) (unhide FC4).size)) (by omega) (by omega)).mono ?_; rintro y35 w35 ⟨rfl, hfx, hbb⟩; have FC5 := hide (Fx.or (unhide FC4) hfx); have BL5 := hide ((unhide BL4).trans (hbb.mono (unhide W4))); clear hfx hbb) | (go_at_call 23; have _u := G18; clear _u G18; refine (AnS.apart ((unhide Y).f10.fx (unhide FC5) (unhide D10)) (by omega) (le_mid (Nat.le_refl _) (fun k => Nat.le_trans (rL_len k) (by omega)) _) (unhide Z5 _ (Nat.le_trans (unhide HSY) (unhide FC5).size))).mono ?_; rintro y36 w36 ⟨rfl, hfx, hbb⟩; have FC6 := hide (Fx.or (unhide FC5) hfx); have BL6 := hide ((unhide BL5).trans (hbb.mono (unhide W5))); clear hfx hbb) | (go_at_call 23; have _u := G19; clear _u G19; refine (AnL.apart ((unhide Y).f15.fx (unhide FC6) (unhide D15)) (by omega) (le_mid (Nat.le_refl _) (fun k => Nat.le_trans (zL_len k) (by omega)) _) (unhide Z6 _ (Nat.le_trans (unhide HSY) (unhide FC6).size))).mono ?_; rintro y37 w37 ⟨rfl, hfx, hbb⟩; have FC7 := hide (Fx.or (unhide FC6) hfx); have BL7 := hide ((unhide BL6).trans (hbb.mono (unhide W6))); clear hfx hbb))
  have S4 := hide ((unhide Y).f4.fx (unhide FC7) (fun b h1 h2 e => by have := unhide HOR; omega))
  have S7 := hide ((unhide Y).f7.fx (unhide FC7) (fun b h1 h2 e => by have := unhide HOR; omega))
  have S9 := hide ((unhide Y).f9.fx (unhide FC7) (fun b h1 h2 e => by have := unhide HOR; omega))
  have S12 := hide ((unhide Y).f12.fx (unhide FC7) (fun b h1 h2 e => by have := unhide HOR; omega))
  have S14 := hide ((unhide Y).f14.fx (unhide FC7) (fun b h1 h2 e => by have := unhide HOR; omega))
  have S17 := hide ((unhide Y).f17.fx (unhide FC7) (fun b h1 h2 e => by have := unhide HOR; omega))
  have KZ := hide ((unhide KY).fx (unhide FC7) (fun b e => by have := unhide HOR; omega) (unhide BL7) (unhide HR))
  clear Y KY HSY FC1 FC2 FC3 FC4 FC5 FC6 FC7 BL0 BL1 BL2 BL3 BL4 BL5 BL6 BL7 W0 Z0 W1 Z1 W2 Z2 W3 Z3 W4 Z4 W5 Z5 W6 Z6 D11 D13 D16 D3 D6 D5 D10 D15
  have G20 := hide trivial
  have G21 := hide trivial
  have G22 := hide trivial
  go_upto_region 28 with (first | (go_at_call 20; have _u := G20; clear _u G20; refine (numbers_any n V ga4 ga7 c4 gc7 _ (by omega) (unhide S4).ri (unhide S7).rv).mono ?_; rintro y38 w38 ⟨rfl, hb⟩; have E38 := hide hb; clear hb) | (go_at_call 35; have _u := G21; clear _u G21; refine (lists_any m (lnL ls) (LL ls) ga9 ga12 m gc12 _ (by omega) (le_bign hN (unhide HL2)) ((unhide S9).rr.later (unhide E38)) ((unhide S12).rr.later (unhide E38))).mono ?_; rintro y39 w39 ⟨rfl, hb⟩; have E39 := hide (bl_t (unhide E38) hb); clear hb) | (go_at_call 35; have _u := G22; clear _u G22; refine (lists_any l (lnL ks) (LL ks) ga14 ga17 l gc17 _ (by omega) (le_bign hN (unhide HL3)) ((unhide S14).rr.later (unhide E39)) ((unhide S17).rr.later (unhide E39))).mono ?_; rintro y40 w40 ⟨rfl, hb⟩; have E40 := hide (bl_t (unhide E39) hb); clear hb) | (go_at_call 21; refine (unhide cUn _ _ _ _ _ _ _ ((unhide KZ).later (unhide E40)).tx.tw ((unhide KZ).later (unhide E40)).hd.rv ((unhide KZ).later (unhide E40)).cl).mono ?_; rintro y41 w41 ⟨rfl, hb⟩; have E41 := hide (bl_t (unhide E40) hb); clear hb))
  have KT := hide ((unhide KZ).later (unhide E41))
  clear KZ S4 S7 S9 S12 S14 S17 HOR HW2 HL2 HL3 er er2 cUn E38 E39 E40 E41
  have cTu := hide (lturned_any w.heap.size B N cB ln g cp L w41 (by omega) (fun k hk => by have := unhide HLN k hk; omega) (unhide KT).tx.tw.wr)
  go_upto_region 29 with (go_at_call 24; refine (unhide cTu).mono ?_; rintro yt w50 ⟨rfl, hwr, hbb, hot⟩; have HWR := hide hwr; have B50 := hide ((unhide KT).bel.trans hbb); clear hwr hbb hot)
  clear cTu KT
  obtain ⟨L2, hL2⟩ : ∃ L2 : Nat → Nat → Int, L2 = fun a b => tn N (L a b) := ⟨_, rfl⟩
  rw [← hL2] at HWR
  clear hL2
  have cT2 := hide (fun (W : World) (h : Rr W (some ⟨B, 0, none⟩) N ln L2) => twin_any N ln L2 _ cB W (by omega) (fun k hk => by have := unhide HLN k hk; omega) h)
  have cQ0 := hide (fun (W : World) (ga : Option Addr) (gc : Nat) (h1 : Rr W ga N ln L2) => Order_any (nc := gc) hN (unhide HLN) h1)
  have cR0 := hide (fun (W : World) (ga : Option Addr) (gc : Nat) (h1 : Rr W ga N ln L2) => rOrder_any (nc := gc) hN (unhide HLN) h1)
  have cQ1 := hide (fun (W : World) (ga : Option Addr) (gc : Nat) (h1 : Rr W ga N ln L2) => Sorted_L (nc := gc) hN (unhide HLN) h1)
  have cR1 := hide (fun (W : World) (ga : Option Addr) (gc : Nat) (h1 : Rr W ga N ln L2) => rSorted_any (nc := gc) hN (unhide HLN) h1)
  have cQ2 := hide (fun (W : World) (ga : Option Addr) (gc : Nat) (h1 : Rr W ga N ln L2) => Turned_L (nc := gc) hN (unhide HLN) h1)
  have cR2 := hide (fun (W : World) (ga : Option Addr) (gc : Nat) (h1 : Rr W ga N ln L2) => rTurned_any (nc := gc) hN (unhide HLN) h1)
  have hnn2 := orN_le N ln L2
  have hmm2 := ptN_le N ln L2
  have hll2 := poN_le N ln L2
  have HM2 := hide (fun k (_ : k < ptN N ln L2) => so_len N ln L2 k)
  have HM3 := hide (fun k (hk : k < poN N ln L2) => tw_len_at (ln := ln) (L := L2) hN k hk)
  generalize hg1 : orN N ln L2 = n2 at *
  generalize hg2 : ptE N ln L2 = e2 at *
  generalize hg3 : ptN N ln L2 = m2 at *
  generalize hg7 : poN N ln L2 = l2 at *
  generalize hg8 : orE N ln L2 = e3 at *
  generalize hg4 : so N ln L2 = ls2 at *
  generalize hg5 : tw N ln L2 = ks2 at *
  generalize hg6 : oV N ln L2 = V2 at *
  clear hg1 hg2 hg3 hg4 hg5 hg6 hg7 hg8
  go_upto_region 30 with (go_at_call 10; refine (unhide cT2 _ (unhide HWR).rr).mono ?_; rintro yu w51 ⟨B2, cB2, gg2, cp2, rfl, htw, hb⟩; have HT2 := hide htw; have E51 := hide hb; clear htw hb)
  have B51 := hide (unhide E51)
  go_upto_region 31 with (go_at_call 29; refine (unhide cQ0 _ _ _ ((unhide HWR).rr.later (unhide B51))).mono ?_; rintro y52 w52 ⟨la52, lk52, lc52, rfl, ha, hb⟩; have A52 := hide ha; have E52 := hide hb; have B52 := hide (bl_t (unhide B51) hb); clear ha hb)
  go_upto_region 32 with (go_at_call 36; refine (unhide cQ2 _ _ _ ((unhide HWR).rr.later (unhide B52))).mono ?_; rintro y53 w53 ⟨la53, rfl, ha, hb⟩; have A53 := hide ha; have E53 := hide hb; have B53 := hide (bl_t (unhide B52) hb); clear ha hb)
  go_upto_region 33 with (go_at_call 26; refine (unhide cQ1 _ _ _ ((unhide HWR).rr.later (unhide B53))).mono ?_; rintro y54 w54 ⟨la54, rfl, ha, hb⟩; have A54 := hide ha; have E54 := hide hb; have B54 := hide (bl_t (unhide B53) hb); clear ha hb)
  have C54 := hide (bl_t (bl_t (unhide E52) (unhide E53)) (unhide E54))
  go_upto_region 34 with (go_at_call 40; refine (unhide cR0 _ _ _ ((unhide HT2).rr.later (unhide C54))).mono ?_; rintro y55 w55 ⟨la55, lc55, rfl, ha, hb⟩; have A55 := hide ha; have E55 := hide hb; have C55 := hide (bl_t (unhide C54) hb); clear ha hb)
  go_upto_region 35 with (go_at_call 42; refine (unhide cR2 _ _ _ ((unhide HT2).rr.later (unhide C55))).mono ?_; rintro y56 w56 ⟨la56, lc56, rfl, ha, hb⟩; have A56 := hide ha; have E56 := hide hb; have C56 := hide (bl_t (unhide C55) hb); clear ha hb)
  go_upto_region 36 with (go_at_call 41; refine (unhide cR1 _ _ _ ((unhide HT2).rr.later (unhide C56))).mono ?_; rintro y57 w57 ⟨la57, lc57, rfl, ha, hb⟩; have A57 := hide ha; have E57 := hide hb; have C57 := hide (bl_t (unhide C56) hb); clear ha hb)
  have M52 := hide (Ri.later (unhide A52).ri (bl_t (bl_t (bl_t (bl_t (unhide E53) (unhide E54)) (unhide E55)) (unhide E56)) (unhide E57)))
  have M55 := hide ((unhide A55).rv.later (bl_t (unhide E56) (unhide E57)))
  have M53 := hide ((unhide A53).rr.later (bl_t (bl_t (bl_t (unhide E54) (unhide E55)) (unhide E56)) (unhide E57)))
  have M56 := hide ((unhide A56).rr.later (unhide E57))
  have M54 := hide ((unhide A54).rr.later (bl_t (bl_t (unhide E55) (unhide E56)) (unhide E57)))
  have M57 := hide (unhide A57).rr
  have B57 := hide (bl_t (unhide B50) (bl_t (unhide E51) (unhide C57)))
  clear A52 A53 A54 A55 A56 A57 E51 E52 E53 E54 E55 E56 E57 C54 C55 C56 C57 B50 B51 B52 B53 B54 HWR HT2
  have f2 : (e2 == e2) = true := by simp
  have f3 : (e3 == e3) = true := by simp
  have G23 := hide trivial
  have G24 := hide trivial
  have G25 := hide trivial
  go_wp2_with (first | (go_at_call 20; have _u := G23; clear _u G23; refine (numbers_any n2 V2 la52 la55 lc52 lc55 _ (by omega) (unhide M52) (unhide M55)).mono ?_; rintro yy52 ww52 ⟨rfl, hb⟩; have F52 := hide hb; clear hb) | (go_at_call 35; have _u := G24; clear _u G24; refine (lists_any l2 (lnL ks2) (LL ks2) la53 la56 l2 lc56 _ (by omega) (le_bign hN (unhide HM3)) ((unhide M53).later (unhide F52)) ((unhide M56).later (unhide F52))).mono ?_; rintro yy53 ww53 ⟨rfl, hb⟩; have F53 := hide (bl_t (unhide F52) hb); clear hb) | (go_at_call 35; have _u := G25; clear _u G25; refine (lists_any m2 (lnL ls2) (LL ls2) la54 la57 m2 lc57 _ (by omega) (le_bign hN (unhide HM2)) ((unhide M54).later (unhide F53)) ((unhide M57).later (unhide F53))).mono ?_; rintro yy54 ww54 ⟨rfl, hb⟩; have F54 := hide (bl_t (unhide F53) hb); clear hb) | (go_at_call 19; refine (num_any _ _).mono ?_; rintro yn w999 ⟨rfl, hw⟩; rw [hw]; clear hw w999))
  go_ret
  exact ⟨rfl, bl_t (unhide B57) (unhide F54)⟩
end Go.Proofs.Ytjflnpcpnoccjaa

