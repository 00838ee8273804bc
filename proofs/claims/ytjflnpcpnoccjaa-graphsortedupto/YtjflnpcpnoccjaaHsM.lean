import Derived.Test.YtjflnpcpnoccjaaHcA
namespace Go.Proofs.Ytjflnpcpnoccjaa
open Go.RowKit

/-! The order of a graph: each behind what it needs; it is short just where there is a knot. -/
def Fn (N : Nat) (ln : Nat → Nat) (L : Nat → Nat → Int) (t : List Nat) : Prop := ∀ a x b, t = a ++ x :: b → ∀ v, Eg N ln L x v → v ∈ a
theorem Fn.next {N : Nat} {ln : Nat → Nat} {L : Nat → Nat → Int} {t : List Nat} {u : Nat} (h : Fn N ln L t) (hu : Lst N ln L t u) : Fn N ln L (t ++ [u]) := by
  intro a x b e v hv
  by_cases hb : b = []
  · subst hb
    obtain ⟨e1, e2⟩ := List.append_inj' e rfl
    have e3 : u = x := by simpa using e2
    subst e3
    rw [← e1]
    exact hu.1.2.2 v hv
  · have e4 := List.dropLast_concat_getLast hb
    have e1 : t ++ [u] = (a ++ x :: b.dropLast) ++ [b.getLast hb] := by
      rw [e, List.append_assoc, List.cons_append, e4]
    obtain ⟨e2, _⟩ := List.append_inj' e1 rfl
    exact h a x _ e2 v hv
theorem least_ex {P : Nat → Prop} : ∀ n, (∃ x, P x ∧ x ≤ n) → ∃ u, P u ∧ ∀ x, P x → u ≤ x
  | 0, ⟨x, hx, h0⟩ => by
    obtain rfl : x = 0 := by omega
    exact ⟨0, hx, fun _ _ => Nat.zero_le _⟩
  | n + 1, ⟨x, hx, hn⟩ => by
    by_cases h : ∃ y, P y ∧ y ≤ n
    · exact least_ex n h
    · refine ⟨x, hx, fun y hy => ?_⟩
      have : ¬ y ≤ n := fun q => h ⟨y, hy, q⟩
      omega
theorem ordL_td {N : Nat} {ln : Nat → Nat} {L : Nat → Nat → Int} : ∀ (k : Nat) (t : List Nat), Td N ln L t → Fn N ln L t → k = N - t.length → Td N ln L (ordL N ln L k t) ∧ Fn N ln L (ordL N ln L k t) ∧ ((ordL N ln L k t).length = N ∨ ∀ x, ¬ rdy N ln L (ordL N ln L k t) x)
  | 0, t, h, hf, e => ⟨h, hf, .inl (by have := h.len; show t.length = N; omega)⟩
  | k + 1, t, h, hf, e => by
    by_cases hx : ∃ x, rdy N ln L t x
    · obtain ⟨x, hx⟩ := hx
      obtain ⟨u, h1, h2⟩ := least_ex (P := rdy N ln L t) x ⟨x, hx, Nat.le_refl _⟩
      have hu : Lst N ln L t u := ⟨h1, h2⟩
      rw [ordL_some hu]
      refine ordL_td k _ (h.next hu).1 (hf.next hu) ?_
      rw [List.length_append, List.length_cons, List.length_nil]
      omega
    · have hn : ∀ x, ¬ rdy N ln L t x := fun x q => hx ⟨x, q⟩
      rw [ordL_none hn]
      exact ⟨h, hf, .inr hn⟩
theorem od_td (N : Nat) (ln : Nat → Nat) (L : Nat → Nat → Int) : Td N ln L (od N ln L) ∧ Fn N ln L (od N ln L) ∧ ((od N ln L).length = N ∨ ∀ x, ¬ rdy N ln L (od N ln L) x) :=
  ordL_td N [] (Td.start N ln L) (fun a x b e => by simp at e) rfl
theorem cnt_lt {p q : Nat → Bool} {u N : Nat} (h : ∀ v, p v = true → q v = true) (hu : u < N) (hq : q u = true) (hp : p u = false) : (List.range N).countP p < (List.range N).countP q := by
  have h1 := cnt_one (p := q) (q := fun v => q v && !(v == u)) (u := u) (fun v hv => by simp [hv]) hq (by simp) N
  rw [if_pos hu] at h1
  have h2 : (List.range N).countP p ≤ (List.range N).countP (fun v => q v && !(v == u)) := List.countP_mono_left fun x _ hx => by
    have h3 : x ≠ u := fun e => by rw [e, hp] at hx; cases hx
    simp [h x hx, h3]
  omega
open Classical in
theorem stuck_cyc {N : Nat} {E : Nat → Nat → Prop} {S : Nat → Prop} (hS : ∀ x, S x → x < N) (hE : ∀ x, S x → ∃ y, E x y ∧ S y) : ∀ (n x : Nat), S x → (List.range N).countP (fun y => decide (Rch E x y)) ≤ n → ∃ x y, E x y ∧ Rch E y x
  | n, x, hx, hn => by
    obtain ⟨y, he, hy⟩ := hE x hx
    by_cases hc : Rch E y x
    · exact ⟨x, y, he, hc⟩
    · have hlt := cnt_lt (p := fun z => decide (Rch E y z)) (q := fun z => decide (Rch E x z)) (u := x) (N := N) (fun v hv => decide_eq_true (((Rch.refl E x).tail he).trans (of_decide_eq_true hv))) (hS x hx) (decide_eq_true (Rch.refl E x)) (decide_eq_false hc)
      cases n with
      | zero => omega
      | succ n => exact stuck_cyc hS hE n y hy (by omega)
theorem all_mem : ∀ (N : Nat) (t : List Nat), (∀ x, x < N → x ∈ t) → N ≤ t.length
  | 0, _, _ => Nat.zero_le _
  | N + 1, t, h => by
    have h1 := all_mem N (t.erase N) fun x hx => (List.mem_erase_of_ne (by omega)).2 (h x (by omega))
    have h2 := h N (by omega)
    rw [List.length_erase_of_mem h2] at h1
    have := List.length_pos_of_mem h2
    omega
theorem full_mem {N : Nat} {t : List Nat} (hn : t.Nodup) (hl : ∀ x ∈ t, x < N) (e : t.length = N) {x : Nat} (hx : x < N) : x ∈ t := by
  apply Classical.byContradiction
  intro q
  have := nodup_len N (x :: t) (List.nodup_cons.2 ⟨q, hn⟩) fun y hy => by
    rcases List.mem_cons.1 hy with r | r
    · omega
    · exact hl y r
  rw [List.length_cons] at this
  omega
theorem eg_lt {N : Nat} {ln : Nat → Nat} {L : Nat → Nat → Int} (hr : rgt N ln L = true) {x v : Nat} (hv : Eg N ln L x v) : v < N := by
  obtain ⟨hx, i, hi, e⟩ := hv
  obtain ⟨v2, h2, e2⟩ := rgt_at hr hx hi
  omega
theorem od_cyc {N : Nat} {ln : Nat → Nat} {L : Nat → Nat → Int} (hr : rgt N ln L = true) : (od N ln L).length < N ↔ ∃ x y, Eg N ln L x y ∧ Rch (Eg N ln L) y x := by
  obtain ⟨htd, hfn, hend⟩ := od_td N ln L
  constructor
  · intro hlt
    rcases hend with h | hno
    · omega
    · have hex : ∃ x, x < N ∧ x ∉ od N ln L := by
        apply Classical.byContradiction
        intro q
        have := all_mem N (od N ln L) fun x hx => Classical.byContradiction fun r => q ⟨x, hx, r⟩
        omega
      obtain ⟨x, hx⟩ := hex
      refine stuck_cyc (N := N) (S := fun x => x < N ∧ x ∉ od N ln L) (fun x h => h.1) (fun x h => ?_) _ x hx (Nat.le_refl _)
      apply Classical.byContradiction
      intro q
      refine hno x ⟨h.1, h.2, fun v hv => Classical.byContradiction fun r => q ⟨v, hv, eg_lt hr hv, r⟩⟩
  · rintro ⟨x, y, he, hc⟩
    apply Classical.byContradiction
    intro q
    have hlen : (od N ln L).length = N := by have := htd.len; omega
    have hx := full_mem htd.nd htd.lt hlen he.1
    obtain ⟨a, b, e⟩ := List.append_of_mem hx
    have hy := hfn a x b e y he
    have hxa : x ∈ a := Rch.closed (p := fun z => z ∈ a) (fun z w hz hw => by
      obtain ⟨a1, a2, e1⟩ := List.append_of_mem hz
      have := hfn a1 z (a2 ++ x :: b) (by rw [e, e1]; simp) w hw
      rw [e1]
      exact List.mem_append_left _ this) hc hy
    have hnd := htd.nd
    rw [e, List.nodup_append] at hnd
    exact hnd.2.2 x hxa x List.mem_cons_self rfl
theorem rch_head {E : Nat → Nat → Prop} {u v : Nat} (h : Rch E u v) (hne : u ≠ v) : ∃ w, E u w ∧ Rch E w v := by
  obtain ⟨k, hk⟩ := h
  revert v
  induction k with
  | zero => intro v hne hk; exact absurd hk.symm hne
  | succ k ih =>
    rintro v hne ⟨x, hx, he⟩
    by_cases e : u = x
    · subst e; exact ⟨v, he, Rch.refl _ _⟩
    · obtain ⟨w, h1, h2⟩ := ih e hx
      exact ⟨w, h1, h2.tail he⟩
theorem knot_iff {N : Nat} {ln : Nat → Nat} {L : Nat → Nat → Int} (hr : rgt N ln L = true) : ((∃ x, x < N ∧ Eg N ln L x x) ∨ ∃ x y, x < N ∧ y < N ∧ Mu N ln L x y ∧ x ≠ y) ↔ (od N ln L).length < N := by
  rw [od_cyc hr]
  constructor
  · rintro (⟨x, _, h⟩ | ⟨x, y, _, _, h, hne⟩)
    · exact ⟨x, x, h, Rch.refl _ _⟩
    · obtain ⟨w, h1, h2⟩ := rch_head h.1 hne
      exact ⟨x, w, h1, h2.trans h.2⟩
  · rintro ⟨x, y, he, hc⟩
    by_cases e : x = y
    · subst e; exact .inl ⟨x, he.1, he⟩
    · exact .inr ⟨x, y, he.1, eg_lt hr he, ⟨(Rch.refl _ _).tail he, hc⟩, e⟩
/-! The places. -/
def pl (t : List Nat) : Nat → Nat → Int
  | 0, _ => 0
  | i + 1, x => if x = t.getD i 0 then ((i + 1 : Nat) : Int) else pl t i x
theorem pl_no {t : List Nat} {x : Nat} : ∀ i, (∀ j, j < i → t.getD j 0 ≠ x) → pl t i x = 0
  | 0, _ => rfl
  | i + 1, h => by
    show (if x = t.getD i 0 then _ else pl t i x) = 0
    rw [if_neg (fun e => h i (by omega) e.symm)]
    exact pl_no i fun j hj => h j (by omega)
theorem nd_ne {t : List Nat} (hn : t.Nodup) {i j : Nat} (hij : j < i) (hi : i < t.length) : t.getD j 0 ≠ t.getD i 0 := by
  have h1 : t.getD j 0 = t[j] := by simp [show j < t.length by omega]
  have h2 : t.getD i 0 = t[i] := by simp [hi]
  rw [h1, h2]
  exact List.pairwise_iff_getElem.1 hn j i (by omega) hi hij
theorem pl_at {t : List Nat} (hn : t.Nodup) : ∀ i, i ≤ t.length → ∀ j, j < i → pl t i (t.getD j 0) = ((j + 1 : Nat) : Int)
  | 0, _, j, hj => by omega
  | i + 1, hi, j, hj => by
    show (if t.getD j 0 = t.getD i 0 then ((i + 1 : Nat) : Int) else pl t i (t.getD j 0)) = _
    by_cases e : j = i
    · subst e; rw [if_pos rfl]
    · rw [if_neg (nd_ne hn (by omega) (by omega))]
      exact pl_at hn i (by omega) j (by omega)
theorem pl_new {t : List Nat} (hn : t.Nodup) {i : Nat} (hi : i < t.length) : pl t i (t.getD i 0) = 0 := pl_no i fun _ hj => nd_ne hn hj hi
theorem pl_edge {N : Nat} {ln : Nat → Nat} {L : Nat → Nat → Int} (hlen : (od N ln L).length = N) {u v : Nat} (he : Eg N ln L u v) : pl (od N ln L) N v < pl (od N ln L) N u := by
  obtain ⟨htd, hfn, _⟩ := od_td N ln L
  have hx := full_mem htd.nd htd.lt hlen he.1
  obtain ⟨a, b, e⟩ := List.append_of_mem hx
  have hy := hfn a u b e v he
  obtain ⟨j, hj, ej⟩ := List.getElem_of_mem hy
  have hl : a.length < (od N ln L).length := by rw [e]; simp
  have hu : (od N ln L).getD a.length 0 = u := by rw [e]; simp
  have hv : (od N ln L).getD j 0 = v := by rw [e]; simp [List.getElem?_append_left hj, hj, ej]
  have h1 := pl_at htd.nd N (by omega) a.length (by omega)
  have h2 := pl_at htd.nd N (by omega) j (by omega)
  rw [hu] at h1
  rw [hv] at h2
  rw [h1, h2]
  omega
/-! The parts: they rise, their firsts rise, each node once. -/
theorem pt_srt (f : Nat → Nat) (k p : Nat) : (ptL f k p).Pairwise (· < ·) := List.Pairwise.filter _ List.pairwise_lt_range
theorem pt_rise {f : Nat → Nat} {k p i : Nat} (h : i + 1 < (ptL f k p).length) : LL (ptL f k) p i < LL (ptL f k) p (i + 1) := by
  have h1 := List.pairwise_iff_getElem.1 (pt_srt f k p) i (i + 1) (by omega) h (by omega)
  have e1 : (ptL f k p).getD i 0 = (ptL f k p)[i] := by simp [show i < (ptL f k p).length by omega]
  have e2 : (ptL f k p).getD (i + 1) 0 = (ptL f k p)[i + 1] := by simp [h]
  show (((ptL f k p).getD i 0 : Nat) : Int) < (((ptL f k p).getD (i + 1) 0 : Nat) : Int)
  rw [e1, e2]
  omega
theorem pt_at {f : Nat → Nat} {k p i : Nat} (h : i < (ptL f k p).length) : (ptL f k p).getD i 0 < k ∧ f ((ptL f k p).getD i 0) = p := by
  have e1 : (ptL f k p).getD i 0 = (ptL f k p)[i] := by simp [h]
  rw [e1]
  exact ptL_lt (List.getElem_mem h)
theorem pt_mem {f : Nat → Nat} {k p x : Nat} (hx : x < k) (e : f x = p) : x ∈ ptL f k p := List.mem_filter.2 ⟨List.mem_range.2 hx, by simp [e]⟩
theorem pt_fst {f : Nat → Nat} {k p x : Nat} (hx : x ∈ ptL f k p) : 0 < (ptL f k p).length ∧ (ptL f k p).getD 0 0 ≤ x := by
  have hpos := List.length_pos_of_mem hx
  refine ⟨hpos, ?_⟩
  obtain ⟨j, hj, e⟩ := List.getElem_of_mem hx
  have e1 : (ptL f k p).getD 0 0 = (ptL f k p)[0] := by simp [hpos]
  rw [e1, ← e]
  by_cases h0 : j = 0
  · subst h0; exact Nat.le_refl _
  · exact Nat.le_of_lt (List.pairwise_iff_getElem.1 (pt_srt f k p) 0 j hpos hj (by omega))
theorem pt_pos {N : Nat} {ln : Nat → Nat} {L : Nat → Nat → Int} {p : Nat} (hp : p < pc N ln L) : 0 < (ptL (pn N ln L) N p).length := by
  obtain ⟨j, hj, _, e⟩ := no_onto (kd_mu N ln L) (k := N) (p := p) hp
  exact (pt_fst (pt_mem hj e)).1
theorem pt_firsts {N : Nat} {ln : Nat → Nat} {L : Nat → Nat → Int} {p : Nat} (hp : p + 1 < pc N ln L) : LL (ptL (pn N ln L) N) p 0 < LL (ptL (pn N ln L) N) (p + 1) 0 := by
  obtain ⟨j, hj, hnw, e⟩ := no_onto (kd_mu N ln L) (k := N) (p := p) (Nat.lt_of_succ_lt hp)
  have h1 := (pt_fst (f := pn N ln L) (k := N) (p := p) (pt_mem hj e)).2
  have hpos := pt_pos hp
  obtain ⟨h2, h3⟩ := pt_at (f := pn N ln L) (k := N) (p := p + 1) (i := 0) hpos
  generalize hx : (ptL (pn N ln L) N (p + 1)).getD 0 0 = x at *
  have h4 : j < x := by
    apply Classical.byContradiction
    intro q
    by_cases e2 : x = j
    · subst e2
      have : pn N ln L x = p := e
      omega
    · have h5 := no_lt (kd_mu N ln L) (i := x) (k := j) (by omega)
      have h6 := no_new (kd_mu N ln L) hnw
      have h7 : no (Mu N ln L) x = p + 1 := h3
      have h8 : no (Mu N ln L) j = p := e
      omega
  show (((ptL (pn N ln L) N p).getD 0 0 : Nat) : Int) < (((ptL (pn N ln L) N (p + 1)).getD 0 0 : Nat) : Int)
  rw [hx]
  omega
def smL (ls : Nat → List Nat) : Nat → Nat
  | 0 => 0
  | p + 1 => smL ls p + (ls p).length
theorem sm_cnt (f : Nat → Nat) (k : Nat) : ∀ p, smL (ptL f k) p = (List.range k).countP fun i => decide (f i < p)
  | 0 => by simp [smL]
  | p + 1 => by
    show smL (ptL f k) p + (ptL f k p).length = _
    rw [sm_cnt f k p]
    unfold ptL
    rw [← List.countP_eq_length_filter]
    generalize List.range k = l
    induction l with
    | nil => rfl
    | cons y l ih =>
      simp only [List.countP_cons]
      rw [← ih]
      by_cases e1 : f y < p
      · have e2 : f y < p + 1 := by omega
        have e3 : f y ≠ p := by omega
        simp [e1, e2, e3]
        omega
      · by_cases e3 : f y = p
        · simp [e3]
          omega
        · have e2 : ¬ f y < p + 1 := by omega
          simp [e1, e2, e3]
theorem sm_all {N : Nat} {ln : Nat → Nat} {L : Nat → Nat → Int} : smL (ptL (pn N ln L) N) (pc N ln L) = N := by
  rw [sm_cnt]
  have : (List.range N).countP (fun i => decide (pn N ln L i < pc N ln L)) = (List.range N).length := List.countP_eq_length.2 fun i hi => decide_eq_true (pn_lt N ln L (List.mem_range.1 hi))
  rw [this, List.length_range]
theorem sm_le (f : Nat → Nat) (k p : Nat) : smL (ptL f k) p ≤ k := by
  rw [sm_cnt]
  exact Nat.le_trans List.countP_le_length (by rw [List.length_range]; exact Nat.le_refl _)
/-- Of one part just if they reach one another. -/
theorem pn_mu {N : Nat} {ln : Nat → Nat} {L : Nat → Nat → Int} (u v : Nat) : ((pn N ln L u : Int) == (pn N ln L v : Int)) = (rq N ln L u v && rq N ln L v u) := by
  refine b_eq ?_
  rw [beq_iff_eq, Bool.and_eq_true, rq_iff, rq_iff]
  constructor
  · intro e
    have h : no (Mu N ln L) u = no (Mu N ln L) v := by
      have : pn N ln L u = pn N ln L v := by omega
      exact this
    exact no_inj (kd_mu N ln L) h
  · intro h
    have : pn N ln L u = pn N ln L v := no_same (kd_mu N ln L) h
    omega
end Go.Proofs.Ytjflnpcpnoccjaa

namespace Go.Proofs.Ytjflnpcpnoccjaa
open Go.RowKit

/-! The condensed graph has no knot; its order, and the parts in that order. -/
theorem cd_rgt {N : Nat} {ln : Nat → Nat} {L : Nat → Nat → Int} (hr : rgt N ln L = true) (hN : N ≤ 1048576) : rgt (pc N ln L) (lnL (cdL N ln L)) (LL (cdL N ln L)) = true := by
  rw [← show tw (pc N ln L) (gwN N ln L) (gwL N ln L) = cdL N ln L from funext fun p => tw_gw hr hN p]
  exact tw_rgt (gw_rgt hr hN) (Nat.le_trans (pc_le N ln L) hN)
theorem cd_eg {N : Nat} {ln : Nat → Nat} {L : Nat → Nat → Int} (hr : rgt N ln L = true) (hN : N ≤ 1048576) {p q : Nat} (hq : q < pc N ln L) : Eg (pc N ln L) (lnL (cdL N ln L)) (LL (cdL N ln L)) p q ↔ p ≠ q ∧ bt N ln L p q = true := by
  rw [← show tw (pc N ln L) (gwN N ln L) (gwL N ln L) = cdL N ln L from funext fun p => tw_gw hr hN p]
  exact (tw_eg (gw_rgt hr hN) (Nat.le_trans (pc_le N ln L) hN) q p).trans ((gw_eg q p hq).trans (gw_mem hr hN p q))
noncomputable def co (N : Nat) (ln : Nat → Nat) (L : Nat → Nat → Int) : List Nat := od (pc N ln L) (lnL (cdL N ln L)) (LL (cdL N ln L))
theorem co_len {N : Nat} {ln : Nat → Nat} {L : Nat → Nat → Int} (hr : rgt N ln L = true) (hN : N ≤ 1048576) : (co N ln L).length = pc N ln L := by
  have hcr := cd_rgt hr hN
  apply Classical.byContradiction
  intro hne
  have hlt : (co N ln L).length < pc N ln L := by
    have := od_len (N := pc N ln L) (ln := lnL (cdL N ln L)) (L := LL (cdL N ln L))
    unfold co at hne ⊢
    omega
  obtain ⟨p, q, he, hc⟩ := (od_cyc hcr).1 hlt
  obtain ⟨hpq, hb⟩ := (cd_eg hr hN (eg_lt hcr he)).1 he
  obtain ⟨x0, y0, hx0, hy0, ex0, ey0, e0⟩ := (bt_iff _ _ _ _ _).1 hb
  obtain ⟨x, hx, ex, hr2⟩ := Rch.closed (p := fun r => ∃ x, x < N ∧ pn N ln L x = r ∧ Rch (Eg N ln L) y0 x) (fun r s ⟨x, hx, ex, hrx⟩ hrs => by
    obtain ⟨_, hb2⟩ := (cd_eg hr hN (eg_lt hcr hrs)).1 hrs
    obtain ⟨x1, y1, hx1, hy1, ex1, ey1, e1⟩ := (bt_iff _ _ _ _ _).1 hb2
    have hm : Mu N ln L x x1 := no_inj (kd_mu N ln L) (show no (Mu N ln L) x = no (Mu N ln L) x1 from ex.trans ex1.symm)
    exact ⟨y1, hy1, ey1, (hrx.trans hm.1).tail e1⟩) hc ⟨y0, hy0, ey0, Rch.refl _ _⟩
  have hm : Mu N ln L x x0 := no_inj (kd_mu N ln L) (show no (Mu N ln L) x = no (Mu N ln L) x0 from ex.trans ex0.symm)
  have hm2 : Mu N ln L x0 y0 := ⟨(Rch.refl _ _).tail e0, hr2.trans hm.1⟩
  have : pn N ln L x0 = pn N ln L y0 := no_same (kd_mu N ln L) hm2
  rw [ex0, ey0] at this
  exact hpq this
noncomputable def so (N : Nat) (ln : Nat → Nat) (L : Nat → Nat → Int) (k : Nat) : List Nat := ptL (pn N ln L) N ((co N ln L).getD k 0)
theorem co_nd (N : Nat) (ln : Nat → Nat) (L : Nat → Nat → Int) : (co N ln L).Nodup := (od_td _ _ _).1.nd
theorem co_lt {N : Nat} {ln : Nat → Nat} {L : Nat → Nat → Int} {k : Nat} (hk : k < (co N ln L).length) : (co N ln L).getD k 0 < pc N ln L := by
  have e : (co N ln L).getD k 0 = (co N ln L)[k] := by simp [hk]
  rw [e]
  exact (od_td _ _ _).1.lt _ (List.getElem_mem hk)
/-- The places, part by part. -/
noncomputable def ps (N : Nat) (ln : Nat → Nat) (L : Nat → Nat → Int) (k i x : Nat) : Int := if x ∈ (so N ln L k).take i then ((k + 1 : Nat) : Int) else pl (co N ln L) k (pn N ln L x)
theorem ps_put {N : Nat} {ln : Nat → Nat} {L : Nat → Nat → Int} {k i : Nat} (hi : i < (so N ln L k).length) : (fun j => if j = (so N ln L k).getD i 0 then Value.int .i64 ((k : Int) + 1) else iv (ps N ln L k i) j) = iv (ps N ln L k (i + 1)) := by
  funext j
  have e1 : (so N ln L k).getD i 0 = (so N ln L k)[i] := by simp [hi]
  have hm : j ∈ (so N ln L k).take (i + 1) ↔ j ∈ (so N ln L k).take i ∨ j = (so N ln L k).getD i 0 := by
    rw [List.take_add_one, List.mem_append, List.getElem?_eq_getElem hi, e1]
    simp
  show (if j = (so N ln L k).getD i 0 then Value.int .i64 ((k : Int) + 1) else .int .i64 (ps N ln L k i j)) = .int .i64 (ps N ln L k (i + 1) j)
  unfold ps
  by_cases e : j = (so N ln L k).getD i 0
  · rw [if_pos e, if_pos (hm.2 (.inr e))]
    rfl
  · rw [if_neg e]
    by_cases e2 : j ∈ (so N ln L k).take i
    · rw [if_pos e2, if_pos (hm.2 (.inl e2))]
    · rw [if_neg e2, if_neg (fun q => (hm.1 q).elim e2 e)]
theorem ps_new {N : Nat} {ln : Nat → Nat} {L : Nat → Nat → Int} {k i : Nat} (hk : k < (co N ln L).length) (hi : i < (so N ln L k).length) : (so N ln L k).getD i 0 < N ∧ ps N ln L k i ((so N ln L k).getD i 0) = 0 := by
  obtain ⟨h1, h2⟩ := pt_at (f := pn N ln L) (k := N) (p := (co N ln L).getD k 0) (i := i) hi
  refine ⟨h1, ?_⟩
  unfold ps
  rw [if_neg, show pn N ln L ((so N ln L k).getD i 0) = (co N ln L).getD k 0 from h2, pl_new (co_nd N ln L) hk]
  intro q
  obtain ⟨j, hj, e⟩ := List.getElem_of_mem q
  rw [List.getElem_take] at e
  have hj2 : j < i := by rw [List.length_take] at hj; omega
  have e1 : (so N ln L k).getD i 0 = (so N ln L k)[i] := by simp [hi]
  rw [e1] at e
  have := List.pairwise_iff_getElem.1 (pt_srt (pn N ln L) N ((co N ln L).getD k 0)) j i (by have : i < (ptL (pn N ln L) N ((co N ln L).getD k 0)).length := hi; omega) hi hj2
  have e3 : (ptL (pn N ln L) N ((co N ln L).getD k 0))[j]'(by have : i < (ptL (pn N ln L) N ((co N ln L).getD k 0)).length := hi; omega) = (ptL (pn N ln L) N ((co N ln L).getD k 0))[i] := e
  omega
theorem ps_row {N : Nat} {ln : Nat → Nat} {L : Nat → Nat → Int} {k x : Nat} (hx : x < N) : ps N ln L k (so N ln L k).length x = ps N ln L (k + 1) 0 x := by
  unfold ps
  rw [List.take_length, List.take_zero, if_neg List.not_mem_nil]
  show _ = if pn N ln L x = (co N ln L).getD k 0 then ((k + 1 : Nat) : Int) else pl (co N ln L) k (pn N ln L x)
  by_cases e : pn N ln L x = (co N ln L).getD k 0
  · rw [if_pos e, if_pos (show x ∈ so N ln L k from pt_mem hx e)]
  · rw [if_neg e, if_neg (fun q : x ∈ so N ln L k => e (ptL_lt q).2)]
theorem ps_start (N : Nat) (ln : Nat → Nat) (L : Nat → Nat → Int) (x : Nat) : ps N ln L 0 0 x = 0 := by
  unfold ps
  rw [List.take_zero, if_neg List.not_mem_nil]
  rfl
theorem so_cnt {N : Nat} {ln : Nat → Nat} {L : Nat → Nat → Int} : ∀ k, k ≤ (co N ln L).length → smL (so N ln L) k = (List.range N).countP fun x => !(pl (co N ln L) k (pn N ln L x) == 0)
  | 0, _ => by simp [smL, pl]
  | k + 1, hk => by
    show smL (so N ln L) k + (so N ln L k).length = _
    rw [so_cnt k (by omega)]
    unfold so ptL
    rw [← List.countP_eq_length_filter]
    generalize List.range N = l
    induction l with
    | nil => rfl
    | cons y l ih =>
      simp only [List.countP_cons]
      rw [← ih]
      have e0 : pl (co N ln L) (k + 1) (pn N ln L y) = if pn N ln L y = (co N ln L).getD k 0 then ((k + 1 : Nat) : Int) else pl (co N ln L) k (pn N ln L y) := rfl
      rw [e0]
      by_cases e : pn N ln L y = (co N ln L).getD k 0
      · have h0 := pl_new (co_nd N ln L) (show k < (co N ln L).length by omega)
        rw [← e] at h0
        have h1 : ¬ ((k : Int) + 1 = 0) := by omega
        rw [if_pos e, h0, e]
        simp [h1]
        omega
      · rw [if_neg e]
        have e2 : (pn N ln L y == (co N ln L).getD k 0) = false := beq_eq_false_iff_ne.2 e
        rw [e2]
        simp
        omega
theorem so_all {N : Nat} {ln : Nat → Nat} {L : Nat → Nat → Int} (hr : rgt N ln L = true) (hN : N ≤ 1048576) : smL (so N ln L) (pc N ln L) = N := by
  have hl := co_len hr hN
  rw [so_cnt _ (by omega)]
  have : (List.range N).countP (fun x => !(pl (co N ln L) (pc N ln L) (pn N ln L x) == 0)) = (List.range N).length := List.countP_eq_length.2 fun x hx => by
    have hp := pn_lt N ln L (List.mem_range.1 hx)
    have hm : pn N ln L x ∈ co N ln L := full_mem (co_nd N ln L) (od_td _ _ _).1.lt hl hp
    obtain ⟨j, hj, e⟩ := List.getElem_of_mem hm
    have h2 := pl_at (co_nd N ln L) (pc N ln L) (by omega) j (by omega)
    rw [show (co N ln L).getD j 0 = pn N ln L x by simp [hj, e]] at h2
    rw [h2]
    have h1 : ¬ ((j : Int) + 1 = 0) := by omega
    simp [h1]
  rw [this, List.length_range]
theorem so_le {N : Nat} {ln : Nat → Nat} {L : Nat → Nat → Int} (k : Nat) (hk : k ≤ (co N ln L).length) : smL (so N ln L) k ≤ N := by
  rw [so_cnt k hk]
  exact Nat.le_trans List.countP_le_length (by rw [List.length_range]; exact Nat.le_refl _)
theorem ps_edge {N : Nat} {ln : Nat → Nat} {L : Nat → Nat → Int} (hr : rgt N ln L = true) (hN : N ≤ 1048576) {u v : Nat} (he : Eg N ln L u v) : ps N ln L (pc N ln L) 0 v ≤ ps N ln L (pc N ln L) 0 u := by
  unfold ps
  rw [List.take_zero, if_neg List.not_mem_nil, if_neg List.not_mem_nil]
  by_cases e : pn N ln L u = pn N ln L v
  · rw [e]; exact Int.le_refl _
  · have hv := pn_lt N ln L (eg_lt hr he)
    have h1 : Eg (pc N ln L) (lnL (cdL N ln L)) (LL (cdL N ln L)) (pn N ln L u) (pn N ln L v) := (cd_eg hr hN hv).2 ⟨e, (bt_iff _ _ _ _ _).2 ⟨u, v, he.1, eg_lt hr he, rfl, rfl, he⟩⟩
    exact Int.le_of_lt (pl_edge (co_len hr hN) h1)
end Go.Proofs.Ytjflnpcpnoccjaa

namespace Go.Proofs.Ytjflnpcpnoccjaa
open Go.RowKit

theorem makeM (n : Nat) (hn : n * 24 ≤ 140737488351232) (u : World) : (Instr.makeSlice 22 (.int .i64 0) (.int .i64 (n : Int))).run Try.prog u = .ok (.slice (some ⟨u.heap.size, 0, none⟩) 0 n) (u.alloc (.cells (madeCells #[.slice none 0 0] n) 23)) := by
  obtain ⟨i0, hi, hz0, hz1, hz2⟩ := info_parts infoL
  have h := run_make (P := Try.prog) u 22 23 i0 (.slice none 0 0) Try.underlying22 hi hz0 .i64 .i64 0 (n : Int) (by omega) (by omega) (by rw [hz2]; omega) (by omega)
  simpa [hz1, Value.cells] using h
theorem own_made0 (u : World) (n lo : Nat) (hlo : lo ≤ u.heap.size) (hn : n ≤ 1048576) : (u.alloc (.cells (madeCells #[.slice none 0 0] n) 23)).ownsRow lo 23 1 (.slice (some ⟨u.heap.size, 0, none⟩) 0 n) 0 [] :=
  ⟨rfl, .inr ⟨u.heap.size, n, madeCells #[.slice none 0 0] n, rfl, hlo, heap_new _ _, Nat.zero_le _, by unfold maxLen; omega, by simp [size_madeCells], rfl⟩⟩
/-- The parts in order, as they lie: the list in a block of its own, the rows where the parts were told. -/
structure Sq (lo n g R : Nat) (ls : Nat → List Nat) (ra : Nat → Option Addr) (rc : Nat → Nat) (c : List Nat) (W : World) : Prop where
  own : W.ownsRow lo 23 1 (.slice (some ⟨g, 0, none⟩) n n) n (vl n fun k => .slice (ra (c.getD k 0)) (ls (c.getD k 0)).length (rc (c.getD k 0)))
  gs : Gs (R + 2) n R ls ra rc W
  at_ : lo ≤ R ∧ R < g ∧ ∀ k, k < n → ∀ b, (Value.slice (ra k) (ls k).length (rc k)).ownBlock = some b → b < g
theorem Sq.rr {lo n g R : Nat} {ls : Nat → List Nat} {ra : Nat → Option Addr} {rc : Nat → Nat} {c : List Nat} {W : World} (h : Sq lo n g R ls ra rc c W) (hc : ∀ k, k < n → c.getD k 0 < n) : Rr W (some ⟨g, 0, none⟩) n (fun k => (ls (c.getD k 0)).length) (fun k j => (((ls (c.getD k 0)).getD j 0 : Nat) : Int)) := by
  refine ⟨fun k => ra (c.getD k 0), fun k => rc (c.getD k 0), Rv.of_owns h.own, fun k hk => ?_⟩
  have h1 := h.gs.own _ (hc k hk)
  rw [tV_vl, nI_len] at h1
  show Ri W (ra (c.getD k 0)) (ls (c.getD k 0)).length (fun j => (((ls (c.getD k 0)).getD j 0 : Nat) : Int))
  generalize c.getD k 0 = y at *
  refine (Rv.of_owns h1).congr fun j hj => ?_
  unfold iv nI
  congr 1
  simp [hj]
theorem Gs.fxe {lo n R g : Nat} {ls : Nat → List Nat} {ga : Nat → Option Addr} {gc : Nat → Nat} {W W2 : World} (h : Gs lo n R ls ga gc W) (f : Fx (fun b => b = g) W W2) (hg : W.heap.size ≤ g) : Gs lo n R ls ga gc W2 :=
  h.same (fun b cur t hb => f.blk b (blk_lt hb) (fun e => by have := blk_lt hb; omega)) f.size
theorem Fx.grown {g : Nat} {A W W2 : World} (h : Fx (fun b => b = g) A W) (hg : W.grownBy W2 (some g)) : Fx (fun b => b = g) A W2 :=
  h.trans ⟨hg.size, fun b hb hp => hg.block b hb (fun e => hp (by cases e; rfl))⟩
set_option maxRecDepth 100000 in
set_option maxHeartbeats 8000000 in
theorem Sorted_any {N : Nat} {ln : Nat → Nat} {L : Nat → Nat → Int} {na : Option Addr} {nc : Nat} {w : World} (hN : N ≤ 1048576) (hln : ∀ k, k < N → ln k ≤ 1048576) (hR : Rr w na N ln L) :
    Calls Try.prog 26 #[.slice na N nc] w fun x w' => ∃ ga, x = .returned (.tuple #[.slice ga (ptN N ln L) (ptN N ln L), .int .i64 (ptE N ln L)]) ∧ ((ga = none ∧ ptN N ln L = 0) ∨ ∃ g R ra rc, ga = some ⟨g, 0, none⟩ ∧ Sq w.heap.size (ptN N ln L) g R (ptL (pn N ln L) N) ra rc (co N ln L) w') ∧ Below w.heap.size w w' := by
  have c1 := hide (isRight_any N ln L na nc w (by omega) (fun k hk => by have := hln k hk; omega) hR)
  unfold ptN ptE
  cases hr : rgt N ln L with
  | false =>
    rw [hr] at c1
    rw [if_neg (by simp), if_neg (by simp)]
    clear hR hln
    go_enter Try.func26, Try.ntmps26
    go_wp2_with (go_at_call 43; refine (unhide c1).mono ?_; rintro x1 w1 ⟨rfl, hw1⟩; rw [hw1]; clear hw1 w1)
    go_ret2
    exact ⟨none, rfl, .inl (by simp), Below.refl _ _⟩
  | true =>
    rw [hr] at c1
    rw [if_pos rfl, if_pos rfl]
    have c2 := hide (divide_any (nc := nc) hr hN hln hR)
    have hple := pc_le N ln L
    have hpcN : pc N ln L ≤ 1048576 := Nat.le_trans hple hN
    have hco := co_len hr hN
    have c3 := hide (fun (W : World) (g : Nat) (h : Mv g N 3 (iv fun j => (pn N ln L j : Int)) W) => parts_any hN (Nat.le_trans hple hN) (fun i hi => pn_lt N ln L hi) h)
    have c4 := hide (fun (W : World) (hW : Below w.heap.size w W) (g : Nat) (h : Mv g N 3 (iv fun j => (pn N ln L j : Int)) W) => condensed_any (nc := nc) hr hN hln (hR.later hW) h)
    have c5 := hide (fun (W : World) (R : Nat) (h : Rr W (some ⟨R, 0, none⟩) (pc N ln L) (lnL (cdL N ln L)) (LL (cdL N ln L))) => show Calls Try.prog 55 #[.slice (some ⟨R, 0, none⟩) (pc N ln L) (pc N ln L)] W (fun x w' => ∃ lb, x = .returned (.slice (some ⟨lb, 0, none⟩) (pc N ln L) (pc N ln L)) ∧ (W.heap.size ≤ lb ∧ lb < w'.heap.size + 1 ∧ ∀ i, i < pc N ln L → lb < w'.heap.size ∧ w'.cell? ⟨lb, i, none⟩ = some (.int .i64 (((co N ln L).getD i 0 : Nat) : Int))) ∧ Below W.heap.size W w') from by
      have h1 := (callsIn_wide (n := 8)).1 (ordered_in (nc := pc N ln L) (cd_rgt hr hN) hpcN (fun k _ => Nat.le_trans (cdL_len N ln L k) hN) h 8 (by omega))
      rw [show od (pc N ln L) (lnL (cdL N ln L)) (LL (cdL N ln L)) = co N ln L from rfl, hco] at h1
      refine h1.mono fun x w' ⟨lb, e, q1, q2, q3⟩ => ⟨lb, e, ⟨q1, ?_, fun i hi => ?_⟩, q3⟩
      · rcases q2.2 with ⟨z, _⟩ | ⟨g, cap, cur, z1, _, z3, _⟩
        · cases z
        · cases z1
          have := blk_lt z3
          omega
      · rcases q2.2 with ⟨z, _⟩ | ⟨g, cap, cur, z1, _, z3, _⟩
        · cases z
        · cases z1
          refine ⟨blk_lt z3, ?_⟩
          rw [tV_vl, nI_len, hco] at q2
          have h5 := owns_at q2 i _ (vl_at _ _ i hi)
          rw [h5]
          unfold iv nI
          simp [show i < (co N ln L).length by omega])
    have HCL := hide (fun (k : Nat) (hk : k < pc N ln L) => co_lt (N := N) (ln := ln) (L := L) (k := k) (by omega))
    have mk := makeM (pc N ln L) (by omega)
    obtain ⟨i0, hi0, hz0, hz1, hz2⟩ := info_parts infoL
    clear hR hln hr hple hco
    generalize co N ln L = c at *
    generalize hgp : ptL (pn N ln L) N = ls at *
    clear hgp
    generalize pc N ln L = n at *
    go_enter Try.func26, Try.ntmps26
    go_upto_region 4 with (first | (go_at_call 43; refine (unhide c1).mono ?_; rintro x1 w1 ⟨rfl, hw1⟩; rw [hw1]; clear hw1 w1) | (go_at_call 53; refine (unhide c2).mono ?_; rintro x2 w2 ⟨g2, rfl, q1, q2, q3⟩; have H2 := hide (And.intro q1 (And.intro q2 q3)); clear q1 q2 q3))
    obtain ⟨B, hB⟩ : ∃ x, x = w2.heap.size := ⟨_, rfl⟩
    obtain ⟨W3, hW3⟩ : ∃ x, x = w2.alloc (.cells #[.slice (some ⟨g2, 0, none⟩) N N, .int .i64 (n : Int)] 62) := ⟨_, rfl⟩
    have hblk : W3.heap[B]? = some (.cells #[.slice (some ⟨g2, 0, none⟩) N N, .int .i64 (n : Int)] 62 (0, 0)) := by rw [hW3, hB]; exact heap_new _ _
    have hb3 : Below w2.heap.size w2 W3 := by rw [hW3]; exact al w2 _
    have HB3 := hide (bl_t (unhide H2).2.2 hb3)
    have HM3 := hide ((unhide H2).2.1.mv.later hb3)
    have HBL := hide hblk
    have HCE := hide (fun (W : World) (h : Below W3.heap.size W3 W) => show W.cell? ⟨B, 0, none⟩ = some (.slice (some ⟨g2, 0, none⟩) N N) ∧ W.cell? ⟨B, 1, none⟩ = some (.int .i64 (n : Int)) from by
      have h3 := (h.block B (blk_lt (unhide HBL))).trans (unhide HBL)
      exact ⟨(cell_blk h3 0).1, (cell_blk h3 1).1⟩)
    obtain ⟨k0, k1⟩ := unhide HCE W3 (Below.refl _ _)
    rw [← hB]
    try rw [← hW3]
    clear hW3 hB hblk hb3 H2 HBL c1 c2
    go_upto_region 5 with (go_at_call 54; refine (unhide c3 _ _ (unhide HM3)).mono ?_; rintro x4 w4 ⟨R, ra, rc, rfl, q1, q2, q3⟩; have H4 := hide (And.intro (Nat.le_trans (unhide HB3).size q1) q2); have C4 := hide q3; clear q1 q2 q3)
    clear k0 k1 c3
    go_upto_region 6 with fail
    obtain ⟨g, hg⟩ : ∃ x, x = w4.heap.size := ⟨_, rfl⟩
    obtain ⟨W5, hW5⟩ : ∃ x, x = w4.alloc (.cells (madeCells #[.slice none 0 0] n) 23) := ⟨_, rfl⟩
    have hb5 : Below w4.heap.size w4 W5 := by rw [hW5]; exact al w4 _
    have HO5 := hide (show W5.ownsRow w.heap.size 23 1 (.slice (some ⟨g, 0, none⟩) 0 n) 0 [] from by
      rw [hW5, hg]
      exact own_made0 w4 n w.heap.size (bl_t (unhide HB3) (unhide C4)).size (by omega))
    have C5 := hide (bl_t (unhide C4) hb5)
    have B5 := hide (bl_t (unhide HB3) (unhide C5))
    have HM5 := hide ((unhide HM3).later (unhide C5))
    have HG5 := hide (show Gs (R + 2) n R ls ra rc W5 ∧ w.heap.size ≤ R ∧ R < g ∧ ∀ k, k < n → ∀ b, (Value.slice (ra k) (ls k).length (rc k)).ownBlock = some b → b < g from ⟨(unhide H4).2.later hb5, (unhide H4).1, by rw [hg]; exact (unhide H4).2.row.lt, fun k hk b e => by rw [hg]; exact ((unhide H4).2.own k hk).lt b e |>.2⟩)
    have HGB := hide (show w.heap.size ≤ g ∧ g < W5.heap.size from ⟨by rw [hg]; exact (bl_t (unhide HB3) (unhide C4)).size, by rw [hW5, World.size_alloc]; omega⟩)
    have HGE := hide (show w4.heap.size ≤ g from by omega)
    have HB45 := hide hb5
    have HG4 := hide (unhide H4).2
    obtain ⟨k0, k1⟩ := unhide HCE W5 (unhide C5)
    rw [← hg]
    try rw [← hW5]
    clear hg hW5 hb5 H4 C4 HM3 HB3 HCE mk
    go_upto_region 7 with (first | (go_at_call 56; refine (unhide c4 _ (unhide B5) _ (unhide HM5)).mono ?_; rintro x6 w6 ⟨Rc, rca, rcc, rfl, q1, q2, q3⟩; have G6 := hide (show Rr w6 (some ⟨Rc, 0, none⟩) n (lnL (cdL N ln L)) (LL (cdL N ln L)) from q2.rr); have C6 := hide q3; clear q1 q2 q3) | (go_at_call 55; refine (unhide c5 _ _ (unhide G6)).mono ?_; rintro x7 w7 ⟨lb, rfl, q1, q2⟩; have L7 := hide q1; have C7 := hide (bl_t (unhide C6) q2); have HLB := hide (show g < lb from by have := (unhide HGB).2; have := (unhide C6).size; have := q1.1; omega); clear q1 q2))
    have HO7 := hide (owns_below (unhide HO5) (unhide C7))
    have B7 := hide (bl_t (unhide B5) (unhide C7))
    have HG7 := hide (show Gs (R + 2) n R ls ra rc w7 from (unhide HG5).1.later (unhide C7))
    have HGQ := hide (unhide HG5).2
    have HF4 := hide (bl_t (unhide HB45) (unhide C7))
    have HLC := hide (unhide L7).2.2
    have HGW := hide (show g < w7.heap.size from Nat.lt_of_lt_of_le (unhide HGB).2 (unhide C7).size)
    have HGL := hide (unhide HGB).1
    clear k0 k1 HB45 HO5 B5 HM5 HG5 HGB C5 C6 C7 L7 G6 c4 c5
    go_wp2_with fail
    go_loopg [6, 8, 24] n (fun g1 vl_ _ vi wr => ∃ k : Nat, vi = .int .i64 k ∧ vl_ = .slice (some ⟨g, 0, none⟩) k n ∧ k ≤ n ∧ n - k ≤ g1 ∧ Hid (wr.ownsRow w.heap.size 23 1 (.slice (some ⟨g, 0, none⟩) k n) k (vl k fun k => .slice (ra (c.getD k 0)) (ls (c.getD k 0)).length (rc (c.getD k 0)))) ∧ Hid (Fx (fun b => b = g) w7 wr) ∧ Hid (Below w.heap.size w wr))
    case atStart => exact ⟨0, by go_num, rfl, by omega, by omega, HO7, hide (Fx.refl _ _), B7⟩
    case round =>
      clear HO7 B7
      obtain ⟨k, rfl, rfl, hk, hg1, HO, HF, HB⟩ := hrel
      by_cases hlt : k < n
      · have hlt2 : (k : Int) < (n : Int) := by omega
        obtain ⟨hlbw, hlc⟩ := unhide HLC k hlt
        have cl : wr.cell? ⟨lb, k, none⟩ = some (.int .i64 ((c.getD k 0 : Nat) : Int)) := by
          rw [← hlc]
          exact World.cell?_of_block ((unhide HF).blk lb hlbw (fun e => by have := unhide HLB; omega))
        have hcn := unhide HCL k hlt
        have hcn2 : ((c.getD k 0 : Nat) : Int) < (n : Int) := by omega
        have cR : wr.cell? ⟨R, c.getD k 0, none⟩ = some (.slice (ra (c.getD k 0)) (ls (c.getD k 0)).length (rc (c.getD k 0))) := by
          rw [← ((unhide HG7).row.cell hcn).1]
          exact World.cell?_of_block ((unhide HF).blk R (unhide HG7).row.lt (fun e => by have := (unhide HGQ).2.1; omega))
        have q1 : IntKind.i64.wrap ((k : Int) + 1) = (k : Int) + 1 := IntWalk.i64_in _ (by omega)
        have HVL := hide (vl_succ k fun k => .slice (ra (c.getD k 0)) (ls (c.getD k 0)).length (rc (c.getD k 0)))
        obtain ⟨x, hx⟩ : ∃ x, x = c.getD k 0 := ⟨_, rfl⟩
        rw [← hx] at cl hcn2 cR
        obtain ⟨row, hrow⟩ : ∃ v : Value, v = .slice (ra (c.getD k 0)) (ls (c.getD k 0)).length (rc (c.getD k 0)) := ⟨_, rfl⟩
        rw [hx] at cR
        have h1c : ∀ u ∈ [Value.slice (ra (c.getD k 0)) (ls (c.getD k 0)).length (rc (c.getD k 0))], u.oneCell' = true := by simp [Value.oneCell']
        have hrn : ((ls (c.getD k 0)).length : Int) = ((ls (c.getD k 0)).length : Int) := rfl
        rw [← hx] at cR
        have HA := hide (fun w9 (hown : w9.ownsRow w.heap.size 23 1 (.slice (some ⟨g, 0, none⟩) (k + 1) n) (k + 1) ((vl k fun k => .slice (ra (c.getD k 0)) (ls (c.getD k 0)).length (rc (c.getD k 0))) ++ [.slice (ra (c.getD k 0)) (ls (c.getD k 0)).length (rc (c.getD k 0))])) (hgr : (wr.alloc (.cells #[.slice (ra (c.getD k 0)) (ls (c.getD k 0)).length (rc (c.getD k 0))] 23)).grownBy w9 (some g)) => show Hid (w9.ownsRow w.heap.size 23 1 (.slice (some ⟨g, 0, none⟩) (k + 1) n) (k + 1) (vl (k + 1) fun k => .slice (ra (c.getD k 0)) (ls (c.getD k 0)).length (rc (c.getD k 0)))) ∧ Hid (Fx (fun b => b = g) w7 w9) ∧ Hid (Below w.heap.size w w9) from by
          refine ⟨hide (by rw [unhide HVL]; exact hown), hide (Fx.grown ((unhide HF).trans (Fx.of (al wr _))) hgr), hide ?_⟩
          have hb := bl_t (unhide HB) (al wr (.cells #[.slice (ra (c.getD k 0)) (ls (c.getD k 0)).length (rc (c.getD k 0))] 23))
          exact hb.grown hgr hb.size (fun j e => by cases e; exact unhide HGL))
        have HO2 := hide (owns_below (unhide HO) (al wr (.cells #[.slice (ra (c.getD k 0)) (ls (c.getD k 0)).length (rc (c.getD k 0))] 23)))
        generalize vl k (fun k => .slice (ra (c.getD k 0)) (ls (c.getD k 0)).length (rc (c.getD k 0))) = xs at *
        rw [← hx] at HA HO2 h1c
        clear HO hx hrow hrn hlbw hlc HVL
        generalize ra x = rax at *
        generalize hlx : (ls x).length = lx at *
        generalize rc x = rcx at *
        clear hlx
        go_wp2_with (at_builtin; go_must (refine wpList_append_fits _ rfl _ _ 22 rfl w.heap.size 23 i0 1 Try.underlying22 hi0 hz1 g k n xs rfl (unhide HO2) ⟨wr.heap.size, 0, none⟩ 1 1 [.slice rax lx rcx] rfl rfl (cell_one_new _ _ _) h1c (by omega) ?_); intro w9 hown hgrow; obtain ⟨HO9, HF9, HB9⟩ := unhide HA w9 hown hgrow; clear hown hgrow)
        go_roundg (n - (k + 1))
        case measure => omega
        case rel => exact ⟨k + 1, by go_num, rfl, by omega, by omega, HO9, HF9, HB9⟩
      · obtain rfl : k = n := by omega
        have HX := hide (show Sq w.heap.size k g R ls ra rc c wr from ⟨unhide HO, (unhide HG4).fxe ((Fx.of (unhide HF4)).trans (unhide HF)) (unhide HGE), unhide HGQ⟩)
        go_wp2_with fail
        go_ret2
        exact ⟨_, rfl, .inr ⟨g, R, ra, rc, rfl, unhide HX⟩, unhide HB⟩
end Go.Proofs.Ytjflnpcpnoccjaa

namespace Go.Proofs.Ytjflnpcpnoccjaa
open Go.RowKit

theorem Sorted_R {N : Nat} {ln : Nat → Nat} {L : Nat → Nat → Int} {na : Option Addr} {nc : Nat} {w : World} (hN : N ≤ 1048576) (hln : ∀ k, k < N → ln k ≤ 1048576) (hR : Rr w na N ln L) (hr : rgt N ln L = true) :
    Calls Try.prog 26 #[.slice na N nc] w fun x w' => ∃ ga, x = .returned (.tuple #[.slice ga (pc N ln L) (pc N ln L), .int .i64 0]) ∧ Rr w' ga (pc N ln L) (lnL (so N ln L)) (LL (so N ln L)) ∧ Below w.heap.size w w' := by
  have h := Sorted_any (nc := nc) hN hln hR
  rw [show ptN N ln L = pc N ln L from if_pos hr, show ptE N ln L = 0 from if_pos hr] at h
  refine h.mono fun x w' ⟨ga, e, hq, hb⟩ => ⟨ga, e, ?_, hb⟩
  rcases hq with ⟨_, q⟩ | ⟨g, R, ra, rc, rfl, q⟩
  · rw [q]
    exact ⟨fun _ => none, fun _ => 0, fun h => by omega, fun k hk => by omega⟩
  · exact q.rr fun k hk => co_lt (by rw [co_len hr hN]; exact hk)
set_option maxRecDepth 100000 in
set_option maxHeartbeats 16000000 in
theorem sorted_walk (N : Nat) (ln : Nat → Nat) (L : Nat → Nat → Int) (na : Option Addr) (nc : Nat) (w : World) (hN : N ≤ 1048576) (hln : ∀ k, k < N → ln k ≤ 1048576) (hR : Rr w na N ln L) :
    Calls Try.prog 4 #[.slice na N nc] w fun x w' => x = .returned (.bool true) ∧ Below w.heap.size w w' := by
  have cT := hide (fun (W : World) (h : Below w.heap.size w W) => twin_any N ln L na nc W (by omega) (fun k hk => by have := hln k hk; omega) (hR.later h))
  have cRt := hide (fun (W : World) (h : Below w.heap.size w W) => lright_any N ln L na nc W (by omega) (fun k hk => by have := hln k hk; omega) (hR.later h))
  have cC := hide (fun (W : World) (ga : Option Addr) (gc : Nat) (h1 : Rr W ga N ln L) => Condense_L (nc := gc) hN hln h1)
  cases hr : rgt N ln L with
  | false =>
    have cS := hide (fun (W : World) (ga : Option Addr) (gc : Nat) (h1 : Rr W ga N ln L) => Sorted_any (nc := gc) hN hln h1)
    rw [hr] at cRt
    rw [show ptN N ln L = 0 from if_neg (by rw [hr]; simp), show ptE N ln L = 120 from if_neg (by rw [hr]; simp)] at cC cS
    clear hr hR hln
    go_enter Try.func4, Try.ntmps4
    have G1 := hide trivial
    go_wp2_with (first | (go_at_call 25; refine (lives_any _).mono ?_; rintro x0 w0 ⟨rfl, hb⟩; have B0 := hide hb; clear hb) | (go_at_call 10; have _u := G1; clear _u G1; refine (unhide cT _ (unhide B0)).mono ?_; rintro x1 w1 ⟨B, cB, g, cp, rfl, htw, hb⟩; have T1 := hide htw.rr; have B1 := hide (bl_t (unhide B0) hb); clear htw hb) | (go_at_call 26; refine (unhide cS _ _ _ (unhide T1)).mono ?_; rintro x2 w2 ⟨ga, rfl, ha, hb⟩; have B2 := hide (bl_t (unhide B1) hb); clear ha hb) | (go_at_call 10; refine (unhide cT _ (unhide B2)).mono ?_; rintro x3 w3 ⟨B, cB, g, cp, rfl, htw, hb⟩; have T3 := hide htw.rr; have B3 := hide (bl_t (unhide B2) hb); clear htw hb) | (go_at_call 27; refine (unhide cC _ _ _ (unhide T3)).mono ?_; rintro x4 w4 ⟨gp, rfl, ha, hb⟩; have B4 := hide (bl_t (unhide B3) hb); clear ha hb) | (go_at_call 28; refine (unhide cRt _ (unhide B4)).mono ?_; rintro x5 w5 ⟨rfl, hw⟩; rw [hw]; clear hw w5))
    go_ret
    exact ⟨rfl, unhide B4⟩
  | true =>
    have cS := hide (fun (W : World) (ga : Option Addr) (gc : Nat) (h1 : Rr W ga N ln L) => Sorted_R (nc := gc) hN hln h1 hr)
    rw [hr] at cRt
    rw [show ptN N ln L = pc N ln L from if_pos hr, show ptE N ln L = 0 from if_pos hr] at cC
    have hpc : pc N ln L ≤ N := pc_le N ln L
    have hcl := co_len hr hN
    have cO := hide (fun (W : World) (ga : Option Addr) (gc : Nat) (h1 : Rr W ga (pc N ln L) (lnL (cdL N ln L)) (LL (cdL N ln L))) => Order_any (nc := gc) (Nat.le_trans hpc hN) (fun k _ => Nat.le_trans (cdL_len N ln L k) hN) h1)
    have hnl : ¬ (od (pc N ln L) (lnL (cdL N ln L)) (LL (cdL N ln L))).length < pc N ln L := by
      have : (od (pc N ln L) (lnL (cdL N ln L)) (LL (cdL N ln L))).length = pc N ln L := hcl
      omega
    rw [show orN (pc N ln L) (lnL (cdL N ln L)) (LL (cdL N ln L)) = pc N ln L from by unfold orN; rw [if_pos (cd_rgt hr hN), if_neg hnl], show orE (pc N ln L) (lnL (cdL N ln L)) (LL (cdL N ln L)) = 0 from by unfold orE; rw [if_pos (cd_rgt hr hN), if_neg hnl]] at cO
    have HNW := hide (fun (k i : Nat) (hk : k < pc N ln L) (hi : i < lnL (so N ln L) k) => ps_new (N := N) (ln := ln) (L := L) (k := k) (i := i) (by omega) hi)
    have HPT := hide (fun (k i : Nat) (hi : i < lnL (so N ln L) k) => ps_put (N := N) (ln := ln) (L := L) (k := k) (i := i) hi)
    have HRW := hide (fun (k x : Nat) (hx : x < N) => show ps N ln L k (lnL (so N ln L) k) x = ps N ln L (k + 1) 0 x from ps_row hx)
    have HP0 := hide (ps_start N ln L)
    have HSA := hide (so_all hr hN)
    have HSL := hide (fun (k : Nat) (hk : k ≤ pc N ln L) => so_le (N := N) (ln := ln) (L := L) k (by omega))
    have HSN := hide (fun k => show smL (so N ln L) (k + 1) = smL (so N ln L) k + lnL (so N ln L) k from rfl)
    have HS0 := hide (show smL (so N ln L) 0 = 0 from rfl)
    have HED := hide (fun (u i : Nat) (hu : u < N) (hi : i < ln u) => show ∃ v : Nat, v < N ∧ L u i = (v : Int) ∧ ps N ln L (pc N ln L) 0 v ≤ ps N ln L (pc N ln L) 0 u from by
      obtain ⟨v, hv, e⟩ := rgt_at hr hu hi
      exact ⟨v, hv, e, ps_edge hr hN ⟨hu, i, hi, e⟩⟩)
    have mk := makeI N (by omega)
    have HR := hide hR
    have HLN := hide hln
    clear hr hR hln hcl hnl
    generalize ps N ln L = ps1 at *
    generalize smL (so N ln L) = sm at *
    generalize so N ln L = ls at *
    generalize cdL N ln L = cd at *
    generalize pc N ln L = n at *
    go_enter Try.func4, Try.ntmps4
    have G1 := hide trivial
    go_upto_region 11 with (first | (go_at_call 25; refine (lives_any _).mono ?_; rintro x0 w0 ⟨rfl, hb⟩; have B0 := hide hb; clear hb) | (go_at_call 10; have _u := G1; clear _u G1; refine (unhide cT _ (unhide B0)).mono ?_; rintro x1 w1 ⟨B, cB, g, cp, rfl, htw, hb⟩; have T1 := hide htw.rr; have B1 := hide (bl_t (unhide B0) hb); clear htw hb) | (go_at_call 26; refine (unhide cS _ _ _ (unhide T1)).mono ?_; rintro x2 w2 ⟨ga, rfl, ha, hb⟩; have A2 := hide ha; have B2 := hide (bl_t (unhide B1) hb); clear ha hb) | (go_at_call 10; refine (unhide cT _ (unhide B2)).mono ?_; rintro x3 w3 ⟨B, cB, g, cp, rfl, htw, hb⟩; have T3 := hide htw.rr; have A3 := hide ((unhide A2).later hb); have B3 := hide (bl_t (unhide B2) hb); clear htw hb) | (go_at_call 27; refine (unhide cC _ _ _ (unhide T3)).mono ?_; rintro x4 w4 ⟨gp, rfl, ha, hb⟩; have P4 := hide ha.rr; have A4 := hide ((unhide A3).later hb); have B4 := hide (bl_t (unhide B3) hb); clear ha hb) | (go_at_call 28; refine (unhide cRt _ (unhide B4)).mono ?_; rintro x5 w5 ⟨rfl, hw⟩; rw [hw]; clear hw w5) | (go_at_call 29; refine (unhide cO _ _ _ (unhide P4)).mono ?_; rintro x6 w6 ⟨go6, gg6, gc6, rfl, ha, hb⟩; have A6 := hide ((unhide A4).later hb); have B6 := hide (bl_t (unhide B4) hb); clear ha hb))
    have HM0 := hide (show Mv w6.heap.size N 3 (iv (ps1 0 0)) (w6.alloc (.cells (madeCells #[.int .i64 0] N) 3)) from ⟨_, heap_new _ _, fun k hk => by rw [made_at _ _ _ hk]; unfold iv; rw [unhide HP0]⟩)
    have HBM := hide (al w6 (.cells (madeCells #[.int .i64 0] N) 3))
    obtain ⟨gm, hgm⟩ : ∃ x, x = w6.heap.size := ⟨_, rfl⟩
    rw [← hgm] at HM0
    have HGM := hide (show w6.heap.size ≤ gm from by omega)
    obtain ⟨W6, hW6⟩ : ∃ x, x = w6.alloc (.cells (madeCells #[.int .i64 0] N) 3) := ⟨_, rfl⟩
    rw [← hW6] at HM0 HBM
    rw [← hgm]
    try rw [← hW6]
    clear hgm hW6 mk cT cO cS cC cRt T1 T3 A2 A3 A4 P4 B0 B1 B2 B3 B4
    go_wp2_with fail
    go_loopg [10, 11, 12] n (fun g1 vn vk _ wr => ∃ k : Nat, vn = .int .i64 (sm k) ∧ vk = .int .i64 k ∧ k ≤ n ∧ n - k ≤ g1 ∧ Hid (Mv gm N 3 (iv (ps1 k 0)) wr) ∧ Hid (Below w6.heap.size w6 wr))
    case atStart => exact ⟨0, by rw [unhide HS0]; rfl, by go_num, by omega, by omega, HM0, HBM⟩
    case round =>
      clear HM0 HBM
      obtain ⟨k, rfl, rfl, hk, hg1, HM, HBM⟩ := hrel
      by_cases hlt : k < n
      · have hlt2 : (k : Int) < (n : Int) := by omega
        obtain ⟨bb, oo, ca, cc, e1, hrow⟩ := (unhide A6).row hlt
        have HROW := hide hrow
        clear hrow
        have hs1 := unhide HSL (k + 1) (by omega)
        rw [unhide HSN k] at hs1
        obtain ⟨s, hs⟩ : ∃ s, s = sm k := ⟨_, rfl⟩
        have HSP := hide hs
        rw [← hs] at hs1
        rw [← hs]
        clear hs
        go_wp2_with fail
        go_loopg [10, 12] (lnL ls k) (fun g2 vn vi wr => ∃ i : Nat, vn = .int .i64 ((s + i : Nat) : Int) ∧ vi = .int .i64 i ∧ i ≤ lnL ls k ∧ lnL ls k - i ≤ g2 ∧ Hid (Mv gm N 3 (iv (ps1 k i)) wr) ∧ Hid (Below w6.heap.size w6 wr))
        case atStart => exact ⟨0, by go_num, by go_num, by omega, by omega, HM, HBM⟩
        case round =>
          clear HM HBM
          obtain ⟨i, rfl, rfl, hi, hg2, HM, HBM⟩ := hrel
          obtain ⟨cr, hri⟩ := unhide HROW wr (unhide HBM)
          by_cases hil : i < lnL ls k
          · obtain ⟨hx, hz⟩ := unhide HNW k i hlt hil
            obtain ⟨b1, o1, e2, _, c1⟩ := hri.at hil
            unfold iv at c1
            unfold LL at c1
            obtain ⟨cm, fm⟩ := (unhide HM).cell hx
            unfold iv at cm
            rw [hz] at cm
            have q1 : IntKind.i64.wrap ((k : Int) + 1) = (k : Int) + 1 := IntWalk.i64_in _ (by omega)
            have HM2 := hide (show Mv gm N 3 (iv (ps1 k (i + 1))) (wr.setCell ⟨gm, (ls k).getD i 0, none⟩ (.int .i64 ((k : Int) + 1))) from by
              rw [← unhide HPT k i hil]
              exact (unhide HM).set hx _)
            have HB2 := hide ((unhide HBM).setCell (p := ⟨gm, (ls k).getD i 0, none⟩) (unhide HGM) (.int .i64 ((k : Int) + 1)))
            have z2 : (i : Int) < (lnL ls k : Int) := by omega
            have z3 : ¬ (((ls k).getD i 0 : Nat) : Int) < 0 := by omega
            have z4 : ¬ (N : Int) ≤ (((ls k).getD i 0 : Nat) : Int) := by omega
            have z7 : (((ls k).getD i 0 : Nat) : Int) < (N : Int) := by omega
            have crW : ∀ u, (wr.setCell ⟨gm, (ls k).getD i 0, none⟩ u).heap.size = wr.heap.size := fun u => by simp
            clear HM HBM hri hz crW
            subst e1
            subst e2
            generalize (ls k).getD i 0 = x at *
            generalize lnL ls k = m at *
            go_wp2_with fail
            go_roundg (m - (i + 1))
            case measure => omega
            case rel => exact ⟨i + 1, by go_num, by go_num, by omega, by omega, HM2, HB2⟩
          · obtain rfl : i = lnL ls k := by omega
            have HSE := hide (show ((s + lnL ls k : Nat) : Int) = (sm (k + 1) : Int) from by rw [unhide HSN k, unhide HSP])
            have HM2 := hide ((unhide HM).congr (G := iv (ps1 (k + 1) 0)) fun x hx => by unfold iv; rw [unhide HRW k x hx])
            subst e1
            clear HM hri
            rw [unhide HSE]
            generalize hm : lnL ls k = m at *
            clear hm
            go_wp2_with fail
            go_roundg (n - (k + 1))
            case measure => omega
            case rel => exact ⟨k + 1, rfl, by go_num, by omega, by omega, HM2, HBM⟩
      · obtain rfl : k = n := by omega
        rw [unhide HSA]
        have BW := hide (bl_t (unhide B6) (unhide HBM))
        clear A6 HBM
        obtain ⟨W9, hW9⟩ : ∃ x, x = wr := ⟨_, rfl⟩
        rw [← hW9] at HM BW
        go_wp2_with fail
        go_loopg [13, 14] N (fun g1 vu _ wr => ∃ u : Nat, vu = .int .i64 u ∧ u ≤ N ∧ N - u ≤ g1 ∧ Hid (Below W9.heap.size W9 wr))
        case atStart => exact ⟨0, by go_num, by omega, by omega, hide (by rw [hW9]; exact Below.refl _ _)⟩
        case round =>
          clear hW9
          obtain ⟨u, rfl, hu, hg2, HB⟩ := hrel
          by_cases hul : u < N
          · have hul2 : (u : Int) < (N : Int) := by omega
            obtain ⟨bb, oo, ca, cc, e1, hrow⟩ := (unhide HR).row hul
            have HROW := hide hrow
            have hlu := unhide HLN u hul
            clear hrow
            go_wp2_with fail
            go_loopg [14] (ln u) (fun g2 vj wr => ∃ j : Nat, vj = .int .i64 j ∧ j ≤ ln u ∧ ln u - j ≤ g2 ∧ Hid (Below W9.heap.size W9 wr))
            case atStart => exact ⟨0, by go_num, by omega, by omega, HB⟩
            case round =>
              clear HB
              obtain ⟨j, rfl, hj, hg3, HB⟩ := hrel
              obtain ⟨cr, hri⟩ := unhide HROW wr (bl_t (unhide BW) (unhide HB))
              by_cases hjl : j < ln u
              · obtain ⟨b1, o1, e2, _, c1⟩ := hri.at hjl
                unfold iv at c1
                obtain ⟨v, hv, ev, hpl⟩ := unhide HED u j hul hjl
                rw [ev] at c1
                have cv := ((unhide HM).later (unhide HB)).cell hv
                have cu := ((unhide HM).later (unhide HB)).cell hul
                have cv1 := cv.1
                have cu1 := cu.1
                unfold iv at cv1 cu1
                have z1 : ¬ ps1 k 0 u < ps1 k 0 v := by omega
                have z2 : decide (ps1 k 0 u < ps1 k 0 v) = false := decide_eq_false z1
                have z3 : (j : Int) < (ln u : Int) := by omega
                have z4 : (v : Int) < (N : Int) := by omega
                have HB2 := hide (fun t => bl_t (unhide HB) (bl_drewN wr t))
                subst e1
                subst e2
                clear hri HB cv cu ev hpl
                generalize ps1 k 0 u = y1 at *
                generalize ps1 k 0 v = y2 at *
                generalize ln u = m at *
                go_wp2_with fail
                go_quiet (fail)
                have HB3 := hide (unhide HB2 nq)
                clear HB2 c1 cr cv1 cu1
                generalize wr.drewN nq = W2 at *
                go_wp2_with fail
                go_roundg (m - (j + 1))
                case measure => omega
                case rel => exact ⟨j + 1, by go_num, by omega, by omega, HB3⟩
              · have z3 : ¬ (j : Int) < (ln u : Int) := by omega
                subst e1
                clear hri
                generalize ln u = m at *
                go_wp2_with fail
                go_roundg (N - (u + 1))
                case measure => omega
                case rel => exact ⟨u + 1, by go_num, by omega, by omega, HB⟩
          · have hul2 : ¬ (u : Int) < (N : Int) := by omega
            go_wp2_with fail
            go_ret
            exact ⟨rfl, bl_t (unhide BW) (unhide HB)⟩
end Go.Proofs.Ytjflnpcpnoccjaa

