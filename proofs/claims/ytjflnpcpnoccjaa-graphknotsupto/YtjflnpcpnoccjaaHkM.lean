import Derived.Test.YtjflnpcpnoccjaaHcA
namespace Go.Proofs.Ytjflnpcpnoccjaa
open Go.RowKit

/-! The order of a graph: each behind what it needs; it is short just where there is a knot. -/
def Fn (N : Nat) (ln : Nat → Nat) (L : Nat → Nat → Int) (t : List Nat) : Prop := ∀ a x b, t = a ++ x :: b → ∀ v, Eg N ln L x v → v ∈ a
theorem Fn.next {N : Nat} {ln : Nat → Nat} {L : Nat → Nat → Int} {t : List Nat} {u : Nat} (h : Fn N ln L t) (hu : Lst N ln L t u) : Fn N ln L (t ++ [u]) := by
  intro a x b e v hv
  by_cases hb : b = []
  · subst hb
    obtain ⟨e1, e2⟩ := List.append_inj' e rfl
    have e3 : u = x := by simpa using e2
    subst e3
    rw [← e1]
    exact hu.1.2.2 v hv
  · have e4 := List.dropLast_concat_getLast hb
    have e1 : t ++ [u] = (a ++ x :: b.dropLast) ++ [b.getLast hb] := by
      rw [e, List.append_assoc, List.cons_append, e4]
    obtain ⟨e2, _⟩ := List.append_inj' e1 rfl
    exact h a x _ e2 v hv
theorem least_ex {P : Nat → Prop} : ∀ n, (∃ x, P x ∧ x ≤ n) → ∃ u, P u ∧ ∀ x, P x → u ≤ x
  | 0, ⟨x, hx, h0⟩ => by
    obtain rfl : x = 0 := by omega
    exact ⟨0, hx, fun _ _ => Nat.zero_le _⟩
  | n + 1, ⟨x, hx, hn⟩ => by
    by_cases h : ∃ y, P y ∧ y ≤ n
    · exact least_ex n h
    · refine ⟨x, hx, fun y hy => ?_⟩
      have : ¬ y ≤ n := fun q => h ⟨y, hy, q⟩
      omega
theorem ordL_td {N : Nat} {ln : Nat → Nat} {L : Nat → Nat → Int} : ∀ (k : Nat) (t : List Nat), Td N ln L t → Fn N ln L t → k = N - t.length → Td N ln L (ordL N ln L k t) ∧ Fn N ln L (ordL N ln L k t) ∧ ((ordL N ln L k t).length = N ∨ ∀ x, ¬ rdy N ln L (ordL N ln L k t) x)
  | 0, t, h, hf, e => ⟨h, hf, .inl (by have := h.len; show t.length = N; omega)⟩
  | k + 1, t, h, hf, e => by
    by_cases hx : ∃ x, rdy N ln L t x
    · obtain ⟨x, hx⟩ := hx
      obtain ⟨u, h1, h2⟩ := least_ex (P := rdy N ln L t) x ⟨x, hx, Nat.le_refl _⟩
      have hu : Lst N ln L t u := ⟨h1, h2⟩
      rw [ordL_some hu]
      refine ordL_td k _ (h.next hu).1 (hf.next hu) ?_
      rw [List.length_append, List.length_cons, List.length_nil]
      omega
    · have hn : ∀ x, ¬ rdy N ln L t x := fun x q => hx ⟨x, q⟩
      rw [ordL_none hn]
      exact ⟨h, hf, .inr hn⟩
theorem od_td (N : Nat) (ln : Nat → Nat) (L : Nat → Nat → Int) : Td N ln L (od N ln L) ∧ Fn N ln L (od N ln L) ∧ ((od N ln L).length = N ∨ ∀ x, ¬ rdy N ln L (od N ln L) x) :=
  ordL_td N [] (Td.start N ln L) (fun a x b e => by simp at e) rfl
theorem cnt_lt {p q : Nat → Bool} {u N : Nat} (h : ∀ v, p v = true → q v = true) (hu : u < N) (hq : q u = true) (hp : p u = false) : (List.range N).countP p < (List.range N).countP q := by
  have h1 := cnt_one (p := q) (q := fun v => q v && !(v == u)) (u := u) (fun v hv => by simp [hv]) hq (by simp) N
  rw [if_pos hu] at h1
  have h2 : (List.range N).countP p ≤ (List.range N).countP (fun v => q v && !(v == u)) := List.countP_mono_left fun x _ hx => by
    have h3 : x ≠ u := fun e => by rw [e, hp] at hx; cases hx
    simp [h x hx, h3]
  omega
open Classical in
theorem stuck_cyc {N : Nat} {E : Nat → Nat → Prop} {S : Nat → Prop} (hS : ∀ x, S x → x < N) (hE : ∀ x, S x → ∃ y, E x y ∧ S y) : ∀ (n x : Nat), S x → (List.range N).countP (fun y => decide (Rch E x y)) ≤ n → ∃ x y, E x y ∧ Rch E y x
  | n, x, hx, hn => by
    obtain ⟨y, he, hy⟩ := hE x hx
    by_cases hc : Rch E y x
    · exact ⟨x, y, he, hc⟩
    · have hlt := cnt_lt (p := fun z => decide (Rch E y z)) (q := fun z => decide (Rch E x z)) (u := x) (N := N) (fun v hv => decide_eq_true (((Rch.refl E x).tail he).trans (of_decide_eq_true hv))) (hS x hx) (decide_eq_true (Rch.refl E x)) (decide_eq_false hc)
      cases n with
      | zero => omega
      | succ n => exact stuck_cyc hS hE n y hy (by omega)
theorem all_mem : ∀ (N : Nat) (t : List Nat), (∀ x, x < N → x ∈ t) → N ≤ t.length
  | 0, _, _ => Nat.zero_le _
  | N + 1, t, h => by
    have h1 := all_mem N (t.erase N) fun x hx => (List.mem_erase_of_ne (by omega)).2 (h x (by omega))
    have h2 := h N (by omega)
    rw [List.length_erase_of_mem h2] at h1
    have := List.length_pos_of_mem h2
    omega
theorem full_mem {N : Nat} {t : List Nat} (hn : t.Nodup) (hl : ∀ x ∈ t, x < N) (e : t.length = N) {x : Nat} (hx : x < N) : x ∈ t := by
  apply Classical.byContradiction
  intro q
  have := nodup_len N (x :: t) (List.nodup_cons.2 ⟨q, hn⟩) fun y hy => by
    rcases List.mem_cons.1 hy with r | r
    · omega
    · exact hl y r
  rw [List.length_cons] at this
  omega
theorem eg_lt {N : Nat} {ln : Nat → Nat} {L : Nat → Nat → Int} (hr : rgt N ln L = true) {x v : Nat} (hv : Eg N ln L x v) : v < N := by
  obtain ⟨hx, i, hi, e⟩ := hv
  obtain ⟨v2, h2, e2⟩ := rgt_at hr hx hi
  omega
theorem od_cyc {N : Nat} {ln : Nat → Nat} {L : Nat → Nat → Int} (hr : rgt N ln L = true) : (od N ln L).length < N ↔ ∃ x y, Eg N ln L x y ∧ Rch (Eg N ln L) y x := by
  obtain ⟨htd, hfn, hend⟩ := od_td N ln L
  constructor
  · intro hlt
    rcases hend with h | hno
    · omega
    · have hex : ∃ x, x < N ∧ x ∉ od N ln L := by
        apply Classical.byContradiction
        intro q
        have := all_mem N (od N ln L) fun x hx => Classical.byContradiction fun r => q ⟨x, hx, r⟩
        omega
      obtain ⟨x, hx⟩ := hex
      refine stuck_cyc (N := N) (S := fun x => x < N ∧ x ∉ od N ln L) (fun x h => h.1) (fun x h => ?_) _ x hx (Nat.le_refl _)
      apply Classical.byContradiction
      intro q
      refine hno x ⟨h.1, h.2, fun v hv => Classical.byContradiction fun r => q ⟨v, hv, eg_lt hr hv, r⟩⟩
  · rintro ⟨x, y, he, hc⟩
    apply Classical.byContradiction
    intro q
    have hlen : (od N ln L).length = N := by have := htd.len; omega
    have hx := full_mem htd.nd htd.lt hlen he.1
    obtain ⟨a, b, e⟩ := List.append_of_mem hx
    have hy := hfn a x b e y he
    have hxa : x ∈ a := Rch.closed (p := fun z => z ∈ a) (fun z w hz hw => by
      obtain ⟨a1, a2, e1⟩ := List.append_of_mem hz
      have := hfn a1 z (a2 ++ x :: b) (by rw [e, e1]; simp) w hw
      rw [e1]
      exact List.mem_append_left _ this) hc hy
    have hnd := htd.nd
    rw [e, List.nodup_append] at hnd
    exact hnd.2.2 x hxa x List.mem_cons_self rfl
theorem rch_head {E : Nat → Nat → Prop} {u v : Nat} (h : Rch E u v) (hne : u ≠ v) : ∃ w, E u w ∧ Rch E w v := by
  obtain ⟨k, hk⟩ := h
  revert v
  induction k with
  | zero => intro v hne hk; exact absurd hk.symm hne
  | succ k ih =>
    rintro v hne ⟨x, hx, he⟩
    by_cases e : u = x
    · subst e; exact ⟨v, he, Rch.refl _ _⟩
    · obtain ⟨w, h1, h2⟩ := ih e hx
      exact ⟨w, h1, h2.tail he⟩
theorem knot_iff {N : Nat} {ln : Nat → Nat} {L : Nat → Nat → Int} (hr : rgt N ln L = true) : ((∃ x, x < N ∧ Eg N ln L x x) ∨ ∃ x y, x < N ∧ y < N ∧ Mu N ln L x y ∧ x ≠ y) ↔ (od N ln L).length < N := by
  rw [od_cyc hr]
  constructor
  · rintro (⟨x, _, h⟩ | ⟨x, y, _, _, h, hne⟩)
    · exact ⟨x, x, h, Rch.refl _ _⟩
    · obtain ⟨w, h1, h2⟩ := rch_head h.1 hne
      exact ⟨x, w, h1, h2.trans h.2⟩
  · rintro ⟨x, y, he, hc⟩
    by_cases e : x = y
    · subst e; exact .inl ⟨x, he.1, he⟩
    · exact .inr ⟨x, y, he.1, eg_lt hr he, ⟨(Rch.refl _ _).tail he, hc⟩, e⟩
/-! The places. -/
def pl (t : List Nat) : Nat → Nat → Int
  | 0, _ => 0
  | i + 1, x => if x = t.getD i 0 then ((i + 1 : Nat) : Int) else pl t i x
theorem pl_no {t : List Nat} {x : Nat} : ∀ i, (∀ j, j < i → t.getD j 0 ≠ x) → pl t i x = 0
  | 0, _ => rfl
  | i + 1, h => by
    show (if x = t.getD i 0 then _ else pl t i x) = 0
    rw [if_neg (fun e => h i (by omega) e.symm)]
    exact pl_no i fun j hj => h j (by omega)
theorem nd_ne {t : List Nat} (hn : t.Nodup) {i j : Nat} (hij : j < i) (hi : i < t.length) : t.getD j 0 ≠ t.getD i 0 := by
  have h1 : t.getD j 0 = t[j] := by simp [show j < t.length by omega]
  have h2 : t.getD i 0 = t[i] := by simp [hi]
  rw [h1, h2]
  exact List.pairwise_iff_getElem.1 hn j i (by omega) hi hij
theorem pl_at {t : List Nat} (hn : t.Nodup) : ∀ i, i ≤ t.length → ∀ j, j < i → pl t i (t.getD j 0) = ((j + 1 : Nat) : Int)
  | 0, _, j, hj => by omega
  | i + 1, hi, j, hj => by
    show (if t.getD j 0 = t.getD i 0 then ((i + 1 : Nat) : Int) else pl t i (t.getD j 0)) = _
    by_cases e : j = i
    · subst e; rw [if_pos rfl]
    · rw [if_neg (nd_ne hn (by omega) (by omega))]
      exact pl_at hn i (by omega) j (by omega)
theorem pl_new {t : List Nat} (hn : t.Nodup) {i : Nat} (hi : i < t.length) : pl t i (t.getD i 0) = 0 := pl_no i fun _ hj => nd_ne hn hj hi
theorem pl_edge {N : Nat} {ln : Nat → Nat} {L : Nat → Nat → Int} (hlen : (od N ln L).length = N) {u v : Nat} (he : Eg N ln L u v) : pl (od N ln L) N v < pl (od N ln L) N u := by
  obtain ⟨htd, hfn, _⟩ := od_td N ln L
  have hx := full_mem htd.nd htd.lt hlen he.1
  obtain ⟨a, b, e⟩ := List.append_of_mem hx
  have hy := hfn a u b e v he
  obtain ⟨j, hj, ej⟩ := List.getElem_of_mem hy
  have hl : a.length < (od N ln L).length := by rw [e]; simp
  have hu : (od N ln L).getD a.length 0 = u := by rw [e]; simp
  have hv : (od N ln L).getD j 0 = v := by rw [e]; simp [List.getElem?_append_left hj, hj, ej]
  have h1 := pl_at htd.nd N (by omega) a.length (by omega)
  have h2 := pl_at htd.nd N (by omega) j (by omega)
  rw [hu] at h1
  rw [hv] at h2
  rw [h1, h2]
  omega
/-! The parts: they rise, their firsts rise, each node once. -/
theorem pt_srt (f : Nat → Nat) (k p : Nat) : (ptL f k p).Pairwise (· < ·) := List.Pairwise.filter _ List.pairwise_lt_range
theorem pt_rise {f : Nat → Nat} {k p i : Nat} (h : i + 1 < (ptL f k p).length) : LL (ptL f k) p i < LL (ptL f k) p (i + 1) := by
  have h1 := List.pairwise_iff_getElem.1 (pt_srt f k p) i (i + 1) (by omega) h (by omega)
  have e1 : (ptL f k p).getD i 0 = (ptL f k p)[i] := by simp [show i < (ptL f k p).length by omega]
  have e2 : (ptL f k p).getD (i + 1) 0 = (ptL f k p)[i + 1] := by simp [h]
  show (((ptL f k p).getD i 0 : Nat) : Int) < (((ptL f k p).getD (i + 1) 0 : Nat) : Int)
  rw [e1, e2]
  omega
theorem pt_at {f : Nat → Nat} {k p i : Nat} (h : i < (ptL f k p).length) : (ptL f k p).getD i 0 < k ∧ f ((ptL f k p).getD i 0) = p := by
  have e1 : (ptL f k p).getD i 0 = (ptL f k p)[i] := by simp [h]
  rw [e1]
  exact ptL_lt (List.getElem_mem h)
theorem pt_mem {f : Nat → Nat} {k p x : Nat} (hx : x < k) (e : f x = p) : x ∈ ptL f k p := List.mem_filter.2 ⟨List.mem_range.2 hx, by simp [e]⟩
theorem pt_fst {f : Nat → Nat} {k p x : Nat} (hx : x ∈ ptL f k p) : 0 < (ptL f k p).length ∧ (ptL f k p).getD 0 0 ≤ x := by
  have hpos := List.length_pos_of_mem hx
  refine ⟨hpos, ?_⟩
  obtain ⟨j, hj, e⟩ := List.getElem_of_mem hx
  have e1 : (ptL f k p).getD 0 0 = (ptL f k p)[0] := by simp [hpos]
  rw [e1, ← e]
  by_cases h0 : j = 0
  · subst h0; exact Nat.le_refl _
  · exact Nat.le_of_lt (List.pairwise_iff_getElem.1 (pt_srt f k p) 0 j hpos hj (by omega))
theorem pt_pos {N : Nat} {ln : Nat → Nat} {L : Nat → Nat → Int} {p : Nat} (hp : p < pc N ln L) : 0 < (ptL (pn N ln L) N p).length := by
  obtain ⟨j, hj, _, e⟩ := no_onto (kd_mu N ln L) (k := N) (p := p) hp
  exact (pt_fst (pt_mem hj e)).1
theorem pt_firsts {N : Nat} {ln : Nat → Nat} {L : Nat → Nat → Int} {p : Nat} (hp : p + 1 < pc N ln L) : LL (ptL (pn N ln L) N) p 0 < LL (ptL (pn N ln L) N) (p + 1) 0 := by
  obtain ⟨j, hj, hnw, e⟩ := no_onto (kd_mu N ln L) (k := N) (p := p) (Nat.lt_of_succ_lt hp)
  have h1 := (pt_fst (f := pn N ln L) (k := N) (p := p) (pt_mem hj e)).2
  have hpos := pt_pos hp
  obtain ⟨h2, h3⟩ := pt_at (f := pn N ln L) (k := N) (p := p + 1) (i := 0) hpos
  generalize hx : (ptL (pn N ln L) N (p + 1)).getD 0 0 = x at *
  have h4 : j < x := by
    apply Classical.byContradiction
    intro q
    by_cases e2 : x = j
    · subst e2
      have : pn N ln L x = p := e
      omega
    · have h5 := no_lt (kd_mu N ln L) (i := x) (k := j) (by omega)
      have h6 := no_new (kd_mu N ln L) hnw
      have h7 : no (Mu N ln L) x = p + 1 := h3
      have h8 : no (Mu N ln L) j = p := e
      omega
  show (((ptL (pn N ln L) N p).getD 0 0 : Nat) : Int) < (((ptL (pn N ln L) N (p + 1)).getD 0 0 : Nat) : Int)
  rw [hx]
  omega
def smL (ls : Nat → List Nat) : Nat → Nat
  | 0 => 0
  | p + 1 => smL ls p + (ls p).length
theorem sm_cnt (f : Nat → Nat) (k : Nat) : ∀ p, smL (ptL f k) p = (List.range k).countP fun i => decide (f i < p)
  | 0 => by simp [smL]
  | p + 1 => by
    show smL (ptL f k) p + (ptL f k p).length = _
    rw [sm_cnt f k p]
    unfold ptL
    rw [← List.countP_eq_length_filter]
    generalize List.range k = l
    induction l with
    | nil => rfl
    | cons y l ih =>
      simp only [List.countP_cons]
      rw [← ih]
      by_cases e1 : f y < p
      · have e2 : f y < p + 1 := by omega
        have e3 : f y ≠ p := by omega
        simp [e1, e2, e3]
        omega
      · by_cases e3 : f y = p
        · simp [e3]
          omega
        · have e2 : ¬ f y < p + 1 := by omega
          simp [e1, e2, e3]
theorem sm_all {N : Nat} {ln : Nat → Nat} {L : Nat → Nat → Int} : smL (ptL (pn N ln L) N) (pc N ln L) = N := by
  rw [sm_cnt]
  have : (List.range N).countP (fun i => decide (pn N ln L i < pc N ln L)) = (List.range N).length := List.countP_eq_length.2 fun i hi => decide_eq_true (pn_lt N ln L (List.mem_range.1 hi))
  rw [this, List.length_range]
theorem sm_le (f : Nat → Nat) (k p : Nat) : smL (ptL f k) p ≤ k := by
  rw [sm_cnt]
  exact Nat.le_trans List.countP_le_length (by rw [List.length_range]; exact Nat.le_refl _)
/-- Of one part just if they reach one another. -/
theorem pn_mu {N : Nat} {ln : Nat → Nat} {L : Nat → Nat → Int} (u v : Nat) : ((pn N ln L u : Int) == (pn N ln L v : Int)) = (rq N ln L u v && rq N ln L v u) := by
  refine b_eq ?_
  rw [beq_iff_eq, Bool.and_eq_true, rq_iff, rq_iff]
  constructor
  · intro e
    have h : no (Mu N ln L) u = no (Mu N ln L) v := by
      have : pn N ln L u = pn N ln L v := by omega
      exact this
    exact no_inj (kd_mu N ln L) h
  · intro h
    have : pn N ln L u = pn N ln L v := no_same (kd_mu N ln L) h
    omega
end Go.Proofs.Ytjflnpcpnoccjaa

namespace Go.Proofs.Ytjflnpcpnoccjaa
open Go.RowKit

set_option maxRecDepth 100000 in
set_option maxHeartbeats 8000000 in
theorem placed_any (N : Nat) (ln : Nat → Nat) (L : Nat → Nat → Int) (pa oa : Option Addr) (nc oc : Nat) (w : World) (hN : N ≤ 1048576) (hP : Rr w pa (pc N ln L) (lnL (ptL (pn N ln L) N)) (LL (ptL (pn N ln L) N))) (hO : Ri w oa N (fun j => (pn N ln L j : Int))) :
    Calls Try.prog 38 #[.slice pa (pc N ln L) nc, .slice oa N oc] w fun x w' => x = .returned (.bool true) ∧ Below w.heap.size w w' := by
  have HAT := hide (fun (p i : Nat) (h : i < lnL (ptL (pn N ln L) N) p) => pt_at (f := pn N ln L) (k := N) (p := p) (i := i) h)
  have HRS := hide (fun (p i : Nat) (h : i + 1 < lnL (ptL (pn N ln L) N) p) => pt_rise (f := pn N ln L) (k := N) (p := p) (i := i) h)
  have HPS := hide (fun (p : Nat) (h : p < pc N ln L) => show 0 < lnL (ptL (pn N ln L) N) p from pt_pos h)
  have HFS := hide (fun (p : Nat) (h : p + 1 < pc N ln L) => pt_firsts h)
  have HSA := hide (sm_all (N := N) (ln := ln) (L := L))
  have HSL := hide (fun p => sm_le (pn N ln L) N p)
  have HSN := hide (fun p => show smL (ptL (pn N ln L) N) (p + 1) = smL (ptL (pn N ln L) N) p + lnL (ptL (pn N ln L) N) p from rfl)
  have hpc : pc N ln L ≤ N := nds_le _ N
  have HS0 := hide (show smL (ptL (pn N ln L) N) 0 = 0 from rfl)
  have HP := hide hP
  have HO := hide hO
  clear hP hO
  generalize smL (ptL (pn N ln L) N) = sm at *
  generalize ptL (pn N ln L) N = ls at *
  generalize pn N ln L = f at *
  generalize pc N ln L = n at *
  go_enter Try.func38, Try.ntmps38
  go_wp2_with fail
  go_loopg [5, 6, 7, 8] n (fun g1 vn vp _ _ wr => ∃ p : Nat, vn = .int .i64 (sm p) ∧ vp = .int .i64 p ∧ p ≤ n ∧ n - p ≤ g1 ∧ Hid (Below w.heap.size w wr))
  case atStart => exact ⟨0, by rw [unhide HS0]; rfl, by go_num, by omega, by omega, hide (Below.refl _ _)⟩
  case round =>
    obtain ⟨p, rfl, rfl, hp, hg1, HB⟩ := hrel
    by_cases hlt : p < n
    · have hlt2 : (p : Int) < (n : Int) := by omega
      obtain ⟨bb, oo, ca, cc, e1, hrow⟩ := (unhide HP).row hlt
      have HROW := hide hrow
      clear hrow
      have hs1 := unhide HSL (p + 1)
      rw [unhide HSN p] at hs1
      have HPO := hide (unhide HPS p hlt)
      obtain ⟨s, hs⟩ : ∃ s, s = sm p := ⟨_, rfl⟩
      have HSP := hide hs
      rw [← hs] at hs1
      rw [← hs]
      clear hs
      go_wp2_with fail
      go_loopg [5, 7, 8] (lnL ls p) (fun g2 vn vi _ wr => ∃ i : Nat, vn = .int .i64 ((s + i : Nat) : Int) ∧ vi = .int .i64 i ∧ i ≤ lnL ls p ∧ lnL ls p - i ≤ g2 ∧ Hid (Below w.heap.size w wr))
      case atStart => exact ⟨0, by go_num, by go_num, by omega, by omega, HB⟩
      case round =>
        clear HB
        obtain ⟨i, rfl, rfl, hi, hg2, HB⟩ := hrel
        obtain ⟨cr, hri⟩ := unhide HROW wr (unhide HB)
        by_cases hil : i < lnL ls p
        · obtain ⟨hxN, hfx⟩ := unhide HAT p i hil
          obtain ⟨b1, o1, e2, _, c1⟩ := hri.at hil
          obtain ⟨b3, o3, e3, _, c3⟩ := (Ri.later (unhide HO) (unhide HB)).at hxN
          unfold iv at c1 c3
          unfold LL at c1
          dsimp only at c3
          rw [hfx] at c3
          have hpp : ((p : Int) != (p : Int)) = false := by simp
          have hil2 : (i : Int) < (lnL ls p : Int) := by omega
          have z1 : ¬ (((ls p).getD i 0 : Nat) : Int) < 0 := by omega
          have z2 : ¬ (N : Int) ≤ (((ls p).getD i 0 : Nat) : Int) := by omega
          have z3 : (((ls p).getD i 0 : Nat) : Int) < (N : Int) := by omega
          by_cases hi0 : i = 0
          · subst hi0
            rw [Nat.add_zero] at c1
            subst e1
            subst e2
            subst e3
            clear hri HROW hfx
            generalize (ls p).getD 0 0 = x at *
            generalize lnL ls p = m at *
            go_wp2_with fail
            go_roundg (m - (0 + 1))
            case measure => omega
            case rel => exact ⟨0 + 1, by go_num, by go_num, by omega, by omega, HB⟩
          · obtain ⟨j, rfl⟩ : ∃ j, i = j + 1 := ⟨i - 1, by omega⟩
            obtain ⟨b4, o4, e4, _, c4⟩ := hri.at (show j < lnL ls p by omega)
            rw [e2] at e4
            injection e4 with e4
            injection e4 with e4 e5 _
            subst e4
            subst e5
            unfold iv at c4
            unfold LL at c4
            have hs := unhide HRS p j hil
            have z4 : ¬ (((ls p).getD (j + 1) 0 : Nat) : Int) ≤ (((ls p).getD j 0 : Nat) : Int) := by
              have : LL ls p j < LL ls p (j + 1) := hs
              unfold LL at this
              omega
            have z5 : IntKind.i64.wrap ((j : Int) + 1 - 1) = (j : Int) := by rw [show (j : Int) + 1 - 1 = (j : Int) by omega]; exact IntWalk.i64_in _ (by omega)
            have z6 : (j : Int) < (lnL ls p : Int) := by omega
            have z7 : (0 : Int) < (j : Int) + 1 := by omega
            subst e1
            subst e2
            subst e3
            clear hri HROW hfx hs
            generalize (ls p).getD (j + 1) 0 = x at *
            generalize (ls p).getD j 0 = y at *
            generalize lnL ls p = m at *
            go_wp2_with fail
            go_roundg (m - (j + 1 + 1))
            case measure => omega
            case rel => exact ⟨j + 1 + 1, by go_num, by go_num, by omega, by omega, HB⟩
        · obtain rfl : i = lnL ls p := by omega
          have hm0 := unhide HPO
          have hm1 : ((lnL ls p : Int) == 0) = false := beq_eq_false_iff_ne.2 (by omega)
          have z0 : (0 : Int) < (lnL ls p : Int) := by omega
          obtain ⟨b1, o1, e2, _, c1⟩ := hri.at hm0
          unfold iv at c1
          rw [Nat.add_zero] at c1
          have HB2 := hide (fun t => bl_t (unhide HB) (bl_drewN wr t))
          have HSE := hide (show ((s + lnL ls p : Nat) : Int) = (sm (p + 1) : Int) from by rw [unhide HSN p, unhide HSP])
          by_cases hp0 : p = 0
          · subst hp0
            rw [Nat.add_zero] at cr
            subst e1
            subst e2
            clear hri HROW HB
            rw [unhide HSE]
            generalize LL ls 0 0 = x at *
            generalize hm : lnL ls 0 = m at *
            clear hm
            go_wp2_with fail
            go_quiet (fail)
            have HB3 := hide (unhide HB2 nq)
            clear HB2 cr c1
            generalize wr.drewN nq = W2 at *
            go_wp2_with fail
            go_roundg (n - (0 + 1))
            case measure => omega
            case rel => exact ⟨0 + 1, rfl, by go_num, by omega, by omega, HB3⟩
          · obtain ⟨q, rfl⟩ : ∃ q, p = q + 1 := ⟨p - 1, by omega⟩
            obtain ⟨bb2, oo2, ca2, cc2, e5, hrow2⟩ := (unhide HP).row (show q < n by omega)
            rw [e1] at e5
            injection e5 with e5
            injection e5 with e5 e6 _
            subst e5
            subst e6
            obtain ⟨cr2, hri2⟩ := hrow2 wr (unhide HB)
            have hq0 := unhide HPS q (by omega)
            obtain ⟨b6, o6, e6, _, c6⟩ := hri2.at hq0
            unfold iv at c6
            rw [Nat.add_zero] at c6
            have hs := unhide HFS q (by omega)
            have z4 : ¬ LL ls (q + 1) 0 ≤ LL ls q 0 := by omega
            have z4b : decide (LL ls (q + 1) 0 ≤ LL ls q 0) = false := decide_eq_false z4
            have z5 : IntKind.i64.wrap ((q : Int) + 1 - 1) = (q : Int) := by rw [show (q : Int) + 1 - 1 = (q : Int) by omega]; exact IntWalk.i64_in _ (by omega)
            have z6 : (q : Int) < (n : Int) := by omega
            have z7 : (0 : Int) < (q : Int) + 1 := by omega
            have z8 : (0 : Int) < (lnL ls q : Int) := by omega
            subst e1
            subst e2
            subst e6
            clear hri HROW HB hs hri2 hrow2
            rw [unhide HSE]
            generalize LL ls (q + 1) 0 = x at *
            generalize LL ls q 0 = y at *
            generalize hm : lnL ls (q + 1) = m at *
            generalize hm2 : lnL ls q = m2 at *
            clear hm hm2
            go_wp2_with fail
            go_quiet (fail)
            have HB3 := hide (unhide HB2 nq)
            clear HB2 cr c1 cr2 c6
            generalize wr.drewN nq = W2 at *
            go_wp2_with fail
            go_roundg (n - (q + 1 + 1))
            case measure => omega
            case rel => exact ⟨q + 1 + 1, rfl, by go_num, by omega, by omega, HB3⟩
    · obtain rfl : p = n := by omega
      rw [unhide HSA]
      go_wp2_with fail
      go_ret
      exact ⟨by simp, unhide HB⟩
end Go.Proofs.Ytjflnpcpnoccjaa

namespace Go.Proofs.Ytjflnpcpnoccjaa
open Go.RowKit

theorem pl_put (t : List Nat) (i : Nat) : (fun j => if j = t.getD i 0 then Value.int .i64 ((i : Int) + 1) else iv (pl t i) j) = iv (pl t (i + 1)) := by
  funext j
  show (if j = t.getD i 0 then Value.int .i64 ((i : Int) + 1) else .int .i64 (pl t i j)) = .int .i64 (if j = t.getD i 0 then ((i + 1 : Nat) : Int) else pl t i j)
  by_cases e : j = t.getD i 0
  · rw [if_pos e, if_pos e]
    rfl
  · rw [if_neg e, if_neg e]
set_option maxRecDepth 100000 in
set_option maxHeartbeats 8000000 in
theorem ordered_any (N : Nat) (ln : Nat → Nat) (L : Nat → Nat → Int) (kn : Bool) (na : Option Addr) (nc : Nat) (w : World) (hN : N ≤ 1048576) (hln : ∀ k, k < N → ln k ≤ 1048576) (hr : rgt N ln L = true) (hR : Rr w na N ln L) (hk : kn = true ↔ (od N ln L).length < N) :
    Calls Try.prog 39 #[.slice na N nc, .bool kn] w fun x w' => x = .returned (.bool true) ∧ Below w.heap.size w w' := by
  have cT := hide (fun (W : World) (h : Below w.heap.size w W) => twin_any N ln L na nc W (by omega) (fun k hk => by have := hln k hk; omega) (hR.later h))
  have cO := hide (fun (W : World) (ga : Option Addr) (gc : Nat) (h1 : Rr W ga N ln L) => Order_any (nc := gc) hN hln h1)
  cases kn with
  | true =>
    have hlt := hk.1 rfl
    rw [show orN N ln L = 0 from by unfold orN; rw [if_pos hr, if_pos hlt], show orE N ln L = 121 from by unfold orE; rw [if_pos hr, if_pos hlt]] at cO
    clear hk hR hln hr hlt
    go_enter Try.func39, Try.ntmps39
    go_wp2_with (first | (go_at_call 10; refine (unhide cT _ (Below.refl _ _)).mono ?_; rintro x1 w1 ⟨B, cB, g, cp, rfl, htw, hb⟩; have T1 := hide htw.rr; have B1 := hide hb; clear htw hb) | (go_at_call 29; refine (unhide cO _ _ _ (unhide T1)).mono ?_; rintro x2 w2 ⟨ga, gg, gc, rfl, ha, hb⟩; have B2 := hide (bl_t (unhide B1) hb); clear ha hb))
    go_ret
    exact ⟨rfl, unhide B2⟩
  | false =>
    have hge : ¬ (od N ln L).length < N := fun q => by have := hk.2 q; cases this
    have htd := (od_td N ln L).1
    have hlen : (od N ln L).length = N := by have := htd.len; omega
    rw [show orN N ln L = N from by unfold orN; rw [if_pos hr, if_neg hge], show orE N ln L = 0 from by unfold orE; rw [if_pos hr, if_neg hge]] at cO
    have HNW := hide (fun (i : Nat) (hi : i < N) => pl_new htd.nd (show i < (od N ln L).length by omega))
    have HOL := hide (fun (i : Nat) (hi : i < N) => show (od N ln L).getD i 0 < N from by
      have e : (od N ln L).getD i 0 = (od N ln L)[i]'(by omega) := by simp [show i < (od N ln L).length by omega]
      rw [e]
      exact htd.lt _ (List.getElem_mem _))
    have HED := hide (fun (u i : Nat) (hu : u < N) (hi : i < ln u) => show ∃ v : Nat, v < N ∧ L u i = (v : Int) ∧ pl (od N ln L) N v < pl (od N ln L) N u from by
      obtain ⟨v, hv, e⟩ := rgt_at hr hu hi
      exact ⟨v, hv, e, pl_edge hlen ⟨hu, i, hi, e⟩⟩)
    have HOV := hide (show oV N ln L = fun j => (((od N ln L).getD j 0 : Nat) : Int) from rfl)
    have mk := makeI N (by omega)
    have HR := hide hR
    have HLN := hide hln
    clear hk hge htd hlen hr hR hln
    rw [unhide HOV] at cO
    generalize od N ln L = t at *
    clear HOV
    go_enter Try.func39, Try.ntmps39
    go_upto_region 7 with (first | (go_at_call 10; refine (unhide cT _ (Below.refl _ _)).mono ?_; rintro x1 w1 ⟨B, cB, g, cp, rfl, htw, hb⟩; have T1 := hide htw.rr; have B1 := hide hb; clear htw hb) | (go_at_call 29; refine (unhide cO _ _ _ (unhide T1)).mono ?_; rintro x2 w2 ⟨ga, gg, gc, rfl, ha, hb⟩; have A2 := hide ha.ri; have B2 := hide (bl_t (unhide B1) hb); clear ha hb))
    have HM0 := hide (show Mv w2.heap.size N 3 (iv (pl t 0)) (w2.alloc (.cells (madeCells #[.int .i64 0] N) 3)) from ⟨_, heap_new _ _, fun k hk => by rw [made_at _ _ _ hk]; rfl⟩)
    have HBM := hide (al w2 (.cells (madeCells #[.int .i64 0] N) 3))
    obtain ⟨gm, hgm⟩ : ∃ x, x = w2.heap.size := ⟨_, rfl⟩
    rw [← hgm] at HM0
    have HGM := hide (show w2.heap.size ≤ gm from by omega)
    obtain ⟨W6, hW6⟩ : ∃ x, x = w2.alloc (.cells (madeCells #[.int .i64 0] N) 3) := ⟨_, rfl⟩
    rw [← hW6] at HM0 HBM
    rw [← hgm]
    try rw [← hW6]
    clear hgm hW6 mk cT cO T1 B1
    go_wp2_with fail
    go_loopg [8] N (fun g1 vi wr => ∃ i : Nat, vi = .int .i64 i ∧ i ≤ N ∧ N - i ≤ g1 ∧ Hid (Mv gm N 3 (iv (pl t i)) wr) ∧ Hid (Below w2.heap.size w2 wr))
    case atStart => exact ⟨0, by go_num, by omega, by omega, HM0, HBM⟩
    case round =>
      clear HM0 HBM
      obtain ⟨i, rfl, hi, hg1, HM, HBM⟩ := hrel
      by_cases hlt : i < N
      · have hx := unhide HOL i hlt
        obtain ⟨b1, o1, e1, _, c1⟩ := (Ri.later (unhide A2) (unhide HBM)).at hlt
        unfold iv at c1
        dsimp only at c1
        obtain ⟨cm, fm⟩ := (unhide HM).cell hx
        unfold iv at cm
        rw [unhide HNW i hlt] at cm
        have q1 : IntKind.i64.wrap ((i : Int) + 1) = (i : Int) + 1 := IntWalk.i64_in _ (by omega)
        have HM2 := hide (show Mv gm N 3 (iv (pl t (i + 1))) (wr.setCell ⟨gm, t.getD i 0, none⟩ (.int .i64 ((i : Int) + 1))) from by
          rw [← pl_put]
          exact (unhide HM).set hx _)
        have HB2 := hide ((unhide HBM).setCell (p := ⟨gm, t.getD i 0, none⟩) (unhide HGM) (.int .i64 ((i : Int) + 1)))
        have z2 : (i : Int) < (N : Int) := by omega
        have z3 : ¬ ((t.getD i 0 : Nat) : Int) < 0 := by omega
        have z4 : ¬ (N : Int) ≤ ((t.getD i 0 : Nat) : Int) := by omega
        have z7 : ((t.getD i 0 : Nat) : Int) < (N : Int) := by omega
        clear HM HBM
        subst e1
        generalize t.getD i 0 = x at *
        go_wp2_with fail
        go_roundg (N - (i + 1))
        case measure => omega
        case rel => exact ⟨i + 1, by go_num, by omega, by omega, HM2, HB2⟩
      · obtain rfl : i = N := by omega
        have BW := hide (bl_t (unhide B2) (unhide HBM))
        clear A2 HBM
        obtain ⟨W9, hW9⟩ : ∃ x, x = wr := ⟨_, rfl⟩
        rw [← hW9] at HM BW
        go_wp2_with fail
        go_loopg [9, 10] i (fun g1 vu _ wr => ∃ u : Nat, vu = .int .i64 u ∧ u ≤ i ∧ i - u ≤ g1 ∧ Hid (Below W9.heap.size W9 wr))
        case atStart => exact ⟨0, by go_num, by omega, by omega, hide (by rw [hW9]; exact Below.refl _ _)⟩
        case round =>
          clear hW9
          obtain ⟨u, rfl, hu, hg2, HB⟩ := hrel
          by_cases hul : u < i
          · have hul2 : (u : Int) < (i : Int) := by omega
            obtain ⟨bb, oo, ca, cc, e1, hrow⟩ := (unhide HR).row hul
            have HROW := hide hrow
            have hlu := unhide HLN u hul
            clear hrow
            go_wp2_with fail
            go_loopg [10] (ln u) (fun g2 vj wr => ∃ j : Nat, vj = .int .i64 j ∧ j ≤ ln u ∧ ln u - j ≤ g2 ∧ Hid (Below W9.heap.size W9 wr))
            case atStart => exact ⟨0, by go_num, by omega, by omega, HB⟩
            case round =>
              clear HB
              obtain ⟨j, rfl, hj, hg3, HB⟩ := hrel
              obtain ⟨cr, hri⟩ := unhide HROW wr (bl_t (unhide BW) (unhide HB))
              by_cases hjl : j < ln u
              · obtain ⟨b1, o1, e2, _, c1⟩ := hri.at hjl
                unfold iv at c1
                obtain ⟨v, hv, ev, hpl⟩ := unhide HED u j hul hjl
                rw [ev] at c1
                have cv := ((unhide HM).later (unhide HB)).cell hv
                have cu := ((unhide HM).later (unhide HB)).cell hul
                have cv1 := cv.1
                have cu1 := cu.1
                unfold iv at cv1 cu1
                have z1 : ¬ pl t i u ≤ pl t i v := by omega
                have z2 : decide (pl t i u ≤ pl t i v) = false := decide_eq_false z1
                have z3 : (j : Int) < (ln u : Int) := by omega
                have z4 : (v : Int) < (i : Int) := by omega
                have HB2 := hide (fun t => bl_t (unhide HB) (bl_drewN wr t))
                subst e1
                subst e2
                clear hri HB cv cu ev hpl
                generalize pl t i u = y1 at *
                generalize pl t i v = y2 at *
                generalize ln u = m at *
                go_wp2_with fail
                go_quiet (fail)
                have HB3 := hide (unhide HB2 nq)
                clear HB2 c1 cr cv1 cu1
                generalize wr.drewN nq = W2 at *
                go_wp2_with fail
                go_roundg (m - (j + 1))
                case measure => omega
                case rel => exact ⟨j + 1, by go_num, by omega, by omega, HB3⟩
              · have z3 : ¬ (j : Int) < (ln u : Int) := by omega
                subst e1
                clear hri
                generalize ln u = m at *
                go_wp2_with fail
                go_roundg (i - (u + 1))
                case measure => omega
                case rel => exact ⟨u + 1, by go_num, by omega, by omega, HB⟩
          · have hul2 : ¬ (u : Int) < (i : Int) := by omega
            go_wp2_with fail
            go_ret
            exact ⟨rfl, bl_t (unhide BW) (unhide HB)⟩
end Go.Proofs.Ytjflnpcpnoccjaa

namespace Go.Proofs.Ytjflnpcpnoccjaa
open Go.RowKit

theorem rb_rq (N : Nat) (ln : Nat → Nat) (L : Nat → Nat → Int) (u : Nat) : rb N ln L 1 (fun _ => (u : Int)) = rq N ln L u := by
  funext v
  refine b_eq ?_
  rw [rb_one, rq_iff, bne_iff_ne, dt_rch]
/-- What has been seen of knots. -/
def KnA (N : Nat) (ln : Nat → Nat) (L : Nat → Nat → Int) (u : Nat) : Prop := ∃ x, x < u ∧ Eg N ln L x x
def KnB (N : Nat) (ln : Nat → Nat) (L : Nat → Nat → Int) (u v : Nat) : Prop := KnA N ln L N ∨ ∃ x y, y < N ∧ (x < u ∨ (x = u ∧ y < v)) ∧ Mu N ln L x y ∧ x ≠ y
theorem kna_next {N : Nat} {ln : Nat → Nat} {L : Nat → Nat → Int} {u : Nat} {kn : Bool} (hu : u < N) (h : kn = true ↔ KnA N ln L u) : (kn || ebB (ln u) (L u) (u : Int)) = true ↔ KnA N ln L (u + 1) := by
  rw [Bool.or_eq_true, h, ebB_iff]
  constructor
  · rintro (⟨x, hx, e⟩ | q)
    · exact ⟨x, by omega, e⟩
    · exact ⟨u, by omega, hu, q⟩
  · rintro ⟨x, hx, e⟩
    by_cases q : x = u
    · subst q; exact .inr e.2
    · exact .inl ⟨x, by omega, e⟩
theorem knb_start {N : Nat} {ln : Nat → Nat} {L : Nat → Nat → Int} {kn : Bool} (h : kn = true ↔ KnA N ln L N) : kn = true ↔ KnB N ln L 0 0 := by
  rw [h]
  constructor
  · exact .inl
  · rintro (q | ⟨x, y, _, q, _⟩)
    · exact q
    · omega
theorem knb_row {N : Nat} {ln : Nat → Nat} {L : Nat → Nat → Int} {u : Nat} {kn : Bool} (h : kn = true ↔ KnB N ln L u N) : kn = true ↔ KnB N ln L (u + 1) 0 := by
  rw [h]
  constructor
  · rintro (q | ⟨x, y, hy, q, r⟩)
    · exact .inl q
    · exact .inr ⟨x, y, hy, .inl (by omega), r⟩
  · rintro (q | ⟨x, y, hy, q, r⟩)
    · exact .inl q
    · exact .inr ⟨x, y, hy, by omega, r⟩
theorem knb_next {N : Nat} {ln : Nat → Nat} {L : Nat → Nat → Int} {u v : Nat} {kn : Bool} (hv : v < N) (h : kn = true ↔ KnB N ln L u v) : (kn || ((rq N ln L u v && rq N ln L v u) && ((u : Int) != (v : Int)))) = true ↔ KnB N ln L u (v + 1) := by
  rw [Bool.or_eq_true, h, Bool.and_eq_true, Bool.and_eq_true, rq_iff, rq_iff, bne_iff_ne]
  constructor
  · rintro ((q | ⟨x, y, hy, q, r⟩) | ⟨q, r⟩)
    · exact .inl q
    · exact .inr ⟨x, y, hy, by omega, r⟩
    · exact .inr ⟨u, v, hv, by omega, q, by omega⟩
  · rintro (q | ⟨x, y, hy, q, r⟩)
    · exact .inl (.inl q)
    · by_cases e : x = u ∧ y = v
      · obtain ⟨rfl, rfl⟩ := e
        exact .inr ⟨r.1, by have := r.2; omega⟩
      · exact .inl (.inr ⟨x, y, hy, by omega, r⟩)
theorem knb_end {N : Nat} {ln : Nat → Nat} {L : Nat → Nat → Int} (hr : rgt N ln L = true) {kn : Bool} (h : kn = true ↔ KnB N ln L N 0) : kn = true ↔ (od N ln L).length < N := by
  rw [h, ← knot_iff hr]
  constructor
  · rintro (q | ⟨x, y, hy, q, r⟩)
    · exact .inl q
    · exact .inr ⟨x, y, by omega, hy, r⟩
  · rintro (q | ⟨x, y, hx, hy, r⟩)
    · exact .inl q
    · exact .inr ⟨x, y, hy, .inl hx, r⟩
set_option maxRecDepth 100000 in
set_option maxHeartbeats 16000000 in
set_option linter.unusedSimpArgs false in
theorem knots_walk (N : Nat) (ln : Nat → Nat) (L : Nat → Nat → Int) (na : Option Addr) (nc : Nat) (w : World) (hN : N ≤ 1048576) (hln : ∀ k, k < N → ln k ≤ 1048576) (hR : Rr w na N ln L) :
    Calls Try.prog 8 #[.slice na N nc] w fun x w' => x = .returned (.bool true) ∧ Below w.heap.size w w' := by
  obtain ⟨iT, hiT, ht0, ht1, ht2⟩ := info_parts infoT
  have cT := hide (fun (W : World) (h : Below w.heap.size w W) => twin_any N ln L na nc W (by omega) (fun k hk => by have := hln k hk; omega) (hR.later h))
  have cRt := hide (fun (W : World) (h : Below w.heap.size w W) => lright_any N ln L na nc W (by omega) (fun k hk => by have := hln k hk; omega) (hR.later h))
  have cO := hide (fun (W : World) (ga : Option Addr) (gc : Nat) (h1 : Rr W ga N ln L) => PartOf_L (nc := gc) hN hln h1)
  have cP := hide (fun (W : World) (ga : Option Addr) (gc : Nat) (h1 : Rr W ga N ln L) => Parts_L (nc := gc) hN hln h1)
  cases hr : rgt N ln L with
  | false =>
    rw [hr] at cRt
    rw [show poN N ln L = 0 from if_neg (by rw [hr]; simp), show ptE N ln L = 120 from if_neg (by rw [hr]; simp)] at cO
    rw [show ptN N ln L = 0 from if_neg (by rw [hr]; simp), show ptE N ln L = 120 from if_neg (by rw [hr]; simp)] at cP
    clear hr hR hln
    go_enter Try.func8, Try.ntmps8
    have G1 := hide trivial
    go_wp2_with (first | (go_at_call 25; refine (lives_any _).mono ?_; rintro x0 w0 ⟨rfl, hb⟩; have B0 := hide hb; clear hb) | (go_at_call 10; have _u := G1; clear _u G1; refine (unhide cT _ (unhide B0)).mono ?_; rintro x1 w1 ⟨B, cB, g, cp, rfl, htw, hb⟩; have T1 := hide htw.rr; have B1 := hide (bl_t (unhide B0) hb); clear htw hb) | (go_at_call 32; refine (unhide cO _ _ _ (unhide T1)).mono ?_; rintro x2 w2 ⟨ga, gg, rfl, ha, hb⟩; have B2 := hide (bl_t (unhide B1) hb); clear ha hb) | (go_at_call 10; refine (unhide cT _ (unhide B2)).mono ?_; rintro x3 w3 ⟨B, cB, g, cp, rfl, htw, hb⟩; have T3 := hide htw.rr; have B3 := hide (bl_t (unhide B2) hb); clear htw hb) | (go_at_call 30; refine (unhide cP _ _ _ (unhide T3)).mono ?_; rintro x4 w4 ⟨gp, rfl, ha, hb⟩; have B4 := hide (bl_t (unhide B3) hb); clear ha hb) | (go_at_call 28; refine (unhide cRt _ (unhide B4)).mono ?_; rintro x5 w5 ⟨rfl, hw⟩; rw [hw]; clear hw w5))
    go_ret
    exact ⟨rfl, unhide B4⟩
  | true =>
    rw [hr] at cRt
    rw [show poN N ln L = N from if_pos hr, show ptE N ln L = 0 from if_pos hr] at cO
    rw [show ptN N ln L = pc N ln L from if_pos hr, show ptE N ln L = 0 from if_pos hr] at cP
    have cE := hide (fun (W : World) (h : Below w.heap.size w W) (u : Nat) (hu : u < N) => ledge_any N ln L u (u : Int) na nc W hu (by omega) (by have := hln u hu; omega) (hR.later h))
    have cRe := hide (fun (W : World) (ga : Option Addr) (gc : Nat) (u : Nat) (hu : u < N) (h1 : Rr W ga N ln L) => show Calls Try.prog 13 #[.slice ga N gc, .slice (some ⟨W.heap.size, 0, none⟩) 1 1] (W.alloc (.cells #[.int .i64 (u : Int)] 3)) (fun x w' => ∃ b, x = .returned (.tuple #[.slice (some ⟨b, 0, none⟩) N N, .int .i64 0]) ∧ (W.heap.size ≤ b ∧ b < w'.heap.size ∧ ∀ j, j < N → w'.cell? ⟨b, 0 + j, none⟩ = some (bv (rq N ln L u) j)) ∧ Below W.heap.size W w') from by
      have h := Reach_any (nc := gc) (pc := 1) (q := 1) (fs := fun _ => (u : Int)) hN hln (by omega) (h1.later (al W (.cells #[.int .i64 (u : Int)] 3))) (ri_one (heap_new W (.cells #[.int .i64 (u : Int)] 3)))
      have hro : reO N ln L 1 (fun _ => (u : Int)) = true := by
        unfold reO
        rw [hr, Bool.true_and, bAll_iff]
        exact fun _ _ => (nd_iff _ _).2 (show (0 : Int) ≤ (u : Int) ∧ (u : Int) < (N : Int) from by omega)
      rw [show reN N ln L 1 (fun _ => (u : Int)) = N from if_pos hro, show reE N ln L 1 (fun _ => (u : Int)) = 0 from if_pos hro, rb_rq] at h
      refine h.mono fun x w' ⟨ga2, g2, e, ha, hb⟩ => ?_
      rcases ha with ⟨_, q⟩ | ⟨rfl, q1, q2⟩
      · omega
      · refine ⟨g2, e, ⟨?_, q2.lt, fun j hj => ?_⟩, bl_t (al W _) hb⟩
        · rw [World.size_alloc] at q1; omega
        · rw [Nat.zero_add]; exact (q2.cell hj).1)
    have cPl := hide (fun (W : World) (pa oa : Option Addr) (h1 : Rr W pa (pc N ln L) (lnL (ptL (pn N ln L) N)) (LL (ptL (pn N ln L) N))) (h2 : Ri W oa N (fun j => (pn N ln L j : Int))) => placed_any N ln L pa oa (pc N ln L) N W hN h1 h2)
    have cOr := hide (fun (W : World) (kn : Bool) (h1 : Below w.heap.size w W) (h2 : kn = true ↔ KnB N ln L N 0) => ordered_any N ln L kn na nc W hN hln hr (hR.later h1) (knb_end hr h2))
    have HPM := hide (fun u v => pn_mu (N := N) (ln := ln) (L := L) u v)
    have HUU := hide (fun u => (rq_iff N ln L u u).2 (Rch.refl _ _))
    have hpc : pc N ln L ≤ N := nds_le _ N
    clear hr hR hln
    generalize hgl : ptL (pn N ln L) N = pl1 at *
    generalize hgc : pc N ln L = pc1 at *
    clear hgl hgc
    go_enter Try.func8, Try.ntmps8
    have G1 := hide trivial
    go_upto_region 9 with (first | (go_at_call 25; refine (lives_any _).mono ?_; rintro x0 w0 ⟨rfl, hb⟩; have B0 := hide hb; clear hb) | (go_at_call 10; have _u := G1; clear _u G1; refine (unhide cT _ (unhide B0)).mono ?_; rintro x1 w1 ⟨B, cB, g, cp, rfl, htw, hb⟩; have T1 := hide htw.rr; have B1 := hide (bl_t (unhide B0) hb); clear htw hb) | (go_at_call 32; refine (unhide cO _ _ _ (unhide T1)).mono ?_; rintro x2 w2 ⟨ga, gg, rfl, ha, hb⟩; have A2 := hide ha.ri; have B2 := hide (bl_t (unhide B1) hb); clear ha hb) | (go_at_call 10; refine (unhide cT _ (unhide B2)).mono ?_; rintro x3 w3 ⟨B, cB, g, cp, rfl, htw, hb⟩; have T3 := hide htw.rr; have A3 := hide (Ri.later (unhide A2) hb); have B3 := hide (bl_t (unhide B2) hb); clear htw hb) | (go_at_call 30; refine (unhide cP _ _ _ (unhide T3)).mono ?_; rintro x4 w4 ⟨gp, rfl, ha, hb⟩; have P4 := hide ha.rr; have A4 := hide (Ri.later (unhide A3) hb); have B4 := hide (bl_t (unhide B3) hb); clear ha hb) | (go_at_call 28; refine (unhide cRt _ (unhide B4)).mono ?_; rintro x5 w5 ⟨rfl, hw⟩; rw [hw]; clear hw w5))
    have HA0 := hide (Al.start N (rq N ln L) w4)
    have HK0 := hide (show false = true ↔ KnA N ln L 0 from ⟨fun h => absurd h (by decide), fun ⟨x, hx, _⟩ => absurd hx (Nat.not_lt_zero _)⟩)
    clear T1 A2 B0 B1 B2 T3 A3 B3 cO cP cRt
    go_wp2_with fail
    go_loopg [7, 8, 9, 10, 11] N (fun g1 vk vl_ vi _ _ wr => ∃ (u : Nat) (kn : Bool) (va : Option Addr) (vc : Nat), vk = .bool kn ∧ vi = .int .i64 u ∧ vl_ = .slice va u vc ∧ u ≤ N ∧ N - u ≤ g1 ∧ Hid (Al N (rq N ln L) w4 u va vc wr) ∧ Hid (kn = true ↔ KnA N ln L u))
    case atStart => exact ⟨0, false, none, 0, rfl, by go_num, rfl, by omega, by omega, HA0, HK0⟩
    case round =>
      clear HA0 HK0
      obtain ⟨u, kn, va, vc, rfl, rfl, rfl, hu, hg1, ⟨ra, rc, hA⟩, HK⟩ := hrel
      have HA := hide hA
      clear hA
      by_cases hlt : u < N
      · have hlt2 : (u : Int) < (N : Int) := by omega
        have BW := hide (bl_t (unhide B4) (unhide HA).2.2)
        have cT1 := hide (unhide cT _ (unhide BW))
        have HOW := hide (show ∀ b, (Value.slice va u vc).ownBlock = some b → b < wr.heap.size from fun b e => ((unhide HA).1.lt b e).2)
        have HUU1 := hide (unhide HUU u)
        have HK1 := hide (kna_next hlt (unhide HK))
        have HN2 := hide (fun (w6 w7 : World) (b : Nat) (h6 : Below wr.heap.size wr w6) (h1 : w6.heap.size ≤ b ∧ b < w7.heap.size ∧ ∀ j, j < N → w7.cell? ⟨b, 0 + j, none⟩ = some (bv (rq N ln L u) j)) (h2 : Below w6.heap.size w6 w7) => show Hid (AlR N (rq N ln L) w4 u va vc w7 ra rc) ∧ Hid (b < w7.heap.size ∧ (Value.slice va u vc).ownBlock ≠ some b ∧ ∀ j, j < N → w7.cell? ⟨b, 0 + j, none⟩ = some (bv (rq N ln L u) j)) from by
          refine ⟨hide ((unhide HA).later (bl_t h6 h2)), h1.2.1, fun q => ?_, h1.2.2⟩
          have := unhide HOW b q
          have := h6.size
          omega)
        have cE1 := hide (fun (W : World) (h : Below w.heap.size w W) => unhide cE W h u hlt)
        generalize ebB (ln u) (L u) (u : Int) = eb at *
        have HBW := hide (fun (w6 w7 : World) (h6 : Below wr.heap.size wr w6) (h2 : Below w6.heap.size w6 w7) => bl_t (unhide BW) (bl_t h6 h2))
        clear HK HA HOW BW
        cases kn with
        | true =>
          go_wp2_with (first | (go_at_call 10; refine (unhide cT1).mono ?_; rintro x6 w6 ⟨B, cB, g, cp, rfl, htw, hb⟩; have T6 := hide htw.rr; have B6 := hide hb; clear htw hb) | (go_at_call 13; refine (unhide cRe _ _ _ u hlt (unhide T6)).mono ?_; rintro x7 w7 ⟨b, rfl, q1, q2⟩; obtain ⟨HA2, HB2⟩ := unhide HN2 w6 w7 b (unhide B6) q1 q2; have B7 := hide (unhide HBW w6 w7 (unhide B6) q2); clear q1 q2; have cu := (unhide HB2).2.2 u hlt; unfold bv at cu; rw [Nat.zero_add, unhide HUU1] at cu; have HA3 := hide ((unhide HA2).later (al w7 (.cells #[.slice (some ⟨b, 0, none⟩) N N] 26))); have HSW := hide (show w4.heap.size ≤ (w7.alloc (.cells #[.slice (some ⟨b, 0, none⟩) N N] 26)).heap.size from (unhide HA3).2.2.size)) | (at_builtin; go_must (refine wpList_append_lies _ rfl _ _ 54 rfl w4.heap.size 26 iT (.slice none 0 0) 1 24 Try.underlying54 hiT ht0 ht1 ht2 rfl (by decide) (.slice va u vc) u (vl u fun i => .slice (ra i) N (rc i)) rfl (unhide HA3).1 ⟨w7.heap.size, 0, none⟩ 1 1 [.slice (some ⟨b, 0, none⟩) N N] rfl rfl (cell_one_new _ _ _) (by simp [Value.oneCell']) (by decide) (by unfold maxLen; omega) (by omega) (unhide HSW) _ rfl ?_); intro gg9 c9 w9 hown hgrow hat _; have HA9 := hide (AlR.next (unhide HA3) (by have := (unhide HB2).1; rw [World.size_alloc]; omega) (unhide HB2).2.1 (fun j hj => ((al w7 _).cell (p := ⟨b, 0 + j, none⟩) (unhide HB2).1).trans ((unhide HB2).2.2 j hj)) hown hgrow (hat.imp id fun e => by rw [e]; exact Nat.le_refl _)); clear hown hgrow hat))
          go_roundg (N - (u + 1))
          case measure => omega
          case rel => exact ⟨u + 1, true, _, c9, rfl, by go_num, rfl, by omega, by omega, HA9, HK1⟩
        | false =>
          go_wp2_with (first | (go_at_call 10; refine (unhide cT1).mono ?_; rintro x6 w6 ⟨B, cB, g, cp, rfl, htw, hb⟩; have T6 := hide htw.rr; have B6 := hide hb; clear htw hb) | (go_at_call 13; refine (unhide cRe _ _ _ u hlt (unhide T6)).mono ?_; rintro x7 w7 ⟨b, rfl, q1, q2⟩; obtain ⟨HA2, HB2⟩ := unhide HN2 w6 w7 b (unhide B6) q1 q2; have B7 := hide (unhide HBW w6 w7 (unhide B6) q2); clear q1 q2; have cu := (unhide HB2).2.2 u hlt; unfold bv at cu; rw [Nat.zero_add, unhide HUU1] at cu; have HA3 := hide ((unhide HA2).later (al w7 (.cells #[.slice (some ⟨b, 0, none⟩) N N] 26))); have HSW := hide (show w4.heap.size ≤ (w7.alloc (.cells #[.slice (some ⟨b, 0, none⟩) N N] 26)).heap.size from (unhide HA3).2.2.size)) | (at_builtin; go_must (refine wpList_append_lies _ rfl _ _ 54 rfl w4.heap.size 26 iT (.slice none 0 0) 1 24 Try.underlying54 hiT ht0 ht1 ht2 rfl (by decide) (.slice va u vc) u (vl u fun i => .slice (ra i) N (rc i)) rfl (unhide HA3).1 ⟨w7.heap.size, 0, none⟩ 1 1 [.slice (some ⟨b, 0, none⟩) N N] rfl rfl (cell_one_new _ _ _) (by simp [Value.oneCell']) (by decide) (by unfold maxLen; omega) (by omega) (unhide HSW) _ rfl ?_); intro gg9 c9 w9 hown hgrow hat _; have HA9 := hide (AlR.next (unhide HA3) (by have := (unhide HB2).1; rw [World.size_alloc]; omega) (unhide HB2).2.1 (fun j hj => ((al w7 _).cell (p := ⟨b, 0 + j, none⟩) (unhide HB2).1).trans ((unhide HB2).2.2 j hj)) hown hgrow (hat.imp id fun e => by rw [e]; exact Nat.le_refl _)); have B9 := hide (bl_t (unhide B4) (unhide HA9).choose_spec.choose_spec.2.2); clear hown hgrow hat) | (go_at_call 37; refine (unhide cE1 _ (unhide B9)).mono ?_; rintro x8 w8 ⟨rfl, hw⟩; rw [hw]; clear hw w8))
          go_roundg (N - (u + 1))
          case measure => omega
          case rel => exact ⟨u + 1, eb, _, c9, rfl, by go_num, rfl, by omega, by omega, HA9, HK1⟩
      · obtain rfl : u = N := by omega
        have hb4 := (unhide HA).2.2
        have RB := hide (Al.rb ⟨ra, rc, unhide HA⟩)
        have BW := hide (bl_t (unhide B4) hb4)
        have PW := hide ((unhide P4).later hb4)
        have AW := hide (Ri.later (unhide A4) hb4)
        have HK2 := hide (knb_start (unhide HK))
        clear HK HA hb4 P4 A4 B4 cT cE cRe HUU
        obtain ⟨W9, hW9⟩ : ∃ x, x = wr := ⟨_, rfl⟩
        rw [← hW9] at RB BW PW AW
        go_wp2_with fail
        go_loopg [7, 12, 13, 14] u (fun g1 vk va_ _ _ wr => ∃ (a : Nat) (kn : Bool), vk = .bool kn ∧ va_ = .int .i64 a ∧ a ≤ u ∧ u - a ≤ g1 ∧ Hid (Below W9.heap.size W9 wr) ∧ Hid (kn = true ↔ KnB u ln L a 0))
        case atStart => exact ⟨0, kn, rfl, by go_num, by omega, by omega, hide (by rw [hW9]; exact Below.refl _ _), HK2⟩
        case round =>
          clear hW9 HK2
          obtain ⟨a, kn, rfl, rfl, ha, hg2, HB, HK⟩ := hrel
          by_cases hal : a < u
          · have hal2 : (a : Int) < (u : Int) := by omega
            go_wp2_with fail
            go_loopg [7, 13, 14] u (fun g2 vk vb_ _ wr => ∃ (b : Nat) (kn : Bool), vk = .bool kn ∧ vb_ = .int .i64 b ∧ b ≤ u ∧ u - b ≤ g2 ∧ Hid (Below W9.heap.size W9 wr) ∧ Hid (kn = true ↔ KnB u ln L a b))
            case atStart => exact ⟨0, kn, rfl, by go_num, by omega, by omega, HB, HK⟩
            case round =>
              clear HB HK
              obtain ⟨b, kn, rfl, rfl, hb, hg3, HB, HK⟩ := hrel
              by_cases hbl : b < u
              · have hbl2 : (b : Int) < (u : Int) := by omega
                obtain ⟨r1, s1, ca1, cc1, e1, hr1⟩ := (unhide RB).row hal
                obtain ⟨r2, s2, ca2, cc2, e2, hr2⟩ := (unhide RB).row hbl
                rw [e1] at e2
                injection e2 with e2
                injection e2 with e2 e3 _
                subst e2
                subst e3
                obtain ⟨cr1, ht1⟩ := hr1 wr (unhide HB)
                obtain ⟨cr2, ht2⟩ := hr2 wr (unhide HB)
                obtain ⟨b1, o1, e4, _, c1⟩ := ht1.at hbl
                obtain ⟨b2, o2, e5, _, c2⟩ := ht2.at hal
                obtain ⟨b3, o3, e6, _, c3⟩ := (Ri.later (unhide AW) (unhide HB)).at hal
                obtain ⟨b4, o4, e7, _, c4⟩ := (Ri.later (unhide AW) (unhide HB)).at hbl
                rw [e6] at e7
                injection e7 with e7
                injection e7 with e7 e8 _
                subst e7
                subst e8
                unfold bv at c1 c2
                unfold iv at c3 c4
                dsimp only at c3 c4
                have hpm := unhide HPM a b
                have HK2 := hide (knb_next hbl (unhide HK))
                have HB2 := hide (fun t => bl_t (unhide HB) (bl_drewN wr t))
                subst e1
                subst e4
                subst e5
                subst e6
                clear hr1 hr2 ht1 ht2 HB HK
                generalize rq u ln L a b = y1 at *
                generalize rq u ln L b a = y2 at *
                generalize pn u ln L a = p1 at *
                generalize pn u ln L b = p2 at *
                generalize hd : ((a : Int) != (b : Int)) = d at *
                cases kn <;> cases y1 <;> cases y2 <;> cases d
                all_goals (try (simp only [Bool.and_true, Bool.and_false, Bool.true_and, Bool.false_and] at hpm))
                all_goals go_wp2_with fail
                all_goals go_quiet (fail)
                all_goals have HB3 := hide (unhide HB2 nq)
                all_goals clear HB2 c1 c2 c3 c4 cr1 cr2
                all_goals generalize wr.drewN nq = W2 at *
                all_goals go_wp2_with fail
                all_goals go_roundg (u - (b + 1))
                case measure => omega
                all_goals first | omega | exact ⟨b + 1, _, rfl, by go_num, by omega, by omega, HB3, HK2⟩
              · have hbl2 : ¬ (b : Int) < (u : Int) := by omega
                obtain rfl : b = u := by omega
                have HK2 := hide (knb_row (unhide HK))
                go_wp2_with fail
                go_roundg (b - (a + 1))
                case measure => omega
                case rel => exact ⟨a + 1, kn, rfl, by go_num, by omega, by omega, HB, HK2⟩
          · have hal2 : ¬ (a : Int) < (u : Int) := by omega
            obtain rfl : a = u := by omega
            have PW2 := hide ((unhide PW).later (unhide HB))
            have AW2 := hide (Ri.later (unhide AW) (unhide HB))
            have BW2 := hide (bl_t (unhide BW) (unhide HB))
            clear PW AW BW HB RB
            go_wp2_with (first | (go_at_call 38; refine (unhide cPl _ _ _ (unhide PW2) (unhide AW2)).mono ?_; rintro x6 w6 ⟨rfl, hb⟩; have B6 := hide (bl_t (unhide BW2) hb); clear hb) | (go_at_call 39; refine (unhide cOr _ _ (unhide B6) (unhide HK)).mono ?_; rintro x7 w7 ⟨rfl, hb⟩; have B7 := hide (bl_t (unhide B6) hb); clear hb))
            go_ret
            exact ⟨rfl, unhide B7⟩
end Go.Proofs.Ytjflnpcpnoccjaa

