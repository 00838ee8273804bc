import Derived.Test.YtjflnpcpnoccjaaGrW
import Derived.Test.YtjflnpcpnoccjaaHmA
namespace Go.Proofs.Ytjflnpcpnoccjaa
open Go.RowKit

/-! The order of a graph, pure. -/
open Classical in
noncomputable def unt (N : Nat) (ln : Nat → Nat) (L : Nat → Nat → Int) (t : List Nat) (x v : Nat) : Bool := decide (Eg N ln L x v ∧ v ∉ t)
open Classical in
theorem unt_iff {N : Nat} {ln : Nat → Nat} {L : Nat → Nat → Int} {t : List Nat} {x v : Nat} : unt N ln L t x v = true ↔ Eg N ln L x v ∧ v ∉ t := by
  unfold unt
  exact decide_eq_true_iff
/-- How many needs of x have not been told. -/
noncomputable def wc (N : Nat) (ln : Nat → Nat) (L : Nat → Nat → Int) (t : List Nat) (x : Nat) : Nat := (List.range N).countP (unt N ln L t x)
def rdy (N : Nat) (ln : Nat → Nat) (L : Nat → Nat → Int) (t : List Nat) (x : Nat) : Prop := x < N ∧ x ∉ t ∧ ∀ v, Eg N ln L x v → v ∈ t
/-- The least that is ready. -/
def Lst (N : Nat) (ln : Nat → Nat) (L : Nat → Nat → Int) (t : List Nat) (u : Nat) : Prop := rdy N ln L t u ∧ ∀ x, rdy N ln L t x → u ≤ x
open Classical in
noncomputable def nxt (N : Nat) (ln : Nat → Nat) (L : Nat → Nat → Int) (t : List Nat) : Option Nat := if h : ∃ u, Lst N ln L t u then some h.choose else none
theorem nxt_some {N : Nat} {ln : Nat → Nat} {L : Nat → Nat → Int} {t : List Nat} {u : Nat} (h : Lst N ln L t u) : nxt N ln L t = some u := by
  have hx : ∃ u, Lst N ln L t u := ⟨u, h⟩
  unfold nxt
  rw [dif_pos hx]
  have h2 := hx.choose_spec
  have a := h.2 _ h2.1
  have b := h2.2 _ h.1
  congr 1
  omega
theorem nxt_none {N : Nat} {ln : Nat → Nat} {L : Nat → Nat → Int} {t : List Nat} (h : ∀ x, ¬ rdy N ln L t x) : nxt N ln L t = none := by
  unfold nxt
  rw [dif_neg]
  rintro ⟨u, hu⟩
  exact h u hu.1
noncomputable def ordL (N : Nat) (ln : Nat → Nat) (L : Nat → Nat → Int) : Nat → List Nat → List Nat
  | 0, t => t
  | k + 1, t => match nxt N ln L t with
    | none => t
    | some u => ordL N ln L k (t ++ [u])
noncomputable def od (N : Nat) (ln : Nat → Nat) (L : Nat → Nat → Int) : List Nat := ordL N ln L N []
theorem ordL_none {N : Nat} {ln : Nat → Nat} {L : Nat → Nat → Int} {t : List Nat} (h : ∀ x, ¬ rdy N ln L t x) (k : Nat) : ordL N ln L k t = t := by
  cases k with
  | zero => rfl
  | succ k => show (match nxt N ln L t with | none => t | some u => ordL N ln L k (t ++ [u])) = t; rw [nxt_none h]
theorem ordL_some {N : Nat} {ln : Nat → Nat} {L : Nat → Nat → Int} {t : List Nat} {u : Nat} (h : Lst N ln L t u) (k : Nat) : ordL N ln L (k + 1) t = ordL N ln L k (t ++ [u]) := by
  show (match nxt N ln L t with | none => t | some u => ordL N ln L k (t ++ [u])) = _
  rw [nxt_some h]
/-- WHAT HAS BEEN TOLD. -/
structure Td (N : Nat) (ln : Nat → Nat) (L : Nat → Nat → Int) (t : List Nat) : Prop where
  nd : t.Nodup
  lt : ∀ x ∈ t, x < N
  cl : ∀ x ∈ t, ∀ v, Eg N ln L x v → v ∈ t
  run : ordL N ln L (N - t.length) t = od N ln L
theorem Td.start (N : Nat) (ln : Nat → Nat) (L : Nat → Nat → Int) : Td N ln L [] := ⟨List.nodup_nil, fun _ h => absurd h List.not_mem_nil, fun _ h => absurd h List.not_mem_nil, rfl⟩
theorem nodup_len : ∀ (N : Nat) (t : List Nat), t.Nodup → (∀ x ∈ t, x < N) → t.length ≤ N
  | 0, [], _, _ => Nat.le_refl _
  | 0, x :: t, _, h => absurd (h x List.mem_cons_self) (Nat.not_lt_zero _)
  | N + 1, t, hn, h => by
    have h1 := nodup_len N (t.erase N) (hn.erase N) fun x hx => by
      have h2 := h x (List.mem_of_mem_erase hx)
      have h3 : x ≠ N := fun e => by
        subst e
        exact (hn.not_mem_erase) hx
      omega
    by_cases e : N ∈ t
    · rw [List.length_erase_of_mem e] at h1
      omega
    · rw [List.erase_of_not_mem e] at h1
      omega
theorem Td.len {N : Nat} {ln : Nat → Nat} {L : Nat → Nat → Int} {t : List Nat} (h : Td N ln L t) : t.length ≤ N := nodup_len N t h.nd h.lt
theorem Td.next {N : Nat} {ln : Nat → Nat} {L : Nat → Nat → Int} {t : List Nat} {u : Nat} (h : Td N ln L t) (hu : Lst N ln L t u) : Td N ln L (t ++ [u]) ∧ t.length < N := by
  have hnd : (t ++ [u]).Nodup := by
    rw [List.nodup_append]
    refine ⟨h.nd, List.nodup_cons.2 ⟨List.not_mem_nil, List.nodup_nil⟩, fun a ha b hb e => ?_⟩
    rw [List.mem_singleton.1 hb] at e
    subst e
    exact hu.1.2.1 ha
  have hlt : ∀ x ∈ t ++ [u], x < N := fun x hx => by
    rcases List.mem_append.1 hx with q | q
    · exact h.lt x q
    · rw [List.mem_singleton.1 q]; exact hu.1.1
  have hl := nodup_len N _ hnd hlt
  rw [List.length_append] at hl
  simp only [List.length_cons, List.length_nil] at hl
  refine ⟨⟨hnd, hlt, fun x hx v hv => ?_, ?_⟩, by omega⟩
  · rcases List.mem_append.1 hx with q | q
    · exact List.mem_append_left _ (h.cl x q v hv)
    · rw [List.mem_singleton.1 q] at hv
      exact List.mem_append_left _ (hu.1.2.2 v hv)
  · rw [← h.run, List.length_append, List.length_cons, List.length_nil]
    rw [show N - t.length = (N - (t.length + (0 + 1))) + 1 by omega, ordL_some hu]
theorem Td.end {N : Nat} {ln : Nat → Nat} {L : Nat → Nat → Int} {t : List Nat} (h : Td N ln L t) (hn : ∀ x, ¬ rdy N ln L t x) : od N ln L = t := by
  rw [← h.run, ordL_none hn]
theorem Td.full {N : Nat} {ln : Nat → Nat} {L : Nat → Nat → Int} {t : List Nat} (h : Td N ln L t) (hn : t.length = N) : od N ln L = t := by
  rw [← h.run, hn, Nat.sub_self]
  rfl
/-! Counting. -/
theorem cnt_one {p q : Nat → Bool} {u : Nat} (h : ∀ v, v ≠ u → p v = q v) (hp : p u = true) (hq : q u = false) : ∀ n, (List.range n).countP p = (List.range n).countP q + if u < n then 1 else 0
  | 0 => rfl
  | n + 1 => by
    rw [List.range_succ, List.countP_append, List.countP_append, cnt_one h hp hq n]
    by_cases e : n = u
    · subst e
      simp [hp, hq]
    · rw [show List.countP p [n] = List.countP q [n] from by simp [List.countP_cons, h n e]]
      by_cases e2 : u < n
      · rw [if_pos e2, if_pos (by omega)]; omega
      · rw [if_neg e2, if_neg (by omega)]; omega
theorem wc_zero {N : Nat} {ln : Nat → Nat} {L : Nat → Nat → Int} (hr : rgt N ln L = true) {t : List Nat} {x : Nat} : wc N ln L t x = 0 ↔ ∀ v, Eg N ln L x v → v ∈ t := by
  unfold wc
  rw [List.countP_eq_zero]
  constructor
  · intro h v hv
    have hvN : v < N := by
      obtain ⟨hx, i, hi, e⟩ := hv
      obtain ⟨v2, h2, e2⟩ := rgt_at hr hx hi
      omega
    have := h v (List.mem_range.2 hvN)
    exact Classical.byContradiction fun q => this (unt_iff.2 ⟨hv, q⟩)
  · intro h v _ q
    have q2 := unt_iff.1 q
    exact q2.2 (h v q2.1)
theorem wc_le (N : Nat) (ln : Nat → Nat) (L : Nat → Nat → Int) (t : List Nat) (x : Nat) : wc N ln L t x ≤ N := by
  unfold wc
  exact Nat.le_trans List.countP_le_length (by rw [List.length_range]; exact Nat.le_refl _)
theorem wc_step {N : Nat} {ln : Nat → Nat} {L : Nat → Nat → Int} {t : List Nat} {u x : Nat} (hu : u < N) (hnu : u ∉ t) (he : Eg N ln L x u) : wc N ln L t x = wc N ln L (t ++ [u]) x + 1 := by
  unfold wc
  have h := cnt_one (p := unt N ln L t x) (q := unt N ln L (t ++ [u]) x) (u := u) (fun v hv => b_eq (by
    rw [unt_iff, unt_iff]
    have e : v ∉ t ++ [u] ↔ v ∉ t := by simp [hv]
    rw [e])) (unt_iff.2 ⟨he, hnu⟩) (by
    cases q : unt N ln L (t ++ [u]) x u with
    | false => rfl
    | true => exact absurd (unt_iff.1 q).2 (by simp)) N
  rw [if_pos hu] at h
  exact h
theorem wc_same {N : Nat} {ln : Nat → Nat} {L : Nat → Nat → Int} {t : List Nat} {u x : Nat} (he : ¬ Eg N ln L x u) : wc N ln L (t ++ [u]) x = wc N ln L t x := by
  unfold wc
  congr 1
  funext v
  refine b_eq ?_
  rw [unt_iff, unt_iff]
  by_cases e : v = u
  · subst e
    simp [he]
  · have e2 : v ∉ t ++ [u] ↔ v ∉ t := by simp [e]
    rw [e2]
theorem rdy_iff {N : Nat} {ln : Nat → Nat} {L : Nat → Nat → Int} (hr : rgt N ln L = true) {t : List Nat} {x : Nat} : rdy N ln L t x ↔ x < N ∧ x ∉ t ∧ wc N ln L t x = 0 := by
  unfold rdy
  rw [wc_zero hr]
/-- Who is ready behind one more. -/
theorem rdy_next {N : Nat} {ln : Nat → Nat} {L : Nat → Nat → Int} (hr : rgt N ln L = true) {t : List Nat} {u : Nat} (h : Td N ln L t) (hu : Lst N ln L t u) (x : Nat) : rdy N ln L (t ++ [u]) x ↔ (rdy N ln L t x ∧ x ≠ u) ∨ (Eg N ln L x u ∧ wc N ln L (t ++ [u]) x = 0) := by
  have hnu := hu.1.2.1
  constructor
  · intro hx
    by_cases e : Eg N ln L x u
    · exact .inr ⟨e, (wc_zero hr).2 hx.2.2⟩
    · refine .inl ⟨(rdy_iff hr).2 ⟨hx.1, fun q => hx.2.1 (List.mem_append_left _ q), ?_⟩, fun q => hx.2.1 (by rw [q]; simp)⟩
      rw [← wc_same (u := u) e]
      exact (wc_zero hr).2 hx.2.2
  · rintro (⟨hx, hne⟩ | ⟨he, hz⟩)
    · refine ⟨hx.1, fun q => ?_, fun v hv => List.mem_append_left _ (hx.2.2 v hv)⟩
      rcases List.mem_append.1 q with q | q
      · exact hx.2.1 q
      · exact hne (List.mem_singleton.1 q)
    · refine ⟨he.1, fun q => ?_, (wc_zero hr).1 hz⟩
      rcases List.mem_append.1 q with q | q
      · exact hnu (h.cl x q u he)
      · rw [List.mem_singleton.1 q] at he
        exact hnu (hu.1.2.2 u he)
theorem not_user {N : Nat} {ln : Nat → Nat} {L : Nat → Nat → Int} {t : List Nat} {u x : Nat} (hu : Lst N ln L t u) (he : Eg N ln L x u) : ¬ rdy N ln L t x := fun h => hu.1.2.1 (h.2.2 u he)
/-! How often a node stands among the edges of the turned graph. -/
def cq {N : Nat} (x : Nat) (ps : List (Ky N)) : Nat := ps.countP fun p => p.1.2 == x
theorem cq_snoc {N : Nat} (x : Nat) (ps : List (Ky N)) (p : Ky N) : cq x (ps ++ [p]) = cq x ps + if p.1.2 = x then 1 else 0 := by
  unfold cq
  rw [List.countP_append]
  by_cases e : p.1.2 = x
  · simp [e]
  · simp [e]
theorem srt_cnt : ∀ {l : List Nat} (x : Nat), l.Pairwise (· < ·) → l.countP (fun y => y == x) = if x ∈ l then 1 else 0
  | [], x, _ => by simp
  | y :: l, x, h => by
    obtain ⟨h1, h2⟩ := List.pairwise_cons.1 h
    rw [List.countP_cons, srt_cnt x h2]
    by_cases e : y = x
    · subst e
      have : y ∉ l := fun q => Nat.lt_irrefl _ (h1 y q)
      simp [this]
    · have e2 : ¬ x = y := fun q => e q.symm
      simp [e, e2]
theorem row_cnt {N : Nat} {l : List Nat} (hl : ∀ x ∈ l, x < N) {v : Nat} (hv : v < 9007199254740992) (x : Nat) : ∀ k, k ≤ l.length → ((List.range k).filterMap (pk N (fun _ j => ((l.getD j 0 : Nat) : Int)) v)).countP (fun p => p.1.2 == x) = (l.take k).countP (fun y => y == x)
  | 0, _ => by simp
  | k + 1, hk => by
    have hkl : k < l.length := by omega
    rw [List.range_succ, List.filterMap_append, List.countP_append, row_cnt hl hv x k (by omega), List.take_add_one, List.countP_append]
    congr 1
    have e1 : l[k]? = some l[k] := List.getElem?_eq_getElem hkl
    have e2 : l.getD k 0 = l[k] := by simp [hkl]
    obtain ⟨hp, epk⟩ := pk_some (N := N) (L := fun _ j => ((l.getD j 0 : Nat) : Int)) (u := v) (i := k) (v := l[k]) hv (hl _ (List.getElem_mem hkl)) (by rw [e2])
    rw [e1, show List.filterMap (pk N (fun _ j => ((l.getD j 0 : Nat) : Int)) v) [k] = [⟨(v, l[k]), hp⟩] from by rw [List.filterMap_cons, epk]; rfl]
    simp [List.countP_cons]
theorem users_cnt {N : Nat} {ln : Nat → Nat} {L : Nat → Nat → Int} (hr : rgt N ln L = true) (hN : N ≤ 1048576) (x : Nat) : ∀ u, u ≤ N → ((List.range u).flatMap fun a => (List.range (twN N ln L a)).filterMap (pk N (twL N ln L) a)).countP (fun p => p.1.2 == x) = (List.range u).countP fun v => decide (x ∈ tw N ln L v)
  | 0, _ => by simp
  | u + 1, hu => by
    rw [List.range_succ, List.flatMap_append, List.countP_append, List.countP_append, users_cnt hr hN x u (by omega)]
    congr 1
    simp only [List.flatMap_cons, List.flatMap_nil, List.append_nil]
    have h1 := row_cnt (N := N) (l := tw N ln L u) (fun y hy => ((tw_mem hr hN y u).1 hy).1) (v := u) (by omega) x (tw N ln L u).length (Nat.le_refl _)
    rw [List.take_length, srt_cnt x (tw_srt N ln L u)] at h1
    have h2 : (List.range (twN N ln L u)).filterMap (pk N (twL N ln L) u) = (List.range (tw N ln L u).length).filterMap (pk N (fun _ j => (((tw N ln L u).getD j 0 : Nat) : Int)) u) := rfl
    rw [h2, h1]
    by_cases e : x ∈ tw N ln L u
    · simp [e]
    · simp [e]
theorem wait_cnt {N : Nat} {ln : Nat → Nat} {L : Nat → Nat → Int} (hr : rgt N ln L = true) (hN : N ≤ 1048576) (x : Nat) : cq x (uptE N (twN N ln L) (twL N ln L) N 0) = wc N ln L [] x := by
  unfold cq uptE wc
  rw [List.range_zero, List.filterMap_nil, List.append_nil, users_cnt hr hN x N (Nat.le_refl _)]
  congr 1
  funext v
  refine b_eq ?_
  rw [unt_iff, decide_eq_true_iff, tw_mem hr hN]
  simp
end Go.Proofs.Ytjflnpcpnoccjaa

namespace Go.Proofs.Ytjflnpcpnoccjaa
open Go.RowKit

noncomputable def wvk (N : Nat) (ln : Nat → Nat) (L : Nat → Nat → Int) (t : List Nat) (u k x : Nat) : Int := if x ∈ (tw N ln L u).take k then (wc N ln L (t ++ [u]) x : Int) else (wc N ln L t x : Int)
def Skq (N : Nat) (ln : Nat → Nat) (L : Nat → Nat → Int) (t : List Nat) (u k x : Nat) : Prop := (rdy N ln L t x ∧ x ≠ u) ∨ (x ∈ (tw N ln L u).take k ∧ wc N ln L (t ++ [u]) x = 0)
theorem take_not : ∀ {l : List Nat} {k x : Nat}, l.Pairwise (· < ·) → l[k]? = some x → x ∉ l.take k
  | [], k, x, _, h => by simp at h
  | y :: l, 0, x, _, _ => by simp
  | y :: l, k + 1, x, h, hx => by
    obtain ⟨h1, h2⟩ := List.pairwise_cons.1 h
    rw [List.getElem?_cons_succ] at hx
    rw [List.take_succ_cons]
    intro q
    rcases List.mem_cons.1 q with q | q
    · subst q
      exact Nat.lt_irrefl _ (h1 x (List.mem_of_getElem? hx))
    · exact take_not h2 hx q
theorem wvk_zero (N : Nat) (ln : Nat → Nat) (L : Nat → Nat → Int) (t : List Nat) (u : Nat) : wvk N ln L t u 0 = fun x => (wc N ln L t x : Int) := by
  funext x
  unfold wvk
  rw [List.take_zero, if_neg List.not_mem_nil]
theorem wvk_end {N : Nat} {ln : Nat → Nat} {L : Nat → Nat → Int} (hr : rgt N ln L = true) (hN : N ≤ 1048576) (t : List Nat) (u : Nat) : wvk N ln L t u (tw N ln L u).length = fun x => (wc N ln L (t ++ [u]) x : Int) := by
  funext x
  unfold wvk
  rw [List.take_length]
  by_cases e : x ∈ tw N ln L u
  · rw [if_pos e]
  · rw [if_neg e, wc_same fun q => e ((tw_mem hr hN x u).2 q)]
theorem wvk_at {N : Nat} {ln : Nat → Nat} {L : Nat → Nat → Int} (hr : rgt N ln L = true) (hN : N ≤ 1048576) {t : List Nat} {u k x : Nat} (hu : Lst N ln L t u) (hx : (tw N ln L u)[k]? = some x) : wvk N ln L t u k x = (wc N ln L (t ++ [u]) x : Int) + 1 := by
  unfold wvk
  rw [if_neg (take_not (tw_srt N ln L u) hx), wc_step hu.1.1 hu.1.2.1 ((tw_mem hr hN x u).1 (List.mem_of_getElem? hx))]
  omega
theorem wvk_next {N : Nat} {ln : Nat → Nat} {L : Nat → Nat → Int} {t : List Nat} {u k x : Nat} (hx : (tw N ln L u)[k]? = some x) : (fun j => if j = x then (wc N ln L (t ++ [u]) x : Int) else wvk N ln L t u k j) = wvk N ln L t u (k + 1) := by
  funext j
  unfold wvk
  rw [List.take_add_one, hx]
  by_cases e : j = x
  · subst e
    simp
  · simp [e]
theorem Skq_no {N : Nat} {ln : Nat → Nat} {L : Nat → Nat → Int} (hr : rgt N ln L = true) (hN : N ≤ 1048576) {t : List Nat} {u k x : Nat} (hu : Lst N ln L t u) (hx : (tw N ln L u)[k]? = some x) : ¬ Skq N ln L t u k x := by
  rintro (h | h)
  · exact not_user hu ((tw_mem hr hN x u).1 (List.mem_of_getElem? hx)) h.1
  · exact take_not (tw_srt N ln L u) hx h.1
theorem Skq_yes {N : Nat} {ln : Nat → Nat} {L : Nat → Nat → Int} {t : List Nat} {u k x : Nat} (hx : (tw N ln L u)[k]? = some x) (hz : wc N ln L (t ++ [u]) x = 0) (y : Nat) : (Skq N ln L t u k y ∨ y = x) ↔ Skq N ln L t u (k + 1) y := by
  unfold Skq
  rw [List.take_add_one, hx]
  simp only [Option.toList_some, List.mem_append, List.mem_singleton]
  constructor
  · rintro ((h | h) | h)
    · exact .inl h
    · exact .inr ⟨.inl h.1, h.2⟩
    · exact .inr ⟨.inr h, by rw [h]; exact hz⟩
  · rintro (h | ⟨h | h, h2⟩)
    · exact .inl (.inl h)
    · exact .inl (.inr ⟨h, h2⟩)
    · exact .inr h
theorem Skq_skip {N : Nat} {ln : Nat → Nat} {L : Nat → Nat → Int} {t : List Nat} {u k x : Nat} (hx : (tw N ln L u)[k]? = some x) (hz : wc N ln L (t ++ [u]) x ≠ 0) (y : Nat) : Skq N ln L t u k y ↔ Skq N ln L t u (k + 1) y := by
  unfold Skq
  rw [List.take_add_one, hx]
  simp only [Option.toList_some, List.mem_append, List.mem_singleton]
  constructor
  · rintro (h | h)
    · exact .inl h
    · exact .inr ⟨.inl h.1, h.2⟩
  · rintro (h | ⟨h | h, h2⟩)
    · exact .inl h
    · exact .inr ⟨h, h2⟩
    · rw [h] at h2; exact absurd h2 hz
theorem Skq_zero (N : Nat) (ln : Nat → Nat) (L : Nat → Nat → Int) (t : List Nat) (u x : Nat) : (rdy N ln L t x ∧ x ≠ u) ↔ Skq N ln L t u 0 x := by
  unfold Skq
  rw [List.take_zero]
  exact ⟨.inl, fun h => h.elim id fun q => absurd q.1 List.not_mem_nil⟩
theorem Skq_end {N : Nat} {ln : Nat → Nat} {L : Nat → Nat → Int} (hr : rgt N ln L = true) (hN : N ≤ 1048576) {t : List Nat} {u : Nat} (h : Td N ln L t) (hu : Lst N ln L t u) (x : Nat) : Skq N ln L t u (tw N ln L u).length x ↔ rdy N ln L (t ++ [u]) x := by
  unfold Skq
  rw [List.take_length, rdy_next hr h hu, tw_mem hr hN]
theorem Skq_lt {N : Nat} {ln : Nat → Nat} {L : Nat → Nat → Int} (hr : rgt N ln L = true) (hN : N ≤ 1048576) {t : List Nat} {u k x : Nat} (h : Skq N ln L t u k x) : x < N := by
  rcases h with h | h
  · exact h.1.1
  · exact ((tw_mem hr hN x u).1 (List.mem_of_mem_take h.1)).1
end Go.Proofs.Ytjflnpcpnoccjaa

