import Derived.Test.YtiibobjbcgbknaaDoorSbP
namespace Go.Proofs.YtiibobjbcgbknaaDoor
open Go

theorem extL_end (k : Nat) (s : Bs) (f : Fd) : ∀ p : List Fd, extL k s (p ++ [f]) = p ++ [⟨f.nm, f.ls ++ [Lib.trimRightS (s.drop 1) bl2], f.ns ++ [k]⟩]
  | [] => rfl
  | [g] => rfl
  | g :: h :: r => by
    have ih := extL_end k s f (h :: r)
    show g :: extL k s ((h :: r) ++ [f]) = _
    rw [ih]
    rfl
theorem stp_ok {all : List (List Fd)} {p q : List Fd} {k : Nat} {s : Bs} (h0 : kd s ≠ 0) (h : takeP p k s = (0, q)) : stp ⟨all, p, none⟩ (k, s) = ⟨all, q, none⟩ := by
  simp [stp, h0, h]

theorem fur_run (all : List (List Fd)) (p : List Fd) (nm : Bs) : ∀ (r ls : List Bs) (ns : List Nat) (k : Nat), r.all furL = true →
    ∃ ns', (numb k (r.map fun l => 32 :: l)).foldl stp ⟨all, p ++ [⟨nm, ls, ns⟩], none⟩ = ⟨all, p ++ [⟨nm, ls ++ r, ns'⟩], none⟩
  | [], ls, ns, k, _ => ⟨ns, by simp [numb]⟩
  | l :: r, ls, ns, k, h => by
    simp only [List.all_cons, Bool.and_eq_true] at h
    obtain ⟨h0, h1, h2, _⟩ := fur_read (p ++ [⟨nm, ls, ns⟩]) k l h.1 (by simp)
    rw [extL_end] at h1
    simp only [List.drop_succ_cons, List.drop_zero, h2] at h1
    obtain ⟨ns', hr⟩ := fur_run all p nm r (ls ++ [l]) (ns ++ [k]) (k + 1) h.2
    refine ⟨ns', ?_⟩
    show (numb (k + 1) (r.map fun l => 32 :: l)).foldl stp (stp _ (k, 32 :: l)) = _
    rw [stp_ok h0 h1, hr, List.append_assoc]
    rfl
theorem fld_run (all : List (List Fd)) (p : List Fd) (f : Fd) (k : Nat) (hf : okF f = true) (hh : hasN p f.nm = false) :
    ∃ ns', (numb k (linF f)).foldl stp ⟨all, p, none⟩ = ⟨all, p ++ [⟨f.nm, f.ls, ns'⟩], none⟩ := by
  obtain ⟨nm, ls, ns⟩ := f
  simp only [okF, Bool.and_eq_true] at hf
  cases ls with
  | nil => exact absurd hf.2 (by simp)
  | cons a r =>
    simp only [Bool.and_eq_true] at hf
    obtain ⟨h0, h1, _⟩ := head_read p k nm a hf.1 hf.2.1 hh
    obtain ⟨ns', hr⟩ := fur_run all p nm r [a] [k] (k + 1) hf.2.2
    refine ⟨ns', ?_⟩
    show (numb (k + 1) (r.map fun l => 32 :: l)).foldl stp (stp _ (k, headL nm a)) = _
    rw [stp_ok h0 h1, hr]
    rfl
theorem hasN_app (p q : List Fd) (n : Bs) : hasN (p ++ q) n = (hasN p n || hasN q n) := by simp [hasN]
theorem hasN_false {p : List Fd} {n : Bs} : hasN p n = false ↔ ∀ f ∈ p, small f.nm ≠ small n := by
  simp [hasN]
theorem par_run (all : List (List Fd)) : ∀ (p q : List Fd) (k : Nat), p.all okF = true → apartN p = true → (∀ f ∈ p, hasN q f.nm = false) →
    ∃ q', (numb k (p.flatMap linF)).foldl stp ⟨all, q, none⟩ = ⟨all, q', none⟩ ∧ q'.map er = q.map er ++ p.map er
  | [], q, k, _, _, _ => ⟨q, rfl, by simp⟩
  | f :: r, q, k, h1, h2, h3 => by
    simp only [List.all_cons, Bool.and_eq_true] at h1
    simp only [apartN, Bool.and_eq_true, Bool.not_eq_true'] at h2
    obtain ⟨ns', hf⟩ := fld_run all q f k h1.1 (h3 f List.mem_cons_self)
    obtain ⟨q', hq1, hq2⟩ := par_run all r (q ++ [⟨f.nm, f.ls, ns'⟩]) (k + (linF f).length) h1.2 h2.2 (fun g hg => by
      rw [hasN_app, h3 g (List.mem_cons_of_mem _ hg), Bool.false_or]
      have := hasN_false.1 h2.1 g hg
      rw [hasN_false]
      intro f2 hf2
      rw [List.mem_singleton.1 hf2]
      exact fun e => this e.symm)
    refine ⟨q', ?_, ?_⟩
    · rw [List.flatMap_cons, numb_app, List.foldl_append, hf, hq1]
    · rw [hq2, List.map_append, List.append_assoc]
      rfl
def lnR : List (List Fd) → List Bs
  | [] => []
  | p :: r => [] :: (p.flatMap linF ++ lnR r)
def lnT : List (List Fd) → List Bs
  | [] => []
  | p :: r => p.flatMap linF ++ lnR r
theorem parT_lines (p : List Fd) : parT p = (p.flatMap linF).flatMap fun l => l ++ [10] := by
  unfold parT
  rw [List.flatMap_assoc]
  rfl
theorem prR_lines : ∀ ps, prR ps = (lnR ps).flatMap fun l => l ++ [10]
  | [] => rfl
  | p :: r => by
    show 10 :: (parT p ++ prR r) = ([] :: (p.flatMap linF ++ lnR r)).flatMap fun l => l ++ [10]
    rw [List.flatMap_cons, List.flatMap_append, parT_lines, prR_lines r]
    rfl
theorem prT_lines : ∀ ps, prT ps = (lnT ps).flatMap fun l => l ++ [10]
  | [] => rfl
  | p :: r => by
    show parT p ++ prR r = (p.flatMap linF ++ lnR r).flatMap fun l => l ++ [10]
    rw [List.flatMap_append, parT_lines, prR_lines r]
theorem lines_flat : ∀ (L : List Bs), (∀ l ∈ L, (10 : UInt8) ∉ l) → linesL (L.flatMap fun l => l ++ [10]) = L
  | [], _ => rfl
  | l :: L, h => by
    rw [List.flatMap_cons, List.append_assoc]
    show linesL (l ++ 10 :: L.flatMap fun l => l ++ [10]) = _
    rw [linesL_app _ _ (h l List.mem_cons_self), lines_flat L (fun x hx => h x (List.mem_cons_of_mem _ hx))]
theorem okP_parts {p : List Fd} (h : okP p = true) : p.all okF = true ∧ p ≠ [] ∧ apartN p = true := by
  simpa [okP] using h
theorem linF_no (f : Fd) (hf : okF f = true) : ∀ l ∈ linF f, (10 : UInt8) ∉ l := by
  obtain ⟨nm, ls, ns⟩ := f
  simp only [okF, Bool.and_eq_true] at hf
  cases ls with
  | nil => exact absurd hf.2 (by simp)
  | cons a r =>
    simp only [Bool.and_eq_true] at hf
    intro l hl
    rcases List.mem_cons.1 hl with rfl | hl
    · exact (head_read [] 0 nm a hf.1 hf.2.1 rfl).2.2
    · obtain ⟨x, hx, rfl⟩ := List.mem_map.1 hl
      exact (fur_read [⟨nm, [], []⟩] 0 x (List.all_eq_true.1 hf.2.2 x hx) (by simp)).2.2.2
theorem par_no (p : List Fd) (hp : p.all okF = true) : ∀ l ∈ p.flatMap linF, (10 : UInt8) ∉ l := by
  intro l hl
  obtain ⟨f, hf, hl⟩ := List.mem_flatMap.1 hl
  exact linF_no f (List.all_eq_true.1 hp f hf) l hl
theorem lnR_no : ∀ ps : List (List Fd), (∀ p ∈ ps, okP p = true) → ∀ l ∈ lnR ps, (10 : UInt8) ∉ l
  | [], _, l, hl => by cases hl
  | p :: r, h, l, hl => by
    rcases List.mem_cons.1 hl with rfl | hl
    · simp
    · rcases List.mem_append.1 hl with hl | hl
      · exact par_no p (okP_parts (h p List.mem_cons_self)).1 l hl
      · exact lnR_no r (fun q hq => h q (List.mem_cons_of_mem _ hq)) l hl
theorem lnT_no (ps : List (List Fd)) (h : ∀ p ∈ ps, okP p = true) : ∀ l ∈ lnT ps, (10 : UInt8) ∉ l := by
  cases ps with
  | nil => intro l hl; cases hl
  | cons p r =>
    intro l hl
    rcases List.mem_append.1 hl with hl | hl
    · exact par_no p (okP_parts (h p List.mem_cons_self)).1 l hl
    · exact lnR_no r (fun q hq => h q (List.mem_cons_of_mem _ hq)) l hl
theorem rest_run : ∀ (ps all : List (List Fd)) (q : List Fd) (k : Nat), (∀ p ∈ ps, okP p = true) → q ≠ [] →
    ∃ all' q', (numb k (lnR ps)).foldl stp ⟨all, q, none⟩ = ⟨all', q', none⟩ ∧ q' ≠ [] ∧ (all' ++ [q']).map (List.map er) = (all ++ [q]).map (List.map er) ++ ps.map (List.map er)
  | [], all, q, k, _, hq => ⟨all, q, rfl, hq, by simp⟩
  | p :: r, all, q, k, h, hq => by
    obtain ⟨h1, h2, h3⟩ := okP_parts (h p List.mem_cons_self)
    obtain ⟨q1, e1, e2⟩ := par_run (all ++ [q]) p [] (k + 1) h1 h3 (fun _ _ => rfl)
    have hq1 : q1 ≠ [] := fun e => by
      subst e
      cases p with
      | nil => exact h2 rfl
      | cons x y => simp at e2
    obtain ⟨all', q', f1, f2, f3⟩ := rest_run r (all ++ [q]) q1 (k + 1 + (p.flatMap linF).length) (fun x hx => h x (List.mem_cons_of_mem _ hx)) hq1
    refine ⟨all', q', ?_, f2, ?_⟩
    · show (numb (k + 1) (p.flatMap linF ++ lnR r)).foldl stp (stp ⟨all, q, none⟩ (k, [])) = _
      have hs : stp ⟨all, q, none⟩ (k, []) = ⟨all ++ [q], [], none⟩ := by
        have hk : kd [] = 0 := rfl
        have hl : ¬ q.length = 0 := by simpa using hq
        simp [stp, hk, shut, hq]
      rw [hs, numb_app, List.foldl_append, e1, f1]
    · rw [f3, List.map_append, List.map_cons, List.map_nil, List.append_assoc]
      rw [e2]
      simp
/-- WHAT IS PRINTED IS READ AS THE SAME. -/
theorem parse_print (ps : List (List Fd)) (h : ∀ p ∈ ps, okP p = true) : (parseT (prT ps)).err = none ∧ (shut (parseT (prT ps))).map (List.map er) = ps.map (List.map er) := by
  unfold parseT runL
  rw [prT_lines, lines_flat _ (lnT_no ps h)]
  cases ps with
  | nil => exact ⟨rfl, rfl⟩
  | cons p r =>
    obtain ⟨h1, h2, h3⟩ := okP_parts (h p List.mem_cons_self)
    obtain ⟨q1, e1, e2⟩ := par_run [] p [] 1 h1 h3 (fun _ _ => rfl)
    have hq1 : q1 ≠ [] := fun e => by
      subst e
      cases p with
      | nil => exact h2 rfl
      | cons x y => simp at e2
    obtain ⟨all', q', f1, f2, f3⟩ := rest_run r [] q1 (1 + (p.flatMap linF).length) (fun x hx => h x (List.mem_cons_of_mem _ hx)) hq1
    show ((numb 1 (p.flatMap linF ++ lnR r)).foldl stp ⟨[], [], none⟩).err = none ∧ _
    have hrun : (numb 1 (p.flatMap linF ++ lnR r)).foldl stp ⟨[], [], none⟩ = ⟨all', q', none⟩ := by
      rw [numb_app, List.foldl_append, e1, f1]
    rw [show (numb 1 (lnT (p :: r))).foldl stp st0 = _ from hrun, hrun]
    refine ⟨rfl, ?_⟩
    unfold shut
    rw [if_neg (by simpa using f2), f3, List.map_cons]
    simp [e2]

def fldE (e : Bs × List Bs) : Bs := fldT ⟨e.1, e.2, []⟩
theorem parT_er (p : List Fd) : parT p = (p.map er).flatMap fldE := by
  unfold parT
  rw [List.flatMap_map]
  rfl
theorem prR_er : ∀ (ps qs : List (List Fd)), ps.map (List.map er) = qs.map (List.map er) → prR ps = prR qs
  | [], [], _ => rfl
  | [], _ :: _, h => by simp at h
  | _ :: _, [], h => by simp at h
  | p :: r, q :: s, h => by
    simp only [List.map_cons, List.cons.injEq] at h
    show 10 :: (parT p ++ prR r) = 10 :: (parT q ++ prR s)
    rw [parT_er, parT_er, h.1, prR_er r s h.2]
theorem prT_er : ∀ (ps qs : List (List Fd)), ps.map (List.map er) = qs.map (List.map er) → prT ps = prT qs
  | [], [], _ => rfl
  | [], _ :: _, h => by simp at h
  | _ :: _, [], h => by simp at h
  | p :: r, q :: s, h => by
    simp only [List.map_cons, List.cons.injEq] at h
    show parT p ++ prR r = parT q ++ prR s
    rw [parT_er, parT_er, h.1, prR_er r s h.2]

end Go.Proofs.YtiibobjbcgbknaaDoor
