import Derived.Test.YtabjbppekijfiaaDcA
namespace Go.Proofs.Ytabjbppekijfiaa
open Go.RowKit

/-- ONE STEP OF A PASS. -/
def sp (n : Nat) (ln : Nat → Nat) (L : Nat → Nat → Int) (B : Nat) (a : List Int) (x : Int) : List Int := if vd n ln L B (wo a x) = 2 then wo a x else a
theorem take_snoc (q : List Int) {k : Nat} (hk : k < q.length) : q.take (k + 1) = q.take k ++ [q.getD k 0] := by
  rw [List.take_add_one, List.getElem?_eq_getElem hk]
  simp [hk]
theorem ps_fold (n : Nat) (ln : Nat → Nat) (L : Nat → Nat → Int) (B : Nat) (q : List Int) : ∀ k, k ≤ q.length → ps n ln L B q k = (q.take k).foldl (sp n ln L B) q
  | 0, _ => by simp [ps]
  | k + 1, hk => by
    have ih := ps_fold n ln L B q k (by omega)
    rw [take_snoc q (by omega), List.foldl_append, ← ih]
    rfl
theorem ps_all (n : Nat) (ln : Nat → Nat) (L : Nat → Nat → Int) (B : Nat) (q : List Int) : ps n ln L B q q.length = q.foldl (sp n ln L B) q := by
  rw [ps_fold n ln L B q q.length (Nat.le_refl _), List.take_length]
theorem wo_none {a : List Int} {x : Int} (h : x ∉ a) : wo a x = a := by
  unfold wo
  exact List.filter_eq_self.2 fun y hy => by
    have : y ≠ x := fun e => h (e ▸ hy)
    simpa using this
theorem sp_sub {n : Nat} {ln : Nat → Nat} {L : Nat → Nat → Int} {B : Nat} {a : List Int} {x y : Int} (h : y ∈ sp n ln L B a x) : y ∈ a := by
  unfold sp at h
  split at h
  · exact (wo_mem.1 h).1
  · exact h
theorem sp_len (n : Nat) (ln : Nat → Nat) (L : Nat → Nat → Int) (B : Nat) (a : List Int) (x : Int) : (sp n ln L B a x).length ≤ a.length := by
  unfold sp
  split
  · exact List.length_filter_le _ _
  · exact Nat.le_refl _
/-- Those that aren't there change nothing. -/
theorem fold_filter (n : Nat) (ln : Nat → Nat) (L : Nat → Nat → Int) (B : Nat) (q : List Int) : ∀ (r a : List Int), (∀ y ∈ a, y ∈ q) → r.foldl (sp n ln L B) a = (r.filter (fun x => decide (x ∈ q))).foldl (sp n ln L B) a
  | [], a, _ => rfl
  | x :: r, a, h => by
    by_cases hx : x ∈ q
    · rw [List.filter_cons_of_pos (by simpa using hx)]
      exact fold_filter n ln L B q r _ fun y hy => h y (sp_sub hy)
    · rw [List.filter_cons_of_neg (by simpa using hx), List.foldl_cons]
      have : sp n ln L B a x = a := by
        unfold sp
        rw [wo_none fun e => hx (h x e)]
        split <;> rfl
      rw [this]
      exact fold_filter n ln L B q r a h
theorem rise_ext : ∀ (a b : List Int), a.Pairwise (· < ·) → b.Pairwise (· < ·) → (∀ x, x ∈ a ↔ x ∈ b) → a = b
  | [], [], _, _, _ => rfl
  | [], y :: b, _, _, h => absurd ((h y).2 List.mem_cons_self) List.not_mem_nil
  | x :: a, [], _, _, h => absurd ((h x).1 List.mem_cons_self) List.not_mem_nil
  | x :: a, y :: b, ha, hb, h => by
    rw [List.pairwise_cons] at ha hb
    have e : x = y := by
      have h1 := (h x).1 List.mem_cons_self
      have h2 := (h y).2 List.mem_cons_self
      rw [List.mem_cons] at h1 h2
      rcases h1 with e | e
      · exact e
      · rcases h2 with e2 | e2
        · exact e2.symm
        · have := hb.1 x e
          have := ha.1 y e2
          omega
    subst e
    congr 1
    refine rise_ext a b ha.2 hb.2 fun z => ⟨fun hz => ?_, fun hz => ?_⟩
    · have := (h z).1 (List.mem_cons_of_mem _ hz)
      rw [List.mem_cons] at this
      rcases this with e | e
      · have := ha.1 z hz
        omega
      · exact e
    · have := (h z).2 (List.mem_cons_of_mem _ hz)
      rw [List.mem_cons] at this
      rcases this with e | e
      · have := hb.1 z hz
        omega
      · exact e
theorem p0_rise (N : Nat) : (p0 N).Pairwise (· < ·) := by
  unfold p0
  rw [List.pairwise_map]
  exact List.pairwise_lt_range.imp (fun h => by omega)
theorem p0_mem {N : Nat} {x : Int} : x ∈ p0 N ↔ 0 ≤ x ∧ x < (N : Int) := by
  unfold p0
  rw [List.mem_map]
  constructor
  · rintro ⟨j, hj, rfl⟩
    have := List.mem_range.1 hj
    omega
  · rintro ⟨h1, h2⟩
    exact ⟨x.toNat, List.mem_range.2 (by omega), by omega⟩
/-- A PASS, NUMBER BY NUMBER. -/
def on (n : Nat) (ln : Nat → Nat) (L : Nat → Nat → Int) (B : Nat) (q : List Int) : Nat → List Int
  | 0 => q
  | i + 1 => sp n ln L B (on n ln L B q i) (i : Int)
theorem on_fold (n : Nat) (ln : Nat → Nat) (L : Nat → Nat → Int) (B : Nat) (q : List Int) : ∀ i, on n ln L B q i = (p0 i).foldl (sp n ln L B) q
  | 0 => rfl
  | i + 1 => by
    have e : p0 (i + 1) = p0 i ++ [(i : Int)] := by simp [p0, List.range_succ]
    rw [e, List.foldl_append, ← on_fold n ln L B q i]
    rfl
theorem on_ps {n N : Nat} {ln : Nat → Nat} {L : Nat → Nat → Int} {B : Nat} {q : List Int} (hr : q.Pairwise (· < ·)) (hi : ∀ x ∈ q, 0 ≤ x ∧ x < (N : Int)) : on n ln L B q N = ps n ln L B q q.length := by
  rw [on_fold, ps_all, fold_filter n ln L B q (p0 N) q fun y hy => hy]
  congr 1
  refine rise_ext _ _ ((p0_rise N).filter _) hr fun x => ?_
  rw [List.mem_filter, p0_mem]
  constructor
  · rintro ⟨_, h⟩
    simpa using h
  · intro h
    exact ⟨hi x h, by simpa using h⟩
theorem on_sub {n : Nat} {ln : Nat → Nat} {L : Nat → Nat → Int} {B : Nat} {q : List Int} : ∀ i x, x ∈ on n ln L B q i → x ∈ q
  | 0, _, h => h
  | i + 1, x, h => on_sub i x (sp_sub h)
theorem on_len {n : Nat} {ln : Nat → Nat} {L : Nat → Nat → Int} {B : Nat} {q : List Int} : ∀ i, (on n ln L B q i).length ≤ q.length
  | 0 => Nat.le_refl _
  | i + 1 => Nat.le_trans (sp_len _ _ _ _ _ _) (on_len i)
/-- The verdict of the clauses with these numbers. -/
theorem an_vd {n : Nat} {B : Int} {N : Nat} {ln : Nat → Nat} {L : Nat → Nat → Int} (hp : prob n B N ln L 0 nof = true) {p : List Int} (hi : ∀ x ∈ p, 0 ≤ x ∧ x < (N : Int)) : (an n B p.length (fun j => ln (p.getD j 0).toNat) (fun j => L (p.getD j 0).toNat) 0 nof).v = vd n ln L B.toNat p := by
  unfold an
  rw [if_pos (PP_prob hp hi)]
  rfl
end Go.Proofs.Ytabjbppekijfiaa
