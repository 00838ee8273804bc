import Derived.Test.YtfembjjpmjfklaaDoorBackC
namespace Go.Proofs.YtfembjjpmjfklaaDoor
open Go.RowKit

/-! ### What is read may be -/
theorem readC_ok (s : ByteArray) (h : (readC s).2.2 = 0) : 1 ≤ (readC s).1 ∧ (readC s).1 ≤ 5 ∧ (parse (readC s).2.1).2 = 0 := by
  unfold readC at h ⊢
  by_cases h1 : (cutB s).2 = false
  · rw [if_pos h1] at h
    cases h
  · rw [if_neg h1] at h ⊢
    generalize (cutB s).1.extract 0 ((cutB s).1.size - (trimO (cutB s).1).size) = sgn at *
    by_cases h2 : (opOf sgn).2 = false
    · rw [if_pos h2] at h
      cases h
    · rw [if_neg h2] at h ⊢
      by_cases h3 : (parse (trimL (trimO (cutB s).1))).2 ≠ 0
      · rw [if_pos h3] at h
        cases h
      · rw [if_neg h3]
        have h4 : 1 ≤ (opOf sgn).1 ∧ (opOf sgn).1 ≤ 5 := by
          unfold opOf at h2 ⊢
          repeat' split
          all_goals first | (constructor <;> decide) | (exfalso; simp_all)
        exact ⟨h4.1, h4.2, by simpa using h3⟩

theorem ckAtom_of {n : ByteArray} {op : Int} {v : ByteArray} (h1 : okName n = true) (h2 : (op = 0 ∧ v = nob) ∨ (1 ≤ op ∧ op ≤ 5 ∧ (parse v).2 = 0)) : ckAtom n op v = 0 := by
  unfold ckAtom
  rw [if_neg (by simp [h1])]
  rcases h2 with ⟨rfl, rfl⟩ | ⟨a, b, c⟩
  · have hn : nob.toList.isEmpty = true := by rw [Lib.toList_data]; rfl
    rw [if_neg (by decide), if_neg (by simp [hn])]
  · rw [if_neg (by simp; omega), if_neg]
    have : (op == 0) = false := by simp; omega
    rw [this, c]
    simp

theorem parseA_ok (s : ByteArray) (h : (parseA s).2 = 0) : ckAtom (parseA s).1.n (parseA s).1.op (parseA s).1.v = 0 := by
  unfold parseA at h ⊢
  by_cases h1 : 16777216 < s.size
  · rw [if_pos h1] at h
    cases h
  · rw [if_neg h1] at h ⊢
    generalize cutN (trimB s) = nr at *
    by_cases h2 : okName nr.1 = false
    · rw [if_pos h2] at h
      cases h
    · rw [if_neg h2] at h ⊢
      have hok : okName nr.1 = true := by simpa using h2
      by_cases h3 : nr.2.size = 0
      · rw [if_pos h3]
        exact ckAtom_of hok (.inl ⟨rfl, rfl⟩)
      · rw [if_neg h3] at h ⊢
        by_cases h4 : (readC nr.2).2.2 ≠ 0
        · rw [if_pos h4] at h
          exact absurd h h4
        · rw [if_neg h4]
          exact ckAtom_of hok (.inr (readC_ok nr.2 (by simpa using h4)))

theorem errOf_zero (p : ByteArray → Int) : ∀ l : List ByteArray, errOf p l = 0 → ∀ a ∈ l, p a = 0
  | [], _, _, h => by cases h
  | t :: r, h, a, ha => by
    have h' : (if p t ≠ 0 then p t else errOf p r) = 0 := h
    by_cases ht : p t = 0
    · rw [if_neg (by simp [ht])] at h'
      rcases List.mem_cons.1 ha with rfl | ha
      · exact ht
      · exact errOf_zero p r h' a ha
    · rw [if_pos ht] at h'
      exact absurd h' ht
theorem rowE_ok (p : ByteArray → Int) (s : ByteArray) (c : UInt8) (most : Nat) (h : rowE p s c most = 0) : (pcs s c).length ≤ most ∧ ∀ t ∈ pcs s c, p t = 0 := by
  unfold rowE at h
  by_cases h1 : 16777216 < s.size
  · rw [if_pos h1] at h
    cases h
  · rw [if_neg h1] at h
    by_cases h2 : most < (pcs s c).length
    · rw [if_pos h2] at h
      cases h
    · rw [if_neg h2] at h
      exact ⟨by omega, errOf_zero p _ h⟩

/-- A CLAUSE, A FIELD THAT MAY BE. -/
def okC (al : List Am) : Prop := al ≠ [] ∧ al.length ≤ 256 ∧ ∀ a ∈ al, ckAtom a.n a.op a.v = 0
def okF (cl : List (List Am)) : Prop := cl.length ≤ 1024 ∧ ∀ al ∈ cl, okC al

theorem cl_ok (t : ByteArray) (h : clE t = 0) : okC (clL t) := by
  obtain ⟨h1, h2⟩ := rowE_ok _ _ _ _ h
  have hl := pcs_len t 124
  refine ⟨fun e => ?_, by unfold clL; rw [List.length_map]; exact h1, fun a ha => ?_⟩
  · have : (clL t).length = (pcs t 124).length := by unfold clL; rw [List.length_map]
    rw [e] at this
    simp at this
    omega
  · obtain ⟨x, hx, rfl⟩ := List.mem_map.1 ha
    exact parseA_ok x (h2 x hx)
theorem fd_ok (s : ByteArray) (h : fdE s = 0) : okF (fdL s) := by
  unfold fdE at h
  unfold fdL
  by_cases h1 : s.size ≤ 16777216 ∧ (trimB s).size = 0
  · rw [if_pos h1]
    exact ⟨Nat.zero_le _, fun al ha => by cases ha⟩
  · rw [if_neg h1] at h ⊢
    obtain ⟨h2, h3⟩ := rowE_ok _ _ _ _ h
    refine ⟨by rw [List.length_map]; exact h2, fun al ha => ?_⟩
    obtain ⟨x, hx, rfl⟩ := List.mem_map.1 ha
    exact cl_ok x (h3 x hx)

theorem printA_ok (a : Am) (h : ckAtom a.n a.op a.v = 0) : (printA a).2 = 0 ∧ (printA a).1.size ≤ 390 := by
  obtain ⟨z1, z2⟩ := ckAtom_sizes h
  unfold printA
  rw [if_neg (by simp [h])]
  by_cases h0 : a.op = 0
  · rw [if_pos h0]
    exact ⟨rfl, by show a.n.size ≤ 390; omega⟩
  · rw [if_neg h0]
    have z3 := sg_size a.op.toNat
    have e1 : (⟨#[32, 40]⟩ : ByteArray).size = 2 := rfl
    have e2 : (⟨#[32]⟩ : ByteArray).size = 1 := rfl
    have e3 : (⟨#[41]⟩ : ByteArray).size = 1 := rfl
    refine ⟨rfl, ?_⟩
    simp only [ByteArray.size_append]
    omega
theorem errG_all {α : Type} (p : α → Int) (l : List α) (h : ∀ a ∈ l, p a = 0) : errG p l = 0 := errG_none p l fun _ hj => h _ (List.getElem_mem hj)

theorem prC_okC (al : List Am) (h : okC al) : (prC al).2 = 0 := by
  obtain ⟨h1, h2, h3⟩ := h
  have hl : al.length ≠ 0 := fun e => h1 (List.length_eq_zero_iff.1 e)
  unfold prC
  rw [if_neg hl]
  unfold prR
  rw [if_neg (by omega), errG_all _ al (fun a ha => (printA_ok a (h3 a ha)).1), if_neg (by simp), if_neg]
  have hj := join_le [32, 124, 32] 390 (al.map fun a => (printA a).1.data.toList) (fun x hx => by
    obtain ⟨a, ha, rfl⟩ := List.mem_map.1 hx
    rw [size_list]
    exact (printA_ok a (h3 a ha)).2)
  have e : (prJ (fun a => (printA a).1) al ⟨#[32, 124, 32]⟩).size = (Lib.join (al.map fun a => (printA a).1.data.toList) [32, 124, 32]).length := ba_size _
  rw [e]
  rw [List.length_map] at hj
  have : al.length * (390 + [32, 124, 32].length) ≤ 256 * 393 := Nat.mul_le_mul h2 (Nat.le_refl _)
  omega
theorem prF_okF (cl : List (List Am)) (h : okF cl) (he : (prF cl).2 ≠ 0) : prF cl = (nob, 2) := by
  obtain ⟨h1, h2⟩ := h
  unfold prF prR at he ⊢
  rw [if_neg (by omega), errG_all _ cl (fun a ha => prC_okC a (h2 a ha)), if_neg (by simp)] at he ⊢
  by_cases h3 : 16777216 < (prJ (fun a => (prC a).1) cl ⟨#[44, 32]⟩).size
  · rw [if_pos h3]
  · rw [if_neg h3] at he
    exact absurd rfl he

end Go.Proofs.YtfembjjpmjfklaaDoor
