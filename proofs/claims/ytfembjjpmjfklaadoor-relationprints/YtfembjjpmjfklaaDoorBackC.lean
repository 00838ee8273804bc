import Derived.Test.YtfembjjpmjfklaaDoorBackB
namespace Go.Proofs.YtfembjjpmjfklaaDoor
open Go.RowKit

theorem mem_join (sep : List UInt8) (b : UInt8) : ∀ xs : List (List UInt8), b ∈ Lib.join xs sep → (∃ x ∈ xs, b ∈ x) ∨ b ∈ sep
  | [], h => by simp [Lib.join_nil] at h
  | [x], h => by
    rw [Lib.join_one] at h
    exact .inl ⟨x, List.mem_cons_self, h⟩
  | x :: y :: xs, h => by
    rw [join_two] at h
    rcases List.mem_append.1 h with h | h
    · rcases List.mem_append.1 h with h | h
      · exact .inl ⟨x, List.mem_cons_self, h⟩
      · exact .inr h
    · rcases mem_join sep b (y :: xs) h with ⟨z, hz, hb⟩ | h
      · exact .inl ⟨z, List.mem_cons_of_mem _ hz, hb⟩
      · exact .inr h
theorem join_mem (sep : List UInt8) (b : UInt8) (x : List UInt8) (xs : List (List UInt8)) (h : b ∈ x) : b ∈ Lib.join (x :: xs) sep := by
  rw [Lib.join_cons]
  exact List.mem_append_left _ h

theorem mem_dropW {p : UInt8 → Bool} (b : UInt8) (hp : p b = false) : ∀ l : List UInt8, b ∈ l → b ∈ l.dropWhile p
  | [], h => by cases h
  | a :: l, h => by
    rw [List.dropWhile_cons]
    split
    · rename_i ha
      rcases List.mem_cons.1 h with rfl | h
      · rw [hp] at ha
        cases ha
      · exact mem_dropW b hp l h
    · exact h
theorem trim_ne (l : List UInt8) (b : UInt8) (hb : b ∈ l) (hp : blk b = false) : (trimB (ba l)).size ≠ 0 := by
  have h1 : b ∈ Lib.trimRightS l [32, 9, 10] := by
    rw [trimR_blk]
    exact List.mem_reverse.2 (mem_dropW b hp _ (List.mem_reverse.2 hb))
  have h2 : b ∈ Lib.trimS l [32, 9, 10] := by
    unfold Lib.trimS
    rw [trimL_blk]
    exact mem_dropW b hp _ h1
  intro h
  have : (Lib.trimS l [32, 9, 10]).length = 0 := by
    have e : (trimB (ba l)).size = (Lib.trimS l [32, 9, 10]).length := ba_size _
    omega
  rw [List.length_eq_zero_iff.1 this] at h2
  cases h2

theorem blk_not (u : List UInt8) (h : Blk u) (c : UInt8) (hc : blk c = false) : c ∉ u := fun hm => by
  have := h c hm
  rw [hc] at this
  cases this
theorem Blk_nil : Blk [] := fun b hb => by cases hb
theorem Blk_sp : Blk [32] := fun b hb => by obtain rfl : b = 32 := by simpa using hb
                                            rfl

theorem map_atT (al : List Am) (h : ∀ a ∈ al, (printA a).2 = 0) : (al.map fun a => (printA a).1.data.toList) = al.map atT :=
  List.map_congr_left fun a ha => (printA_text a (h a ha)).2

/-- A CLAUSE IS READ BACK. -/
theorem cl_back (al : List Am) (h : (prC al).2 = 0) (u : List UInt8) (hu : Blk u) (hsz : (u ++ (prC al).1.data.toList).length ≤ 16777216) : clE (ba (u ++ (prC al).1.data.toList)) = 0 ∧ clL (ba (u ++ (prC al).1.data.toList)) = al := by
  have hne : al.length ≠ 0 := fun e => by
    unfold prC at h
    rw [if_pos e] at h
    cases h
  have hC : prC al = prR (fun a => (printA a).1) (fun a => (printA a).2) al ⟨#[32, 124, 32]⟩ 256 := by unfold prC; rw [if_neg hne]
  rw [hC] at h hsz ⊢
  obtain ⟨h1, h2, h3, h4⟩ := prR_ok _ _ _ _ _ h
  have hT : (prR (fun a => (printA a).1) (fun a => (printA a).2) al ⟨#[32, 124, 32]⟩ 256).1.data.toList = Lib.join (al.map atT) ([32] ++ 124 :: [32]) := by
    rw [h4]
    show Lib.join (al.map fun a => (printA a).1.data.toList) [32, 124, 32] = _
    rw [map_atT al h2]
    rfl
  rw [hT] at hsz ⊢
  exact row_back parseA atT 124 [32] [32] u Blk_sp hu (by decide) (by decide) (blk_not u hu 124 rfl) al (fun e => hne (by rw [e]; rfl))
    (fun a ha hm => ((atT_props a (printA_text a (h2 a ha)).1).2.1 124 hm).2.1 rfl)
    (fun a ha x y hx hy hz => parseA_back a (printA_text a (h2 a ha)).1 x y hx (hy.elim (fun e => e ▸ Blk_nil) (fun e => e ▸ Blk_sp)) hz) hsz 256 h1

theorem prC_bytes (al : List Am) (h : (prC al).2 = 0) : (∀ b ∈ (prC al).1.data.toList, b ≠ 44 ∧ b.toNat < 128) ∧ ∃ b ∈ (prC al).1.data.toList, blk b = false := by
  have hne : al.length ≠ 0 := fun e => by
    unfold prC at h
    rw [if_pos e] at h
    cases h
  have hC : prC al = prR (fun a => (printA a).1) (fun a => (printA a).2) al ⟨#[32, 124, 32]⟩ 256 := by unfold prC; rw [if_neg hne]
  rw [hC] at h ⊢
  obtain ⟨h1, h2, h3, h4⟩ := prR_ok _ _ _ _ _ h
  have hT : (prR (fun a => (printA a).1) (fun a => (printA a).2) al ⟨#[32, 124, 32]⟩ 256).1.data.toList = Lib.join (al.map atT) [32, 124, 32] := by
    rw [h4]
    show Lib.join (al.map fun a => (printA a).1.data.toList) [32, 124, 32] = _
    rw [map_atT al h2]
  rw [hT]
  refine ⟨fun b hb => ?_, ?_⟩
  · rcases mem_join _ b _ hb with ⟨x, hx, hbx⟩ | hb
    · obtain ⟨a, ha, rfl⟩ := List.mem_map.1 hx
      have := (atT_props a (printA_text a (h2 a ha)).1).2.1 b hbx
      exact ⟨this.1, this.2.2⟩
    · simp only [List.mem_cons, List.mem_nil_iff, or_false] at hb
      rcases hb with rfl | rfl | rfl <;> decide
  · cases al with
    | nil => exact absurd rfl hne
    | cons a al =>
      obtain ⟨p1, -, p3, -⟩ := atT_props a (printA_text a (h2 a List.mem_cons_self)).1
      cases hA : atT a with
      | nil => exact absurd hA p1
      | cons b l =>
        refine ⟨b, join_mem _ b _ _ (by rw [hA]; exact List.mem_cons_self), p3 b (by rw [hA]; rfl)⟩

/-- A FIELD IS READ BACK. -/
theorem fd_back (cl : List (List Am)) (h : (prF cl).2 = 0) : fdE (prF cl).1 = 0 ∧ fdL (prF cl).1 = cl ∧ asc (prF cl).1 ∧ (prF cl).1.size ≤ 16777216 := by
  obtain ⟨h1, h2, h3, h4⟩ := prR_ok _ _ _ _ _ h
  have h4' : (prF cl).1 = prJ (fun a => (prC a).1) cl ⟨#[44, 32]⟩ := h4
  rw [h4']
  have hJ : prJ (fun a => (prC a).1) cl ⟨#[44, 32]⟩ = ba ([] ++ Lib.join (cl.map fun a => (prC a).1.data.toList) ([] ++ 44 :: [32])) := rfl
  rw [hJ] at h3 ⊢
  have hasc : asc (ba ([] ++ Lib.join (cl.map fun a => (prC a).1.data.toList) ([] ++ 44 :: [32]))) := asc_of_mem fun b hb => by
    rw [ba_list, List.nil_append] at hb
    rcases mem_join _ b _ hb with ⟨x, hx, hbx⟩ | hb
    · obtain ⟨a, ha, rfl⟩ := List.mem_map.1 hx
      exact ((prC_bytes a (h2 a ha)).1 b hbx).2
    · simp only [List.nil_append, List.mem_cons, List.mem_nil_iff, or_false] at hb
      rcases hb with rfl | rfl <;> decide
  refine and_assoc.1 ⟨?_, hasc, h3⟩
  cases cl with
  | nil => exact ⟨by kernel_rfl, by kernel_rfl⟩
  | cons c cl =>
    have hsz := h3
    rw [ba_size] at hsz
    obtain ⟨o1, o2⟩ := row_back (fun t => (clL t, clE t)) (fun a => (prC a).1.data.toList) 44 [] [32] [] Blk_sp Blk_nil (by simp) (by decide) (by simp) (c :: cl) (by simp)
      (fun a ha hm => ((prC_bytes a (h2 a ha)).1 44 hm).1 rfl)
      (fun a ha u v hu hv hz => by
        obtain rfl : v = [] := by rcases hv with rfl | rfl <;> rfl
        rw [List.append_nil] at hz ⊢
        obtain ⟨q1, q2⟩ := cl_back a (h2 a ha) u hu hz
        simp only [q1, q2]) hsz 1024 h1
    obtain ⟨b, hb, hbb⟩ := (prC_bytes c (h2 c List.mem_cons_self)).2
    have hne : (trimB (ba ([] ++ Lib.join ((c :: cl).map fun a => (prC a).1.data.toList) ([] ++ 44 :: [32])))).size ≠ 0 := trim_ne _ b (by rw [List.nil_append]; exact join_mem _ b _ _ hb) hbb
    unfold fdE fdL
    rw [if_neg (fun e => hne e.2), if_neg (fun e => hne e.2)]
    exact ⟨o1, o2⟩

end Go.Proofs.YtfembjjpmjfklaaDoor
