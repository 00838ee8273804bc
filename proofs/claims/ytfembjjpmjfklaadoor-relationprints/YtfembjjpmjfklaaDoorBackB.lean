import Derived.Test.YtfembjjpmjfklaaDoorBackA
namespace Go.Proofs.YtfembjjpmjfklaaDoor
open Go.RowKit

theorem contains_blank (b : UInt8) (h1 : blk b = false) (h2 : b ≠ 40) : [32, 9, 10, 40].contains b = false := by
  unfold blk at h1
  simp at h1 ⊢
  exact ⟨h1.1, h1.2.1, h1.2.2, h2⟩

/-- OF AN ATOM'S TEXT: its bytes, its ends. -/
theorem atT_props (a : Am) (h : ckAtom a.n a.op a.v = 0) : atT a ≠ [] ∧ (∀ b ∈ atT a, b ≠ 44 ∧ b ≠ 124 ∧ b.toNat < 128) ∧ (∀ b, (atT a).head? = some b → blk b = false) ∧ (∀ b, (atT a).getLast? = some b → blk b = false) := by
  obtain ⟨k1, k2, k3, k4, k5⟩ := ckAtom_parts h
  obtain ⟨n1, n2⟩ := name_bytes a.n k1
  unfold atT
  by_cases h0 : a.op = 0
  · rw [if_pos h0]
    exact ⟨n1, fun b hb => ⟨(nf_not b (n2 b hb)).2.2.2.1, (nf_not b (n2 b hb)).2.2.2.2.1, (nf_not b (n2 b hb)).2.2.2.2.2⟩, fun b hb => (nf_not b (n2 b (head_mem hb))).1, fun b hb => (nf_not b (n2 b (last_mem hb))).1⟩
  · rw [if_neg h0]
    obtain ⟨v1, v2⟩ := ver_bytes a.v (k5 h0)
    obtain ⟨s1, s2⟩ := sg_bytes a.op.toNat (by omega) (by omega)
    generalize a.n.data.toList = N at *
    generalize a.v.data.toList = V at *
    generalize (sg a.op.toNat).data.toList = S at *
    refine ⟨by simp, fun b hb => ?_, fun b hb => ?_, fun b hb => ?_⟩
    · rcases List.mem_append.1 hb with h | h
      · exact ⟨(nf_not b (n2 b h)).2.2.2.1, (nf_not b (n2 b h)).2.2.2.2.1, (nf_not b (n2 b h)).2.2.2.2.2⟩
      · rcases List.mem_cons.1 h with rfl | h
        · decide
        · rcases List.mem_cons.1 h with rfl | h
          · decide
          · rcases List.mem_append.1 h with h | h
            · exact ⟨(op_not b (s2 b h)).2.2.2.1, (op_not b (s2 b h)).2.2.2.2.1, (op_not b (s2 b h)).2.2.2.2.2⟩
            · rcases List.mem_cons.1 h with rfl | h
              · decide
              · rcases List.mem_append.1 h with h | h
                · exact ⟨(up_not b (v2 b h)).2.2.2.1, (up_not b (v2 b h)).2.2.2.2.1, (up_not b (v2 b h)).2.2.2.2.2⟩
                · obtain rfl : b = 41 := by simpa using h
                  decide
    · cases hN : N with
      | nil => exact absurd hN n1
      | cons x N' =>
        rw [hN] at hb
        obtain rfl : x = b := by simpa using hb
        exact (nf_not x (n2 x (by rw [hN]; exact List.mem_cons_self))).1
    · have e : N ++ 32 :: 40 :: (S ++ 32 :: (V ++ [41])) = (N ++ 32 :: 40 :: (S ++ 32 :: V)) ++ [41] := by simp
      rw [e, List.getLast?_append] at hb
      obtain rfl : 41 = b := by simpa using hb
      decide

/-- AN ATOM IS READ BACK, blanks about it. -/
theorem parseA_back (a : Am) (h : ckAtom a.n a.op a.v = 0) (u v : List UInt8) (hu : Blk u) (hv : Blk v) (hsz : (u ++ atT a ++ v).length ≤ 16777216) : parseA (ba (u ++ atT a ++ v)) = (a, 0) := by
  obtain ⟨t1, t2, t3, t4⟩ := atT_props a h
  have ht : trimB (ba (u ++ atT a ++ v)) = ba (atT a) := by
    show ba (Lib.trimS (u ++ atT a ++ v) [32, 9, 10]) = _
    rw [trim_around u (atT a) v hu hv t3 t4 t1]
  have hz : ¬ 16777216 < (ba (u ++ atT a ++ v)).size := by rw [ba_size]; omega
  obtain ⟨k1, k2, k3, k4, k5⟩ := ckAtom_parts h
  obtain ⟨n1, n2⟩ := name_bytes a.n k1
  unfold parseA
  rw [if_neg hz, ht]
  by_cases h0 : a.op = 0
  · have hT : atT a = a.n.data.toList := by unfold atT; rw [if_pos h0]
    have hc : cutN (ba (atT a)) = (a.n, nob) := by
      unfold cutN
      have hi : idxN (ba (atT a)) = -1 := by
        show Lib.indexAny (atT a) [32, 9, 10, 40] = -1
        rw [hT]
        exact indexAny_none _ _ (fun b hb => contains_blank b (nf_not b (n2 b hb)).1 (nf_not b (n2 b hb)).2.1)
      rw [hi, if_pos (by decide), hT, ba_self]
    rw [hc]
    simp only
    rw [if_neg (by simp [k1]), if_pos (show nob.size = 0 from rfl)]
    obtain ⟨an, ao, av⟩ := a
    simp only at h0 k4
    subst h0
    rw [k4 rfl]
  · have hT : atT a = a.n.data.toList ++ 32 :: (40 :: ((sg a.op.toNat).data.toList ++ 32 :: (a.v.data.toList ++ [41]))) := by unfold atT; rw [if_neg h0]
    generalize hR : (40 :: ((sg a.op.toNat).data.toList ++ 32 :: (a.v.data.toList ++ [41])) : List UInt8) = R at *
    have hc : cutN (ba (atT a)) = (a.n, ba R) := by
      unfold cutN
      have hi : idxN (ba (atT a)) = (a.n.data.toList.length : Int) := by
        show Lib.indexAny (atT a) [32, 9, 10, 40] = _
        rw [hT]
        exact indexAny_at _ 32 R (by decide) _ (fun b hb => contains_blank b (nf_not b (n2 b hb)).1 (nf_not b (n2 b hb)).2.1)
      rw [hi, if_neg (by omega), Int.toNat_natCast, ba_extract, ba_extract, hT]
      have x1 : ((a.n.data.toList ++ 32 :: R).drop 0).take (a.n.data.toList.length - 0) = a.n.data.toList := by simp
      have x2 : ((a.n.data.toList ++ 32 :: R).drop a.n.data.toList.length).take ((ba (a.n.data.toList ++ 32 :: R)).size - a.n.data.toList.length) = 32 :: R := by
        rw [List.drop_left, ba_size, List.take_of_length_le (by simp)]
      rw [x1, x2, ba_self]
      have x3 : trimL (ba (32 :: R)) = ba R := by
        show ba ((32 :: R).dropWhile blk) = _
        rw [List.dropWhile_cons, if_pos (by rfl), dropW_head (fun b hb => by
          rw [← hR] at hb
          obtain rfl : 40 = b := by simpa using hb
          rfl)]
      rw [x3]
    have hrs : (ba R).size ≠ 0 := by rw [ba_size, ← hR]; simp
    have hrc := readC_back a.op.toNat (by omega) (by omega) a.v (k5 h0)
    rw [hR] at hrc
    rw [hc]
    simp only
    rw [if_neg (by simp [k1]), if_neg hrs, hrc]
    simp only
    rw [if_neg (by simp)]
    obtain ⟨an, ao, av⟩ := a
    simp only at k2 ⊢
    rw [Int.toNat_of_nonneg k2]

/-! ### Rows -/
theorem errG_zero {α : Type} (p : α → Int) : ∀ l : List α, errG p l = 0 → ∀ a ∈ l, p a = 0
  | [], _, _, h => by cases h
  | t :: r, h, a, ha => by
    have h' : (if p t ≠ 0 then p t else errG p r) = 0 := h
    by_cases ht : p t = 0
    · rw [if_neg (by simp [ht])] at h'
      rcases List.mem_cons.1 ha with rfl | ha
      · exact ht
      · exact errG_zero p r h' a ha
    · rw [if_pos ht] at h'
      exact absurd h' ht

theorem prR_ok {α : Type} (tx : α → ByteArray) (er : α → Int) (al : List α) (sep : ByteArray) (most : Nat) (h : (prR tx er al sep most).2 = 0) : al.length ≤ most ∧ (∀ a ∈ al, er a = 0) ∧ (prJ tx al sep).size ≤ 16777216 ∧ (prR tx er al sep most).1 = prJ tx al sep := by
  unfold prR at h ⊢
  by_cases h1 : most < al.length
  · rw [if_pos h1] at h
    cases h
  · rw [if_neg h1] at h ⊢
    by_cases h2 : errG er al = 0
    · rw [if_neg (by simp [h2])] at h ⊢
      by_cases h3 : 16777216 < (prJ tx al sep).size
      · rw [if_pos h3] at h
        cases h
      · rw [if_neg h3]
        exact ⟨by omega, errG_zero er al h2, by omega, rfl⟩
    · rw [if_pos h2] at h
      exact absurd h h2

theorem row_back {β : Type} (p : ByteArray → β × Int) (tx : β → List UInt8) (c : UInt8) (x y y0 : List UInt8) (hy : Blk y) (h0 : Blk y0) (hcx : c ∉ x) (hcy : c ∉ y) (hc0 : c ∉ y0) (al : List β) (hne : al ≠ [])
    (hc : ∀ a ∈ al, c ∉ tx a) (hp : ∀ a ∈ al, ∀ u v, Blk u → (v = [] ∨ v = x) → (u ++ tx a ++ v).length ≤ 16777216 → p (ba (u ++ tx a ++ v)) = (a, 0))
    (hsz : (y0 ++ Lib.join (al.map tx) (x ++ c :: y)).length ≤ 16777216) (most : Nat) (hm : al.length ≤ most) :
    rowE (fun t => (p t).2) (ba (y0 ++ Lib.join (al.map tx) (x ++ c :: y))) c most = 0 ∧ (pcs (ba (y0 ++ Lib.join (al.map tx) (x ++ c :: y))) c).map (fun t => (p t).1) = al := by
  have hne' : al.map tx ≠ [] := by simpa using hne
  have hj := pcs_join c x y hcx hcy (al.map tx) y0 hne' hc0 (fun t ht => by obtain ⟨a, ha, rfl⟩ := List.mem_map.1 ht; exact hc a ha)
  have hw : ∀ w ∈ W x y y0 (al.map tx), w.length ≤ 16777216 := fun w hw => by
    have := (pcs_sub (ba (y0 ++ Lib.join (al.map tx) (x ++ c :: y))) c (ba w) (by rw [hj]; exact List.mem_map_of_mem hw)).2
    rw [ba_size, ba_size] at this
    omega
  obtain ⟨o1, o2⟩ := W_ok p tx x y hy al y0 hne h0 hp hw
  unfold rowE
  rw [if_neg (by rw [ba_size]; omega), hj, if_neg (by rw [List.length_map, W_len x y _ _ hne', List.length_map]; omega)]
  exact ⟨o1, o2⟩

end Go.Proofs.YtfembjjpmjfklaaDoor
