import Derived.Test.YtfembjjpmjfklaaDoorBackW
namespace Go.Proofs.YtfembjjpmjfklaaDoor
open Go.RowKit

/-- AN ATOM'S TEXT WITH OTHER BLANKS B IN THE SPACES' PLACE. -/
def atB (B : List UInt8) (a : Am) : List UInt8 := if a.op = 0 then a.n.data.toList else a.n.data.toList ++ (B ++ 40 :: ((sg a.op.toNat).data.toList ++ (B ++ (a.v.data.toList ++ [41]))))

theorem blk_marks (b : UInt8) (h : blk b = true) : b ≠ 40 ∧ b ≠ 41 ∧ b ≠ 44 ∧ b ≠ 124 ∧ [60, 61, 62].contains b = false ∧ [32, 9, 10, 40].contains b = true := by
  have := u8_all (fun b => !blk b || (b != 40 && (b != 41 && (b != 44 && (b != 124 && (![60, 61, 62].contains b && [32, 9, 10, 40].contains b)))))) (by decide +kernel) b
  rw [h] at this
  simpa using this

theorem readC_backB (B : List UInt8) (hB : Blk B) (hBne : B ≠ []) (k : Nat) (h1 : 1 ≤ k) (h5 : k ≤ 5) (v : ByteArray) (hv : (parse v).2 = 0) : readC (ba (40 :: ((sg k).data.toList ++ (B ++ (v.data.toList ++ [41]))))) = ((k : Int), v, 0) := by
  obtain ⟨hvne, hvb⟩ := ver_bytes v hv
  obtain ⟨hsne, hsb⟩ := sg_bytes k h1 h5
  generalize hL : (sg k).data.toList = S at *
  generalize hV : v.data.toList = Vl at *
  have hin : ∀ b ∈ S ++ (B ++ Vl), b ≠ 40 ∧ b ≠ 41 := by
    intro b hb
    rcases List.mem_append.1 hb with h | h
    · exact ⟨(op_not b (hsb b h)).2.1, (op_not b (hsb b h)).2.2.1⟩
    · rcases List.mem_append.1 h with h | h
      · exact ⟨(blk_marks b (hB b h)).1, (blk_marks b (hB b h)).2.1⟩
      · exact ⟨(up_not b (hvb b h)).2.1, (up_not b (hvb b h)).2.2.1⟩
  have e1 : hasP (ba (40 :: (S ++ (B ++ (Vl ++ [41]))))) = true := by
    show List.isPrefixOf [40] (40 :: (S ++ (B ++ (Vl ++ [41])))) = true
    rw [pre_one]
    rfl
  have e2 : preP (ba (40 :: (S ++ (B ++ (Vl ++ [41]))))) = ba ((S ++ (B ++ Vl)) ++ [41]) := by
    show ba (if hasP (ba (40 :: (S ++ (B ++ (Vl ++ [41]))))) = true then (40 :: (S ++ (B ++ (Vl ++ [41])))).drop 1 else _) = _
    rw [if_pos e1]
    simp
  have e3 : hasS (ba ((S ++ (B ++ Vl)) ++ [41])) = true := by
    show List.isSuffixOf [41] ((S ++ (B ++ Vl)) ++ [41]) = true
    rw [List.isSuffixOf_iff_suffix]
    exact List.suffix_append _ _
  have e4 : sufP (ba ((S ++ (B ++ Vl)) ++ [41])) = ba (S ++ (B ++ Vl)) := by
    show ba (if hasS (ba ((S ++ (B ++ Vl)) ++ [41])) = true then ((S ++ (B ++ Vl)) ++ [41]).take (((S ++ (B ++ Vl)) ++ [41]).length - 1) else _) = _
    rw [if_pos e3]
    have : ((S ++ (B ++ Vl)) ++ [41]).length - 1 = (S ++ (B ++ Vl)).length := by rw [List.length_append]; exact Nat.add_sub_cancel (n := (S ++ (B ++ Vl)).length) (m := 1)
    rw [this, List.take_left]
  have e5 : anyP (ba (S ++ (B ++ Vl))) = false := by
    show decide (0 ≤ Lib.indexAny (S ++ (B ++ Vl)) [40, 41]) = false
    rw [indexAny_none _ _ (fun b hb => by have := hin b hb; simp [this.1, this.2])]
    decide
  have hblk : ∀ b, b ∈ S ∨ b ∈ Vl → blk b = false := fun b hb => by
    rcases hb with h | h
    · exact (op_not b (hsb b h)).1
    · exact (up_not b (hvb b h)).1
  have e6 : trimB (ba (S ++ (B ++ Vl))) = ba (S ++ (B ++ Vl)) := by
    show ba (Lib.trimS (S ++ (B ++ Vl)) [32, 9, 10]) = _
    have := trim_around [] (S ++ (B ++ Vl)) [] (fun b hb => by cases hb) (fun b hb => by cases hb) (fun a ha => by
      cases hS : S with
      | nil => exact absurd hS hsne
      | cons s S' =>
        rw [hS] at ha
        obtain rfl : s = a := by simpa using ha
        exact hblk s (.inl (by rw [hS]; exact List.mem_cons_self))) (fun a ha => by
      have : (S ++ (B ++ Vl)).getLast? = Vl.getLast? := by
        rw [show S ++ (B ++ Vl) = (S ++ B) ++ Vl by simp, List.getLast?_append]
        cases h : Vl.getLast? with
        | none => exact absurd (List.getLast?_eq_none_iff.1 h) hvne
        | some x => rfl
      rw [this] at ha
      exact hblk a (.inr (last_mem ha))) (by simp [hsne])
    simp only [List.nil_append, List.append_nil] at this
    rw [this]
  have e7 : trimO (ba (S ++ (B ++ Vl))) = ba (B ++ Vl) := by
    show ba ((S ++ (B ++ Vl)).dropWhile ([60, 61, 62].contains ·)) = _
    rw [dropW_app S (B ++ Vl) hsb, dropW_head (fun a ha => by
      cases hBc : B with
      | nil => exact absurd hBc hBne
      | cons b0 B' =>
        rw [hBc] at ha
        obtain rfl : b0 = a := by simpa using ha
        exact (blk_marks b0 (hB b0 (by rw [hBc]; exact List.mem_cons_self))).2.2.2.2.1)]
  have e8 : trimL (ba (B ++ Vl)) = v := by
    show ba ((B ++ Vl).dropWhile blk) = v
    rw [dropW_app B Vl hB, dropW_head (fun a ha => hblk a (.inr (head_mem ha))), ← hV, ba_self]
  have hcb : cutB (ba (40 :: (S ++ (B ++ (Vl ++ [41]))))) = (ba (S ++ (B ++ Vl)), true) := by
    unfold cutB
    rw [e2, e4, if_neg (by rw [e1, e3, e5]; simp), e6]
  have e9 : (ba (S ++ (B ++ Vl))).extract 0 ((ba (S ++ (B ++ Vl))).size - (ba (B ++ Vl)).size) = sg k := by
    rw [ba_extract, ba_size, ba_size]
    have : (S ++ (B ++ Vl)).length - (B ++ Vl).length = S.length := by simp
    rw [this, Nat.sub_zero, List.drop_zero, List.take_left, ← hL, ba_self]
  unfold readC
  rw [hcb]
  simp only
  rw [e7, e8, e9, opOf_at (sg k) k h1 h5 rfl, if_neg (by simp), if_neg (by simp), if_neg (by simp [hv])]

theorem atB_props (B : List UInt8) (hB : Blk B) (a : Am) (h : ckAtom a.n a.op a.v = 0) : atB B a ≠ [] ∧ (∀ b ∈ atB B a, b ≠ 44 ∧ b ≠ 124) ∧ (∀ b, (atB B a).head? = some b → blk b = false) ∧ (∀ b, (atB B a).getLast? = some b → blk b = false) := by
  obtain ⟨k1, k2, k3, k4, k5⟩ := ckAtom_parts h
  obtain ⟨n1, n2⟩ := name_bytes a.n k1
  unfold atB
  by_cases h0 : a.op = 0
  · rw [if_pos h0]
    exact ⟨n1, fun b hb => ⟨(nf_not b (n2 b hb)).2.2.2.1, (nf_not b (n2 b hb)).2.2.2.2.1⟩, fun b hb => (nf_not b (n2 b (head_mem hb))).1, fun b hb => (nf_not b (n2 b (last_mem hb))).1⟩
  · rw [if_neg h0]
    obtain ⟨v1, v2⟩ := ver_bytes a.v (k5 h0)
    obtain ⟨s1, s2⟩ := sg_bytes a.op.toNat (by omega) (by omega)
    generalize a.n.data.toList = N at *
    generalize a.v.data.toList = V at *
    generalize (sg a.op.toNat).data.toList = S at *
    refine ⟨by simp [n1], fun b hb => ?_, fun b hb => ?_, fun b hb => ?_⟩
    · have hbB : b ∈ B → b ≠ 44 ∧ b ≠ 124 := fun h => ⟨(blk_marks b (hB b h)).2.2.1, (blk_marks b (hB b h)).2.2.2.1⟩
      rcases List.mem_append.1 hb with h | h
      · exact ⟨(nf_not b (n2 b h)).2.2.2.1, (nf_not b (n2 b h)).2.2.2.2.1⟩
      · rcases List.mem_append.1 h with h | h
        · exact hbB h
        · rcases List.mem_cons.1 h with rfl | h
          · decide
          · rcases List.mem_append.1 h with h | h
            · exact ⟨(op_not b (s2 b h)).2.2.2.1, (op_not b (s2 b h)).2.2.2.2.1⟩
            · rcases List.mem_append.1 h with h | h
              · exact hbB h
              · rcases List.mem_append.1 h with h | h
                · exact ⟨(up_not b (v2 b h)).2.2.2.1, (up_not b (v2 b h)).2.2.2.2.1⟩
                · obtain rfl : b = 41 := by simpa using h
                  decide
    · cases hN : N with
      | nil => exact absurd hN n1
      | cons x N' =>
        rw [hN] at hb
        obtain rfl : x = b := by simpa using hb
        exact (nf_not x (n2 x (by rw [hN]; exact List.mem_cons_self))).1
    · have e : N ++ (B ++ 40 :: (S ++ (B ++ (V ++ [41])))) = (N ++ (B ++ 40 :: (S ++ (B ++ V)))) ++ [41] := by simp
      rw [e, List.getLast?_append] at hb
      obtain rfl : 41 = b := by simpa using hb
      decide

theorem parseA_backB (B : List UInt8) (hB : Blk B) (hBne : B ≠ []) (a : Am) (h : ckAtom a.n a.op a.v = 0) (u v : List UInt8) (hu : Blk u) (hv : Blk v) (hsz : (u ++ atB B a ++ v).length ≤ 16777216) : parseA (ba (u ++ atB B a ++ v)) = (a, 0) := by
  obtain ⟨t1, t2, t3, t4⟩ := atB_props B hB a h
  have ht : trimB (ba (u ++ atB B a ++ v)) = ba (atB B a) := by
    show ba (Lib.trimS (u ++ atB B a ++ v) [32, 9, 10]) = _
    rw [trim_around u (atB B a) v hu hv t3 t4 t1]
  have hz : ¬ 16777216 < (ba (u ++ atB B a ++ v)).size := by rw [ba_size]; omega
  obtain ⟨k1, k2, k3, k4, k5⟩ := ckAtom_parts h
  obtain ⟨n1, n2⟩ := name_bytes a.n k1
  unfold parseA
  rw [if_neg hz, ht]
  by_cases h0 : a.op = 0
  · have hT : atB B a = a.n.data.toList := by unfold atB; rw [if_pos h0]
    have hc : cutN (ba (atB B a)) = (a.n, nob) := by
      unfold cutN
      have hi : idxN (ba (atB B a)) = -1 := by
        show Lib.indexAny (atB B a) [32, 9, 10, 40] = -1
        rw [hT]
        exact indexAny_none _ _ (fun b hb => contains_blank b (nf_not b (n2 b hb)).1 (nf_not b (n2 b hb)).2.1)
      rw [hi, if_pos (by decide), hT, ba_self]
    rw [hc]
    simp only
    rw [if_neg (by simp [k1]), if_pos (show nob.size = 0 from rfl)]
    obtain ⟨an, ao, av⟩ := a
    simp only at h0 k4
    subst h0
    rw [k4 rfl]
  · generalize hR : (40 :: ((sg a.op.toNat).data.toList ++ (B ++ (a.v.data.toList ++ [41]))) : List UInt8) = R at *
    have hT : atB B a = a.n.data.toList ++ (B ++ R) := by unfold atB; rw [if_neg h0, hR]
    have hc : cutN (ba (atB B a)) = (a.n, ba R) := by
      unfold cutN
      have hi : idxN (ba (atB B a)) = (a.n.data.toList.length : Int) := by
        show Lib.indexAny (atB B a) [32, 9, 10, 40] = _
        rw [hT]
        cases hBc : B with
        | nil => exact absurd hBc hBne
        | cons b0 B' =>
          exact indexAny_at _ b0 (B' ++ R) (blk_marks b0 (hB b0 (by rw [hBc]; exact List.mem_cons_self))).2.2.2.2.2 _ (fun b hb => contains_blank b (nf_not b (n2 b hb)).1 (nf_not b (n2 b hb)).2.1)
      rw [hi, if_neg (by omega), Int.toNat_natCast, ba_extract, ba_extract, hT]
      have x1 : ((a.n.data.toList ++ (B ++ R)).drop 0).take (a.n.data.toList.length - 0) = a.n.data.toList := by simp
      have x2 : ((a.n.data.toList ++ (B ++ R)).drop a.n.data.toList.length).take ((ba (a.n.data.toList ++ (B ++ R))).size - a.n.data.toList.length) = B ++ R := by
        rw [List.drop_left, ba_size, List.take_of_length_le (by simp)]
      rw [x1, x2, ba_self]
      have x3 : trimL (ba (B ++ R)) = ba R := by
        show ba ((B ++ R).dropWhile blk) = _
        rw [dropW_app B R hB, dropW_head (fun b hb => by
          rw [← hR] at hb
          obtain rfl : 40 = b := by simpa using hb
          rfl)]
      rw [x3]
    have hrs : (ba R).size ≠ 0 := by rw [ba_size, ← hR]; simp
    have hrc := readC_backB B hB hBne a.op.toNat (by omega) (by omega) a.v (k5 h0)
    rw [hR] at hrc
    rw [hc]
    simp only
    rw [if_neg (by simp [k1]), if_neg hrs, hrc]
    simp only
    rw [if_neg (by simp)]
    obtain ⟨an, ao, av⟩ := a
    simp only at k2 ⊢
    rw [Int.toNat_of_nonneg k2]

/-- A CLAUSE'S TEXT, A FIELD'S. -/
def clB (B : List UInt8) (al : List Am) : List UInt8 := Lib.join (al.map (atB B)) (B ++ 124 :: B)
def fdB (B : List UInt8) (cl : List (List Am)) : List UInt8 := Lib.join (cl.map (clB B)) (44 :: B)

theorem cl_backB (B : List UInt8) (hB : Blk B) (hBne : B ≠ []) (al : List Am) (h : okC al) (u : List UInt8) (hu : Blk u) (hsz : (u ++ clB B al).length ≤ 16777216) : clE (ba (u ++ clB B al)) = 0 ∧ clL (ba (u ++ clB B al)) = al :=
  row_back parseA (atB B) 124 B B u hB hu (blk_not B hB 124 rfl) (blk_not B hB 124 rfl) (blk_not u hu 124 rfl) al h.1
    (fun a ha hm => ((atB_props B hB a (h.2.2 a ha)).2.1 124 hm).2 rfl)
    (fun a ha x y hx hy hz => parseA_backB B hB hBne a (h.2.2 a ha) x y hx (hy.elim (fun e => e ▸ Blk_nil) (fun e => e ▸ hB)) hz) hsz 256 h.2.1

theorem clB_bytes (B : List UInt8) (hB : Blk B) (al : List Am) (h : okC al) : 44 ∉ clB B al ∧ ∃ b ∈ clB B al, blk b = false := by
  refine ⟨fun hb => ?_, ?_⟩
  · rcases mem_join _ 44 _ hb with ⟨x, hx, hbx⟩ | hb
    · obtain ⟨a, ha, rfl⟩ := List.mem_map.1 hx
      exact ((atB_props B hB a (h.2.2 a ha)).2.1 44 hbx).1 rfl
    · rcases List.mem_append.1 hb with hb | hb
      · exact blk_not B hB 44 rfl hb
      · rcases List.mem_cons.1 hb with hb | hb
        · cases hb
        · exact blk_not B hB 44 rfl hb
  · cases al with
    | nil => exact absurd rfl h.1
    | cons a al =>
      obtain ⟨p1, -, p3, -⟩ := atB_props B hB a (h.2.2 a List.mem_cons_self)
      cases hA : atB B a with
      | nil => exact absurd hA p1
      | cons b l => exact ⟨b, join_mem _ b _ _ (by rw [hA]; exact List.mem_cons_self), p3 b (by rw [hA]; rfl)⟩

/-- A FIELD IS READ BACK, whatever blanks stand in the spaces' place. -/
theorem fd_backB (B : List UInt8) (hB : Blk B) (hBne : B ≠ []) (cl : List (List Am)) (h : okF cl) (hsz : (fdB B cl).length ≤ 16777216) : fdE (ba (fdB B cl)) = 0 ∧ fdL (ba (fdB B cl)) = cl := by
  cases cl with
  | nil => exact ⟨by kernel_rfl, by kernel_rfl⟩
  | cons c cl =>
    obtain ⟨o1, o2⟩ := row_back (fun t => (clL t, clE t)) (clB B) 44 [] B [] hB Blk_nil (by simp) (blk_not B hB 44 rfl) (by simp) (c :: cl) (by simp)
      (fun a ha => (clB_bytes B hB a (h.2 a ha)).1)
      (fun a ha u v hu hv hz => by
        obtain rfl : v = [] := by rcases hv with rfl | rfl <;> rfl
        rw [List.append_nil] at hz ⊢
        obtain ⟨q1, q2⟩ := cl_backB B hB hBne a (h.2 a ha) u hu hz
        simp only [q1, q2]) hsz 1024 h.1
    obtain ⟨b, hb, hbb⟩ := (clB_bytes B hB c (h.2 c List.mem_cons_self)).2
    have hne : (trimB (ba (fdB B (c :: cl)))).size ≠ 0 := trim_ne _ b (join_mem _ b _ _ hb) hbb
    unfold fdE fdL
    rw [if_neg (fun e => hne e.2), if_neg (fun e => hne e.2)]
    exact ⟨o1, o2⟩

end Go.Proofs.YtfembjjpmjfklaaDoor
