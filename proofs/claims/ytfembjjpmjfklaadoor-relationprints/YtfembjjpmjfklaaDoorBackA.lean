import Derived.Test.YtfembjjpmjfklaaDoorBackQ
namespace Go.Proofs.YtfembjjpmjfklaaDoor
open Go.RowKit

theorem u8_all (p : UInt8 → Bool) (h : ((List.range 256).all fun n => p (UInt8.ofNat n)) = true) (b : UInt8) : p b = true := by
  have hb : b.toNat < 256 := b.toNat_lt
  have := List.all_eq_true.1 h b.toNat (List.mem_range.2 hb)
  rwa [UInt8.ofNat_toNat] at this

/-- A BYTE OF A NAME OR A VERSION IS NONE OF THE MARKS. -/
theorem nf_not (b : UInt8) (h : isNF (b.toNat : Int) = true) : blk b = false ∧ b ≠ 40 ∧ b ≠ 41 ∧ b ≠ 44 ∧ b ≠ 124 ∧ b.toNat < 128 := by
  have := u8_all (fun b => !isNF (b.toNat : Int) || (!blk b && (b != 40 && (b != 41 && (b != 44 && (b != 124 && decide (b.toNat < 128))))))) (by decide +kernel) b
  rw [h] at this
  simpa using this
theorem up_not (b : UInt8) (h : isUp (b.toNat : Int) = true) : blk b = false ∧ b ≠ 40 ∧ b ≠ 41 ∧ b ≠ 44 ∧ b ≠ 124 ∧ b.toNat < 128 := by
  have := u8_all (fun b => !isUp (b.toNat : Int) || (!blk b && (b != 40 && (b != 41 && (b != 44 && (b != 124 && decide (b.toNat < 128))))))) (by decide +kernel) b
  rw [h] at this
  simpa using this

theorem ckAtom_parts {n : ByteArray} {op : Int} {v : ByteArray} (h : ckAtom n op v = 0) : okName n = true ∧ 0 ≤ op ∧ op ≤ 5 ∧ (op = 0 → v = nob) ∧ (op ≠ 0 → (parse v).2 = 0) := by
  have ho := ckAtom_op h
  unfold ckAtom at h
  split at h
  · cases h
  · split at h
    · cases h
    · split at h
      · cases h
      · rename_i h1 h2 h3
        refine ⟨by simpa using h1, ho.1, ho.2, fun h0 => ?_, fun h0 => ?_⟩
        · subst h0
          simp at h3
          apply pj_ba_ext
          rw [Lib.toList_data] at h3
          rw [h3]
          rfl
        · have h0' : (op == 0) = false := by simpa using h0
          rw [h0'] at h3
          simp at h3
          exact h3

theorem indexAny_none (cs : List UInt8) : ∀ l : List UInt8, (∀ b ∈ l, cs.contains b = false) → Lib.indexAny l cs = -1
  | [], _ => rfl
  | b :: l, h => by
    unfold Lib.indexAny
    rw [h b List.mem_cons_self, indexAny_none cs l (fun c hc => h c (List.mem_cons_of_mem _ hc))]
    rfl
theorem indexAny_at (cs : List UInt8) (c : UInt8) (r : List UInt8) (hc : cs.contains c = true) : ∀ l : List UInt8, (∀ b ∈ l, cs.contains b = false) → Lib.indexAny (l ++ c :: r) cs = (l.length : Int)
  | [], _ => by
    show Lib.indexAny (c :: r) cs = 0
    unfold Lib.indexAny
    rw [hc]
    rfl
  | b :: l, h => by
    have ih := indexAny_at cs c r hc l (fun c hc => h c (List.mem_cons_of_mem _ hc))
    show Lib.indexAny (b :: (l ++ c :: r)) cs = _
    unfold Lib.indexAny
    rw [h b List.mem_cons_self, ih]
    have : ((l.length : Int) == -1) = false := beq_eq_false_iff_ne.2 (by omega)
    rw [this]
    simp

/-- AN ATOM'S TEXT, AS BYTES. -/
def atT (a : Am) : List UInt8 := if a.op = 0 then a.n.data.toList else a.n.data.toList ++ 32 :: 40 :: ((sg a.op.toNat).data.toList ++ 32 :: (a.v.data.toList ++ [41]))

theorem printA_text (a : Am) (h : (printA a).2 = 0) : ckAtom a.n a.op a.v = 0 ∧ (printA a).1.data.toList = atT a := by
  have hc : ckAtom a.n a.op a.v = 0 := by
    by_cases e : ckAtom a.n a.op a.v = 0
    · exact e
    · exfalso
      unfold printA at h
      rw [if_pos e] at h
      exact e h
  refine ⟨hc, ?_⟩
  unfold printA atT
  rw [if_neg (by simp [hc])]
  by_cases h0 : a.op = 0
  · rw [if_pos h0, if_pos h0]
  · rw [if_neg h0, if_neg h0]
    show (a.n ++ ⟨#[32, 40]⟩ ++ sg a.op.toNat ++ ⟨#[32]⟩ ++ a.v ++ ⟨#[41]⟩).data.toList = _
    simp only [pj_toList_append]
    simp

theorem sg_bytes (k : Nat) (h1 : 1 ≤ k) (h5 : k ≤ 5) : (sg k).data.toList ≠ [] ∧ ∀ b ∈ (sg k).data.toList, [60, 61, 62].contains b = true := by
  match k, h1, h5 with
  | 1, _, _ => decide
  | 2, _, _ => decide
  | 3, _, _ => decide
  | 4, _, _ => decide
  | 5, _, _ => decide

theorem op_not (b : UInt8) (h : [60, 61, 62].contains b = true) : blk b = false ∧ b ≠ 40 ∧ b ≠ 41 ∧ b ≠ 44 ∧ b ≠ 124 ∧ b.toNat < 128 := by
  have := u8_all (fun b => ![60, 61, 62].contains b || (!blk b && (b != 40 && (b != 41 && (b != 44 && (b != 124 && decide (b.toNat < 128))))))) (by decide +kernel) b
  rw [h] at this
  simpa using this

theorem head_mem {l : List UInt8} {a : UInt8} (h : l.head? = some a) : a ∈ l := List.mem_of_head? h
theorem last_mem {l : List UInt8} {a : UInt8} (h : l.getLast? = some a) : a ∈ l := List.mem_of_getLast? h

/-- A CONSTRAINT IS READ BACK. -/
theorem readC_back (k : Nat) (h1 : 1 ≤ k) (h5 : k ≤ 5) (v : ByteArray) (hv : (parse v).2 = 0) : readC (ba (40 :: ((sg k).data.toList ++ 32 :: (v.data.toList ++ [41])))) = ((k : Int), v, 0) := by
  obtain ⟨hvne, hvb⟩ := ver_bytes v hv
  obtain ⟨hsne, hsb⟩ := sg_bytes k h1 h5
  generalize hL : (sg k).data.toList = S at *
  generalize hV : v.data.toList = Vl at *
  have hin : ∀ b ∈ S ++ 32 :: Vl, b ≠ 40 ∧ b ≠ 41 := by
    intro b hb
    rcases List.mem_append.1 hb with h | h
    · exact ⟨(op_not b (hsb b h)).2.1, (op_not b (hsb b h)).2.2.1⟩
    · rcases List.mem_cons.1 h with rfl | h
      · decide
      · exact ⟨(up_not b (hvb b h)).2.1, (up_not b (hvb b h)).2.2.1⟩
  have e1 : hasP (ba (40 :: (S ++ 32 :: (Vl ++ [41])))) = true := by
    show List.isPrefixOf [40] (40 :: (S ++ 32 :: (Vl ++ [41]))) = true
    rw [pre_one]
    rfl
  have e2 : preP (ba (40 :: (S ++ 32 :: (Vl ++ [41])))) = ba ((S ++ 32 :: Vl) ++ [41]) := by
    show ba (if hasP (ba (40 :: (S ++ 32 :: (Vl ++ [41])))) = true then (40 :: (S ++ 32 :: (Vl ++ [41]))).drop 1 else _) = _
    rw [if_pos e1]
    simp
  have e3 : hasS (ba ((S ++ 32 :: Vl) ++ [41])) = true := by
    show List.isSuffixOf [41] ((S ++ 32 :: Vl) ++ [41]) = true
    rw [List.isSuffixOf_iff_suffix]
    exact List.suffix_append _ _
  have e4 : sufP (ba ((S ++ 32 :: Vl) ++ [41])) = ba (S ++ 32 :: Vl) := by
    show ba (if hasS (ba ((S ++ 32 :: Vl) ++ [41])) = true then ((S ++ 32 :: Vl) ++ [41]).take (((S ++ 32 :: Vl) ++ [41]).length - 1) else _) = _
    rw [if_pos e3]
    have : ((S ++ 32 :: Vl) ++ [41]).length - 1 = (S ++ 32 :: Vl).length := by simp
    rw [this, List.take_left]
  have e5 : anyP (ba (S ++ 32 :: Vl)) = false := by
    show decide (0 ≤ Lib.indexAny (S ++ 32 :: Vl) [40, 41]) = false
    rw [indexAny_none _ _ (fun b hb => by have := hin b hb; simp [this.1, this.2])]
    decide
  have hblk : ∀ b, b ∈ S ∨ b ∈ Vl → blk b = false := fun b hb => by
    rcases hb with h | h
    · exact (op_not b (hsb b h)).1
    · exact (up_not b (hvb b h)).1
  have e6 : trimB (ba (S ++ 32 :: Vl)) = ba (S ++ 32 :: Vl) := by
    show ba (Lib.trimS (S ++ 32 :: Vl) [32, 9, 10]) = _
    have := trim_around [] (S ++ 32 :: Vl) [] (fun b hb => by cases hb) (fun b hb => by cases hb) (fun a ha => by
      cases hS : S with
      | nil => exact absurd hS hsne
      | cons s S' =>
        rw [hS] at ha
        obtain rfl : s = a := by simpa using ha
        exact hblk s (.inl (by rw [hS]; exact List.mem_cons_self))) (fun a ha => by
      have : (S ++ 32 :: Vl).getLast? = Vl.getLast? := by
        rw [show S ++ 32 :: Vl = (S ++ [32]) ++ Vl by simp, List.getLast?_append]
        cases h : Vl.getLast? with
        | none => exact absurd (List.getLast?_eq_none_iff.1 h) hvne
        | some x => rfl
      rw [this] at ha
      exact hblk a (.inr (last_mem ha))) (by simp)
    simp only [List.nil_append, List.append_nil] at this
    rw [this]
  have e7 : trimO (ba (S ++ 32 :: Vl)) = ba (32 :: Vl) := by
    show ba ((S ++ 32 :: Vl).dropWhile ([60, 61, 62].contains ·)) = _
    rw [dropW_app S (32 :: Vl) hsb, dropW_head (fun a ha => by obtain rfl : 32 = a := by simpa using ha
                                                               rfl)]
  have e8 : trimL (ba (32 :: Vl)) = v := by
    show ba ((32 :: Vl).dropWhile blk) = v
    rw [List.dropWhile_cons, if_pos (by rfl), dropW_head (fun a ha => hblk a (.inr (head_mem ha))), ← hV, ba_self]
  have hcb : cutB (ba (40 :: (S ++ 32 :: (Vl ++ [41])))) = (ba (S ++ 32 :: Vl), true) := by
    unfold cutB
    rw [e2, e4, if_neg (by rw [e1, e3, e5]; simp), e6]
  have e9 : (ba (S ++ 32 :: Vl)).extract 0 ((ba (S ++ 32 :: Vl)).size - (ba (32 :: Vl)).size) = sg k := by
    rw [ba_extract, ba_size, ba_size]
    have : (S ++ 32 :: Vl).length - (32 :: Vl).length = S.length := by simp
    rw [this, Nat.sub_zero, List.drop_zero, List.take_left, ← hL, ba_self]
  unfold readC
  rw [hcb]
  simp only
  rw [e7, e8, e9, opOf_at (sg k) k h1 h5 rfl, if_neg (by simp), if_neg (by simp), if_neg (by simp [hv])]

end Go.Proofs.YtfembjjpmjfklaaDoor
