import Derived.Test.YtfembjjpmjfklaaDoorBackC
namespace Go.Proofs.YtfembjjpmjfklaaDoor
open Go.RowKit

/-- A ROW OF ATOMS, READ AND PRINTED. -/
def afE (s : ByteArray) : Int := if s.size ≤ 16777216 ∧ (trimB s).size = 0 then 0 else rowE (fun t => (parseA t).2) s 44 1024
def afL (s : ByteArray) : List Am := if s.size ≤ 16777216 ∧ (trimB s).size = 0 then [] else (pcs s 44).map fun t => (parseA t).1
def prA (al : List Am) : ByteArray × Int := prR (fun a => (printA a).1) (fun a => (printA a).2) al ⟨#[44, 32]⟩ 1024

theorem af_back (al : List Am) (h : (prA al).2 = 0) : afE (prA al).1 = 0 ∧ afL (prA al).1 = al ∧ asc (prA al).1 ∧ (prA al).1.size ≤ 16777216 := by
  obtain ⟨h1, h2, h3, h4⟩ := prR_ok _ _ _ _ _ h
  have h4' : (prA al).1 = prJ (fun a => (printA a).1) al ⟨#[44, 32]⟩ := h4
  rw [h4']
  have hJ : prJ (fun a => (printA a).1) al ⟨#[44, 32]⟩ = ba ([] ++ Lib.join (al.map atT) ([] ++ 44 :: [32])) := by
    show ba (Lib.join (al.map fun a => (printA a).1.data.toList) [44, 32]) = _
    rw [map_atT al h2]
    rfl
  rw [hJ] at h3 ⊢
  have hasc : asc (ba ([] ++ Lib.join (al.map atT) ([] ++ 44 :: [32]))) := asc_of_mem fun b hb => by
    rw [ba_list, List.nil_append] at hb
    rcases mem_join _ b _ hb with ⟨x, hx, hbx⟩ | hb
    · obtain ⟨a, ha, rfl⟩ := List.mem_map.1 hx
      exact ((atT_props a (printA_text a (h2 a ha)).1).2.1 b hbx).2.2
    · simp only [List.nil_append, List.mem_cons, List.mem_nil_iff, or_false] at hb
      rcases hb with rfl | rfl <;> decide
  refine and_assoc.1 ⟨?_, hasc, h3⟩
  cases al with
  | nil => exact ⟨by kernel_rfl, by kernel_rfl⟩
  | cons c al =>
    have hsz := h3
    rw [ba_size] at hsz
    obtain ⟨o1, o2⟩ := row_back parseA atT 44 [] [32] [] Blk_sp Blk_nil (by simp) (by decide) (by simp) (c :: al) (by simp)
      (fun a ha hm => ((atT_props a (printA_text a (h2 a ha)).1).2.1 44 hm).1 rfl)
      (fun a ha u v hu hv hz => parseA_back a (printA_text a (h2 a ha)).1 u v hu (hv.elim (fun e => e ▸ Blk_nil) (fun e => e ▸ Blk_nil)) hz) hsz 1024 h1
    obtain ⟨p1, -, p3, -⟩ := atT_props c (printA_text c (h2 c List.mem_cons_self)).1
    cases hA : atT c with
    | nil => exact absurd hA p1
    | cons b l =>
      have hne : (trimB (ba ([] ++ Lib.join ((c :: al).map atT) ([] ++ 44 :: [32])))).size ≠ 0 := trim_ne _ b (by rw [List.nil_append]; exact join_mem _ b _ _ (by rw [hA]; exact List.mem_cons_self)) (p3 b (by rw [hA]; rfl))
      unfold afE afL
      rw [if_neg (fun e => hne e.2), if_neg (fun e => hne e.2)]
      exact ⟨o1, o2⟩

/-- A NAME, READ AND PRINTED. -/
def rdN (s : ByteArray) : ByteArray × Int := if okName (trimB s) = false then (nob, 20) else (trimB s, 0)
def prN (n : ByteArray) : ByteArray × Int := if okName n = false then (nob, 20) else (n, 0)
def nfE (s : ByteArray) : Int := if s.size ≤ 16777216 ∧ (trimB s).size = 0 then 0 else rowE (fun t => (rdN t).2) s 44 1024
def nfL (s : ByteArray) : List ByteArray := if s.size ≤ 16777216 ∧ (trimB s).size = 0 then [] else (pcs s 44).map fun t => (rdN t).1
def prNs (nl : List ByteArray) : ByteArray × Int := prR (fun a => (prN a).1) (fun a => (prN a).2) nl ⟨#[44, 32]⟩ 1024

theorem prN_ok (n : ByteArray) (h : (prN n).2 = 0) : okName n = true ∧ (prN n).1 = n := by
  unfold prN at h ⊢
  cases hk : okName n
  · rw [hk, if_pos rfl] at h
    cases h
  · rw [if_neg (by simp)]
    exact ⟨rfl, rfl⟩
theorem prN_size (n : ByteArray) : (prN n).1.size ≤ 16777216 := by
  unfold prN
  cases hk : okName n
  · rw [if_pos rfl]
    exact Nat.zero_le _
  · rw [if_neg (by simp)]
    have := okName_size hk
    show n.size ≤ _
    omega

theorem rdN_back (n : ByteArray) (h : okName n = true) (u v : List UInt8) (hu : Blk u) (hv : Blk v) : rdN (ba (u ++ n.data.toList ++ v)) = (n, 0) := by
  obtain ⟨n1, n2⟩ := name_bytes n h
  have ht : trimB (ba (u ++ n.data.toList ++ v)) = n := by
    show ba (Lib.trimS (u ++ n.data.toList ++ v) [32, 9, 10]) = _
    rw [trim_around u _ v hu hv (fun a ha => (nf_not a (n2 a (head_mem ha))).1) (fun a ha => (nf_not a (n2 a (last_mem ha))).1) n1, ba_self]
  unfold rdN
  rw [ht, if_neg (by simp [h])]

theorem nf_back (nl : List ByteArray) (h : (prNs nl).2 = 0) : nfE (prNs nl).1 = 0 ∧ nfL (prNs nl).1 = nl ∧ asc (prNs nl).1 ∧ (prNs nl).1.size ≤ 16777216 := by
  obtain ⟨h1, h2, h3, h4⟩ := prR_ok _ _ _ _ _ h
  have h4' : (prNs nl).1 = prJ (fun a => (prN a).1) nl ⟨#[44, 32]⟩ := h4
  rw [h4']
  have hJ : prJ (fun a => (prN a).1) nl ⟨#[44, 32]⟩ = ba ([] ++ Lib.join (nl.map fun n => n.data.toList) ([] ++ 44 :: [32])) := by
    show ba (Lib.join (nl.map fun a => (prN a).1.data.toList) [44, 32]) = _
    rw [List.map_congr_left fun a ha => by rw [(prN_ok a (h2 a ha)).2]]
    rfl
  rw [hJ] at h3 ⊢
  have hb0 : ∀ n ∈ nl, ∀ b ∈ n.data.toList, isNF (b.toNat : Int) = true := fun n hn => (name_bytes n (prN_ok n (h2 n hn)).1).2
  have hasc : asc (ba ([] ++ Lib.join (nl.map fun n => n.data.toList) ([] ++ 44 :: [32]))) := asc_of_mem fun b hb => by
    rw [ba_list, List.nil_append] at hb
    rcases mem_join _ b _ hb with ⟨x, hx, hbx⟩ | hb
    · obtain ⟨a, ha, rfl⟩ := List.mem_map.1 hx
      exact (nf_not b (hb0 a ha b hbx)).2.2.2.2.2
    · simp only [List.nil_append, List.mem_cons, List.mem_nil_iff, or_false] at hb
      rcases hb with rfl | rfl <;> decide
  refine and_assoc.1 ⟨?_, hasc, h3⟩
  cases nl with
  | nil => exact ⟨by kernel_rfl, by kernel_rfl⟩
  | cons c al =>
    have hsz := h3
    rw [ba_size] at hsz
    obtain ⟨o1, o2⟩ := row_back rdN (fun n => n.data.toList) 44 [] [32] [] Blk_sp Blk_nil (by simp) (by decide) (by simp) (c :: al) (by simp)
      (fun a ha hm => (nf_not 44 (hb0 a ha 44 hm)).2.2.2.1 rfl)
      (fun a ha u v hu hv _ => rdN_back a (prN_ok a (h2 a ha)).1 u v hu (hv.elim (fun e => e ▸ Blk_nil) (fun e => e ▸ Blk_nil))) hsz 1024 h1
    obtain ⟨p1, p2⟩ := name_bytes c (prN_ok c (h2 c List.mem_cons_self)).1
    cases hA : c.data.toList with
    | nil => exact absurd hA p1
    | cons b l =>
      have hbm : b ∈ c.data.toList := by rw [hA]; exact List.mem_cons_self
      have hne : (trimB (ba ([] ++ Lib.join ((c :: al).map fun n => n.data.toList) ([] ++ 44 :: [32])))).size ≠ 0 := trim_ne _ b (by rw [List.nil_append]; exact join_mem _ b _ _ hbm) (nf_not b (p2 b hbm)).1
      unfold nfE nfL
      rw [if_neg (fun e => hne e.2), if_neg (fun e => hne e.2)]
      exact ⟨o1, o2⟩

/-- ONE ATOM. -/
theorem at_back (a : Am) (h : (printA a).2 = 0) : parseA (printA a).1 = (a, 0) ∧ asc (printA a).1 := by
  obtain ⟨h1, h2⟩ := printA_text a h
  have e : (printA a).1 = ba ([] ++ atT a ++ []) := pj_ba_ext (by rw [h2]; simp [ba])
  refine ⟨?_, asc_of_mem fun b hb => ?_⟩
  · rw [e]
    refine parseA_back a h1 [] [] Blk_nil Blk_nil ?_
    have := printA_size a
    rw [e, ba_size] at this
    exact this
  · rw [h2] at hb
    exact ((atT_props a h1).2.1 b hb).2.2

end Go.Proofs.YtfembjjpmjfklaaDoor
