import Derived.Test.YtjmomdnlibfbkaaDoorAbP
namespace Go.Proofs.YtjmomdnlibfbkaaDoor
open Go

/-! ### A path's two parts -/
theorem idx_at {c : UInt8} {l : List UInt8} {j : Nat} (h : Lib.index l [c] = (j : Int)) : ∃ hj : j < l.length, l[j] = c := by
  by_cases hm : c ∈ l
  · obtain ⟨a, r, e, hn⟩ := first_of hm
    rw [e, idx1_hit c r a hn] at h
    have ej : a.length = j := by omega
    have hj : j < l.length := by rw [e, List.length_append, List.length_cons]; omega
    have h2 : l[j]? = some c := by rw [e, List.getElem?_append_right (by omega), ← ej, Nat.sub_self]; rfl
    rw [List.getElem?_eq_getElem hj] at h2
    exact ⟨hj, Option.some.inj h2⟩
  · rw [idx1_miss c l hm] at h
    omega
theorem seg_nil0 (s : ByteArray) (k : Nat) : s.extract k k = ⟨#[]⟩ := by
  apply ba_inj
  rw [ext_list]
  simp
theorem head_ok {s : ByteArray} (h : segs s = true) (hp : 0 < s.size) : s.data.toList[0]'(by rw [size_list]; exact hp) ≠ 47 := by
  intro e
  have e2 : s[0] = 47 := e
  have := segs_step s 0 0 (Nat.le_refl _) hp e2 (fun j _ _ hj => absurd hj (Nat.not_lt_zero _))
  rw [whole, h, seg_nil0] at this
  cases this
theorem nonzero {s : ByteArray} (h : inR 33 126 s = true) : ∀ b ∈ s.data.toList, b ≠ 0 := fun b hb e => by
  have := List.all_eq_true.1 h b hb
  subst e
  simp at this
/-- WHAT IS SPLIT, IN LISTS. -/
theorem spl_parts {s : ByteArray} (h : (spl s).2.2 = 0) : ∃ pre nm : Bs, (spl s).1.data.toList = pre ∧ (spl s).2.1.data.toList = nm ∧ nm.length ≤ 100 ∧ pre.length ≤ 155 ∧ (∀ b ∈ pre, b ≠ 0) ∧ (∀ b ∈ nm, b ≠ 0) ∧ s.data.toList = if pre = [] then nm else pre ++ 47 :: nm := by
  have hl := size_list s
  cases ho : okP s with
  | false =>
    unfold spl at h
    rw [if_pos ho] at h
    cases h
  | true =>
    have ho2 := ho
    unfold okP at ho2
    simp only [Bool.and_eq_true, decide_eq_true_eq] at ho2
    obtain ⟨⟨_, hR⟩, hS⟩ := ho2
    have nz := nonzero hR
    by_cases hs : s.size ≤ 100
    · have e : spl s = (⟨#[]⟩, s, 0) := by unfold spl; rw [if_neg (by rw [ho]; simp), if_pos hs]
      rw [e]
      exact ⟨[], s.data.toList, rfl, rfl, by omega, by decide, (fun b hb => by cases hb), nz, by rw [if_pos rfl]⟩
    · by_cases hc : cutOf s < 0
      · unfold spl at h
        rw [if_neg (by rw [ho]; simp), if_neg hs, if_pos hc] at h
        cases h
      · obtain ⟨i, hi⟩ : ∃ i : Nat, cutOf s = i := ⟨(cutOf s).toNat, by omega⟩
        have e : spl s = (s.extract 0 i, s.extract (i + 1) s.size, 0) := by unfold spl; rw [if_neg (by rw [ho]; simp), if_neg hs, if_neg hc, hi]; rfl
        unfold cutOf at hi
        rw [if_neg hs] at hi
        simp only at hi
        split at hi
        · omega
        · split at hi
          · omega
          · rename_i h1 h2
            obtain ⟨j, hj⟩ : ∃ j : Nat, Lib.index (s.data.toList.drop (s.size - 101)) [47] = j := ⟨(Lib.index (s.data.toList.drop (s.size - 101)) [47]).toNat, by
              have := Lib.index_ge (s.data.toList.drop (s.size - 101)) [47]
              omega⟩
            rw [hj] at hi h2
            obtain ⟨hj1, hj2⟩ := idx_at hj
            rw [List.length_drop] at hj1
            rw [List.getElem_drop] at hj2
            have ei : i = s.size - 101 + j := by omega
            have hil : i < s.data.toList.length := by omega
            have hsi : s.data.toList[i] = 47 := by rw [← hj2]; congr 1
            have hi0 : 0 < i := by
              rcases Nat.eq_zero_or_pos i with e0 | e0
              · exfalso
                have := head_ok hS (by omega)
                apply this
                rw [← hsi]
                congr 1
                omega
              · exact e0
            rw [e]
            refine ⟨s.data.toList.take i, s.data.toList.drop (i + 1), ext_to s i, ext_from s (i + 1), by rw [List.length_drop]; omega, by rw [List.length_take]; omega, fun b hb => nz b (List.mem_of_mem_take hb), fun b hb => nz b (List.mem_of_mem_drop hb), ?_⟩
            rw [if_neg (by intro q; have := congrArg List.length q; rw [List.length_take, List.length_nil] at this; omega)]
            have := List.drop_eq_getElem_cons hil
            rw [hsi] at this
            rw [← this, List.take_append_drop]
/-! ### What a header tells -/
def hdP (p : ByteArray) (s : Nat) : Bs := hdr (spl p).1.data.toList (spl p).2.1.data.toList s
theorem hdP_len {p : ByteArray} (h : (spl p).2.2 = 0) (s : Nat) : (hdP p s).length = 512 := by
  obtain ⟨pre, nm, e1, e2, h1, h2, _⟩ := spl_parts h
  unfold hdP
  rw [e1, e2]
  exact hdr_len h1 h2 s
def rdP (h : Bs) : ByteArray := ba (if upz (fld 345 155 h) = [] then upz (fld 0 100 h) else upz (fld 345 155 h) ++ 47 :: upz (fld 0 100 h))
def rdS (h : Bs) : Nat := rdO (fld 124 11 h)
def toldL (h : Bs) : Option (ByteArray × Nat) := if (spl (rdP h)).2.2 = 0 ∧ hdP (rdP h) (rdS h) = h then some (rdP h, rdS h) else none
theorem rd_hd {p : ByteArray} (h : (spl p).2.2 = 0) {s : Nat} (hs : s < 8 ^ 11) : rdP (hdP p s) = p ∧ rdS (hdP p s) = s := by
  obtain ⟨pre, nm, e1, e2, h1, h2, z1, z2, e3⟩ := spl_parts h
  unfold rdP rdS hdP
  rw [e1, e2]
  obtain ⟨f1, f2, f3⟩ := hdr_parts h1 h2 s
  rw [f1, f2, f3, upz_app _ z1, upz_app _ z2, rd_oct 11 s hs, ← e3]
  exact ⟨ba_self p, rfl⟩
theorem told_hd {p : ByteArray} (h : (spl p).2.2 = 0) {s : Nat} (hs : s < 8 ^ 11) : toldL (hdP p s) = some (p, s) := by
  obtain ⟨r1, r2⟩ := rd_hd h hs
  unfold toldL
  rw [r1, r2, if_pos ⟨h, rfl⟩]
theorem told_is {l : Bs} {p : ByteArray} {s : Nat} (h : toldL l = some (p, s)) : (spl p).2.2 = 0 ∧ l = hdP p s := by
  unfold toldL at h
  split at h
  · rename_i q
    cases h
    exact ⟨q.1, q.2.symm⟩
  · cases h
theorem hdP_nz {p : ByteArray} (h : (spl p).2.2 = 0) (s : Nat) : hdP p s ≠ zs 512 := by
  intro e
  obtain ⟨pre, nm, e1, e2, h1, h2, _⟩ := spl_parts h
  have f2 := (hdr_parts h1 h2 s).2.1
  have e' : hdr pre nm s = zs 512 := by unfold hdP at e; rw [e1, e2] at e; exact e
  rw [e', fld_zs (by decide)] at f2
  have hm : dig s ∈ zs 11 := by rw [f2, oct]; exact List.mem_append_right _ (List.mem_singleton.2 rfl)
  have e0 := (List.mem_replicate.1 hm).2
  have := dig_nat s
  rw [e0] at this
  simp at this
  omega
/-! ### Files and their ustar -/
abbrev Fl := ByteArray × Bs
def fill (n : Nat) : Nat := (n + 511) / 512 * 512
theorem fill_ge (n : Nat) : n ≤ fill n := by unfold fill; omega
theorem fill_lt (n : Nat) : fill n < n + 512 := by unfold fill; omega
def okF (f : Fl) : Prop := (spl f.1).2.2 = 0 ∧ f.2.length ≤ 1048576
def blk (f : Fl) : Bs := hdP f.1 f.2.length ++ (f.2 ++ zs (fill f.2.length - f.2.length))
def tarL (fs : List Fl) : Bs := fs.flatMap blk ++ zs 1024
theorem zs_len (n : Nat) : (zs n).length = n := List.length_replicate
theorem blk_len {f : Fl} (h : okF f) : (blk f).length = 512 + fill f.2.length := by
  have := fill_ge f.2.length
  unfold blk
  rw [List.length_append, List.length_append, hdP_len h.1, zs_len]
  omega
def endE (d : Bs) : Int := if d.length < 512 then 73 else if d.take 512 ≠ zs 512 then 74 else if 512 < d.length then 75 else 0
def untL : Nat → Bs → Int × List Fl
  | 0, _ => (73, [])
  | n + 1, d => if d.length < 512 then (73, []) else if d.take 512 = zs 512 then (endE (d.drop 512), []) else match toldL (d.take 512) with
    | none => (72, [])
    | some (p, s) => if 1048576 < s then (78, []) else if (d.drop 512).length < fill s then (73, []) else if ((d.drop 512).drop s).take (fill s - s) ≠ zs (fill s - s) then (74, []) else ((untL n ((d.drop 512).drop (fill s))).1, if (untL n ((d.drop 512).drop (fill s))).1 = 0 then (p, (d.drop 512).take s) :: (untL n ((d.drop 512).drop (fill s))).2 else [])
theorem unt_succ (n : Nat) (d : Bs) : untL (n + 1) d = if d.length < 512 then (73, []) else if d.take 512 = zs 512 then (endE (d.drop 512), []) else match toldL (d.take 512) with
    | none => (72, [])
    | some (p, s) => if 1048576 < s then (78, []) else if (d.drop 512).length < fill s then (73, []) else if ((d.drop 512).drop s).take (fill s - s) ≠ zs (fill s - s) then (74, []) else ((untL n ((d.drop 512).drop (fill s))).1, if (untL n ((d.drop 512).drop (fill s))).1 = 0 then (p, (d.drop 512).take s) :: (untL n ((d.drop 512).drop (fill s))).2 else []) := by rw [untL]
/-- A WHOLE FILE AHEAD. -/
theorem unt_one {f : Fl} (h : okF f) (n : Nat) (t : Bs) : untL (n + 1) (blk f ++ t) = ((untL n t).1, if (untL n t).1 = 0 then f :: (untL n t).2 else []) := by
  have hl := hdP_len h.1 f.2.length
  have hg := fill_ge f.2.length
  have e1 : (blk f ++ t).take 512 = hdP f.1 f.2.length := by
    unfold blk
    rw [List.append_assoc, List.take_append_of_le_length (by omega), ← hl, List.take_length]
  have e2 : (blk f ++ t).drop 512 = f.2 ++ (zs (fill f.2.length - f.2.length) ++ t) := by
    unfold blk
    rw [List.append_assoc, List.drop_append_of_le_length (by omega), ← hl, List.drop_length, List.nil_append, List.append_assoc]
  have e3 : (f.2 ++ (zs (fill f.2.length - f.2.length) ++ t)).length = fill f.2.length + t.length := by
    rw [List.length_append, List.length_append, zs_len]
    omega
  have hb := blk_len h
  rw [unt_succ, if_neg (by rw [List.length_append]; omega), e1, if_neg (hdP_nz h.1 _), told_hd h.1 (Nat.lt_of_le_of_lt h.2 (by decide))]
  simp only
  rw [if_neg (by have := h.2; omega), e2, if_neg (by rw [e3]; omega)]
  have e4 : (f.2 ++ (zs (fill f.2.length - f.2.length) ++ t)).drop f.2.length = zs (fill f.2.length - f.2.length) ++ t := by rw [List.drop_append_of_le_length (Nat.le_refl _), List.drop_length, List.nil_append]
  have e5 : (zs (fill f.2.length - f.2.length) ++ t).take (fill f.2.length - f.2.length) = zs (fill f.2.length - f.2.length) := by
    rw [List.take_append_of_le_length (by rw [zs_len]; exact Nat.le_refl _), List.take_of_length_le (by rw [zs_len]; exact Nat.le_refl _)]
  have e6 : (f.2 ++ (zs (fill f.2.length - f.2.length) ++ t)).drop (fill f.2.length) = t := by
    rw [← List.append_assoc, List.drop_append_of_le_length (by rw [List.length_append, zs_len]; omega), List.drop_of_length_le (by rw [List.length_append, zs_len]; omega), List.nil_append]
  have e7 : (f.2 ++ (zs (fill f.2.length - f.2.length) ++ t)).take f.2.length = f.2 := by rw [List.take_append_of_le_length (Nat.le_refl _), List.take_length]
  rw [e4, e5, if_neg (fun q => q rfl), e6, e7]
theorem unt_nil : ∀ (n : Nat) (d : Bs), ¬ (untL n d).1 = 0 → (untL n d).2 = []
  | 0, _, _ => rfl
  | n + 1, d, h => by
    rw [unt_succ] at h ⊢
    split
    · rfl
    · rename_i h1
      rw [if_neg h1] at h
      split
      · rfl
      · rename_i h2
        rw [if_neg h2] at h
        cases ht : toldL (d.take 512) with
        | none => rfl
        | some q =>
          rw [ht] at h
          simp only at h ⊢
          split
          · rfl
          · rename_i h3
            rw [if_neg h3] at h
            split
            · rfl
            · rename_i h4
              rw [if_neg h4] at h
              split
              · rfl
              · rename_i h5
                rw [if_neg h5] at h
                exact if_neg h
theorem unt_many : ∀ {fs : List Fl}, (∀ f ∈ fs, okF f) → ∀ (n : Nat) (t : Bs), untL (n + fs.length) (fs.flatMap blk ++ t) = ((untL n t).1, if (untL n t).1 = 0 then fs ++ (untL n t).2 else [])
  | [], _, n, t => by
    rw [List.length_nil, Nat.add_zero, List.flatMap_nil, List.nil_append, List.nil_append]
    by_cases e : (untL n t).1 = 0
    · rw [if_pos e]
    · rw [if_neg e, ← unt_nil n t e]
  | f :: fs, h, n, t => by
    have ih := unt_many (fs := fs) (fun g hg => h g (List.mem_cons_of_mem _ hg)) n t
    rw [List.length_cons, ← Nat.add_assoc, List.flatMap_cons, List.append_assoc, unt_one (h f List.mem_cons_self), ih]
    by_cases e : (untL n t).1 = 0
    · simp [e]
    · simp [e]
theorem zs_take {n k : Nat} (h : k ≤ n) : (zs n).take k = zs k := by
  unfold zs
  rw [List.take_replicate]
  congr 1
  omega
theorem zs_drop (n k : Nat) : (zs n).drop k = zs (n - k) := by
  unfold zs
  rw [List.drop_replicate]
theorem unt_z {m : Nat} (h : 512 ≤ m) (n : Nat) : untL (n + 1) (zs m) = (if m < 1024 then 73 else if 1024 < m then 75 else 0, []) := by
  rw [unt_succ, if_neg (by rw [zs_len]; omega), if_pos (zs_take h), zs_drop]
  unfold endE
  rw [zs_len]
  by_cases h1 : m < 1024
  · rw [if_pos (by omega), if_pos h1]
  · rw [if_neg (by omega), if_neg h1, zs_take (by omega), if_neg (fun q => q rfl)]
    by_cases h2 : 1024 < m
    · rw [if_pos (by omega), if_pos h2]
    · rw [if_neg (by omega), if_neg h2]
theorem unt_tar {fs : List Fl} (h : ∀ f ∈ fs, okF f) (n : Nat) : untL (n + 1 + fs.length) (tarL fs) = (0, fs) := by
  unfold tarL
  rw [unt_many h, unt_z (by decide)]
  simp
theorem unt_short {fs : List Fl} (h : ∀ f ∈ fs, okF f) (n : Nat) : untL (n + 1 + fs.length) (fs.flatMap blk ++ zs 1023) = (73, []) := by
  rw [unt_many h, unt_z (by decide)]
  simp
theorem unt_rest {fs : List Fl} (h : ∀ f ∈ fs, okF f) (n : Nat) : untL (n + 1 + fs.length) (fs.flatMap blk ++ zs 1025) = (75, []) := by
  rw [unt_many h, unt_z (by decide)]
  simp
/-- WHAT IS TAKEN IS JUST THE USTAR OF WHAT IT HOLDS. -/
theorem unt_is : ∀ (n : Nat) (d : Bs), (untL n d).1 = 0 → d = tarL (untL n d).2 ∧ ∀ f ∈ (untL n d).2, okF f
  | 0, _, h => by cases h
  | n + 1, d, h => by
    rw [unt_succ] at h ⊢
    split at h
    · cases h
    · rename_i h1
      rw [if_neg h1]
      split at h
      · rename_i h2
        rw [if_pos h2]
        refine ⟨?_, fun f hf => by cases hf⟩
        have he : endE (d.drop 512) = 0 := h
        unfold endE at he
        split at he
        · cases he
        · split at he
          · cases he
          · split at he
            · cases he
            · rename_i g1 g2 g3
              have g2' : (d.drop 512).take 512 = zs 512 := Classical.byContradiction g2
              have e : d = d.take 512 ++ (d.drop 512).take 512 := by
                rw [List.take_of_length_le (l := d.drop 512) (by omega), List.take_append_drop]
              rw [e, h2, g2']
              show zs 512 ++ zs 512 = [].flatMap blk ++ zs 1024
              rw [List.flatMap_nil, List.nil_append]
              unfold zs
              rw [List.replicate_append_replicate]
      · rename_i h2
        rw [if_neg h2]
        cases ht : toldL (d.take 512) with
        | none => rw [ht] at h; cases h
        | some q =>
          obtain ⟨p, s⟩ := q
          rw [ht] at h
          simp only at h ⊢
          split at h
          · cases h
          · rename_i h3
            rw [if_neg h3]
            split at h
            · cases h
            · rename_i h4
              rw [if_neg h4]
              split at h
              · cases h
              · rename_i h5
                rw [if_neg h5]
                have h5' : ((d.drop 512).drop s).take (fill s - s) = zs (fill s - s) := Classical.byContradiction h5
                have hr : (untL n ((d.drop 512).drop (fill s))).1 = 0 := h
                obtain ⟨i1, i2⟩ := unt_is n _ hr
                obtain ⟨t1, t2⟩ := told_is ht
                have hg := fill_ge s
                have hsl : ((d.drop 512).take s).length = s := by rw [List.length_take]; omega
                have hok : okF (p, (d.drop 512).take s) := ⟨t1, by show ((d.drop 512).take s).length ≤ _; omega⟩
                simp only
                rw [if_pos hr]
                refine ⟨?_, fun f hf => ?_⟩
                · unfold tarL at i1 ⊢
                  rw [List.flatMap_cons, List.append_assoc, ← i1]
                  unfold blk
                  simp only
                  rw [hsl, ← t2, ← h5', List.append_assoc, List.append_assoc]
                  have e1 : ((d.drop 512).drop s).take (fill s - s) ++ (d.drop 512).drop (fill s) = (d.drop 512).drop s := by
                    have := List.take_append_drop (fill s - s) ((d.drop 512).drop s)
                    rw [List.drop_drop (l := d.drop 512), show s + (fill s - s) = fill s by omega] at this
                    exact this
                  rw [e1, List.take_append_drop, List.take_append_drop]
                · rcases List.mem_cons.1 hf with rfl | hf
                  · exact hok
                  · exact i2 f hf
end Go.Proofs.YtjmomdnlibfbkaaDoor
