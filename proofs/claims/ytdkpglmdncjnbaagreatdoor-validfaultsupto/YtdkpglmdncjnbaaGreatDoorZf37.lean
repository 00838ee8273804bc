import Derived.Test.YtdkpglmdncjnbaaGreatDoorZf36
namespace Go.Proofs.YtdkpglmdncjnbaaGreatDoor
section
open Go.RowKit Go.Maps
set_option maxRecDepth 100000 in
set_option maxHeartbeats 4000000 in
theorem rFaults_any {w : World} {v : Value} {ps : List Pk} (sm : SmP ps) (pk : Pkl w v ps) :
 Calls Tryz.prog 8 #[v] w fun e w' => ∃ r, e = .returned r ∧ w'.ownsRow w.heap.size 31 6 r (ftL ps ps.length).length (ftC (ftL ps ps.length)) ∧ RowKit.Below w.heap.size w w' := by
 obtain ⟨va, vc, rfl⟩ : ∃ a c, v = .slice a ps.length c := let ⟨a, c, e, _⟩ := pk; ⟨a, c, e⟩
 have hl := sm.l
 have HOF := hide (show ∀ X, RowKit.Below w.heap.size w X → ∀ (i : Nat) (q : Pk), ps[i]? = some q → Calls Tryz.prog 26 #[.slice va ps.length vc, .int .i64 (i : Int)] X fun e w' => ∃ r, e = .returned r ∧ w'.ownsRow X.heap.size 31 6 r (ftA ps i q).length (ftC (ftA ps i q)) ∧ RowKit.Below X.heap.size X w' from fun X hX i q hq => rof_any (w := X) (v := .slice va ps.length vc) (ps := ps) (p := i) (q := q) sm (pk.later hX) hq)
 have HSM := hide sm
 have HST := hide (Fs.start w)
 clear sm pk
 go_enter Tryz.func8, Tryz.ntmps8
 go_wp2_with fail
 go_loopg [3, 4] ps.length (fun gq lv iv wr => ∃ i : Nat, iv = .int .i64 i ∧ i ≤ ps.length ∧ ps.length - i ≤ gq ∧ Hid (Fs w wr lv (ftL ps i)))
 case atStart => exact ⟨0, by go_num, by omega, by omega, HST⟩
 case round =>
  clear HST
  obtain ⟨i, rfl, hi, hg, HF⟩ := hrel
  by_cases hlt : i < ps.length
  ·have hlt2 : (i : Int) < (ps.length : Int) := by omega
   obtain ⟨q, hq⟩ : ∃ q, ps[i]? = some q := ⟨_, List.getElem?_eq_getElem hlt⟩
   have CA := hide (unhide HOF wr (unhide HF).bw i q hq)
   have HE := hide (ftL_succ hq)
   have hL1 : (ftL ps i).length + (ftA ps i q).length ≤ 549755813888 := by
    rw [← List.length_append, ← ftL_succ hq]
    exact ftL_all (unhide HSM) (by omega)
   clear hq
   go_wp2_with (first
    | (go_at_call 26; refine (unhide CA).mono ?_; rintro e w6 ⟨r, rfl, hrow, hb6⟩; obtain ⟨v9, w9, hr9, hf9⟩ := ((unhide HF).later hb6).cat hrow hL1 24; have HF9 := hide hf9; clear hrow hb6 hf9 CA)
    | (at_builtin; refine wpl_append_run rfl _ _ 24 rfl _ _ rfl rfl hr9 ?_))
   go_roundg (ps.length - (i + 1))
   case measure => omega
   case rel => exact ⟨i + 1, by go_num, by omega, by omega, hide (by rw [unhide HE]; exact unhide HF9)⟩
  ·obtain rfl : i = ps.length := by omega
   go_wp2_with fail
   go_ret
   exact ⟨u3, rfl, (unhide HF).row, (unhide HF).bw⟩
theorem ftL_nil (ps : List Pk) : ∀ n, ftL ps n = [] ↔ ∀ i q, i < n → ps[i]? = some q → ftA ps i q = []
 | 0 => ⟨fun _ i q h => absurd h (Nat.not_lt_zero _), fun _ => rfl⟩
 | n + 1 => by
   have ih := ftL_nil ps n
   constructor
   ·intro h i q hi hq
    have h2 : ftL ps n ++ (match ps[n]? with | some q => ftA ps n q | none => []) = [] := h
    obtain ⟨h3, h4⟩ := List.append_eq_nil_iff.1 h2
    by_cases e : i = n
    ·subst e
     rw [hq] at h4
     exact h4
    ·exact ih.1 h3 i q (by omega) hq
   ·intro h
    show ftL ps n ++ _ = []
    rw [ih.2 fun i q hi hq => h i q (by omega) hq, List.nil_append]
    cases e : ps[n]? with
    | none => rfl
    | some q => exact h n q (by omega) e
theorem ftL_nil2 (ps : List Pk) : ftL ps ps.length = [] ↔ ∀ i q, ps[i]? = some q → ftA ps i q = [] :=
 ⟨fun h i q hq => (ftL_nil ps _).1 h i q (List.getElem?_eq_some_iff.1 hq).1 hq, fun h => (ftL_nil ps _).2 fun i q _ hq => h i q hq⟩
set_option maxRecDepth 100000 in
set_option maxHeartbeats 4000000 in
theorem rValid_any {w : World} {v : Value} {ps : List Pk} (sm : SmP ps) (pk : Pkl w v ps) :
 Calls Tryz.prog 32 #[v] w fun e w' => e = .returned (.bool (decide (ftL ps ps.length = []))) ∧ RowKit.Below w.heap.size w w' := by
 have CF := hide (rFaults_any sm pk)
 obtain ⟨L, hL⟩ : ∃ L, L = ftL ps ps.length := ⟨_, rfl⟩
 rw [← hL] at CF ⊢
 clear hL
 go_enter Tryz.func32, Tryz.ntmps32
 go_wp2_with fail
 refine (unhide CF).mono ?_
 rintro e w1 ⟨r, rfl, hrow, hb⟩
 obtain ⟨⟨ra, rn, rk⟩, rfl, hrn⟩ := slice_hd hrow
 simp only at hrn
 subst hrn
 have HB := hide hb
 clear hrow hb CF sm pk
 unfold hv
 by_cases hL : L = []
 ·subst hL
  go_wp2_with fail
  go_ret
  exact ⟨rfl, unhide HB⟩
 ·have h0 : L.length ≠ 0 := fun h => hL (List.length_eq_zero_iff.1 h)
  have h1 : ¬ (L.length : Int) = 0 := by omega
  have h2 : ((L.length : Int) == 0) = false := by simpa using hL
  go_wp2_with fail
  go_ret
  refine ⟨?_, unhide HB⟩
  rw [decide_eq_false hL]
  rfl
end
section
open Go.RowKit Go.Maps
theorem lx_of {x y : Nm × Nm} (h : ¬ lx y x) (hne : x ≠ y) : lx x y := by
 rw [nlx] at h
 unfold lx
 by_cases e : x.1.toList = y.1.toList
 ·refine .inr ⟨e, List.not_le.1 fun q => hne ?_⟩
  have e2 := List.le_antisymm (h.2 e.symm) q
  exact Prod.ext (bl_eq.1 e) (bl_eq.1 e2)
 ·refine .inl (List.not_le.1 fun q => e (List.le_antisymm h.1 q))
theorem infoKY : (Tryz.prog.info? 29).map (fun i => (i.zero, i.size, i.bytes)) = some (some (.agg #[.string ⟨#[]⟩, .string ⟨#[]⟩]), 2, 32) := by kernel_rfl
structure Kw (W wr : World) (s : Value) (l : List (Nm × Nm)) : Prop where
 row : wr.ownsRow W.heap.size 29 2 s l.length (kyC l)
 bw : RowKit.Below W.heap.size W wr
theorem Kw.start (W : World) : Kw W W (.slice none 0 0) [] := ⟨⟨rfl, .inl ⟨rfl, rfl⟩⟩, Below.refl _ _⟩
theorem Kw.later {W wr w2 : World} {s : Value} {l : List (Nm × Nm)} (h : Kw W wr s l) (hb : RowKit.Below wr.heap.size wr w2) : Kw W w2 s l := ⟨own_same h.row fun b e => hb.block b (World.ownsRow.lt h.row b e).2, bl_t h.bw hb⟩
theorem kyC_snoc (l : List (Nm × Nm)) (x : Nm × Nm) : kyC (l ++ [x]) = kyC l ++ [.string x.1, .string x.2] := by
 unfold kyC
 rw [List.map_append, List.flatten_append]
 rfl
theorem Kw.grow {W wr w9 : World} {s v' : Value} {l : List (Nm × Nm)} {x : Nm × Nm} {o : Obj} (h : Kw W wr s l) (hown : w9.ownsRow W.heap.size 29 2 v' (l.length + 1) (kyC l ++ [.string x.1, .string x.2])) (hg : (wr.alloc o).grownBy w9 s.ownBlock) : Kw W w9 v' (l ++ [x]) := by
 refine ⟨?_, (h.bw.alloc h.bw.size o).grown hg ?_ fun j e => (World.ownsRow.lt h.row j e).1⟩
 ·rw [List.length_append, kyC_snoc]
  exact hown
 ·have := h.bw.size
  rw [World.size_alloc]
  omega
end
section
open Go.RowKit Go.Maps Go.Sort Go.Shelf
def gtB (x k : Nm) : Bool := !Op.bytesLess x.toList k.toList && !(x.toList == k.toList)
theorem gtB_iff {x k : Nm} : gtB x k = true ↔ k.toList < x.toList := by
 unfold gtB
 rw [bytesLess_eq, Bool.and_eq_true, Bool.not_eq_true', Bool.not_eq_true', decide_eq_false_iff_not, beq_eq_false_iff_ne]
 constructor
 ·rintro ⟨h1, h2⟩
  by_cases h : k.toList < x.toList
  ·exact h
  ·exact absurd (List.le_antisymm (List.not_lt.1 h) (List.not_lt.1 h1)) h2
 ·intro h
  exact ⟨fun q => List.lt_irrefl _ (List.lt_trans h q), fun e => by rw [e] at h; exact List.lt_irrefl _ h⟩
def lxB (k x : Nm × Nm) : Bool := gtB x.1 k.1 || (x.1.toList == k.1.toList && gtB x.2 k.2)
theorem lxB_iff {x y : Nm × Nm} : lxB x y = true ↔ lx x y := by
 unfold lxB lx
 rw [Bool.or_eq_true, Bool.and_eq_true, gtB_iff, gtB_iff, beq_iff_eq]
 exact ⟨fun h => h.imp id fun q => ⟨q.1.symm, q.2⟩, fun h => h.imp id fun q => ⟨q.1.symm, q.2⟩⟩
def insK (k : Nm × Nm) : List (Nm × Nm) → List (Nm × Nm)
 | [] => [k]
 | x :: r => if (decide (x.1 = k.1) && decide (x.2 = k.2)) = true then x :: r else if lxB k x = true then k :: x :: r else x :: insK k r
theorem insK_cons (k x : Nm × Nm) (r : List (Nm × Nm)) : insK k (x :: r) = if (decide (x.1 = k.1) && decide (x.2 = k.2)) = true then x :: r else if lxB k x = true then k :: x :: r else x :: insK k r := rfl
theorem eqB_iff {x k : Nm × Nm} : (decide (x.1 = k.1) && decide (x.2 = k.2)) = true ↔ x = k := by
 rw [Bool.and_eq_true, decide_eq_true_eq, decide_eq_true_eq]
 exact ⟨fun h => Prod.ext h.1 h.2, fun h => by rw [h]; exact ⟨rfl, rfl⟩⟩
theorem insK_len (k : Nm × Nm) : ∀ l : List (Nm × Nm), (insK k l).length ≤ l.length + 1
 | [] => Nat.le_refl _
 | x :: r => by
   unfold insK
   split
   ·simp
   ·split
    ·simp
    ·have := insK_len k r; simp; omega
theorem insK_mem (k y : Nm × Nm) : ∀ l : List (Nm × Nm), y ∈ insK k l ↔ y = k ∨ y ∈ l
 | [] => by simp [insK]
 | x :: r => by
   unfold insK
   split
   ·rename_i h
    have := eqB_iff.1 h
    subst this
    rw [List.mem_cons]
    exact ⟨fun q => .inr q, fun q => q.elim .inl id⟩
   ·split
    ·rw [List.mem_cons]
    ·rw [List.mem_cons, insK_mem k y r, List.mem_cons]
     exact ⟨fun q => q.elim (fun q => .inr (.inl q)) (fun q => q.elim .inl (fun q => .inr (.inr q))), fun q => q.elim (fun q => .inr (.inl q)) (fun q => q.elim .inl (fun q => .inr (.inr q)))⟩
theorem lx_trans {x y z : Nm × Nm} (p : lx x y) (q : lx y z) : lx x z := ltK.1 (swoK.trans x y z (ltK.2 p) (ltK.2 q))
theorem lx_tri (x y : Nm × Nm) (h1 : x ≠ y) (h2 : ¬ lx x y) : lx y x := by
 by_cases h : lx y x
 ·exact h
 ·exfalso
  obtain ⟨a1, a2⟩ := nlx.1 h2
  obtain ⟨b1, b2⟩ := nlx.1 h
  have e1 : x.1.toList = y.1.toList := List.le_antisymm b1 a1
  have e2 : x.2.toList = y.2.toList := List.le_antisymm (b2 e1.symm) (a2 e1)
  exact h1 (Prod.ext (bl_eq.1 e1) (bl_eq.1 e2))
theorem insK_rise (k : Nm × Nm) : ∀ l : List (Nm × Nm), l.Pairwise lx → (insK k l).Pairwise lx
 | [], _ => by simp [insK]
 | x :: r, h => by
   obtain ⟨h1, h2⟩ := List.pairwise_cons.1 h
   unfold insK
   split
   ·exact h
   ·rename_i hne
    split
    ·rename_i hl
     have hkx := lxB_iff.1 hl
     refine List.pairwise_cons.2 ⟨fun y hy => ?_, h⟩
     rcases List.mem_cons.1 hy with rfl | hy
     ·exact hkx
     ·exact lx_trans hkx (h1 y hy)
    ·rename_i hl
     refine List.pairwise_cons.2 ⟨fun y hy => ?_, insK_rise k r h2⟩
     rcases (insK_mem k y r).1 hy with rfl | hy
     ·exact lx_tri _ _ (fun e => hne (eqB_iff.2 e.symm)) (fun e => hl (lxB_iff.2 e))
     ·exact h1 y hy
def InK (k : Nm × Nm) (l : List (Nm × Nm)) (i : Nat) (laid : Bool) (m : List (Nm × Nm)) : Prop := m ++ (if laid = true then l.drop i else insK k (l.drop i)) = insK k l
theorem InK.len {k : Nm × Nm} {l m : List (Nm × Nm)} {i : Nat} {b : Bool} (h : InK k l i b m) : m.length ≤ l.length + 1 := by
 have h1 := congrArg List.length h
 rw [List.length_append] at h1
 have := insK_len k l
 omega
theorem InK.start (k : Nm × Nm) (l : List (Nm × Nm)) : InK k l 0 false [] := rfl
theorem InK.skip {k x : Nm × Nm} {l m : List (Nm × Nm)} {i : Nat} (h : InK k l i true m) (hx : l[i]? = some x) : InK k l (i + 1) true (m ++ [x]) := by
 unfold InK at *
 rw [if_pos rfl] at *
 have hil := (List.getElem?_eq_some_iff.1 hx).1
 rw [List.drop_eq_getElem_cons hil, (List.getElem?_eq_some_iff.1 hx).2] at h
 simpa using h
theorem InK.same {k : Nm × Nm} {l m : List (Nm × Nm)} {i : Nat} (h : InK k l i false m) (hx : l[i]? = some k) : InK k l (i + 1) true (m ++ [k]) := by
 unfold InK at *
 rw [if_pos rfl]
 rw [if_neg (by simp)] at h
 have hil := (List.getElem?_eq_some_iff.1 hx).1
 rw [List.drop_eq_getElem_cons hil, (List.getElem?_eq_some_iff.1 hx).2] at h
 rw [insK_cons] at h
 rw [if_pos (eqB_iff.2 rfl)] at h
 rw [← h]
 simp
theorem InK.lay {k x : Nm × Nm} {l m : List (Nm × Nm)} {i : Nat} (h : InK k l i false m) (hx : l[i]? = some x) (hl : lxB k x = true) : x ≠ k ∧ InK k l (i + 1) true (m ++ [k] ++ [x]) := by
 have hne : x ≠ k := fun e => by
  rw [e] at hl
  exact nlx.2 ⟨List.le_refl _, fun _ => List.le_refl _⟩ (lxB_iff.1 hl)
 refine ⟨hne, ?_⟩
 unfold InK at *
 rw [if_pos rfl]
 rw [if_neg (by simp)] at h
 have hil := (List.getElem?_eq_some_iff.1 hx).1
 rw [List.drop_eq_getElem_cons hil, (List.getElem?_eq_some_iff.1 hx).2] at h
 rw [insK_cons] at h
 rw [if_neg (fun e => hne (eqB_iff.1 e)), if_pos hl] at h
 rw [← h]
 simp
theorem InK.pass {k x : Nm × Nm} {l m : List (Nm × Nm)} {i : Nat} (h : InK k l i false m) (hx : l[i]? = some x) (hl : lxB k x = false) (hne : x ≠ k) : InK k l (i + 1) false (m ++ [x]) := by
 unfold InK at *
 rw [if_neg (by simp)] at *
 have hil := (List.getElem?_eq_some_iff.1 hx).1
 rw [List.drop_eq_getElem_cons hil, (List.getElem?_eq_some_iff.1 hx).2] at h
 rw [insK_cons] at h
 rw [if_neg (fun e => hne (eqB_iff.1 e)), if_neg (by rw [hl]; simp)] at h
 rw [← h]
 simp
theorem InK.fin {k : Nm × Nm} {l m : List (Nm × Nm)} {i : Nat} {b : Bool} (h : InK k l i b m) (hi : l.length ≤ i) : (if b = true then m else m ++ [k]) = insK k l := by
 unfold InK at h
 rw [List.drop_eq_nil_of_le hi] at h
 cases b
 ·simpa [insK] using h
 ·simpa using h
end
section
open Go.RowKit Go.Maps Go.Sort Go.Shelf
set_option maxRecDepth 100000 in
set_option maxHeartbeats 8000000 in
theorem rinsert_any {w : World} {u : Value} {l : List (Nm × Nm)} (k1 k2 : Nm) (hl : l.length ≤ 1048576) (h : Kyl w u l) :
 Calls Tryz.prog 53 #[u, .agg #[.string k1, .string k2]] w fun e w' => ∃ r, e = .returned r ∧ w'.ownsRow w.heap.size 29 2 r (insK (k1, k2) l).length (kyC (insK (k1, k2) l)) ∧ RowKit.Below w.heap.size w w' := by
 obtain ⟨i0, hi, hz0, hz1, hz2⟩ := info_parts2 infoKY
 obtain ⟨a, c, rfl⟩ : ∃ a c, u = .slice a l.length c := let ⟨a, c, e, _⟩ := h; ⟨a, c, e⟩
 have H := hide h
 obtain ⟨N, hN⟩ : ∃ N, N = l.length := ⟨_, rfl⟩
 have HN := hide hN
 rw [← hN] at hl H ⊢
 clear h hN
 have HA := hide ((Below.refl w.heap.size w).alloc (Nat.le_refl _) (.cells #[.string k1, .string k2] 29))
 obtain ⟨W1, hW1⟩ : ∃ W, W = w.alloc (.cells #[.string k1, .string k2] 29) := ⟨_, rfl⟩
 have HZ := hide (show W1.cell? ⟨w.heap.size, 0, none⟩ = some (.string k1) ∧ W1.cell? ⟨w.heap.size, 1, none⟩ = some (.string k2) ∧ w.heap.size < W1.heap.size from by
  rw [hW1]
  exact ⟨by rw [World.cell?_alloc_at _ _ _ _ rfl]; rfl, by rw [World.cell?_alloc_at _ _ _ _ rfl]; rfl, by simp⟩)
 rw [← hW1] at HA
 have HS := hide (And.intro (Kw.start W1) (InK.start (k1, k2) l))
 go_enter Tryz.func53, Tryz.ntmps53
 go_wp2_with fail
 rw [← hW1]
 clear hW1
 go_loopg [5, 6, 7] N (fun gq sv bv iv wr => ∃ (i : Nat) (b : Bool) (m : List (Nm × Nm)), iv = .int .i64 i ∧ bv = .bool b ∧ i ≤ N ∧ N - i ≤ gq ∧ Hid (Kw W1 wr sv m ∧ InK (k1, k2) l i b m))
 case atStart => exact ⟨0, false, [], by go_num, rfl, by omega, by omega, HS⟩
 case round =>
  clear HS
  obtain ⟨i, b, m, rfl, rfl, hi2, hg, HK⟩ := hrel
  have hml : m.length ≤ N + 1 := by have := (unhide HK).2.len; have := unhide HN; omega
  by_cases hlt : i < N
  ·have hin : (i : Int) < (N : Int) := by omega
   have hik : i < l.length := by have := unhide HN; omega
   have hx : l[i]? = some l[i] := List.getElem?_eq_getElem hik
   have hbW := (unhide HK).1.bw
   have HC := hide (show ∀ Y, RowKit.Below W1.heap.size W1 Y → ∃ g o, a = some ⟨g, o, none⟩ ∧ Y.cell? ⟨g, o + i * 2, none⟩ = some (.string l[i].1) ∧ Y.cell? ⟨g, o + i * 2 + 1, none⟩ = some (.string l[i].2) ∧ Y.cell? ⟨w.heap.size, 0, none⟩ = some (.string k1) ∧ Y.cell? ⟨w.heap.size, 1, none⟩ = some (.string k2) ∧ g < Y.heap.size ∧ w.heap.size < Y.heap.size from fun Y hY => by
    obtain ⟨g, o, e, hb, p0, p1⟩ := ((unhide H).later (bl_t (unhide HA) hY)).at hx
    exact ⟨g, o, e, p0, p1, (hY.cell (p := ⟨w.heap.size, 0, none⟩) (unhide HZ).2.2).trans (unhide HZ).1, (hY.cell (p := ⟨w.heap.size, 1, none⟩) (unhide HZ).2.2).trans (unhide HZ).2.1, hb, Nat.lt_of_lt_of_le (unhide HZ).2.2 hY.size⟩)
   obtain ⟨g, o, rfl, p0, p1, z0, z1, hgb, hwb⟩ := unhide HC _ hbW
   have HC' : Hid (∀ Y, RowKit.Below W1.heap.size W1 Y → Y.cell? ⟨g, o + i * 2, none⟩ = some (.string l[i].1) ∧ Y.cell? ⟨g, o + i * 2 + 1, none⟩ = some (.string l[i].2) ∧ Y.cell? ⟨w.heap.size, 0, none⟩ = some (.string k1) ∧ Y.cell? ⟨w.heap.size, 1, none⟩ = some (.string k2) ∧ g < Y.heap.size ∧ w.heap.size < Y.heap.size) := hide fun Y hY => by
    obtain ⟨g', o', e, r⟩ := unhide HC Y hY
    cases e
    exact r
   clear HC
   have HC := HC'
   clear HC'
   have HX := hide hx
   have HKd := hide (fun n => (unhide HK).1.later (bl_drewN wr n))
   generalize l[i] = x at *
   obtain ⟨x1, x2⟩ := x
   simp only at p0 p1 HC
   have ce := eqlK x1 x2 k1 k2
   clear hx hbW
   by_cases B1 : Op.bytesLess x1.toList k1.toList = true
   ·have E1 : ¬ x1.toList = k1.toList := fun e => by rw [e, bytesLess_eq] at B1; exact List.lt_irrefl _ (of_decide_eq_true B1)
    have E1b : (x1.toList == k1.toList) = false := beq_eq_false_iff_ne.2 E1
    have HNE : ((x1, x2) : Nm × Nm) ≠ (k1, k2) := fun e => E1 (by injection e with e1 _; rw [e1])
    rw [show (decide (x1 = k1) && decide (x2 = k2)) = false from Bool.eq_false_iff.2 fun e => HNE (eqB_iff.1 e)] at ce
    have HL : lxB (k1, k2) (x1, x2) = false := by unfold lxB gtB; simp [B1, E1b]
    cases b
    ·have HI' := hide ((unhide HK).2.pass (unhide HX) HL HNE)
     clear HK HX HL HNE
     go_wp2_with fail
     go_quiet (fail)
     go_wp2_with fail
     go_quiet (fail)
     go_wp2_with ((at_builtin; go_must (refine wpList_append_own _ rfl _ _ 33 rfl W1.heap.size 29 i0 (.agg #[.string ⟨#[]⟩, .string ⟨#[]⟩]) 2 32 Tryz.underlying33 hi hz0 hz1 hz2 rfl (by decide) _ _ _ rfl (own_same (unhide HKd _).row fun b e => Below.heap_alloc _ _ _ (World.ownsRow.lt (unhide HKd _).row b e).2) ⟨wr.heap.size, 0, none⟩ 1 1 [.string x1, .string x2] rfl rfl (fun k u hk => by rw [Addr.add_mid, Nat.zero_add]; exact (World.cell?_alloc_new (wr.drewN _) _ _ _).trans (by simpa using hk)) (fun u hu => by simp at hu; rcases hu with rfl | rfl <;> rfl) (by unfold maxLen; omega) (by omega) (by rw [World.size_alloc]; exact Nat.le_succ_of_le (unhide HKd _).bw.size) ?_); intro v' w9 hown hgrow _; have HF := hide ((unhide HKd _).grow (x := (x1, x2)) hown hgrow); clear hown hgrow; obtain ⟨q0, q1, y0, y1, hg9, hw9⟩ := unhide HC w9 (unhide HF).bw))
     go_roundg (N - (i + 1))
     case measure => omega
     case rel => exact ⟨i + 1, false, _, by go_num, rfl, by omega, by omega, hide ⟨unhide HF, unhide HI'⟩⟩
    ·have HI' := hide ((unhide HK).2.skip (unhide HX))
     clear HK HX
     go_wp2_with fail
     go_quiet (fail)
     go_wp2_with fail
     go_quiet (fail)
     go_wp2_with ((at_builtin; go_must (refine wpList_append_own _ rfl _ _ 33 rfl W1.heap.size 29 i0 (.agg #[.string ⟨#[]⟩, .string ⟨#[]⟩]) 2 32 Tryz.underlying33 hi hz0 hz1 hz2 rfl (by decide) _ _ _ rfl (own_same (unhide HKd _).row fun b e => Below.heap_alloc _ _ _ (World.ownsRow.lt (unhide HKd _).row b e).2) ⟨wr.heap.size, 0, none⟩ 1 1 [.string x1, .string x2] rfl rfl (fun k u hk => by rw [Addr.add_mid, Nat.zero_add]; exact (World.cell?_alloc_new (wr.drewN _) _ _ _).trans (by simpa using hk)) (fun u hu => by simp at hu; rcases hu with rfl | rfl <;> rfl) (by unfold maxLen; omega) (by omega) (by rw [World.size_alloc]; exact Nat.le_succ_of_le (unhide HKd _).bw.size) ?_); intro v' w9 hown hgrow _; have HF := hide ((unhide HKd _).grow (x := (x1, x2)) hown hgrow); clear hown hgrow; obtain ⟨q0, q1, y0, y1, hg9, hw9⟩ := unhide HC w9 (unhide HF).bw))
     go_roundg (N - (i + 1))
     case measure => omega
     case rel => exact ⟨i + 1, true, _, by go_num, rfl, by omega, by omega, hide ⟨unhide HF, unhide HI'⟩⟩
   ·rw [Bool.not_eq_true] at B1
    by_cases E1 : x1.toList = k1.toList
    ·obtain rfl : x1 = k1 := bl_eq.1 E1
     clear E1 B1
     have B1 : Op.bytesLess x1.toList x1.toList = false := by rw [bytesLess_eq]; exact decide_eq_false (List.lt_irrefl _)
     by_cases B2 : Op.bytesLess x2.toList k2.toList = true
     ·have E2 : ¬ x2.toList = k2.toList := fun e => by rw [e, bytesLess_eq] at B2; exact List.lt_irrefl _ (of_decide_eq_true B2)
      have E2b : (x2.toList == k2.toList) = false := beq_eq_false_iff_ne.2 E2
      have HNE : ((x1, x2) : Nm × Nm) ≠ (x1, k2) := fun e => E2 (by injection e with _ e2; rw [e2])
      rw [show (decide (x1 = x1) && decide (x2 = k2)) = false from Bool.eq_false_iff.2 fun e => HNE (eqB_iff.1 e)] at ce
      have HL : lxB (x1, k2) (x1, x2) = false := by unfold lxB gtB; simp [B2]
      cases b
      ·have HI' := hide ((unhide HK).2.pass (unhide HX) HL HNE)
       clear HK HX HL HNE
       go_wp2_with fail
       go_quiet (fail)
       go_wp2_with fail
       go_quiet (fail)
       go_wp2_with ((at_builtin; go_must (refine wpList_append_own _ rfl _ _ 33 rfl W1.heap.size 29 i0 (.agg #[.string ⟨#[]⟩, .string ⟨#[]⟩]) 2 32 Tryz.underlying33 hi hz0 hz1 hz2 rfl (by decide) _ _ _ rfl (own_same (unhide HKd _).row fun b e => Below.heap_alloc _ _ _ (World.ownsRow.lt (unhide HKd _).row b e).2) ⟨wr.heap.size, 0, none⟩ 1 1 [.string x1, .string x2] rfl rfl (fun k u hk => by rw [Addr.add_mid, Nat.zero_add]; exact (World.cell?_alloc_new (wr.drewN _) _ _ _).trans (by simpa using hk)) (fun u hu => by simp at hu; rcases hu with rfl | rfl <;> rfl) (by unfold maxLen; omega) (by omega) (by rw [World.size_alloc]; exact Nat.le_succ_of_le (unhide HKd _).bw.size) ?_); intro v' w9 hown hgrow _; have HF := hide ((unhide HKd _).grow (x := (x1, x2)) hown hgrow); clear hown hgrow; obtain ⟨q0, q1, y0, y1, hg9, hw9⟩ := unhide HC w9 (unhide HF).bw))
       go_roundg (N - (i + 1))
       case measure => omega
       case rel => exact ⟨i + 1, false, _, by go_num, rfl, by omega, by omega, hide ⟨unhide HF, unhide HI'⟩⟩
      ·have HI' := hide ((unhide HK).2.skip (unhide HX))
       clear HK HX
       go_wp2_with fail
       go_quiet (fail)
       go_wp2_with fail
       go_quiet (fail)
       go_wp2_with ((at_builtin; go_must (refine wpList_append_own _ rfl _ _ 33 rfl W1.heap.size 29 i0 (.agg #[.string ⟨#[]⟩, .string ⟨#[]⟩]) 2 32 Tryz.underlying33 hi hz0 hz1 hz2 rfl (by decide) _ _ _ rfl (own_same (unhide HKd _).row fun b e => Below.heap_alloc _ _ _ (World.ownsRow.lt (unhide HKd _).row b e).2) ⟨wr.heap.size, 0, none⟩ 1 1 [.string x1, .string x2] rfl rfl (fun k u hk => by rw [Addr.add_mid, Nat.zero_add]; exact (World.cell?_alloc_new (wr.drewN _) _ _ _).trans (by simpa using hk)) (fun u hu => by simp at hu; rcases hu with rfl | rfl <;> rfl) (by unfold maxLen; omega) (by omega) (by rw [World.size_alloc]; exact Nat.le_succ_of_le (unhide HKd _).bw.size) ?_); intro v' w9 hown hgrow _; have HF := hide ((unhide HKd _).grow (x := (x1, x2)) hown hgrow); clear hown hgrow; obtain ⟨q0, q1, y0, y1, hg9, hw9⟩ := unhide HC w9 (unhide HF).bw))
       go_roundg (N - (i + 1))
       case measure => omega
       case rel => exact ⟨i + 1, true, _, by go_num, rfl, by omega, by omega, hide ⟨unhide HF, unhide HI'⟩⟩
     ·rw [Bool.not_eq_true] at B2
      by_cases E2 : x2.toList = k2.toList
      ·obtain rfl : x2 = k2 := bl_eq.1 E2
       clear E2 B2
       have B2 : Op.bytesLess x2.toList x2.toList = false := by rw [bytesLess_eq]; exact decide_eq_false (List.lt_irrefl _)
       rw [show (decide (x1 = x1) && decide (x2 = x2)) = true by simp] at ce
       cases b
       ·have HI' := hide ((unhide HK).2.same (unhide HX))
        clear HK HX
        go_wp2_with fail
        go_quiet (fail)
        go_wp2_with fail
        go_quiet (fail)
        go_wp2_with ((at_builtin; go_must (refine wpList_append_own _ rfl _ _ 33 rfl W1.heap.size 29 i0 (.agg #[.string ⟨#[]⟩, .string ⟨#[]⟩]) 2 32 Tryz.underlying33 hi hz0 hz1 hz2 rfl (by decide) _ _ _ rfl (own_same (unhide HKd _).row fun b e => Below.heap_alloc _ _ _ (World.ownsRow.lt (unhide HKd _).row b e).2) ⟨wr.heap.size, 0, none⟩ 1 1 [.string x1, .string x2] rfl rfl (fun k u hk => by rw [Addr.add_mid, Nat.zero_add]; exact (World.cell?_alloc_new (wr.drewN _) _ _ _).trans (by simpa using hk)) (fun u hu => by simp at hu; rcases hu with rfl | rfl <;> rfl) (by unfold maxLen; omega) (by omega) (by rw [World.size_alloc]; exact Nat.le_succ_of_le (unhide HKd _).bw.size) ?_); intro v' w9 hown hgrow _; have HF := hide ((unhide HKd _).grow (x := (x1, x2)) hown hgrow); clear hown hgrow; obtain ⟨q0, q1, y0, y1, hg9, hw9⟩ := unhide HC w9 (unhide HF).bw))
        go_roundg (N - (i + 1))
        case measure => omega
        case rel => exact ⟨i + 1, true, _, by go_num, rfl, by omega, by omega, hide ⟨unhide HF, unhide HI'⟩⟩
       ·have HI' := hide ((unhide HK).2.skip (unhide HX))
        clear HK HX
        go_wp2_with fail
        go_quiet (fail)
        go_wp2_with fail
        go_quiet (fail)
        go_wp2_with ((at_builtin; go_must (refine wpList_append_own _ rfl _ _ 33 rfl W1.heap.size 29 i0 (.agg #[.string ⟨#[]⟩, .string ⟨#[]⟩]) 2 32 Tryz.underlying33 hi hz0 hz1 hz2 rfl (by decide) _ _ _ rfl (own_same (unhide HKd _).row fun b e => Below.heap_alloc _ _ _ (World.ownsRow.lt (unhide HKd _).row b e).2) ⟨wr.heap.size, 0, none⟩ 1 1 [.string x1, .string x2] rfl rfl (fun k u hk => by rw [Addr.add_mid, Nat.zero_add]; exact (World.cell?_alloc_new (wr.drewN _) _ _ _).trans (by simpa using hk)) (fun u hu => by simp at hu; rcases hu with rfl | rfl <;> rfl) (by unfold maxLen; omega) (by omega) (by rw [World.size_alloc]; exact Nat.le_succ_of_le (unhide HKd _).bw.size) ?_); intro v' w9 hown hgrow _; have HF := hide ((unhide HKd _).grow (x := (x1, x2)) hown hgrow); clear hown hgrow; obtain ⟨q0, q1, y0, y1, hg9, hw9⟩ := unhide HC w9 (unhide HF).bw))
        go_roundg (N - (i + 1))
        case measure => omega
        case rel => exact ⟨i + 1, true, _, by go_num, rfl, by omega, by omega, hide ⟨unhide HF, unhide HI'⟩⟩
      ·have E2b : (x2.toList == k2.toList) = false := beq_eq_false_iff_ne.2 E2
       have HNE : ((x1, x2) : Nm × Nm) ≠ (x1, k2) := fun e => E2 (by injection e with _ e2; rw [e2])
       rw [show (decide (x1 = x1) && decide (x2 = k2)) = false from Bool.eq_false_iff.2 fun e => HNE (eqB_iff.1 e)] at ce
       have HL : lxB (x1, k2) (x1, x2) = true := by unfold lxB gtB; simp [B2, E2b]
       cases b
       ·have HI' := hide ((unhide HK).2.lay (unhide HX) HL).2
        clear HK HX HL
        go_wp2_with fail
        go_quiet (fail)
        go_wp2_with ((at_builtin; go_must (refine wpList_append_own _ rfl _ _ 33 rfl W1.heap.size 29 i0 (.agg #[.string ⟨#[]⟩, .string ⟨#[]⟩]) 2 32 Tryz.underlying33 hi hz0 hz1 hz2 rfl (by decide) _ _ _ rfl (own_same (unhide HKd _).row fun b e => Below.heap_alloc _ _ _ (World.ownsRow.lt (unhide HKd _).row b e).2) ⟨wr.heap.size, 0, none⟩ 1 1 [.string x1, .string k2] rfl rfl (fun k u hk => by rw [Addr.add_mid, Nat.zero_add]; exact (World.cell?_alloc_new (wr.drewN _) _ _ _).trans (by simpa using hk)) (fun u hu => by simp at hu; rcases hu with rfl | rfl <;> rfl) (by unfold maxLen; omega) (by omega) (by rw [World.size_alloc]; exact Nat.le_succ_of_le (unhide HKd _).bw.size) ?_); intro v' w9 hown hgrow _; have HF := hide ((unhide HKd _).grow (x := (x1, k2)) hown hgrow); clear hown hgrow; obtain ⟨q0, q1, y0, y1, hg9, hw9⟩ := unhide HC w9 (unhide HF).bw))
        have HKe := hide (fun n => (unhide HF).later (bl_drewN w9 n))
        clear HF
        have hml2 : (m ++ [(x1, k2)]).length ≤ N + 2 := by rw [List.length_append]; simp; omega
        go_quiet (fail)
        go_wp2_with ((at_builtin; go_must (refine wpList_append_own _ rfl _ _ 33 rfl W1.heap.size 29 i0 (.agg #[.string ⟨#[]⟩, .string ⟨#[]⟩]) 2 32 Tryz.underlying33 hi hz0 hz1 hz2 rfl (by decide) _ _ _ rfl (own_same (unhide HKe _).row fun b e => Below.heap_alloc _ _ _ (World.ownsRow.lt (unhide HKe _).row b e).2) ⟨w9.heap.size, 0, none⟩ 1 1 [.string x1, .string x2] rfl rfl (fun k u hk => by rw [Addr.add_mid, Nat.zero_add]; exact (World.cell?_alloc_new (w9.drewN _) _ _ _).trans (by simpa using hk)) (fun u hu => by simp at hu; rcases hu with rfl | rfl <;> rfl) (by unfold maxLen; omega) (by omega) (by rw [World.size_alloc]; exact Nat.le_succ_of_le (unhide HKe _).bw.size) ?_); intro v' w10 hown hgrow _; have HF := hide ((unhide HKe _).grow (x := (x1, x2)) hown hgrow); clear hown hgrow; obtain ⟨q0', q1', y0', y1', hg10, hw10⟩ := unhide HC w10 (unhide HF).bw))
        go_roundg (N - (i + 1))
        case measure => omega
        case rel => exact ⟨i + 1, true, _, by go_num, rfl, by omega, by omega, hide ⟨unhide HF, unhide HI'⟩⟩
       ·have HI' := hide ((unhide HK).2.skip (unhide HX))
        clear HK HX
        go_wp2_with fail
        go_quiet (fail)
        go_wp2_with fail
        go_quiet (fail)
        go_wp2_with ((at_builtin; go_must (refine wpList_append_own _ rfl _ _ 33 rfl W1.heap.size 29 i0 (.agg #[.string ⟨#[]⟩, .string ⟨#[]⟩]) 2 32 Tryz.underlying33 hi hz0 hz1 hz2 rfl (by decide) _ _ _ rfl (own_same (unhide HKd _).row fun b e => Below.heap_alloc _ _ _ (World.ownsRow.lt (unhide HKd _).row b e).2) ⟨wr.heap.size, 0, none⟩ 1 1 [.string x1, .string x2] rfl rfl (fun k u hk => by rw [Addr.add_mid, Nat.zero_add]; exact (World.cell?_alloc_new (wr.drewN _) _ _ _).trans (by simpa using hk)) (fun u hu => by simp at hu; rcases hu with rfl | rfl <;> rfl) (by unfold maxLen; omega) (by omega) (by rw [World.size_alloc]; exact Nat.le_succ_of_le (unhide HKd _).bw.size) ?_); intro v' w9 hown hgrow _; have HF := hide ((unhide HKd _).grow (x := (x1, x2)) hown hgrow); clear hown hgrow; obtain ⟨q0, q1, y0, y1, hg9, hw9⟩ := unhide HC w9 (unhide HF).bw))
        go_roundg (N - (i + 1))
        case measure => omega
        case rel => exact ⟨i + 1, true, _, by go_num, rfl, by omega, by omega, hide ⟨unhide HF, unhide HI'⟩⟩
    ·have E1b : (x1.toList == k1.toList) = false := beq_eq_false_iff_ne.2 E1
     have HNE : ((x1, x2) : Nm × Nm) ≠ (k1, k2) := fun e => E1 (by injection e with e1 _; rw [e1])
     rw [show (decide (x1 = k1) && decide (x2 = k2)) = false from Bool.eq_false_iff.2 fun e => HNE (eqB_iff.1 e)] at ce
     have HL : lxB (k1, k2) (x1, x2) = true := by unfold lxB gtB; simp [B1, E1b]
     cases b
     ·have HI' := hide ((unhide HK).2.lay (unhide HX) HL).2
      clear HK HX HL
      go_wp2_with fail
      go_quiet (fail)
      go_wp2_with ((at_builtin; go_must (refine wpList_append_own _ rfl _ _ 33 rfl W1.heap.size 29 i0 (.agg #[.string ⟨#[]⟩, .string ⟨#[]⟩]) 2 32 Tryz.underlying33 hi hz0 hz1 hz2 rfl (by decide) _ _ _ rfl (own_same (unhide HKd _).row fun b e => Below.heap_alloc _ _ _ (World.ownsRow.lt (unhide HKd _).row b e).2) ⟨wr.heap.size, 0, none⟩ 1 1 [.string k1, .string k2] rfl rfl (fun k u hk => by rw [Addr.add_mid, Nat.zero_add]; exact (World.cell?_alloc_new (wr.drewN _) _ _ _).trans (by simpa using hk)) (fun u hu => by simp at hu; rcases hu with rfl | rfl <;> rfl) (by unfold maxLen; omega) (by omega) (by rw [World.size_alloc]; exact Nat.le_succ_of_le (unhide HKd _).bw.size) ?_); intro v' w9 hown hgrow _; have HF := hide ((unhide HKd _).grow (x := (k1, k2)) hown hgrow); clear hown hgrow; obtain ⟨q0, q1, y0, y1, hg9, hw9⟩ := unhide HC w9 (unhide HF).bw))
      have HKe := hide (fun n => (unhide HF).later (bl_drewN w9 n))
      clear HF
      have hml2 : (m ++ [(k1, k2)]).length ≤ N + 2 := by rw [List.length_append]; simp; omega
      go_quiet (fail)
      go_wp2_with ((at_builtin; go_must (refine wpList_append_own _ rfl _ _ 33 rfl W1.heap.size 29 i0 (.agg #[.string ⟨#[]⟩, .string ⟨#[]⟩]) 2 32 Tryz.underlying33 hi hz0 hz1 hz2 rfl (by decide) _ _ _ rfl (own_same (unhide HKe _).row fun b e => Below.heap_alloc _ _ _ (World.ownsRow.lt (unhide HKe _).row b e).2) ⟨w9.heap.size, 0, none⟩ 1 1 [.string x1, .string x2] rfl rfl (fun k u hk => by rw [Addr.add_mid, Nat.zero_add]; exact (World.cell?_alloc_new (w9.drewN _) _ _ _).trans (by simpa using hk)) (fun u hu => by simp at hu; rcases hu with rfl | rfl <;> rfl) (by unfold maxLen; omega) (by omega) (by rw [World.size_alloc]; exact Nat.le_succ_of_le (unhide HKe _).bw.size) ?_); intro v' w10 hown hgrow _; have HF := hide ((unhide HKe _).grow (x := (x1, x2)) hown hgrow); clear hown hgrow; obtain ⟨q0', q1', y0', y1', hg10, hw10⟩ := unhide HC w10 (unhide HF).bw))
      go_roundg (N - (i + 1))
      case measure => omega
      case rel => exact ⟨i + 1, true, _, by go_num, rfl, by omega, by omega, hide ⟨unhide HF, unhide HI'⟩⟩
     ·have HI' := hide ((unhide HK).2.skip (unhide HX))
      clear HK HX
      go_wp2_with fail
      go_quiet (fail)
      go_wp2_with fail
      go_quiet (fail)
      go_wp2_with ((at_builtin; go_must (refine wpList_append_own _ rfl _ _ 33 rfl W1.heap.size 29 i0 (.agg #[.string ⟨#[]⟩, .string ⟨#[]⟩]) 2 32 Tryz.underlying33 hi hz0 hz1 hz2 rfl (by decide) _ _ _ rfl (own_same (unhide HKd _).row fun b e => Below.heap_alloc _ _ _ (World.ownsRow.lt (unhide HKd _).row b e).2) ⟨wr.heap.size, 0, none⟩ 1 1 [.string x1, .string x2] rfl rfl (fun k u hk => by rw [Addr.add_mid, Nat.zero_add]; exact (World.cell?_alloc_new (wr.drewN _) _ _ _).trans (by simpa using hk)) (fun u hu => by simp at hu; rcases hu with rfl | rfl <;> rfl) (by unfold maxLen; omega) (by omega) (by rw [World.size_alloc]; exact Nat.le_succ_of_le (unhide HKd _).bw.size) ?_); intro v' w9 hown hgrow _; have HF := hide ((unhide HKd _).grow (x := (x1, x2)) hown hgrow); clear hown hgrow; obtain ⟨q0, q1, y0, y1, hg9, hw9⟩ := unhide HC w9 (unhide HF).bw))
      go_roundg (N - (i + 1))
      case measure => omega
      case rel => exact ⟨i + 1, true, _, by go_num, rfl, by omega, by omega, hide ⟨unhide HF, unhide HI'⟩⟩
  ·have hie : l.length ≤ i := by have := unhide HN; omega
   have HE := hide ((unhide HK).2.fin hie)
   have hbW := (unhide HK).1.bw
   have z0 := (hbW.cell (p := ⟨w.heap.size, 0, none⟩) (unhide HZ).2.2).trans (unhide HZ).1
   have z1 := (hbW.cell (p := ⟨w.heap.size, 1, none⟩) (unhide HZ).2.2).trans (unhide HZ).2.1
   have hws := (unhide HA).size
   clear hbW
   cases b
   ·have HC : Hid (∀ Y, RowKit.Below W1.heap.size W1 Y → True ∧ True ∧ True ∧ True ∧ True ∧ True) := hide fun _ _ => ⟨trivial, trivial, trivial, trivial, trivial, trivial⟩
    have HKd := hide (fun (_ : Nat) => (unhide HK).1)
    go_wp2_with ((at_builtin; go_must (refine wpList_append_own _ rfl _ _ 33 rfl W1.heap.size 29 i0 (.agg #[.string ⟨#[]⟩, .string ⟨#[]⟩]) 2 32 Tryz.underlying33 hi hz0 hz1 hz2 rfl (by decide) _ _ _ rfl (own_same (unhide HKd 0).row fun b e => Below.heap_alloc _ _ _ (World.ownsRow.lt (unhide HKd 0).row b e).2) ⟨wr.heap.size, 0, none⟩ 1 1 [.string k1, .string k2] rfl rfl (fun k u hk => by rw [Addr.add_mid, Nat.zero_add]; exact (World.cell?_alloc_new wr _ _ _).trans (by simpa using hk)) (fun u hu => by simp at hu; rcases hu with rfl | rfl <;> rfl) (by unfold maxLen; omega) (by omega) (by rw [World.size_alloc]; exact Nat.le_succ_of_le (unhide HKd 0).bw.size) ?_); intro v' w9 hown hgrow _; have HF := hide ((unhide HKd 0).grow (x := (k1, k2)) hown hgrow); clear hown hgrow; obtain ⟨q0, q1, y0, y1, hg9, hw9⟩ := unhide HC w9 (unhide HF).bw))
    go_ret
    have hE : m ++ [(k1, k2)] = insK (k1, k2) l := by simpa using unhide HE
    rw [← hE]
    exact ⟨_, rfl, row_lo2 (unhide HF).row hws, bl_t (unhide HA) (unhide HF).bw⟩
   ·go_wp2_with fail
    go_ret
    have hE : m = insK (k1, k2) l := by simpa using unhide HE
    rw [← hE]
    exact ⟨_, rfl, row_lo2 (unhide HK).1.row hws, bl_t (unhide HA) (unhide HK).1.bw⟩
end
end Go.Proofs.YtdkpglmdncjnbaaGreatDoor
