import Derived.Test.YtjnbnndocinicaaGreatDoorWvN
namespace Go.Proofs.YtjnbnndocinicaaGreatDoor
open Go.RowKit Go.Maps

theorem one_new (w : World) (cs : List Value) (t : TypeId) : ∃ W, w.alloc (.cells cs.toArray t) = W ∧ (∀ i v, cs[i]? = some v → W.cell? ⟨w.heap.size, i, none⟩ = some v) ∧ w.heap.size < W.heap.size ∧ Below w.heap.size w W := by
  refine ⟨_, rfl, fun i v h => ?_, by simp, (Below.refl w.heap.size w).alloc (Nat.le_refl _) _⟩
  rw [World.cell?_alloc_new]
  simpa using h
set_option maxHeartbeats 2000000 in
theorem keyOf_any (cs : List Value) (n v : ByteArray) (w : World) (h0 : cs[0]? = some (.string n)) (h1 : cs[1]? = some (.string v)) :
    Calls Tryz.prog 24 #[.agg cs.toArray] w fun e w' => e = .returned (.agg #[.string n, .string v]) ∧ Below w.heap.size w w' := by
  obtain ⟨W, hW, hc, hq, hB⟩ := one_new w cs 38
  have a0 := hc 0 _ h0
  have a1 := hc 1 _ h1
  have HB := hide hB
  clear hc hB h0 h1
  go_enter Tryz.func24, Tryz.ntmps24
  go_wp2_with fail
  have hb2 := (unhide HB).alloc (unhide HB).size (.cells #[.string n, .string v] 40)
  exact bodyPost_ret (v := .agg #[.string n, .string v]) (by simp [results, Tryz.results24, go_sem]) rfl ⟨rfl, hb2⟩
/-- A FAULT. -/
structure Ft where
  kd : Int
  wn : Nm
  wv : Nm
  ix : Int
  on : Nm
  ov : Nm
def Ft.cs (f : Ft) : List Value := [.int .i64 f.kd, .string f.wn, .string f.wv, .int .i64 f.ix, .string f.on, .string f.ov]
abbrev Ft.v (f : Ft) : Value := .agg #[.int .i64 f.kd, .string f.wn, .string f.wv, .int .i64 f.ix, .string f.on, .string f.ov]
def ftC (l : List Ft) : List Value := l.flatMap Ft.cs
theorem ftC_len (l : List Ft) : (ftC l).length = l.length * 6 := by
  induction l with
  | nil => rfl
  | cons a l ih => rw [ftC, List.flatMap_cons, List.length_append, show (List.flatMap Ft.cs l).length = l.length * 6 from ih, List.length_cons]; show 6 + _ = _; omega
theorem ftC_snoc (l : List Ft) (f : Ft) : ftC (l ++ [f]) = ftC l ++ f.cs := by simp [ftC]
theorem ftC_app (l m : List Ft) : ftC (l ++ m) = ftC l ++ ftC m := by simp [ftC]
/-- A PACKAGE AT ITS PLACE. -/
theorem Pkl.at2 {w : World} {v : Value} {ps : List Pk} (h : Pkl w v ps) {p : Nat} {q : Pk} (hq : ps[p]? = some q) : ∃ vb vo vc cs d r c pv f, v = .slice (some ⟨vb, vo, none⟩) ps.length vc ∧ vb < w.heap.size ∧ w.rangeAt vb (vo + p * 43) cs ∧ PkC cs q d r c pv f ∧ PkL w q d r c pv f := by
  have hp := (List.getElem?_eq_some_iff.1 hq).1
  obtain ⟨a, c, rfl, h2⟩ := h
  obtain ⟨b, o, rfl, h3, h4⟩ := h2 (by omega)
  obtain ⟨cs, d, r, c2, v, f, k1, k2, k3⟩ := h4 p q hq
  exact ⟨b, o, c, cs, d, r, c2, v, f, rfl, h3, k1, k2, k3⟩
theorem fl_blk {w w5 : World} {C Z : Obj} (hb : Below ((w.alloc C).alloc Z).heap.size ((w.alloc C).alloc Z) w5) : w5.heap[w.heap.size + 1]? = some Z ∧ w.heap.size + 1 < w5.heap.size ∧ w5.heap[w.heap.size]? = some C := by
  have h := World.alloc_heap_new (w.alloc C) Z
  rw [World.size_alloc] at h
  have h2 := (hb.block (w.heap.size + 1) (by simp)).trans h
  exact ⟨h2, blk_lt h2, (hb.block w.heap.size (by simp; omega)).trans ((Below.heap_alloc _ _ _ (by simp)).trans (World.alloc_heap_new w _))⟩
theorem six {W : World} {g : Nat} {v0 v1 v2 v3 v4 v5 : Value} {t : TypeId} (h : W.heap[g]? = some (.cells #[v0, v1, v2, v3, v4, v5] t (0, 0))) : W.cell? ⟨g, 0, none⟩ = some v0 ∧ W.cell? ⟨g, 1, none⟩ = some v1 ∧ W.cell? ⟨g, 2, none⟩ = some v2 ∧ W.cell? ⟨g, 3, none⟩ = some v3 ∧ W.cell? ⟨g, 4, none⟩ = some v4 ∧ W.cell? ⟨g, 5, none⟩ = some v5 ∧ W.frozen? ⟨g, 0, none⟩ = false ∧ W.frozen? ⟨g, 1, none⟩ = false ∧ W.frozen? ⟨g, 2, none⟩ = false ∧ W.frozen? ⟨g, 3, none⟩ = false ∧ W.frozen? ⟨g, 4, none⟩ = false ∧ W.frozen? ⟨g, 5, none⟩ = false :=
  ⟨(cell_blk h 0).1, (cell_blk h 1).1, (cell_blk h 2).1, (cell_blk h 3).1, (cell_blk h 4).1, (cell_blk h 5).1, (cell_blk h 0).2, (cell_blk h 1).2, (cell_blk h 2).2, (cell_blk h 3).2, (cell_blk h 4).2, (cell_blk h 5).2⟩
theorem fl_two {w5 w7 : World} {F : Obj} (hb : Below (w5.alloc F).heap.size (w5.alloc F) w7) {g : Nat} {Z : Obj} (hz : w5.heap[g]? = some Z) : w7.heap[w5.heap.size]? = some F ∧ w7.heap[g]? = some Z ∧ w5.heap.size < w7.heap.size ∧ g < w7.heap.size ∧ g ≠ w5.heap.size := by
  have hg := blk_lt hz
  have h1 := (hb.block w5.heap.size (by simp)).trans (World.alloc_heap_new w5 F)
  have h2 := (hb.block g (by simp; omega)).trans ((Below.heap_alloc _ _ _ hg).trans hz)
  exact ⟨h1, h2, blk_lt h1, blk_lt h2, by omega⟩
theorem set6 {w X : World} (h : Below w.heap.size w X) {g : Nat} (hg : w.heap.size ≤ g) (v0 v1 v2 v3 v4 v5 : Value) : Below w.heap.size w ((((((X.setCell ⟨g, 0, none⟩ v0).setCell ⟨g, 1, none⟩ v1).setCell ⟨g, 2, none⟩ v2).setCell ⟨g, 3, none⟩ v3).setCell ⟨g, 4, none⟩ v4).setCell ⟨g, 5, none⟩ v5) :=
  (((((h.setCell (p := ⟨g, 0, none⟩) hg v0).setCell (p := ⟨g, 1, none⟩) hg v1).setCell (p := ⟨g, 2, none⟩) hg v2).setCell (p := ⟨g, 3, none⟩) hg v3).setCell (p := ⟨g, 4, none⟩) hg v4).setCell (p := ⟨g, 5, none⟩) hg v5
set_option maxRecDepth 100000 in
set_option maxHeartbeats 4000000 in
theorem fault_one {w : World} {v d1 d2 av fv : Value} {ps : List Pk} {p : Nat} {q : Pk} (kd ix : Int) (h : Pkl w v ps) (hq : ps[p]? = some q) :
    Calls Tryz.prog 47 #[.agg #[v, d1, d2, av, fv], .int .i64 kd, .int .i64 (p : Int), .int .i64 ix, .int .i64 (-1)] w fun e w' => e = .returned (Ft.v ⟨kd, q.nm, q.vr, ix, ⟨#[]⟩, ⟨#[]⟩⟩) ∧ RowKit.Below w.heap.size w w' := by
  obtain ⟨vb, vo, vc, cs, d, r, c, pv, f, rfl, hvb, hr, hpc, hpl⟩ := h.at2 hq
  have hpn : (p : Int) < (ps.length : Int) := by have := (List.getElem?_eq_some_iff.1 hq).1; omega
  have HI2 := hide (show (Tryz.prog.info? 38).map (·.size) = some cs.length by rw [hpc.len]; kernel_rfl)
  have HR := hide (show ∀ X : World, Below w.heap.size w X → X.rangeAt vb (vo + p * 43) cs from fun X hX => range_bel hr hvb hX)
  have HK := hide (fun X => keyOf_any cs q.nm q.vr X hpc.c0 hpc.c1)
  clear hr hpc hpl h hq
  generalize ps.length = N at *
  have B0 := hide (show Below w.heap.size w ((w.alloc (.cells #[.slice (some ⟨vb, vo, none⟩) N vc, d1, d2, av, fv] 62)).alloc (.cells #[.int .i64 0, .string ⟨#[]⟩, .string ⟨#[]⟩, .int .i64 0, .string ⟨#[]⟩, .string ⟨#[]⟩] 59)) from ((Below.refl _ w).alloc (Nat.le_refl _) _).alloc (by simp) _)
  go_enter Tryz.func47, Tryz.ntmps47
  go_wp2_with (first | ((with_reducible refine wpList_load_p (op := { dst := some 18, op := Op.load 38 (Operand.tmp 17), type := 38, pos := "check.go:38", after := #[{ on := 5, ground := Ground.data }], guard := none }) ?fxa 38 (.tmp 17) ?fxb vb (vo + p * 43) ?fxc cs _ (unhide HR _ (unhide B0)) Tryz.underlying38 ?fxd (unhide HI2) ?fxe); (case fxa => rfl); (case fxb => rfl); (case fxc => rfl); (case fxd => rfl)) | (go_at_call 24; refine (unhide HK _).mono ?_; rintro e w5 ⟨rfl, hb5⟩; have HB5 := hide (bl_t (unhide B0) hb5); obtain ⟨hz6, hz5, hc6⟩ := fl_blk hb5; obtain ⟨z0, z1, z2, z3, z4, z5, f0, f1, f2, f3, f4, f5⟩ := six hz6; clear hb5 hz6 hc6))
  refine bodyPost_ret (v := Ft.v ⟨kd, q.nm, q.vr, ix, ⟨#[]⟩, ⟨#[]⟩⟩) (by simp [results, Tryz.results47, go_sem, z0, z1, z2, z3, z4, z5, hz5]) rfl ⟨rfl, ?_⟩
  have b6 := set6 (unhide HB5) (g := w.heap.size + 1) (by omega) (.int .i64 kd) (.string q.nm) (.string q.vr) (.int .i64 ix) (.string ⟨#[]⟩) (.string ⟨#[]⟩)
  exact b6.alloc b6.size _
set_option maxRecDepth 100000 in
set_option maxHeartbeats 4000000 in
theorem fault_two {w : World} {v d1 d2 av fv : Value} {ps : List Pk} {p p2 : Nat} {q q2 : Pk} (kd ix : Int) (h : Pkl w v ps) (hq : ps[p]? = some q) (hq2 : ps[p2]? = some q2) :
    Calls Tryz.prog 47 #[.agg #[v, d1, d2, av, fv], .int .i64 kd, .int .i64 (p : Int), .int .i64 ix, .int .i64 (p2 : Int)] w fun e w' => e = .returned (Ft.v ⟨kd, q.nm, q.vr, ix, q2.nm, q2.vr⟩) ∧ RowKit.Below w.heap.size w w' := by
  obtain ⟨vb, vo, vc, cs, d, r, c, pv, f, rfl, hvb, hr, hpc, hpl⟩ := h.at2 hq
  obtain ⟨vb2, vo2, vc2, cs2, d', r', c', pv', f', e2, hvb2, hr2, hpc2, hpl2⟩ := h.at2 hq2
  injection e2 with e2 e3 e4
  injection e2 with e2
  injection e2 with e2 e5 e6
  subst e2 e5
  have hpn : (p : Int) < (ps.length : Int) := by have := (List.getElem?_eq_some_iff.1 hq).1; omega
  have hpn2 : (p2 : Int) < (ps.length : Int) := by have := (List.getElem?_eq_some_iff.1 hq2).1; omega
  have HI2 := hide (show (Tryz.prog.info? 38).map (·.size) = some cs.length by rw [hpc.len]; kernel_rfl)
  have HI3 := hide (show (Tryz.prog.info? 38).map (·.size) = some cs2.length by rw [hpc2.len]; kernel_rfl)
  have HR := hide (show ∀ X : World, Below w.heap.size w X → X.rangeAt vb (vo + p * 43) cs from fun X hX => range_bel hr hvb hX)
  have HR2 := hide (show ∀ X : World, Below w.heap.size w X → X.rangeAt vb (vo + p2 * 43) cs2 from fun X hX => range_bel hr2 hvb hX)
  have HK := hide (fun X => keyOf_any cs q.nm q.vr X hpc.c0 hpc.c1)
  have HK2 := hide (fun X => keyOf_any cs2 q2.nm q2.vr X hpc2.c0 hpc2.c1)
  have hne : ((p2 : Int) != -1) = true := by simp
  clear hr hpc hpl h hq hr2 hpc2 hpl2 hq2 hvb2 e3 e4 e6
  generalize ps.length = N at *
  have B0 := hide (show Below w.heap.size w ((w.alloc (.cells #[.slice (some ⟨vb, vo, none⟩) N vc, d1, d2, av, fv] 62)).alloc (.cells #[.int .i64 0, .string ⟨#[]⟩, .string ⟨#[]⟩, .int .i64 0, .string ⟨#[]⟩, .string ⟨#[]⟩] 59)) from ((Below.refl _ w).alloc (Nat.le_refl _) _).alloc (by simp) _)
  go_enter Tryz.func47, Tryz.ntmps47
  go_wp2_with (first | ((with_reducible refine wpList_load_p (op := { dst := some 18, op := Op.load 38 (Operand.tmp 17), type := 38, pos := "check.go:38", after := #[{ on := 5, ground := Ground.data }], guard := none }) ?fxa 38 (.tmp 17) ?fxb vb (vo + p * 43) ?fxc cs _ (unhide HR _ (unhide B0)) Tryz.underlying38 ?fxd (unhide HI2) ?fxe); (case fxa => rfl); (case fxb => rfl); (case fxc => rfl); (case fxd => rfl)) | ((with_reducible refine wpList_load_p (op := { dst := some 29, op := Op.load 38 (Operand.tmp 28), type := 38, pos := "check.go:40", after := #[{ on := 4, ground := Ground.data }], guard := none }) ?fya 38 (.tmp 28) ?fyb vb (vo + p2 * 43) ?fyc cs2 _ (unhide HR2 _ (unhide HB6)) Tryz.underlying38 ?fyd (unhide HI3) ?fye); (case fya => rfl); (case fyb => rfl); (case fyc => rfl); (case fyd => rfl)) | (go_at_call 24; refine (unhide HK _).mono ?_; clear HK; rintro e w5 ⟨rfl, hb5⟩; have HB5 := hide (bl_t (unhide B0) hb5); obtain ⟨hz6, hz5, hc6⟩ := fl_blk hb5; have s0 : w5.cell? ⟨w.heap.size, 0, none⟩ = some (.slice (some ⟨vb, vo, none⟩) N vc) := (cell_blk hc6 0).1; have hz4 := Nat.lt_of_succ_lt hz5; have HB6 := hide ((unhide HB5).alloc (unhide HB5).size (.cells #[.int .i64 kd, .string q.nm, .string q.vr, .int .i64 ix, .string ⟨#[]⟩, .string ⟨#[]⟩] 59)); clear hb5 hc6) | (go_at_call 24; refine (unhide HK2 _).mono ?_; clear HK2; rintro e w7 ⟨rfl, hb7⟩; have HB7 := hide (bl_t (unhide HB6) hb7); obtain ⟨hf7, hz7, hl5, hl7, hn7⟩ := fl_two hb7 hz6; obtain ⟨y0, y1, y2, y3, y4, y5, g0, g1, g2, g3, g4, g5⟩ := six hf7; obtain ⟨z0, z1, z2, z3, z4, z5, f0, f1, f2, f3, f4, f5⟩ := six hz7; clear hb7 hz6 hf7 hz7))
  refine bodyPost_ret (v := Ft.v ⟨kd, q.nm, q.vr, ix, q2.nm, q2.vr⟩) (by simp [results, Tryz.results47, go_sem, z0, z1, z2, z3, z4, z5]) rfl ⟨rfl, ?_⟩
  have hle := (unhide HB5).size
  have b8 := ((unhide HB7).setCell (p := ⟨w5.heap.size, 4, none⟩) hle (.string q2.nm)).setCell (p := ⟨w5.heap.size, 5, none⟩) hle (.string q2.vr)
  exact set6 b8 (g := w.heap.size + 1) (by omega) (.int .i64 kd) (.string q.nm) (.string q.vr) (.int .i64 ix) (.string q2.nm) (.string q2.vr)
end Go.Proofs.YtjnbnndocinicaaGreatDoor
