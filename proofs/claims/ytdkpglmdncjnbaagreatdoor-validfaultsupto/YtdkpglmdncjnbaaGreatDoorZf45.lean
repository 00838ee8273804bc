import Derived.Test.YtdkpglmdncjnbaaGreatDoorZf13
namespace Go.Proofs.YtdkpglmdncjnbaaGreatDoor
section
open Go.RowKit Go.Maps Go.Shelf
abbrev y45_1 : Oper := ⟨some 17, .fieldAddr 73 (.tmp 3) 1, 0, "ref.go:115", #[], none⟩
abbrev y45_2 : Oper := ⟨some 18, .load 48 (.tmp 17), 48, "ref.go:115", #[⟨0, .data⟩], none⟩
abbrev y45_3 : Oper := ⟨some 19, .move (.tmp 0), 22, "ref.go:115", #[], none⟩
abbrev y45_4 : Oper := ⟨some 20, .move (.tmp 5), 3, "ref.go:115", #[], none⟩
abbrev y45_5 : Oper := ⟨some 21, .indexAddr 22 (.tmp 19) (.tmp 20), 0, "ref.go:115", #[⟨2, .data⟩, ⟨3, .data⟩], none⟩
abbrev y45_6 : Oper := ⟨some 22, .load 46 (.tmp 21), 46, "ref.go:115", #[⟨4, .data⟩], none⟩
abbrev y45_7 : Oper := ⟨some 23, .call { callee := .value (.func 77), args := #[.tmp 18, .tmp 22], argTypes := #[48, 46] }, 4, "ref.go:115", #[⟨1, .data⟩, ⟨5, .data⟩], none⟩
abbrev y45_8 : Oper := ⟨some 6, .assign (.tmp 23), 4, "ref.go:115", #[⟨6, .data⟩, ⟨6, .chain⟩, ⟨0, .phase⟩, ⟨1, .phase⟩, ⟨2, .phase⟩, ⟨3, .phase⟩, ⟨4, .phase⟩, ⟨5, .phase⟩, ⟨6, .phase⟩], none⟩
attribute [local go_sem] Oper.semAt_some
attribute [local simp] wide_fn
attribute [local go_sem] wide_fn
def Kp (w : World) (k : Nat) (o : Obj) (W : World) : Prop := W.heap[k]? = some o ∧ RowKit.Below w.heap.size w W
theorem Kp.abide {w : World} {k B : Nat} {o : Obj} (hk : k < B) (hlo : w.heap.size ≤ B) : Abide (β := Unit) B (fun _ => Kp w k o) := fun _ X Y row h hg hr => by
 have hz := blk_lt h.1
 have ne : ∀ j, j < B → some j ≠ row := fun j hj e => by
  have := (hr j e.symm).1
  omega
 refine ⟨(hg.block k hz (ne k hk)).trans h.1, hg.os.trans h.2.os, hg.tape.trans h.2.tape, hg.output.trans h.2.output, Nat.le_trans h.2.size hg.size, fun j hj => ?_⟩
 have := h.2.size
 exact (hg.block j (by omega) (ne j (by omega))).trans (h.2.block j hj)
theorem Kp.set {w W : World} {k : Nat} {u : Value} {t : TypeId} (h : Kp w k (.cells #[u] t (0, 0)) W) (hk : w.heap.size ≤ k) (x : Value) : Kp w k (.cells #[x] t (0, 0)) (W.setCell ⟨k, 0, none⟩ x) :=
 ⟨set_blk h.1 0 x, h.2.setCell (p := ⟨k, 0, none⟩) hk x⟩
theorem Kp.put {w W : World} {k D : Nat} {o o1 o2 : Obj} (h : Kp w k o W) (hD : w.heap.size ≤ D) (hk : k ≠ D) (hd : W.heap[D]? = some o1) (h1 : o1.isCells = false) (h2 : o1.isWalk = false) : Kp w k o (W.putObj D o2) :=
 ⟨(World.putObj_heap_other hk).trans h.1, h.2.trans (belowK_b (w := w) (Nat.le_refl _) _ D _ _ hD hd h1 h2)⟩
def g3 (w : World) (s : Array Value) (wi : Array Value) : World := ((w.alloc (.cells s 62)).alloc (.cells wi 73)).alloc (.cells #[.bool false] 4)
theorem g3_blk (w : World) (s : Array Value) (wi : Array Value) : (g3 w s wi).heap[w.heap.size]? = some (.cells s 62 (0, 0)) ∧ (g3 w s wi).heap[w.heap.size + 1]? = some (.cells wi 73 (0, 0)) ∧ Kp w (w.heap.size + 2) (.cells #[.bool false] 4 (0, 0)) (g3 w s wi) ∧ (g3 w s wi).heap.size ≤ w.heap.size + 3 := by
 have bA := (Below.refl w.heap.size w).alloc (Nat.le_refl _) (.cells s 62)
 have zA : (w.alloc (.cells s 62)).heap.size = w.heap.size + 1 := World.size_alloc _ _
 have zB : ((w.alloc (.cells s 62)).alloc (.cells wi 73)).heap.size = w.heap.size + 2 := by rw [World.size_alloc, zA]
 have zC : (g3 w s wi).heap.size = w.heap.size + 3 := by unfold g3; rw [World.size_alloc, zB]
 have bB := bA.alloc (by omega) (.cells wi 73)
 have bC := bB.alloc (by omega) (.cells #[.bool false] 4)
 refine ⟨?_, ?_, ⟨?_, bC⟩, by omega⟩
 ·exact (Below.heap_alloc _ _ _ (by omega)).trans ((Below.heap_alloc _ _ _ (by omega)).trans (World.alloc_heap_new w _))
 ·have := World.alloc_heap_new (w.alloc (.cells s 62)) (.cells wi 73)
  rw [zA] at this
  exact (Below.heap_alloc _ _ _ (by omega)).trans this
 ·have := World.alloc_heap_new ((w.alloc (.cells s 62)).alloc (.cells wi 73)) (.cells #[.bool false] 4)
  rw [zB] at this
  exact this
set_option maxRecDepth 100000 in
set_option maxHeartbeats 8000000 in
theorem grants0_any {w : World} {b1 b2 : Nat} {v : Value} {ps : List Pd} {base : Nat} {H1 H2 : Nm → Option Hd} {k1 k2 : Nat} (an : Nm) (op : Int) (bd : ByteArray) (m1 : Mi w base (.map (some b1)) H1 (nmP ps ps.length) k1) (m2 : Mi w base (.map (some b2)) H2 (pvP ps ps.length) k2) (pk : Pks w v ps) (hl : ps.length ≤ 1000000000) (ht : totP ps ps.length ≤ 1000000000) (han : an.size ≤ maxLen) (hbd : bd.size ≤ maxLen) :
 Calls Tryz.prog 66 #[.agg #[v, .map (some b1), .map (some b2)], .agg (wc 0 an op bd)] w fun e w' => e = .returned (.bool (wantP ps 0 an op bd)) ∧ RowKit.Below w.heap.size w w' := by
 have hsat := sat_some ps an op bd
 have HW := hide (show wantP ps 0 an op bd = (ps.any fun q => meetsA an op bd q.nm q.vr q.pl) from if_pos rfl)
 generalize wantP ps 0 an op bd = r at *
 obtain ⟨g0, g1, g2, gz⟩ := g3_blk w #[v, .map (some b1), .map (some b2)] (wc 0 an op bd)
 obtain ⟨W3, hW3⟩ : ∃ x, x = g3 w #[v, .map (some b1), .map (some b2)] (wc 0 an op bd) := ⟨_, rfl⟩
 rw [← hW3] at g0 g1 g2 gz
 have HSA := hide (show ∀ X, RowKit.Below W3.heap.size W3 X → X.heap[W3.heap.size]? = some (.cells #[v, .map (some b1), .map (some b2)] 62 (0, 0)) → X.heap[W3.heap.size + 1]? = some (.cells #[.string an, .int .i64 op, .string bd] 48 (0, 0)) → SeqR Fence.wide 8 Tryz.prog 102 #[.pointer (some ⟨W3.heap.size, 0, none⟩), .pointer (some ⟨W3.heap.size + 1, 0, none⟩)] encI (satL ps an op bd (nmP ps ps.length an) (pvP ps ps.length an)) X from fun X hX hs ha => by
  have bX := bl_t g2.2 hX
  exact sat_r 8 (by decide) ⟨hs, ha, m1.later bX, m2.later bX, pk.later bX, fun p hp => by
   rcases List.mem_append.1 hp with hp | hp
   ·exact ((nmP_mem ps _ _ _).1 hp).1
   ·exact ((pvP_mem ps _ _ _).1 hp).1, han, hbd⟩ (by have := nmP_len ps ps.length an; omega) (by have := pvP_len ps ps.length an; omega))
 generalize satL ps an op bd (nmP ps ps.length an) (pvP ps ps.length an) = L at *
 have HL := hide hsat
 have HG := hide (And.intro g2 gz)
 clear m1 m2 pk hl ht han hbd hsat g0 g1 g2 gz
 refine (callsIn_wide (n := 9)).1 ?_
 refine callsIn_of_wp_marks Tryz.func66 rfl trivial ?_ rfl
 simp only [Tryz.ntmps66, List.size_toArray, List.length_cons, List.length_nil, Nat.reduceAdd, Nat.reduceSub, Array.replicate_succ, Array.replicate_zero, List.push_toArray, List.append_toArray, List.nil_append, List.cons_append]
 unfold g3 at hW3
 gi_wp2_with (gi_at_call 81; rw [← hW3]; refine (callsIn_wide.2 (satisfiers_any v (.map (some b1)) (.map (some b2)) an op bd W3)).mono ?_; rintro e w5 ⟨rfl, hs5, ha5, hb5⟩; have HS5 := hide (And.intro hs5 (And.intro ha5 hb5)); clear hs5 ha5 hb5 hW3)
 obtain ⟨g2, gz⟩ := unhide HG
 obtain ⟨s1, s2, hb5⟩ := unhide HS5
 have hsq := unhide HSA w5 hb5 s1 s2
 obtain ⟨B4, hB4⟩ : ∃ x, x = w.heap.size + 1 + 1 := ⟨_, rfl⟩
 have kp5 : Kp w B4 (.cells #[.bool false] 4 (0, 0)) w5 := ⟨by rw [hB4]; exact (hb5.block _ (blk_lt g2.1)).trans g2.1, bl_t g2.2 hb5⟩
 rw [← hB4]
 have hBl : w.heap.size ≤ B4 := by omega
 have hB5 : B4 < w5.heap.size := blk_lt kp5.1
 have hz5 : w.heap.size ≤ w5.heap.size := by omega
 clear hB4 g2 gz s1 s2 hb5 HS5 HSA HG
 have HKP := hide kp5
 refine rangeFunc_r rfl (by decide) (gf := 102) (lb := #[.pointer (some ⟨W3.heap.size, 0, none⟩), .pointer (some ⟨W3.heap.size + 1, 0, none⟩)]) rfl trivial (enters_of Tryz.func102 (by kernel_rfl) rfl)
  hsq (Below.refl _ _) (fun _ => rfl) (Kp w B4 (.cells #[.bool false] 4 (0, 0))) (Kp w B4 (.cells #[.bool true] 4 (0, 0))) (Kp.abide hB5 hz5) (Kp.abide hB5 hz5) kp5 ?a10 ?as0 ?bo0 ?do0 ?st0
 case as0 =>
  intro l x W K hK
  gi_wp2
  exact hK
 case bo0 =>
  intro l x Z hD hLp hI hx
  have c0 := (cell_blk hI.1 0).1.trans (show #[Value.bool false][0]? = some (.bool false) from rfl)
  have f0 := (cell_blk hI.1 0).2
  have HI := hide (And.intro (hI.set hBl (.bool true)) hI)
  clear hD hLp hI hx hsq
  gi_wp2
  exact ⟨⟨set_other Z B4 0 (.bool true) _ (by omega), set_other Z B4 0 (.bool true) _ (by omega)⟩, (unhide HI).1⟩
 case st0 =>
  intro D Z hD hne hI hK
  have HR := hide (show r = true from by rw [unhide HW]; exact (unhide HL).1 hne)
  have HK := hide hK
  have HI := hide hI
  have HD := hide hD
  clear hK hI hsq hne hD
  gi_wp2
  have hK := unhide HK
  obtain rfl := unhide HD
  refine ⟨by simp, .inl ⟨_, _, rfl, run_takeDeferred hK, ?_⟩⟩
  have k7 := (unhide HI).put (o2 := .deferred none) hz5 (by omega) hK rfl rfl
  have c7 := (cell_blk k7.1 0).1.trans (show #[Value.bool true][0]? = some (.bool true) from rfl)
  exact ⟨_, results_u1 (show Tryz.f66.results = #[.cell 4 4] from Tryz.results66) _ _ _ ⟨B4, 0, none⟩ (.bool true) rfl (by simp [loadVar, go_sem, c7]), by rw [unhide HR], k7.2⟩
 case do0 =>
  intro D Z hD hne hI hK
  have HR := hide (show r = false from by
   rw [unhide HW]
   exact Bool.eq_false_iff.2 fun h => (unhide HL).2 h hne)
  have c0 := (cell_blk hI.1 0).1.trans (show #[Value.bool false][0]? = some (.bool false) from rfl)
  have f0 := (cell_blk hI.1 0).2
  have HK := hide (And.intro hD hK)
  have HI := hide (hI.set hBl (.bool false))
  clear hK hI hsq hne hD
  gi_wp2
  obtain ⟨rfl, hK⟩ := unhide HK
  have hK6 := (set_other Z B4 0 (.bool false) w5.heap.size (by omega)).trans hK
  refine ⟨by simp, .inl ⟨_, _, rfl, run_takeDeferred hK6, ?_⟩⟩
  have k7 := (unhide HI).put (o2 := .deferred none) hz5 (by omega) hK6 rfl rfl
  have c7 := (cell_blk k7.1 0).1.trans (show #[Value.bool false][0]? = some (.bool false) from rfl)
  exact ⟨_, results_u1 (show Tryz.f66.results = #[.cell 4 4] from Tryz.results66) _ _ _ ⟨B4, 0, none⟩ (.bool false) rfl (by simp [loadVar, go_sem, c7]), by rw [unhide HR], k7.2⟩
end
section
open Go.RowKit Go.Maps Go.Shelf
set_option maxRecDepth 100000 in
set_option maxHeartbeats 8000000 in
theorem grants1k_any {w : World} {b1 b2 : Nat} {v : Value} {ps : List Pd} {base : Nat} {H1 : Nm → Option Hd} {k1 : Nat} (an : Nm) (op : Int) (bd : ByteArray) (m1 : Mi w base (.map (some b1)) H1 (nmP ps ps.length) k1) (pk : Pks w v ps) (hl : ps.length ≤ 1000000000) (han : an.size ≤ maxLen) (hbd : bd.size ≤ maxLen) :
 Calls Tryz.prog 66 #[.agg #[v, .map (some b1), .map (some b2)], .agg (wc 1 an op bd)] w fun e w' => e = .returned (.bool (wantP ps 1 an op bd)) ∧ RowKit.Below w.heap.size w w' := by
 have hrem := rem_any ps an op bd
 have HW := hide (show wantP ps 1 an op bd = !((nmP ps ps.length an).any (ft ps op bd)) from by rw [hrem]; rfl)
 clear hrem
 generalize wantP ps 1 an op bd = r at *
 obtain ⟨g0, g1, g2, gz⟩ := g3_blk w #[v, .map (some b1), .map (some b2)] (wc 1 an op bd)
 have m3 := m1.later g2.2
 have lk := look1 m3.dm han
 obtain ⟨a1, d1, e1⟩ : ∃ a c, hv0 (H1 an) = .slice a (nmP ps ps.length an).length c := by
  obtain ⟨f, e, en⟩ := slice_hd (m1.own an)
  exact ⟨f.a, f.c, by rw [e, ← en]; rfl⟩
 have o1 := m3.own an
 rw [e1] at lk o1
 have C := containsFunc_any (Bw := w.heap.size + 1) (Bs := w.heap.size) (f := ft ps op bd) o1 (by have := nmP_len ps ps.length an; omega) (fun p hp X hX => by
  obtain ⟨_, q, hq, _⟩ := (nmP_mem ps _ _ _).1 hp
  have := grants1_any ((hX.block _ (blk_lt g1)).trans g1) ((hX.block _ (blk_lt g0)).trans g0) (pk.later (bl_t g2.2 hX)) hq hbd
  rw [show ft ps op bd p = fitsA op bd q.vr from by unfold ft; rw [hq]]
  exact this)
 generalize (nmP ps ps.length an).any (ft ps op bd) = f at *
 generalize (nmP ps ps.length an).length = N at *
 clear m1 m3 pk hl han hbd e1 o1
 obtain ⟨W3, hW3⟩ : ∃ x, x = g3 w #[v, .map (some b1), .map (some b2)] (wc 1 an op bd) := ⟨_, rfl⟩
 rw [← hW3] at g0 g1 g2 gz C
 have HC := hide (show ∀ X, X = W3 → Calls Tryz.prog 83 #[.slice a1 N d1, .func (.func 84) #[] #[.pointer (some ⟨w.heap.size + 1, 0, none⟩), .pointer (some ⟨w.heap.size, 0, none⟩)]] X fun e w' => e = .returned (.bool f) ∧ Kp w (w.heap.size + 1 + 1) (.cells #[.bool false] 4 (0, 0)) w' from fun X e => by
  subst e
  exact C.mono fun e w' h => ⟨h.1, (h.2.block _ (blk_lt g2.1)).trans g2.1, bl_t g2.2 h.2⟩)
 clear C g0 g1 g2 gz
 unfold g3 at hW3 lk
 go_enter Tryz.func66, Tryz.ntmps66
 go_wp2_with (go_at_call 83; refine (unhide HC _ hW3.symm).mono ?_; rintro e w5 ⟨rfl, kp⟩; have c0 := (cell_blk kp.1 0).1.trans (show #[Value.bool false][0]? = some (.bool false) from rfl); have f0 := (cell_blk kp.1 0).2; have HK := hide (kp.set (Nat.le_succ_of_le (Nat.le_succ _)) (.bool (!f))); clear kp hW3 lk)
 have k7 := unhide HK
 have c7 := (cell_blk k7.1 0).1.trans (show #[Value.bool (!f)][0]? = some (.bool (!f)) from rfl)
 refine bodyPost_ret (results_u1 (show Tryz.f66.results = #[.cell 4 4] from Tryz.results66) _ _ _ ⟨w.heap.size + 1 + 1, 0, none⟩ (.bool (!f)) rfl (by simp [loadVar, go_sem, c7])) rfl ?_
 exact ⟨by rw [unhide HW], k7.2⟩
set_option maxHeartbeats 4000000 in
theorem grants2_any {w : World} {v d1 d2 : Value} (kd : Int) (h0 : kd ≠ 0) (h1 : kd ≠ 1) (an : Nm) (op : Int) (bd : ByteArray) (ps : List Pd) :
 Calls Tryz.prog 66 #[.agg #[v, d1, d2], .agg (wc kd an op bd)] w fun e w' => e = .returned (.bool (wantP ps kd an op bd)) ∧ RowKit.Below w.heap.size w w' := by
 have HW := hide (show wantP ps kd an op bd = true from by unfold wantP; rw [if_neg h0, if_neg h1])
 generalize wantP ps kd an op bd = r at *
 have e0 : (kd == 0) = false := by simpa using h0
 have e1 : (kd == 1) = false := by simpa using h1
 have HK := hide ((((Below.refl w.heap.size w).alloc (Nat.le_refl _) (.cells #[v, d1, d2] 62)).alloc (by simp) (.cells (wc kd an op bd) 73)).alloc (by simp; omega) (.cells #[.bool true] 4))
 clear h0 h1
 go_enter Tryz.func66, Tryz.ntmps66
 go_wp2
 refine bodyPost_ret (results_u1 (show Tryz.f66.results = #[.cell 4 4] from Tryz.results66) _ _ _ ⟨w.heap.size + 2, 0, none⟩ (.bool true) rfl (by simp [loadVar, go_sem])) rfl ?_
 exact ⟨by rw [unhide HW], unhide HK⟩
theorem grants_any {w : World} {b1 b2 : Nat} {v : Value} {ps : List Pd} {base : Nat} {H1 H2 : Nm → Option Hd} {k1 k2 : Nat} (kd : Int) (an : Nm) (op : Int) (bd : ByteArray) (m1 : Mi w base (.map (some b1)) H1 (nmP ps ps.length) k1) (m2 : Mi w base (.map (some b2)) H2 (pvP ps ps.length) k2) (pk : Pks w v ps) (hl : ps.length ≤ 1000000000) (ht : totP ps ps.length ≤ 1000000000) (han : an.size ≤ maxLen) (hbd : bd.size ≤ maxLen) :
 Calls Tryz.prog 66 #[.agg #[v, .map (some b1), .map (some b2)], .agg (wc kd an op bd)] w fun e w' => e = .returned (.bool (wantP ps kd an op bd)) ∧ RowKit.Below w.heap.size w w' := by
 by_cases h0 : kd = 0
 ·subst h0; exact grants0_any an op bd m1 m2 pk hl ht han hbd
 ·by_cases h1 : kd = 1
  ·subst h1; exact grants1k_any an op bd m1 pk hl han hbd
  ·exact grants2_any kd h0 h1 an op bd ps
end
section
open Go.RowKit Go.Maps Go.Shelf
structure Wd where
 kd : Int
 an : Nm
 op : Int
 bd : ByteArray
abbrev Wd.cs (x : Wd) : List Value := [.int .i64 x.kd, .string x.an, .int .i64 x.op, .string x.bd]
def WdOk (x : Wd) : Prop := x.an.size ≤ maxLen ∧ x.bd.size ≤ maxLen
def Wis (w : World) (a : Option Addr) (ws : List Wd) : Prop := 0 < ws.length → ∃ b o, a = some ⟨b, o, none⟩ ∧ b < w.heap.size ∧ ∀ (i : Nat) (x : Wd), ws[i]? = some x → w.rangeAt b (o + i * 4) x.cs
theorem Wis.later {w w' : World} {a : Option Addr} {ws : List Wd} (h : Wis w a ws) (hb : RowKit.Below w.heap.size w w') : Wis w' a ws := fun h0 => by
 obtain ⟨b, o, h3, h4, h5⟩ := h h0
 exact ⟨b, o, h3, Nat.lt_of_lt_of_le h4 hb.size, fun i x hx => range_bel (h5 i x hx) h4 hb⟩
theorem Wis.cells {w : World} {a : Option Addr} {ws : List Wd} (h : Wis w a ws) {i : Nat} {x : Wd} (hx : ws[i]? = some x) : ∃ b o, a = some ⟨b, o, none⟩ ∧ b < w.heap.size ∧ w.cell? ⟨b, o + i * 4, none⟩ = some (.int .i64 x.kd) ∧ w.cell? ⟨b, o + i * 4 + 1, none⟩ = some (.string x.an) ∧ w.cell? ⟨b, o + i * 4 + 2, none⟩ = some (.int .i64 x.op) ∧ w.cell? ⟨b, o + i * 4 + 3, none⟩ = some (.string x.bd) := by
 have := (List.getElem?_eq_some_iff.1 hx).1
 obtain ⟨b, o, h3, h4, h5⟩ := h (by omega)
 have r := h5 i x hx
 exact ⟨b, o, h3, h4, r 0 _ rfl, r 1 _ rfl, r 2 _ rfl, r 3 _ rfl⟩
def Wd.ok (ps : List Pd) (x : Wd) : Bool := wantP ps x.kd x.an x.op x.bd
def unL (ps : List Pd) (ws : List Wd) : Nat → List Nat
 | 0 => []
 | i + 1 => match ws[i]? with | some x => if x.ok ps = true then unL ps ws i else unL ps ws i ++ [i] | none => unL ps ws i
theorem unL_len (ps : List Pd) (ws : List Wd) : ∀ i, (unL ps ws i).length ≤ i
 | 0 => Nat.le_refl _
 | i + 1 => by
   have := unL_len ps ws i
   unfold unL
   split
   ·split
    ·omega
    ·rw [List.length_append]; simp; omega
   ·omega
theorem unL_yes {ps : List Pd} {ws : List Wd} {i : Nat} {x : Wd} (hx : ws[i]? = some x) (h : x.ok ps = true) : unL ps ws (i + 1) = unL ps ws i := by
 rw [unL, hx]; simp only; rw [if_pos h]
theorem unL_no {ps : List Pd} {ws : List Wd} {i : Nat} {x : Wd} (hx : ws[i]? = some x) (h : x.ok ps = false) : unL ps ws (i + 1) = unL ps ws i ++ [i] := by
 rw [unL, hx]; simp only; rw [if_neg (by rw [h]; decide)]
structure Us (W wr : World) (s : Value) (l : List Nat) : Prop where
 row : wr.ownsRow W.heap.size 3 1 s l.length (ints l)
 bw : RowKit.Below W.heap.size W wr
theorem row_lo {w : World} {lo lo2 e size n : Nat} {v : Value} {xs : List Value} (h : w.ownsRow lo e size v n xs) (hl : lo2 ≤ lo) : w.ownsRow lo2 e size v n xs := by
 refine ⟨h.1, ?_⟩
 rcases h.2 with h | ⟨g, cap, cur, e, h1, h2, h3⟩
 ·exact .inl h
 ·exact .inr ⟨g, cap, cur, e, Nat.le_trans hl h1, h2, h3⟩
theorem Us.start (W : World) : Us W W (.slice none 0 0) [] := ⟨⟨rfl, .inl ⟨rfl, rfl⟩⟩, Below.refl _ _⟩
theorem Us.later {W wr w2 : World} {s : Value} {l : List Nat} (h : Us W wr s l) (hb : RowKit.Below wr.heap.size wr w2) : Us W w2 s l := ⟨own_same h.row fun b e => hb.block b (World.ownsRow.lt h.row b e).2, bl_t h.bw hb⟩
theorem Us.grow {W wr w9 : World} {s v' : Value} {l : List Nat} {i : Nat} {o : Obj} (h : Us W wr s l) (hown : w9.ownsRow W.heap.size 3 1 v' (l.length + 1) (ints l ++ [.int .i64 (i : Int)])) (hg : (wr.alloc o).grownBy w9 s.ownBlock) : Us W w9 v' (l ++ [i]) := by
 refine ⟨?_, (h.bw.alloc h.bw.size o).grown hg ?_ fun j e => (World.ownsRow.lt h.row j e).1⟩
 ·rw [List.length_append, show ints (l ++ [i]) = ints l ++ [.int .i64 (i : Int)] from by simp [ints]]
  exact hown
 ·have := h.bw.size
  rw [World.size_alloc]
  omega
structure Sm (ps : List Pd) : Prop where
 l : ps.length ≤ 1000000000
 t : totP ps ps.length ≤ 1000000000
 z : ∀ q ∈ ps, q.nm.size ≤ maxLen ∧ ∀ n ∈ q.pl, n.size ≤ maxLen
set_option maxRecDepth 100000 in
set_option maxHeartbeats 8000000 in
theorem Unmet_any {w : World} {v : Value} {ps : List Pd} {wa : Option Addr} {ws : List Wd} (wcap : Nat) (pk : Pks w v ps) (sm : Sm ps) (hw : Wis w wa ws) (hok : ∀ x ∈ ws, WdOk x) (hl : ws.length ≤ 1099511627776) :
 Calls Tryz.prog 36 #[v, .slice wa ws.length wcap] w fun e w' => ∃ r, e = .returned r ∧ w'.ownsRow w.heap.size 3 1 r (unL ps ws ws.length).length (ints (unL ps ws ws.length)) ∧ RowKit.Below w.heap.size w w' := by
 obtain ⟨i0, hi, hz0, hz1, hz2⟩ := info_parts2 infoI
 obtain ⟨va, vc, rfl⟩ : ∃ a c, v = .slice a ps.length c := let ⟨a, c, e, _⟩ := pk; ⟨a, c, e⟩
 have C := hide (setOf_any ps _ w sm.l sm.t sm.z pk)
 have HC := hide (show ∀ X, RowKit.Below w.heap.size w X → _ from fun X hX => And.intro (pk.later hX) (hw.later hX))
 have HSM := hide (And.intro sm hok)
 obtain ⟨N, hN⟩ : ∃ N, N = ws.length := ⟨_, rfl⟩
 rw [← hN] at hl ⊢
 have HN := hide hN
 clear pk sm hw hok hN
 go_enter Tryz.func36, Tryz.ntmps36
 go_wp2_with (go_at_call 39; refine (unhide C).mono ?_; rintro e w1 ⟨H1, k1, H2, k2, rfl, m1, m2, hb1⟩; clear C; have HM := hide (And.intro m1 (And.intro m2 hb1)); clear m1 m2 hb1)
 obtain ⟨Wb, hWb⟩ : ∃ x, x = w1.alloc (.cells #[.slice va ps.length vc, .map (some (w.heap.size + 1)), .map (some (w.heap.size + 2))] 62) := ⟨_, rfl⟩
 have bb : RowKit.Below w1.heap.size w1 Wb := by rw [hWb]; exact (Below.refl _ _).alloc (Nat.le_refl _) _
 have hbx : Wb.heap[w1.heap.size]? = some (.cells #[.slice va ps.length vc, .map (some (w.heap.size + 1)), .map (some (w.heap.size + 2))] 62 (0, 0)) := by rw [hWb]; exact World.alloc_heap_new w1 _
 rw [← hWb]
 have HLO := hide (show w.heap.size ≤ Wb.heap.size ∧ RowKit.Below w.heap.size w Wb from by
  have b := bl_t (unhide HM).2.2 bb
  exact ⟨b.size, b⟩)
 have HG := hide (show ∀ X, RowKit.Below Wb.heap.size Wb X → ∀ x ∈ ws, Calls Tryz.prog 66 #[.agg #[.slice va ps.length vc, .map (some (w.heap.size + 1)), .map (some (w.heap.size + 2))], .agg (wc x.kd x.an x.op x.bd)] X fun e w' => e = .returned (.bool (x.ok ps)) ∧ RowKit.Below X.heap.size X w' from fun X hX x hx => by
  obtain ⟨m1, m2, hb1⟩ := unhide HM
  obtain ⟨sm, hok⟩ := unhide HSM
  have b := bl_t bb hX
  exact grants_any x.kd x.an x.op x.bd (m1.later b) (m2.later b) (unhide HC X (bl_t hb1 b)).1 sm.l sm.t (hok x hx).1 (hok x hx).2)
 have HAT := hide (show ∀ X, RowKit.Below Wb.heap.size Wb X → Wis X wa ws ∧ X.heap[w1.heap.size]? = some (.cells #[.slice va ps.length vc, .map (some (w.heap.size + 1)), .map (some (w.heap.size + 2))] 62 (0, 0)) from fun X hX => ⟨(unhide HC X (bl_t (unhide HLO).2 hX)).2, (hX.block _ (blk_lt hbx)).trans hbx⟩)
 have HST := hide (Us.start Wb)
 clear hWb bb hbx HM HC HSM
 generalize w1.heap.size = B1 at *
 go_loopw [6, 13] (fun sv iv wr => ∃ i : Nat, iv = .int .i64 i ∧ i ≤ N ∧ Hid (Us Wb wr sv (unL ps ws i))) (fun _ iv _ => N - (intOf iv).toNat)
 case atStart => exact ⟨0, rfl, Nat.zero_le _, HST⟩
 case round =>
  clear HST
  obtain ⟨i, rfl, hile, HU⟩ := hrel
  have hu := unhide HU
  by_cases hlt : i < N
  ·have hlt2 : (i : Int) < (N : Int) := by omega
   have hjp : i < ws.length := by have := unhide HN; omega
   obtain ⟨hwis, hbx⟩ := unhide HAT wr hu.bw
   have hx : ws[i]? = some ws[i] := List.getElem?_eq_getElem hjp
   generalize ws[i] = x at *
   obtain ⟨b, o, rfl, hbl, c0, c1, c2, c3⟩ := hwis.cells hx
   have s0 := (cell_blk hbx 0).1.trans (show (#[Value.slice va ps.length vc, .map (some (w.heap.size + 1)), .map (some (w.heap.size + 2))])[0]? = some (.slice va ps.length vc) from rfl)
   have s1 := (cell_blk hbx 1).1.trans (show (#[Value.slice va ps.length vc, .map (some (w.heap.size + 1)), .map (some (w.heap.size + 2))])[1]? = some (.map (some (w.heap.size + 1))) from rfl)
   have s2 := (cell_blk hbx 2).1.trans (show (#[Value.slice va ps.length vc, .map (some (w.heap.size + 1)), .map (some (w.heap.size + 2))])[2]? = some (.map (some (w.heap.size + 2))) from rfl)
   have hB1 : B1 < wr.heap.size := blk_lt hbx
   have ba := (Below.refl wr.heap.size wr).alloc (Nat.le_refl _) (.cells (wc x.kd x.an x.op x.bd) 73)
   have C := hide (unhide HG _ (bl_t hu.bw ba) x (List.mem_of_getElem? hx))
   have HU2 := hide (hu.later ba)
   have HX := hide hx
   clear hu hbx hwis hx hjp ba
   cases hf : x.ok ps with
   | true =>
     rw [hf] at C
     have HE := hide (unL_yes (unhide HX) hf)
     clear hf HX
     go_wp2_with (go_at_call 66; refine (unhide C).mono ?_; rintro e w5 ⟨rfl, hb⟩; have HU3 := hide ((unhide HU2).later hb); clear hb C HU2)
     go_roundw
     case rel => exact ⟨i + 1, by go_num, by omega, by rw [unhide HE]; exact HU3⟩
     case measure => simp [intOf]; omega
   | false =>
     rw [hf] at C
     have HE := hide (unL_no (unhide HX) hf)
     have hLk := unL_len ps ws i
     clear hf HX
     go_wp2_with (first | (go_at_call 66; refine (unhide C).mono ?_; rintro e w5 ⟨rfl, hb⟩; have HU3 := hide ((unhide HU2).later hb); clear hb C HU2; have hbz := (unhide HU3).bw.size) | (at_builtin; go_must (refine wpList_append_own _ rfl _ _ 34 rfl Wb.heap.size 3 i0 (.int .i64 0) 1 8 Tryz.underlying34 hi hz0 hz1 hz2 rfl (by decide) _ _ _ rfl ((unhide HU3).row.alloc _) ⟨w5.heap.size, 0, none⟩ 1 1 [.int .i64 (i : Int)] rfl rfl (cell_one_new _ _ _) (by simp [Value.oneCell']) (by unfold maxLen; omega) (by omega) (by simp; omega) ?_); intro v' w9 hown hgrow _; have HU9 := hide ((unhide HU3).grow hown hgrow); clear hown hgrow))
     go_roundw
     case rel => exact ⟨i + 1, by go_num, by omega, by rw [unhide HE]; exact HU9⟩
     case measure => simp [intOf]; omega
  ·obtain rfl : i = N := by omega
   go_wp2
   go_ret
   refine ⟨_, rfl, ?_, bl_t (unhide HLO).2 hu.bw⟩
   exact row_lo hu.row (unhide HLO).1
end
section
open Go.RowKit Go.Maps Go.Shelf
theorem want_hit {ps : List Pd} {i : Nat} {q : Pd} (hq : ps[i]? = some q) {f : Pd → Bool} (h : f q = true) : ps.any f = true := List.any_eq_true.2 ⟨q, List.mem_of_getElem? hq, h⟩
theorem want_miss {ps : List Pd} {f : Pd → Bool} (h : ∀ (i : Nat) (q : Pd), ps[i]? = some q → f q = false) : ps.any f = false := List.any_eq_false.2 fun q hq => by
 obtain ⟨j, hj, e⟩ := List.getElem_of_mem hq
 rw [h j q (by rw [List.getElem?_eq_getElem hj, e])]
 decide
theorem miss_next {ps : List Pd} {f : Pd → Bool} {i : Nat} {q : Pd} (hq : ps[i]? = some q) (hf : f q = false) (h : ∀ (j : Nat) (x : Pd), j < i → ps[j]? = some x → f x = false) : ∀ (j : Nat) (x : Pd), j < i + 1 → ps[j]? = some x → f x = false := fun j x hj hx => by
 by_cases e : j = i
 ·subst e
  rw [hq] at hx
  cases hx
  exact hf
 ·exact h j x (by omega) hx
set_option maxRecDepth 100000 in
set_option maxHeartbeats 8000000 in
theorem wanted0_any {w : World} {v : Value} {ps : List Pd} (an : Nm) (op : Int) (bd : ByteArray) (pk : Pks w v ps) (hl : ps.length ≤ 1000000000) (hbd : bd.size ≤ maxLen) :
 Calls Tryz.prog 65 #[v, .agg (wc 0 an op bd)] w fun e w' => e = .returned (.bool (wantP ps 0 an op bd)) ∧ RowKit.Below w.heap.size w w' := by
 have HW := hide (show wantP ps 0 an op bd = (ps.any fun q => meetsA an op bd q.nm q.vr q.pl) from if_pos rfl)
 generalize wantP ps 0 an op bd = r at *
 obtain ⟨va, vc, rfl, hk⟩ := pk
 obtain ⟨W1, hW1⟩ : ∃ x, x = w.alloc (.cells (wc 0 an op bd) 73) := ⟨_, rfl⟩
 have b1 : RowKit.Below w.heap.size w W1 := by rw [hW1]; exact (Below.refl _ _).alloc (Nat.le_refl _) _
 have g1 : W1.heap[w.heap.size]? = some (.cells (wc 0 an op bd) 73 (0, 0)) := by rw [hW1]; exact World.alloc_heap_new w _
 obtain ⟨N, hN⟩ : ∃ N, ps.length = N := ⟨_, rfl⟩
 rw [hN] at hl hk ⊢
 have HN := hide hN
 have HP := hide hk
 have HI := hide info43
 have HZ := hide hbd
 clear hk hN hbd
 have z1 : w.heap.size < W1.heap.size := blk_lt g1
 have HG := hide (And.intro g1 b1)
 go_enter Tryz.func65, Tryz.ntmps65
 go_wp2_with fail
 rw [← hW1]
 clear hW1
 go_loopw [5, 6] (fun vi _ wr => ∃ i : Nat, vi = .int .i64 i ∧ i ≤ N ∧ Hid (RowKit.Below W1.heap.size W1 wr) ∧ Hid (∀ (j : Nat) (x : Pd), j < i → ps[j]? = some x → meetsA an op bd x.nm x.vr x.pl = false)) (fun vi _ _ => N - (intOf vi).toNat)
 case atStart => exact ⟨0, by go_num, by omega, hide (Below.refl _ _), hide (fun j x hj => absurd hj (Nat.not_lt_zero _))⟩
 case round =>
  obtain ⟨i, rfl, hile, HB, HM⟩ := hrel
  by_cases hlt : i < N
  ·have hlt2 : (i : Int) < (N : Int) := by omega
   obtain ⟨b, o, rfl, hbw, hc⟩ := unhide HP (by have := unhide HN; omega)
   obtain ⟨x, hx⟩ : ∃ x, ps[i]? = some x := ⟨_, List.getElem?_eq_getElem (by have := unhide HN; omega)⟩
   obtain ⟨hr, hok⟩ := hc i x hx
   have HX := hide hx
   have HST := hide (show ∀ X, RowKit.Below W1.heap.size W1 X → X.cell? ⟨w.heap.size, 1, none⟩ = some (.string an) ∧ X.cell? ⟨w.heap.size, 2, none⟩ = some (.int .i64 op) ∧ X.cell? ⟨w.heap.size, 3, none⟩ = some (.string bd) ∧ X.rangeAt b (o + i * 43) x.cs from fun X hX => by
    have h := (hX.block _ (blk_lt (unhide HG).1)).trans (unhide HG).1
    exact ⟨(cell_blk h 1).1.trans rfl, (cell_blk h 2).1.trans rfl, (cell_blk h 3).1.trans rfl, range_bel hr hbw (bl_t (unhide HG).2 hX)⟩)
   have QR := hide (show ∀ X, RowKit.Below W1.heap.size W1 X → _ from fun X hX => rMeets_any an op bd x.nm x.vr x.pv x.pl x.cs (unhide HZ) hok.2.2 X hok.1 (hok.2.1.later (bl_t (unhide HG).2 hX)))
   have HI2 := (show (Tryz.prog.info? 46).map (·.size) = some x.cs.length by rw [hok.1.len]; exact unhide HI)
   have E0 := hide (show RowKit.Below W1.heap.size W1 wr.drew from bl_t (unhide HB) (Below.refl _ wr).drew)
   clear hc hr hok hx
   cases hf : meetsA an op bd x.nm x.vr x.pl with
   | true =>
     rw [hf] at QR
     have HH := hide (want_hit (f := fun q => meetsA an op bd q.nm q.vr q.pl) (unhide HX) hf)
     clear hf HX HM
     go_wp2_with fail
     refine wp_region_held_drew (S := fun w' => w'.cell? ⟨w.heap.size, 1, none⟩ = some (.string an) ∧ w'.cell? ⟨w.heap.size, 2, none⟩ = some (.int .i64 op) ∧ w'.cell? ⟨w.heap.size, 3, none⟩ = some (.string bd) ∧ w'.rangeAt b (o + i * 43) x.cs) (by kernel_rfl) ?_ (fun hHeld => ?_)
     ·exact unhide HST _ (unhide E0)
     refine tk2 0 y45_1 ?_
     refine tk2 1 y45_2 ?_
     refine tk2 2 y45_3 ?_
     refine tk2 3 y45_4 ?_
     refine tk2 4 y45_5 ?_
     refine tkH 5 y45_6 (v := .agg x.cs.toArray) (yieldsIf_load_mid (by rfl) 46 (.tmp 21) rfl b (o + i * 43) (by rfl) x.cs _ (fun _ h => h.2.2.2) Tryz.underlying46 rfl HI2) ?_
     try simp only [Act.put, sqB, sq0, sq1]
     refine wpAnyH_ready (rs := [6]) (by kernel_rfl) (by simp) ?_
     refine AllReadyH.cons (o := y45_7) rfl (fun K hK => ?_) AllReadyH.nil
     go_simp
     refine (unhide QR _ (unhide E0)).mono ?_
     rintro e v1 ⟨rfl, hv1⟩
     have E1 := hide (bl_t (unhide E0) hv1)
     clear hv1
     go_wp2_with fail
     refine hK.out _ _ ?_ (fun hHeld0 => ?_)
     ·exact unhide HST _ (unhide E1)
     clear hHeld
     clear hK K
     try simp only [Act.put, sqB, sq0, sq1]
     refine tk2 7 y45_8 ?_
     refine wpAnyH_done (by kernel_rfl) ?_ _
     go_wp2_with fail
     go_ret
     exact ⟨ret_bb ((unhide HW).trans (unhide HH)).symm, bl_t (unhide HG).2 (unhide E1)⟩
   | false =>
     rw [hf] at QR
     have HNX := hide (miss_next (f := fun q => meetsA an op bd q.nm q.vr q.pl) (unhide HX) hf (unhide HM))
     clear hf HX HM
     go_wp2_with fail
     refine wp_region_held_drew (S := fun w' => w'.cell? ⟨w.heap.size, 1, none⟩ = some (.string an) ∧ w'.cell? ⟨w.heap.size, 2, none⟩ = some (.int .i64 op) ∧ w'.cell? ⟨w.heap.size, 3, none⟩ = some (.string bd) ∧ w'.rangeAt b (o + i * 43) x.cs) (by kernel_rfl) ?_ (fun hHeld => ?_)
     ·exact unhide HST _ (unhide E0)
     refine tk2 0 y45_1 ?_
     refine tk2 1 y45_2 ?_
     refine tk2 2 y45_3 ?_
     refine tk2 3 y45_4 ?_
     refine tk2 4 y45_5 ?_
     refine tkH 5 y45_6 (v := .agg x.cs.toArray) (yieldsIf_load_mid (by rfl) 46 (.tmp 21) rfl b (o + i * 43) (by rfl) x.cs _ (fun _ h => h.2.2.2) Tryz.underlying46 rfl HI2) ?_
     try simp only [Act.put, sqB, sq0, sq1]
     refine wpAnyH_ready (rs := [6]) (by kernel_rfl) (by simp) ?_
     refine AllReadyH.cons (o := y45_7) rfl (fun K hK => ?_) AllReadyH.nil
     go_simp
     refine (unhide QR _ (unhide E0)).mono ?_
     rintro e v1 ⟨rfl, hv1⟩
     have E1 := hide (bl_t (unhide E0) hv1)
     clear hv1
     go_wp2_with fail
     refine hK.out _ _ ?_ (fun hHeld0 => ?_)
     ·exact unhide HST _ (unhide E1)
     clear hHeld
     clear hK K
     try simp only [Act.put, sqB, sq0, sq1]
     refine tk2 7 y45_8 ?_
     refine wpAnyH_done (by kernel_rfl) ?_ _
     go_wp2_with fail
     go_roundw
     case rel => exact ⟨i + 1, by go_num, by omega, E1, HNX⟩
     case measure => simp [intOf]; omega
  ·have HF := hide (want_miss (ps := ps) (f := fun q => meetsA an op bd q.nm q.vr q.pl) fun j x hx => unhide HM j x (by have := (List.getElem?_eq_some_iff.1 hx).1; have := unhide HN; omega) hx)
   clear HM
   go_wp2_with fail
   go_ret
   exact ⟨ret_bb ((unhide HW).trans (unhide HF)).symm, bl_t (unhide HG).2 (unhide HB)⟩
end
end Go.Proofs.YtdkpglmdncjnbaaGreatDoor
