import Derived.Test.YtodlmbhlinpoeaaAuB
namespace Go.Proofs.Ytodlmbhlinpoeaa
open Go.RowKit

/-- A VALUE IN A BLOCK OF ITS OWN. -/
structure Bk (t k : Nat) (w : World) (g : Nat) (cs : List Value) : Prop where
  len : cs.length = k
  one : ∀ x ∈ cs, x.oneCell' = true
  at_ : w.heap[g]? = some (.cells cs.toArray t (0, 0))
section
variable {t k : Nat} {w w2 : World} {g : Nat} {l : List Value}
theorem Bk.lt (h : Bk t k w g l) : g < w.heap.size := blk_lt h.at_
theorem Bk.of (h : Bk t k w g l) (e : w2.heap[g]? = w.heap[g]?) : Bk t k w2 g l := ⟨h.len, h.one, e.trans h.at_⟩
theorem Bk.later (h : Bk t k w g l) (hb : Below w.heap.size w w2) : Bk t k w2 g l := h.of (hb.block g h.lt)
theorem Bk.cell (h : Bk t k w g l) {i : Nat} {v : Value} (hi : l[i]? = some v) : w.cell? ⟨g, i, none⟩ = some v := by
  rw [(cell_blk h.at_ i).1]; simpa using hi
theorem Bk.free (h : Bk t k w g l) (i : Nat) : w.frozen? ⟨g, i, none⟩ = false := (cell_blk h.at_ i).2
theorem Bk.range (h : Bk t k w g l) : w.rangeAt g 0 l := fun j v hj => by rw [Nat.zero_add]; exact h.cell hj
theorem Bk.set (h : Bk t k w g l) (i : Nat) (v : Value) (hv : v.oneCell' = true) : Bk t k (w.setCell ⟨g, i, none⟩ v) g (l.set i v) := by
  refine ⟨by rw [List.length_set]; exact h.len, fun x hx => ?_, ?_⟩
  · rcases List.mem_or_eq_of_mem_set hx with hx | rfl
    · exact h.one x hx
    · exact hv
  · rw [heap_setCell_same w g i _ t v h.at_]
    simp
end
section
variable {ops : Array Oper} {rest : List Oper} {o : Oper} {a : Act} {w : World} {Q : Exit → Act → World → Prop}
theorem b_alloc {t k : Nat} {zc : List Value} (hz : (Try.prog.info? t).map (fun i => (i.zero, i.size)) = some (some (.agg zc.toArray), k) ∧ zc.length = k ∧ zc.all (·.oneCell') = true) (ho : o.op = .alloc t) (hw : Region.wanted o (yielded ops a.tmps) = true)
    (h : ∀ w2, Bk t k w2 w.heap.size zc → Below w.heap.size w w2 → w.heap.size + 1 ≤ w2.heap.size ∧ w2.heap.size ≤ w.heap.size + 1 → wpList Try.prog ops Q rest (a.put o.dst (.pointer (some ⟨w.heap.size, 0, none⟩))) w2) : wpList Try.prog ops Q (o :: rest) a w := by
  refine BigFrame.wpList_want hw fun K hK => ?_
  obtain ⟨h1, h2, h3⟩ := hz
  unfold Oper.wp execOp
  simp only [ho, Sem.run_bind, Instr.alloc, (zero_of_info h1).1, newVar, newRow, run_newObj_alloc, Sem.run_pure, Result.andThen_ok]
  exact hK _ _ (h _ ⟨h2, List.all_eq_true.1 h3, heap_alloc_new w _⟩ ((Below.refl _ _).alloc (Nat.le_refl _) _) (by simp))
theorem b_box {t k : Nat} (cs : List Value) (hl : cs.length = k) (h1 : ∀ x ∈ cs, x.oneCell' = true) (x : Operand) (ho : o.op = .box t x) (hw : Region.wanted o (yielded ops a.tmps) = true) (hx : a.eval x = .agg cs.toArray)
    (h : ∀ w2, Bk t k w2 w.heap.size cs → Below w.heap.size w w2 → w.heap.size + 1 ≤ w2.heap.size ∧ w2.heap.size ≤ w.heap.size + 1 → wpList Try.prog ops Q rest (a.put o.dst (.pointer (some ⟨w.heap.size, 0, none⟩))) w2) : wpList Try.prog ops Q (o :: rest) a w := by
  refine BigFrame.wpList_want hw fun K hK => ?_
  unfold Oper.wp execOp
  simp only [ho, Sem.run_bind, Instr.box, hx, newVar, newRow, run_newObj_alloc, Sem.run_pure, Result.andThen_ok]
  exact hK _ _ (h _ ⟨hl, h1, heap_alloc_new w _⟩ ((Below.refl _ _).alloc (Nat.le_refl _) _) (by simp))
theorem m_load {t k : Nat} {d : TypeDesc} (hu : Try.prog.underlying t = some d) (hd : d.isRow = true) (hs : (Try.prog.info? t).map (·.size) = some k) (x : Operand) (ho : o.op = .load t x) (hw : Region.wanted o (yielded ops a.tmps) = true) (b off : Nat) (hx : a.eval x = .pointer (some ⟨b, off, none⟩)) (cs : List Value) (hr : w.rangeAt b off cs) (hl : cs.length = k)
    (h : wpList Try.prog ops Q rest (a.put o.dst (.agg cs.toArray)) w) : wpList Try.prog ops Q (o :: rest) a w := by
  refine BigFrame.wpList_want hw fun K hK => ?_
  exact wp_load_mid t x ho b off hx cs _ hr hu hd (by rw [hs, hl]) (hK _ _ h)
theorem b_store {t k : Nat} (hs : (Try.prog.info? t).map (·.size) = some k) (x y : Operand) (ho : o.op = .store t x y) (hw : Region.wanted o (yielded ops a.tmps) = true) (g : Nat) (hx : a.eval x = .pointer (some ⟨g, 0, none⟩)) (l : List Value) (hy : a.eval y = .agg l.toArray) (hl : l.length = k) (h1 : ∀ x ∈ l, x.oneCell' = true) (l0 : List Value) (hb : Bk t k w g l0)
    (h : ∀ w2, Bk t k w2 g l → (∀ k, k ≠ g → w2.heap[k]? = w.heap[k]?) → (∀ B, B ≤ g → Below B w w2) → w.heap.size ≤ w2.heap.size ∧ w2.heap.size ≤ w.heap.size → wpList Try.prog ops Q rest (a.put o.dst undef) w2) : wpList Try.prog ops Q (o :: rest) a w := by
  refine BigFrame.wpList_want hw fun K hK => ?_
  refine wp_store_row t x y ho g _ hx hy t _ hb.at_ (by rw [hs, List.size_toArray, hl]) (by rw [List.size_toArray, List.size_toArray, hl, hb.len]) (by rw [List.all_toArray]; exact List.all_eq_true.2 h1) (hK _ _ ?_)
  exact h _ ⟨hl, h1, setRow_heap w g _ _ t (0, 0) hb.at_⟩ (fun k hk => setRow_other w g k _ hk) (fun B hB => ⟨rfl, rfl, rfl, by simp, fun k hk => setRow_other w g k _ (by omega)⟩) (by simp)
theorem b_set {t k : Nat} (ty : TypeId) (x y : Operand) (ho : o.op = .store ty x y) (hw : Region.wanted o (yielded ops a.tmps) = true) (g i : Nat) (hx : a.eval x = .pointer (some ⟨g, i, none⟩)) (v : Value) (hst : ∀ old, w.cell? ⟨g, i, none⟩ = some old → w.frozen? ⟨g, i, none⟩ = false → (storeVar ty ⟨g, i, none⟩ v).run Try.prog w = .ok () (w.setCell ⟨g, i, none⟩ v)) (hy : a.eval y = v) (hv : v.oneCell' = true) (l : List Value) (hb : Bk t k w g l) (hi2 : i < k)
    (h : ∀ w2, Bk t k w2 g (l.set i v) → (∀ k, k ≠ g → w2.heap[k]? = w.heap[k]?) → (∀ B, B ≤ g → Below B w w2) → w.heap.size ≤ w2.heap.size ∧ w2.heap.size ≤ w.heap.size → wpList Try.prog ops Q rest (a.put o.dst undef) w2) : wpList Try.prog ops Q (o :: rest) a w := by
  refine BigFrame.wpList_want hw fun K hK => ?_
  have hl : i < l.length := by rw [hb.len]; exact hi2
  have hc := hb.cell (List.getElem?_eq_getElem hl)
  have hz := hb.free i
  unfold Oper.wp execOp
  simp only [ho, hx, hy, Instr.storeAt, Instr.sureAddr, Sem.run_bind, Sem.run_pure, Result.andThen_ok]
  rw [hst _ hc hz]
  exact hK _ _ (h _ (hb.set i v hv) (fun j hj => Below.heap_setCell w _ _ j hj) (fun B hB => (Below.refl _ _).setCell (p := ⟨g, i, none⟩) hB _) (by simp))
end
/-- THE STANZA'S CELLS. -/
structure PcC (cs : List Value) (p : Hk) (d r c v f : Value) : Prop where
  len : cs.length = 43
  one : ∀ x ∈ cs, x.oneCell' = true
  c0 : cs[0]? = some (.string p.nm)
  c1 : cs[1]? = some (.string p.vr)
  c2 : cs[2]? = some (.bool p.es)
  c3 : cs[3]? = some d
  c4 : cs[4]? = some r
  c5 : cs[5]? = some c
  c6 : cs[6]? = some v
  c7 : cs[7]? = some f
  c8 : cs[8]? = some (.string p.ar)
  c9 : cs[9]? = some (.int .i64 p.sz)
  cs0 : ∀ j x, p.sm[j]? = some x → cs[10 + j]? = some x
  c42 : cs[42]? = some (.string p.sy)
theorem HkC.pc {cs : List Value} {p : Hk} {d r c v f : Value} (h : HkC cs p d r c v f) (hs : p.sm.length = 32) : PcC (cs.take 43) p d r c v f := by
  have t : ∀ {j : Nat} {u : Value}, j < 43 → cs[j]? = some u → (cs.take 43)[j]? = some u := fun hj e => by rw [List.getElem?_take_of_lt hj]; exact e
  refine ⟨by rw [List.length_take, h.len]; decide, fun x hx => h.one x (List.mem_of_mem_take hx), t (by decide) h.c0, t (by decide) h.c1, t (by decide) h.c2, t (by decide) h.c3, t (by decide) h.c4, t (by decide) h.c5, t (by decide) h.c6, t (by decide) h.c7, t (by decide) h.c8, t (by decide) h.c9, fun j x hj => t ?_ (h.cs0 j x hj), t (by decide) h.c42⟩
  have := (List.getElem?_eq_some_iff.1 hj).1
  omega
set_option maxRecDepth 100000 in
set_option maxHeartbeats 4000000 in
theorem samePackage_yes {w : World} {xs ys : List Value} {p : Hk} {d1 r1 c1 v1 f1 d2 r2 c2 v2 f2 : Value} (X : PcC xs p d1 r1 c1 v1 f1) (Y : PcC ys p d2 r2 c2 v2 f2) (L : HkL w p d1 r1 c1 v1 f1) (M : HkL w p d2 r2 c2 v2 f2) (z : HkZ p) :
    Calls Try.prog 24 #[.agg xs.toArray, .agg ys.toArray] w fun e w' => e = .returned (.bool true) ∧ Below w.heap.size w w' := by
  have HX := hide X
  have HY := hide Y
  have HLM := hide (show ∀ U, Below w.heap.size w U → HkL U p d1 r1 c1 v1 f1 ∧ HkL U p d2 r2 c2 v2 f2 from fun U hU => ⟨L.later hU, M.later hU⟩)
  obtain ⟨fa1, fc1, rfl⟩ := L.fl.form
  obtain ⟨fa2, fc2, rfl⟩ := M.fl.form
  have CD := hide (fun (U : World) (hU : Below w.heap.size w U) => sameClauses_yes z.dl z.dls (unhide HLM U hU).1.dl (unhide HLM U hU).2.dl)
  have CR := hide (fun (U : World) (hU : Below w.heap.size w U) => sameClauses_yes z.rl z.rls (unhide HLM U hU).1.rl (unhide HLM U hU).2.rl)
  have CC := hide (fun (U : World) (hU : Below w.heap.size w U) => sameAtoms_yes (Nat.le_trans z.cl (by decide)) (unhide HLM U hU).1.cl (unhide HLM U hU).2.cl)
  have CV := hide (fun (U : World) (hU : Below w.heap.size w U) => sameTexts_yes z.vl (unhide HLM U hU).1.vl (unhide HLM U hU).2.vl)
  have hfl := z.fl
  have hU := hide z.sl
  have hul := z.sl.1
  have ce := neqU z.sl
  have q0 := bx_eq p.nm
  have q1 := bx_eq p.vr
  have q8 := bx_eq p.ar
  have q42 := bx_eq p.sy
  clear X Y L M z
  obtain ⟨N, hN⟩ : ∃ N, p.fs.length = N := ⟨_, rfl⟩
  rw [hN] at HX HY HLM hfl
  have HN := hide hN
  clear hN
  go_enter Try.func24, Try.ntmps24
  go_wp2_with (first
    | ((with_reducible refine b_box (t := 45) (k := 43) xs (unhide HX).len (unhide HX).one _ rfl rfl rfl ?_); intro w2 B1 k1 z1; have K1 := hide k1; guard_hyp k1 : Below w.heap.size w w2)
    | ((with_reducible refine b_box (t := 45) (k := 43) ys (unhide HY).len (unhide HY).one _ rfl rfl rfl ?_); intro w3 B2 k2 z2; obtain ⟨G, HG⟩ : ∃ G, Hid (G = w2.heap.size) := ⟨_, hide rfl⟩; have P1 := hide (B1.later k2); have P2 := hide B2; have K2 := hide (bl_t (unhide K1) k2); clear B1 B2 k1 k2 z1 z2 K1; have a0 := (unhide P1).cell (unhide HX).c0; have a1 := (unhide P1).cell (unhide HX).c1; have a2 := (unhide P1).cell (unhide HX).c2; have a3 := (unhide P1).cell (unhide HX).c3; have a4 := (unhide P1).cell (unhide HX).c4; have a5 := (unhide P1).cell (unhide HX).c5; have a6 := (unhide P1).cell (unhide HX).c6; have a7 := (unhide P1).cell (unhide HX).c7; have a8 := (unhide P1).cell (unhide HX).c8; have a9 := (unhide P1).cell (unhide HX).c9; have a42 := (unhide P1).cell (unhide HX).c42; have e0 := (unhide P2).cell (unhide HY).c0; have e1 := (unhide P2).cell (unhide HY).c1; have e2 := (unhide P2).cell (unhide HY).c2; have e3 := (unhide P2).cell (unhide HY).c3; have e4 := (unhide P2).cell (unhide HY).c4; have e5 := (unhide P2).cell (unhide HY).c5; have e6 := (unhide P2).cell (unhide HY).c6; have e7 := (unhide P2).cell (unhide HY).c7; have e8 := (unhide P2).cell (unhide HY).c8; have e9 := (unhide P2).cell (unhide HY).c9; have e42 := (unhide P2).cell (unhide HY).c42; have RA := hide (show w3.rangeAt w.heap.size 10 p.sm from fun j x hx => (unhide P1).cell ((unhide HX).cs0 j x hx)); have RB := hide (show w3.rangeAt w2.heap.size 10 p.sm from fun j x hx => (unhide P2).cell ((unhide HY).cs0 j x hx)))
    | ((with_reducible refine m_load (o := { dst := some 41, op := Op.load 43 (Operand.tmp 40), type := 43, pos := "play.go:276", after := #[{ on := 34, ground := Ground.data }, { on := 33, ground := Ground.guard }], guard := some (33, false) }) Try.underlying43 rfl infoU (.tmp 40) ?ua1 ?ua2 w.heap.size 10 ?ua3 p.sm (unhide RA) hul ?ua4); (case ua1 => rfl); (case ua2 => rfl); (case ua3 => rfl))
    | ((with_reducible refine m_load (o := { dst := some 43, op := Op.load 43 (Operand.tmp 42), type := 43, pos := "play.go:276", after := #[{ on := 36, ground := Ground.data }, { on := 33, ground := Ground.guard }], guard := some (33, false) }) Try.underlying43 rfl infoU (.tmp 42) ?ub1 ?ub2 w2.heap.size 10 ?ub3 p.sm (unhide RB) hul ?ub4); (case ub1 => rfl); (case ub2 => rfl); (case ub3 => rfl))
    | (go_at_call_of 25 d1; refine (unhide CD _ (unhide K2)).mono ?_; rintro e w4 ⟨rfl, n4, rfl⟩; clear CD)
    | (go_at_call_of 25 r1; refine (unhide CR _ (bl_t (unhide K2) (bl_drewN _ _))).mono ?_; rintro e w5 ⟨rfl, n5, rfl⟩; rw [World.drewN_drewN]; clear CR)
    | (go_at_call 26; refine (unhide CC _ (bl_t (unhide K2) (bl_drewN _ _))).mono ?_; rintro e w6 ⟨rfl, n6, rfl⟩; rw [World.drewN_drewN]; clear CC)
    | (go_at_call 27; refine (unhide CV _ (bl_t (unhide K2) (bl_drewN _ _))).mono ?_; rintro e w7 ⟨rfl, n7, rfl⟩; rw [World.drewN_drewN]; clear CV))
  have HQ := hide (show ∀ k (hk : k < p.fs.length), ∃ g1 o1 g2 o2, fa1 = some ⟨g1, o1, none⟩ ∧ fa2 = some ⟨g2, o2, none⟩ ∧ isT 49 34 p.fs[k] ∧ ∀ X, Below w3.heap.size w3 X → X.cell? ⟨w.heap.size, 7, none⟩ = some (.slice fa1 N fc1) ∧ X.cell? ⟨w2.heap.size, 7, none⟩ = some (.slice fa2 N fc2) ∧ X.rangeAt g1 (o1 + k * 34) p.fs[k] ∧ X.rangeAt g2 (o2 + k * 34) p.fs[k] from fun k hk => by
    obtain ⟨L1, L2⟩ := unhide HLM w3 (unhide K2)
    obtain ⟨g1, o1, e1, l1, hok, r1⟩ := L1.fl.at hk
    obtain ⟨g2, o2, e2, l2, _, r2⟩ := L2.fl.at hk
    exact ⟨g1, o1, g2, o2, e1, e2, hok, fun X hX => ⟨cell_later a7 hX, cell_later e7 hX, rangeAt_later r1 l1 hX, rangeAt_later r2 l2 hX⟩⟩)
  clear a0 a1 a2 a3 a4 a5 a6 a8 a9 a42 e0 e1 e2 e3 e4 e5 e6 e8 e9 e42 RA RB q0 q1 q8 q42 ce hul hU P1 P2 HX HY
  have HSZ := hide (show Below w3.heap.size w3 (w3.drewN (n4 + n5 + n6 + n7)) from bl_drewN _ _)
  go_loopg [5] N (fun gq iv wr => ∃ i n : Nat, iv = .int .i64 i ∧ i ≤ N ∧ N - i ≤ gq ∧ wr = w3.drewN n)
  case atStart => exact ⟨0, _, by go_num, by omega, by omega, rfl⟩
  case round =>
    clear HSZ
    obtain ⟨i, n, rfl, hi, hg, rfl⟩ := hrel
    by_cases hlt : i < N
    · have hin : (i : Int) < (N : Int) := by omega
      obtain ⟨g1, o1, g2, o2, rfl, rfl, hok, HS⟩ := unhide HQ i (by have := unhide HN; omega)
      have hff := neqF hok
      have hlen := hok.1
      generalize p.fs[i]'(by have := unhide HN; omega) = ys9 at *
      have l1 : (Try.prog.info? 49).map (·.size) = some ys9.length := by rw [hlen]; exact infoF
      have HS2 := hide HS
      have HD := hide (show (w3.drewN n).drew = w3.drewN (n + 1) from rfl)
      have B0 := hide (bl_drewN w3 n).drew
      clear hok HQ HS
      go_wp2_with fail
      refine wp_region_held_drew (S := fun w' => w'.cell? ⟨w.heap.size, 7, none⟩ = some (.slice (some ⟨g1, o1, none⟩) N fc1) ∧ w'.cell? ⟨w2.heap.size, 7, none⟩ = some (.slice (some ⟨g2, o2, none⟩) N fc2) ∧ w'.rangeAt g1 (o1 + i * 34) ys9 ∧ w'.rangeAt g2 (o2 + i * 34) ys9) (by kernel_rfl) ?_ (fun hHeld => ?_)
      · exact unhide HS2 _ (unhide B0)
      refine wpAnyH_take (i := 0) (oi := { dst := some 99, op := Op.fieldAddr 45 (Operand.tmp 2) 7, type := 0, pos := "play.go:283", after := #[], guard := none }) (v := ?_) rfl (by kernel_rfl) (by kernel_rfl) (by kernel_rfl) (fun _ _ _ h => h) (Or.inl ⟨by rfl, ?_⟩) (by assumption) ?_
      rotate_left
      · intro w hSw; (try dsimp only at hSw); go_simp; (try with_reducible rfl)
      try simp only [Act.put, List.setIfInBounds_toArray, List.set_cons_zero, List.set_cons_succ]
      refine wpAnyH_take (i := 1) (oi := { dst := some 100, op := Op.load 42 (Operand.tmp 99), type := 42, pos := "play.go:283", after := #[{ on := 0, ground := Ground.data }], guard := none }) (v := ?_) rfl (by kernel_rfl) (by kernel_rfl) (by kernel_rfl) (fun _ _ _ h => h) (Or.inl ⟨by rfl, ?_⟩) (by assumption) ?_
      rotate_left
      · intro w hSw; (try dsimp only at hSw); go_simp; (try with_reducible rfl)
      try simp only [Act.put, List.setIfInBounds_toArray, List.set_cons_zero, List.set_cons_succ]
      refine wpAnyH_take (i := 2) (oi := { dst := some 101, op := Op.move (Operand.tmp 5), type := 3, pos := "play.go:283", after := #[], guard := none }) (v := ?_) rfl (by kernel_rfl) (by kernel_rfl) (by kernel_rfl) (fun _ _ _ h => h) (Or.inl ⟨by rfl, ?_⟩) (by assumption) ?_
      rotate_left
      · intro w hSw; (try dsimp only at hSw); go_simp; (try with_reducible rfl)
      try simp only [Act.put, List.setIfInBounds_toArray, List.set_cons_zero, List.set_cons_succ]
      refine wpAnyH_take (i := 3) (oi := { dst := some 102, op := Op.indexAddr 42 (Operand.tmp 100) (Operand.tmp 101), type := 0, pos := "play.go:283", after := #[{ on := 1, ground := Ground.data }, { on := 2, ground := Ground.data }], guard := none }) (v := ?_) rfl (by kernel_rfl) (by kernel_rfl) (by kernel_rfl) (fun _ _ _ h => h) (Or.inl ⟨by rfl, ?_⟩) (by assumption) ?_
      rotate_left
      · intro w hSw; (try dsimp only at hSw); go_simp; (try with_reducible rfl)
      try simp only [Act.put, List.setIfInBounds_toArray, List.set_cons_zero, List.set_cons_succ]
      refine wpAnyH_take (i := 4) (oi := { dst := some 103, op := Op.load 49 (Operand.tmp 102), type := 49, pos := "play.go:283", after := #[{ on := 3, ground := Ground.data }], guard := none }) (v := .agg (ys9).toArray) rfl (by kernel_rfl) (by kernel_rfl) (by kernel_rfl) (fun _ _ _ h => h) (yieldsIf_load_mid (by rfl) 49 (.tmp 102) rfl g1 (o1 + i * 34) (by rfl) (ys9) _ (fun _ h => h.2.2.1) Try.underlying49 rfl l1) (by assumption) ?_
      try simp only [Act.put, List.setIfInBounds_toArray, List.set_cons_zero, List.set_cons_succ]
      refine wpAnyH_take (i := 5) (oi := { dst := some 104, op := Op.fieldAddr 45 (Operand.tmp 3) 7, type := 0, pos := "play.go:283", after := #[], guard := none }) (v := ?_) rfl (by kernel_rfl) (by kernel_rfl) (by kernel_rfl) (fun _ _ _ h => h) (Or.inl ⟨by rfl, ?_⟩) (by assumption) ?_
      rotate_left
      · intro w hSw; (try dsimp only at hSw); go_simp; (try with_reducible rfl)
      try simp only [Act.put, List.setIfInBounds_toArray, List.set_cons_zero, List.set_cons_succ]
      refine wpAnyH_take (i := 6) (oi := { dst := some 105, op := Op.load 42 (Operand.tmp 104), type := 42, pos := "play.go:283", after := #[{ on := 5, ground := Ground.data }], guard := none }) (v := ?_) rfl (by kernel_rfl) (by kernel_rfl) (by kernel_rfl) (fun _ _ _ h => h) (Or.inl ⟨by rfl, ?_⟩) (by assumption) ?_
      rotate_left
      · intro w hSw; (try dsimp only at hSw); go_simp; (try with_reducible rfl)
      try simp only [Act.put, List.setIfInBounds_toArray, List.set_cons_zero, List.set_cons_succ]
      refine wpAnyH_take (i := 7) (oi := { dst := some 106, op := Op.move (Operand.tmp 5), type := 3, pos := "play.go:283", after := #[], guard := none }) (v := ?_) rfl (by kernel_rfl) (by kernel_rfl) (by kernel_rfl) (fun _ _ _ h => h) (Or.inl ⟨by rfl, ?_⟩) (by assumption) ?_
      rotate_left
      · intro w hSw; (try dsimp only at hSw); go_simp; (try with_reducible rfl)
      try simp only [Act.put, List.setIfInBounds_toArray, List.set_cons_zero, List.set_cons_succ]
      refine wpAnyH_take (i := 8) (oi := { dst := some 107, op := Op.indexAddr 42 (Operand.tmp 105) (Operand.tmp 106), type := 0, pos := "play.go:283", after := #[{ on := 6, ground := Ground.data }, { on := 7, ground := Ground.data }], guard := none }) (v := ?_) rfl (by kernel_rfl) (by kernel_rfl) (by kernel_rfl) (fun _ _ _ h => h) (Or.inl ⟨by rfl, ?_⟩) (by assumption) ?_
      rotate_left
      · intro w hSw; (try dsimp only at hSw); go_simp; (try with_reducible rfl)
      try simp only [Act.put, List.setIfInBounds_toArray, List.set_cons_zero, List.set_cons_succ]
      refine wpAnyH_take (i := 9) (oi := { dst := some 108, op := Op.load 49 (Operand.tmp 107), type := 49, pos := "play.go:283", after := #[{ on := 8, ground := Ground.data }], guard := none }) (v := .agg (ys9).toArray) rfl (by kernel_rfl) (by kernel_rfl) (by kernel_rfl) (fun _ _ _ h => h) (yieldsIf_load_mid (by rfl) 49 (.tmp 107) rfl g2 (o2 + i * 34) (by rfl) (ys9) _ (fun _ h => h.2.2.2) Try.underlying49 rfl l1) (by assumption) ?_
      try simp only [Act.put, List.setIfInBounds_toArray, List.set_cons_zero, List.set_cons_succ]
      refine wpAnyH_take (i := 10) (oi := { dst := some 109, op := Op.binOp BinOp.neq 49 (Operand.tmp 103) (Operand.tmp 108) 49, type := 4, pos := "play.go:283", after := #[{ on := 4, ground := Ground.data }, { on := 9, ground := Ground.data }], guard := none }) (v := ?_) rfl (by kernel_rfl) (by kernel_rfl) (by kernel_rfl) (fun _ _ _ h => h) (Or.inl ⟨by rfl, ?_⟩) (by assumption) ?_
      rotate_left
      · intro w hSw; (try dsimp only at hSw); go_simp; (try with_reducible rfl)
      try simp only [Act.put, List.setIfInBounds_toArray, List.set_cons_zero, List.set_cons_succ]
      refine wpAnyH_done (by kernel_rfl) ?_ _
      rw [unhide HD]
      go_wp2_with fail
      go_roundg (N - (i + 1))
      case measure => omega
      case rel => exact ⟨i + 1, n + 1, by go_num, by omega, by omega, rfl⟩
    · obtain rfl : i = N := by omega
      go_wp2_with fail
      go_ret
      exact ⟨rfl, bl_t (unhide K2) (bl_drewN _ _)⟩
end Go.Proofs.Ytodlmbhlinpoeaa
