import Derived.Test.YtboajcpfoejfeaaTzT
namespace Go.Proofs.Ytboajcpfoejfeaa
open Go.RowKit Go.Maps

theorem quo256 (i : Nat) : Int.tdiv (i : Int) 256 = ((i / 256 : Nat) : Int) := by
  rw [Int.tdiv_eq_ediv_of_nonneg (by omega)]
  omega
theorem wrap_small (n : Nat) (h : n ≤ 2513169434843) : IntKind.i64.wrap (n : Int) = (n : Int) := by
  have h1 : (n : Int) % 2 ^ 64 = (n : Int) := Int.emod_eq_of_lt (by omega) (by omega)
  simp only [IntKind.wrap, IntKind.signed, IntKind.bits, h1]
  rw [if_neg]
  simp
  omega
set_option maxRecDepth 100000 in
set_option maxHeartbeats 8000000 in
/-- A MARK LAID: THE REGION. -/
theorem reg13 {A B C X : World} {gb gc n i k : Nat} {E : List En} {Y : Nat → List Nm} {e : En} (L : Lk A B C (.slice (some ⟨gb, 0, none⟩) n gc) E) (l : Lw A B C X (.slice (some ⟨gb, 0, none⟩) n gc) E Y 0) (he : E[i]? = some e) (hn : n = E.length) (hk : k < e.2.length) (hil : i ≤ 2513169434843)
    {Q : Exit → Act → World → Prop} {u0 u1 u2 u3 u5 u6 u9 u10 u11 u12 u13 u14 u15 u16 u17 u18 u19 u20 u21 u22 u23 u24 u25 u26 u27 u28 u29 u30 u31 u32 u33 u34 u35 u36 u37 u38 u39 u40 u41 u42 u43 u44 u45 u46 u47 u48 u49 u50 u51 u52 u53 u54 u55 u56 u57 u58 u59 u60 u61 u62 u63 u64 u65 u66 u67 u68 u69 u70 u71 u72 u73 u74 u75 u76 u77 u78 u79 u80 u81 u82 u83 u84 u85 u86 u87 u88 u89 u90 u91 u92 u93 u94 u95 u96 u97 u98 u99 u100 u101 u102 u103 u104 u105 u106 u107 u108 u109 u110 u111 u112 u113 u114 u115 u116 u117 u118 u119 u120 u121 u122 u123 u124 u125 u126 u127 u128 u129 u130 u131 u132 u133 u134 u135 u136 u137 u138 u139 u140 u141 u142 u143 u144 u145 : Value} {ds : List Deferred} (hQ : ∀ c (a : Act) t w, Q (.panic c) ⟨t, a.defers⟩ w → Q (.panic c) a w)
    (h : ∀ (s48 s49 s50 s51 s52 s53 s54 s55 s56 s57 s58 s59 s60 : Value) (w9 : World), Lw A B C w9 (.slice (some ⟨gb, 0, none⟩) n gc) E (setY Y i k (mk i)) 0 → Q .normal { tmps := #[u0, u1, u2, u3, .slice (some ⟨gb, 0, none⟩) n gc, u5, u6, .int .i64 (i : Int), .int .i64 (k : Int), u9, u10, u11, u12, u13, u14, u15, u16, u17, u18, u19, u20, u21, u22, u23, u24, u25, u26, u27, u28, u29, u30, u31, u32, u33, u34, u35, u36, u37, u38, u39, u40, u41, u42, u43, u44, u45, u46, u47, s48, s49, s50, s51, s52, s53, s54, s55, s56, s57, s58, s59, s60, u61, u62, u63, u64, u65, u66, u67, u68, u69, u70, u71, u72, u73, u74, u75, u76, u77, u78, u79, u80, u81, u82, u83, u84, u85, u86, u87, u88, u89, u90, u91, u92, u93, u94, u95, u96, u97, u98, u99, u100, u101, u102, u103, u104, u105, u106, u107, u108, u109, u110, u111, u112, u113, u114, u115, u116, u117, u118, u119, u120, u121, u122, u123, u124, u125, u126, u127, u128, u129, u130, u131, u132, u133, u134, u135, u136, u137, u138, u139, u140, u141, u142, u143, u144, u145], defers := ds } w9) :
    Code.wp Try.prog (.region 13 #[{ dst := some 48, op := Op.move (Operand.tmp 4), type := 24, pos := "law.go:220", after := #[], guard := none }, { dst := some 49, op := Op.move (Operand.tmp 7), type := 3, pos := "law.go:220", after := #[], guard := none }, { dst := some 50, op := Op.indexAddr 24 (Operand.tmp 48) (Operand.tmp 49), type := 0, pos := "law.go:220", after := #[{ on := 0, ground := Ground.data }, { on := 1, ground := Ground.data }], guard := none }, { dst := some 51, op := Op.load 28 (Operand.tmp 50), type := 28, pos := "law.go:220", after := #[{ on := 2, ground := Ground.data }], guard := none }, { dst := some 52, op := Op.move (Operand.tmp 8), type := 3, pos := "law.go:220", after := #[], guard := none }, { dst := some 53, op := Op.move (Operand.tmp 7), type := 3, pos := "law.go:220", after := #[], guard := none }, { dst := some 54, op := Op.convert 3 5 (Operand.tmp 53), type := 5, pos := "law.go:220", after := #[{ on := 5, ground := Ground.data }], guard := none }, { dst := some 55, op := Op.move (Operand.tmp 7), type := 3, pos := "law.go:220", after := #[], guard := none }, { dst := some 56, op := Op.binOp BinOp.quo 3 (Operand.tmp 55) (Operand.const (Value.int IntKind.i64 256)) 3, type := 3, pos := "law.go:220", after := #[{ on := 7, ground := Ground.data }], guard := none }, { dst := some 57, op := Op.convert 3 5 (Operand.tmp 56), type := 5, pos := "law.go:220", after := #[{ on := 8, ground := Ground.data }], guard := none }, { dst := some 58, op := Op.buildSlice 29 2 #[(0, Operand.tmp 54), (1, Operand.tmp 57)], type := 29, pos := "law.go:220", after := #[{ on := 6, ground := Ground.data }, { on := 9, ground := Ground.data }], guard := none }, { dst := some 59, op := Op.convert 29 9 (Operand.tmp 58), type := 9, pos := "law.go:220", after := #[{ on := 10, ground := Ground.data }], guard := none }, { dst := some 60, op := Op.indexAddr 28 (Operand.tmp 51) (Operand.tmp 52), type := 0, pos := "law.go:220", after := #[{ on := 3, ground := Ground.data }, { on := 4, ground := Ground.data }, { on := 0, ground := Ground.phase }, { on := 1, ground := Ground.phase }, { on := 2, ground := Ground.phase }, { on := 3, ground := Ground.phase }, { on := 4, ground := Ground.phase }, { on := 5, ground := Ground.phase }, { on := 6, ground := Ground.phase }, { on := 7, ground := Ground.phase }, { on := 8, ground := Ground.phase }, { on := 9, ground := Ground.phase }, { on := 10, ground := Ground.phase }, { on := 11, ground := Ground.phase }], guard := none }, { dst := none, op := Op.store 9 (Operand.tmp 60) (Operand.tmp 59), type := 0, pos := "law.go:220", after := #[{ on := 12, ground := Ground.data }, { on := 11, ground := Ground.data }, { on := 0, ground := Ground.phase }, { on := 1, ground := Ground.phase }, { on := 2, ground := Ground.phase }, { on := 3, ground := Ground.phase }, { on := 4, ground := Ground.phase }, { on := 5, ground := Ground.phase }, { on := 6, ground := Ground.phase }, { on := 7, ground := Ground.phase }, { on := 8, ground := Ground.phase }, { on := 9, ground := Ground.phase }, { on := 10, ground := Ground.phase }, { on := 11, ground := Ground.phase }], guard := none }] true) Q { tmps := #[u0, u1, u2, u3, .slice (some ⟨gb, 0, none⟩) n gc, u5, u6, .int .i64 (i : Int), .int .i64 (k : Int), u9, u10, u11, u12, u13, u14, u15, u16, u17, u18, u19, u20, u21, u22, u23, u24, u25, u26, u27, u28, u29, u30, u31, u32, u33, u34, u35, u36, u37, u38, u39, u40, u41, u42, u43, u44, u45, u46, u47, u48, u49, u50, u51, u52, u53, u54, u55, u56, u57, u58, u59, u60, u61, u62, u63, u64, u65, u66, u67, u68, u69, u70, u71, u72, u73, u74, u75, u76, u77, u78, u79, u80, u81, u82, u83, u84, u85, u86, u87, u88, u89, u90, u91, u92, u93, u94, u95, u96, u97, u98, u99, u100, u101, u102, u103, u104, u105, u106, u107, u108, u109, u110, u111, u112, u113, u114, u115, u116, u117, u118, u119, u120, u121, u122, u123, u124, u125, u126, u127, u128, u129, u130, u131, u132, u133, u134, u135, u136, u137, u138, u139, u140, u141, u142, u143, u144, u145], defers := ds } X := by
  have hi := (List.getElem?_eq_some_iff.1 he).1
  have hin : (i : Int) < (n : Int) := by omega
  have hin2 : ((i / 256 : Nat) : Int) ≤ 2513169434843 := by omega
  have kA : Below X.heap.size X ((X.alloc (.cells #[.int .u8 ((mb1 i).toNat : Int), .int .u8 ((mb2 i).toNat : Int)] 5)).drew) := ((Below.refl _ X).alloc (Nat.le_refl _) _).drew
  obtain ⟨g, cap, hv, kg, ⟨z9, kz⟩, kf, kav, kw⟩ := (l.later kA).write L he hk (mk i)
  have hkm : (k : Int) < (e.2.length : Int) := by omega
  have c0 : X.cell? ⟨gb, i, none⟩ = some (.slice (some ⟨g, 0, none⟩) e.2.length cap) := by
    rw [← hv]
    exact owns_at l.row i _ (by rw [List.getElem?_map, he]; rfl)
  have hgb := (World.ownsRow.lt l.row gb rfl).2
  have KS0 := hide (show X.drew.cell? ⟨gb, i, none⟩ = some (.slice (some ⟨g, 0, none⟩) e.2.length cap) from c0)
  have KS1 := hide (show ((X.alloc (.cells #[.int .u8 ((mb1 i).toNat : Int), .int .u8 ((mb2 i).toNat : Int)] 5)).drew).cell? ⟨gb, i, none⟩ = some (.slice (some ⟨g, 0, none⟩) e.2.length cap) from (kA.cell (p := ⟨gb, i, none⟩) hgb).trans c0)
  have kne : gb ≠ g := fun q => kav (by rw [q]; rfl)
  have KS2 := hide (show (((X.alloc (.cells #[.int .u8 ((mb1 i).toNat : Int), .int .u8 ((mb2 i).toNat : Int)] 5)).drew).setCell ⟨g, k, none⟩ (.string (mk i))).cell? ⟨gb, i, none⟩ = some (.slice (some ⟨g, 0, none⟩) e.2.length cap) from (World.cell?_setCell_other _ _ _ _ (fun q => kne (by injection q with q1 _ _; exact q1.symm))).trans (unhide KS1))
  have kcv := conv_mk ((X.alloc (.cells #[.int .u8 ((mb1 i).toNat : Int), .int .u8 ((mb2 i).toNat : Int)] 5)).drew) X.heap.size i (by show (X.alloc _).cell? _ = _; rw [World.cell?_alloc_new]; rfl) (by show (X.alloc _).cell? _ = _; rw [World.cell?_alloc_new]; rfl)
  have hq := quo256 i
  have hw1 : IntKind.u8.wrap (i : Int) = ((mb1 i).toNat : Int) := wrap_u8 i
  have hw2 : IntKind.u8.wrap ((i / 256 : Nat) : Int) = ((mb2 i).toNat : Int) := wrap_u8 (i / 256)
  have hw3 : IntKind.i64.wrap ((i / 256 : Nat) : Int) = ((i / 256 : Nat) : Int) := wrap_small _ (by omega)
  have KTN := hide kw
  have KEY : Bx _ := ⟨h⟩
  generalize mk i = mm at *
  generalize ((mb1 i).toNat : Int) = z1 at *
  generalize ((mb2 i).toNat : Int) = z2 at *
  generalize i / 256 = i2 at *
  generalize e.2.length = m at *
  clear h kw kA kg kne hv he hk hi L l c0 kav hn hil
  refine wp_region_held_drew (S := fun w' => w'.cell? ⟨gb, i, none⟩ = some (.slice (some ⟨g, 0, none⟩) m cap)) (by kernel_rfl) ?_ (fun hHeld => ?_)
  · exact unhide KS0
  refine wpAnyH_take (i := 0) (oi := { dst := some 48, op := Op.move (Operand.tmp 4), type := 24, pos := "law.go:220", after := #[], guard := none }) (v := ?_) rfl (by kernel_rfl) (by kernel_rfl) (by kernel_rfl) (fun c a w h => hQ c a _ w h) (Or.inl ⟨by rfl, ?_⟩) (by assumption) ?_
  rotate_left
  · intro w hSw; (try dsimp only at hSw); go_simp; (try with_reducible rfl)
  try simp only [Act.put, List.setIfInBounds_toArray, List.set_cons_zero, List.set_cons_succ]
  refine wpAnyH_take (i := 1) (oi := { dst := some 49, op := Op.move (Operand.tmp 7), type := 3, pos := "law.go:220", after := #[], guard := none }) (v := ?_) rfl (by kernel_rfl) (by kernel_rfl) (by kernel_rfl) (fun c a w h => hQ c a _ w h) (Or.inl ⟨by rfl, ?_⟩) (by assumption) ?_
  rotate_left
  · intro w hSw; (try dsimp only at hSw); go_simp; (try with_reducible rfl)
  try simp only [Act.put, List.setIfInBounds_toArray, List.set_cons_zero, List.set_cons_succ]
  refine wpAnyH_take (i := 2) (oi := { dst := some 50, op := Op.indexAddr 24 (Operand.tmp 48) (Operand.tmp 49), type := 0, pos := "law.go:220", after := #[{ on := 0, ground := Ground.data }, { on := 1, ground := Ground.data }], guard := none }) (v := ?_) rfl (by kernel_rfl) (by kernel_rfl) (by kernel_rfl) (fun c a w h => hQ c a _ w h) (Or.inl ⟨by rfl, ?_⟩) (by assumption) ?_
  rotate_left
  · intro w hSw; (try dsimp only at hSw); go_simp; (try with_reducible rfl)
  try simp only [Act.put, List.setIfInBounds_toArray, List.set_cons_zero, List.set_cons_succ]
  refine wpAnyH_take (i := 3) (oi := { dst := some 51, op := Op.load 28 (Operand.tmp 50), type := 28, pos := "law.go:220", after := #[{ on := 2, ground := Ground.data }], guard := none }) (v := ?_) rfl (by kernel_rfl) (by kernel_rfl) (by kernel_rfl) (fun c a w h => hQ c a _ w h) (Or.inl ⟨by rfl, ?_⟩) (by assumption) ?_
  rotate_left
  · intro w hSw; (try dsimp only at hSw); go_simp; (try with_reducible rfl)
  try simp only [Act.put, List.setIfInBounds_toArray, List.set_cons_zero, List.set_cons_succ]
  refine wpAnyH_take (i := 4) (oi := { dst := some 52, op := Op.move (Operand.tmp 8), type := 3, pos := "law.go:220", after := #[], guard := none }) (v := ?_) rfl (by kernel_rfl) (by kernel_rfl) (by kernel_rfl) (fun c a w h => hQ c a _ w h) (Or.inl ⟨by rfl, ?_⟩) (by assumption) ?_
  rotate_left
  · intro w hSw; (try dsimp only at hSw); go_simp; (try with_reducible rfl)
  try simp only [Act.put, List.setIfInBounds_toArray, List.set_cons_zero, List.set_cons_succ]
  refine wpAnyH_take (i := 5) (oi := { dst := some 53, op := Op.move (Operand.tmp 7), type := 3, pos := "law.go:220", after := #[], guard := none }) (v := ?_) rfl (by kernel_rfl) (by kernel_rfl) (by kernel_rfl) (fun c a w h => hQ c a _ w h) (Or.inl ⟨by rfl, ?_⟩) (by assumption) ?_
  rotate_left
  · intro w hSw; (try dsimp only at hSw); go_simp; (try with_reducible rfl)
  try simp only [Act.put, List.setIfInBounds_toArray, List.set_cons_zero, List.set_cons_succ]
  refine wpAnyH_take (i := 6) (oi := { dst := some 54, op := Op.convert 3 5 (Operand.tmp 53), type := 5, pos := "law.go:220", after := #[{ on := 5, ground := Ground.data }], guard := none }) (v := ?_) rfl (by kernel_rfl) (by kernel_rfl) (by kernel_rfl) (fun c a w h => hQ c a _ w h) (Or.inl ⟨by rfl, ?_⟩) (by assumption) ?_
  rotate_left
  · intro w hSw; (try dsimp only at hSw); go_simp; (try with_reducible rfl)
  try simp only [Act.put, List.setIfInBounds_toArray, List.set_cons_zero, List.set_cons_succ]
  refine wpAnyH_take (i := 7) (oi := { dst := some 55, op := Op.move (Operand.tmp 7), type := 3, pos := "law.go:220", after := #[], guard := none }) (v := ?_) rfl (by kernel_rfl) (by kernel_rfl) (by kernel_rfl) (fun c a w h => hQ c a _ w h) (Or.inl ⟨by rfl, ?_⟩) (by assumption) ?_
  rotate_left
  · intro w hSw; (try dsimp only at hSw); go_simp; (try with_reducible rfl)
  try simp only [Act.put, List.setIfInBounds_toArray, List.set_cons_zero, List.set_cons_succ]
  refine wpAnyH_take (i := 8) (oi := { dst := some 56, op := Op.binOp BinOp.quo 3 (Operand.tmp 55) (Operand.const (Value.int IntKind.i64 256)) 3, type := 3, pos := "law.go:220", after := #[{ on := 7, ground := Ground.data }], guard := none }) (v := ?_) rfl (by kernel_rfl) (by kernel_rfl) (by kernel_rfl) (fun c a w h => hQ c a _ w h) (Or.inl ⟨by rfl, ?_⟩) (by assumption) ?_
  rotate_left
  · intro w hSw; (try dsimp only at hSw); go_simp; (try with_reducible rfl)
  try simp only [Act.put, List.setIfInBounds_toArray, List.set_cons_zero, List.set_cons_succ]
  refine wpAnyH_take (i := 9) (oi := { dst := some 57, op := Op.convert 3 5 (Operand.tmp 56), type := 5, pos := "law.go:220", after := #[{ on := 8, ground := Ground.data }], guard := none }) (v := ?_) rfl (by kernel_rfl) (by kernel_rfl) (by kernel_rfl) (fun c a w h => hQ c a _ w h) (Or.inl ⟨by rfl, ?_⟩) (by assumption) ?_
  rotate_left
  · intro w hSw; (try dsimp only at hSw); go_simp; (try with_reducible rfl)
  try simp only [Act.put, List.setIfInBounds_toArray, List.set_cons_zero, List.set_cons_succ]
  refine wpAnyH_ready (rs := [10]) (by kernel_rfl) (by simp) ?_
  refine AllReadyH.cons (o := { dst := some 58, op := Op.buildSlice 29 2 #[(0, Operand.tmp 54), (1, Operand.tmp 57)], type := 29, pos := "law.go:220", after := #[{ on := 6, ground := Ground.data }, { on := 9, ground := Ground.data }], guard := none }) rfl (fun K hK => ?_) AllReadyH.nil
  go_simp
  refine hK.out _ _ ?_ (fun hHeld => ?_)
  · exact unhide KS1
  clear hK K
  try simp only [Act.put, List.setIfInBounds_toArray, List.set_cons_zero, List.set_cons_succ]
  refine wpAnyH_ready (rs := [11]) (by kernel_rfl) (by simp) ?_
  refine AllReadyH.cons (o := { dst := some 59, op := Op.convert 29 9 (Operand.tmp 58), type := 9, pos := "law.go:220", after := #[{ on := 10, ground := Ground.data }], guard := none }) rfl (fun K hK => ?_) AllReadyH.nil
  go_simp
  refine hK.out _ _ ?_ (fun hHeld => ?_)
  · exact unhide KS1
  clear hK K
  try simp only [Act.put, List.setIfInBounds_toArray, List.set_cons_zero, List.set_cons_succ]
  refine wpAnyH_take (i := 12) (oi := { dst := some 60, op := Op.indexAddr 28 (Operand.tmp 51) (Operand.tmp 52), type := 0, pos := "law.go:220", after := #[{ on := 3, ground := Ground.data }, { on := 4, ground := Ground.data }, { on := 0, ground := Ground.phase }, { on := 1, ground := Ground.phase }, { on := 2, ground := Ground.phase }, { on := 3, ground := Ground.phase }, { on := 4, ground := Ground.phase }, { on := 5, ground := Ground.phase }, { on := 6, ground := Ground.phase }, { on := 7, ground := Ground.phase }, { on := 8, ground := Ground.phase }, { on := 9, ground := Ground.phase }, { on := 10, ground := Ground.phase }, { on := 11, ground := Ground.phase }], guard := none }) (v := ?_) rfl (by kernel_rfl) (by kernel_rfl) (by kernel_rfl) (fun c a w h => hQ c a _ w h) (Or.inl ⟨by rfl, ?_⟩) (by assumption) ?_
  rotate_left
  · intro w hSw; (try dsimp only at hSw); go_simp; (try with_reducible rfl)
  try simp only [Act.put, List.setIfInBounds_toArray, List.set_cons_zero, List.set_cons_succ]
  refine wpAnyH_ready (rs := [13]) (by kernel_rfl) (by simp) ?_
  refine AllReadyH.cons (o := { dst := none, op := Op.store 9 (Operand.tmp 60) (Operand.tmp 59), type := 0, pos := "law.go:220", after := #[{ on := 12, ground := Ground.data }, { on := 11, ground := Ground.data }, { on := 0, ground := Ground.phase }, { on := 1, ground := Ground.phase }, { on := 2, ground := Ground.phase }, { on := 3, ground := Ground.phase }, { on := 4, ground := Ground.phase }, { on := 5, ground := Ground.phase }, { on := 6, ground := Ground.phase }, { on := 7, ground := Ground.phase }, { on := 8, ground := Ground.phase }, { on := 9, ground := Ground.phase }, { on := 10, ground := Ground.phase }, { on := 11, ground := Ground.phase }], guard := none }) rfl (fun K hK => ?_) AllReadyH.nil
  go_simp
  refine hK.out _ _ ?_ (fun hHeld => ?_)
  · exact unhide KS2
  clear hK K
  try simp only [Act.put]
  refine wpAnyH_done (by kernel_rfl) ?_ _
  exact KEY.out _ _ _ _ _ _ _ _ _ _ _ _ _ _ (unhide KTN)
set_option maxRecDepth 100000 in
set_option maxHeartbeats 8000000 in
/-- A MARK LOOKED AT: THE REGION. -/
theorem reg30 {X : World} {gb gc n i k g o m cap : Nat} (hin : (i : Int) < (n : Int)) (hkm : (k : Int) < (m : Int)) (hil : i ≤ 2513169434843) (hgb : gb < X.heap.size) (hgg : g < X.heap.size) (c0 : X.cell? ⟨gb, i, none⟩ = some (.slice (some ⟨g, o, none⟩) m cap)) (c1 : X.cell? ⟨g, o + k, none⟩ = some (.string (mk i)))
    {Q : Exit → Act → World → Prop} {u0 u1 u2 u3 u5 u6 u7 u8 u9 u10 u11 u14 u15 u16 u17 u18 u19 u20 u21 u22 u23 u24 u25 u26 u27 u28 u29 u30 u31 u32 u33 u34 u35 u36 u37 u38 u39 u40 u41 u42 u43 u44 u45 u46 u47 u48 u49 u50 u51 u52 u53 u54 u55 u56 u57 u58 u59 u60 u61 u62 u63 u64 u65 u66 u67 u68 u69 u70 u71 u72 u73 u74 u75 u76 u77 u78 u79 u80 u81 u82 u83 u84 u85 u86 u87 u88 u89 u90 u91 u92 u93 u94 u95 u96 u97 u98 u99 u100 u101 u102 u103 u104 u105 u106 u107 u108 u109 u110 u111 u112 u113 u114 u115 u116 u117 u118 u119 u120 u121 u122 u123 u124 u125 u126 u127 u128 u129 u130 u131 u132 u133 u134 u135 u136 u137 u138 u139 u140 u141 u142 u143 u144 u145 : Value} {ds : List Deferred} (hQ : ∀ c (a : Act) t w, Q (.panic c) ⟨t, a.defers⟩ w → Q (.panic c) a w)
    (h : ∀ (s104 s105 s106 s107 s108 s109 s110 s111 s112 s113 s114 s115 s116 s117 : Value) (w9 : World), Below X.heap.size X w9 → Q .normal { tmps := #[u0, u1, u2, u3, .slice (some ⟨gb, 0, none⟩) n gc, u5, u6, u7, u8, u9, u10, u11, .int .i64 (i : Int), .int .i64 (k : Int), u14, u15, u16, u17, u18, u19, u20, u21, u22, u23, u24, u25, u26, u27, u28, u29, u30, u31, u32, u33, u34, u35, u36, u37, u38, u39, u40, u41, u42, u43, u44, u45, u46, u47, u48, u49, u50, u51, u52, u53, u54, u55, u56, u57, u58, u59, u60, u61, u62, u63, u64, u65, u66, u67, u68, u69, u70, u71, u72, u73, u74, u75, u76, u77, u78, u79, u80, u81, u82, u83, u84, u85, u86, u87, u88, u89, u90, u91, u92, u93, u94, u95, u96, u97, u98, u99, u100, u101, u102, u103, s104, s105, s106, s107, s108, s109, s110, s111, s112, s113, s114, s115, s116, s117, .bool false, u119, u120, u121, u122, u123, u124, u125, u126, u127, u128, u129, u130, u131, u132, u133, u134, u135, u136, u137, u138, u139, u140, u141, u142, u143, u144, u145], defers := ds } w9) :
    Code.wp Try.prog (.region 30 #[{ dst := some 104, op := Op.move (Operand.tmp 4), type := 24, pos := "law.go:234", after := #[], guard := none }, { dst := some 105, op := Op.move (Operand.tmp 12), type := 3, pos := "law.go:234", after := #[], guard := none }, { dst := some 106, op := Op.indexAddr 24 (Operand.tmp 104) (Operand.tmp 105), type := 0, pos := "law.go:234", after := #[{ on := 0, ground := Ground.data }, { on := 1, ground := Ground.data }], guard := none }, { dst := some 107, op := Op.load 28 (Operand.tmp 106), type := 28, pos := "law.go:234", after := #[{ on := 2, ground := Ground.data }], guard := none }, { dst := some 108, op := Op.move (Operand.tmp 13), type := 3, pos := "law.go:234", after := #[], guard := none }, { dst := some 109, op := Op.indexAddr 28 (Operand.tmp 107) (Operand.tmp 108), type := 0, pos := "law.go:234", after := #[{ on := 3, ground := Ground.data }, { on := 4, ground := Ground.data }], guard := none }, { dst := some 110, op := Op.load 9 (Operand.tmp 109), type := 9, pos := "law.go:234", after := #[{ on := 5, ground := Ground.data }], guard := none }, { dst := some 111, op := Op.move (Operand.tmp 12), type := 3, pos := "law.go:234", after := #[], guard := none }, { dst := some 112, op := Op.convert 3 5 (Operand.tmp 111), type := 5, pos := "law.go:234", after := #[{ on := 7, ground := Ground.data }], guard := none }, { dst := some 113, op := Op.move (Operand.tmp 12), type := 3, pos := "law.go:234", after := #[], guard := none }, { dst := some 114, op := Op.binOp BinOp.quo 3 (Operand.tmp 113) (Operand.const (Value.int IntKind.i64 256)) 3, type := 3, pos := "law.go:234", after := #[{ on := 9, ground := Ground.data }], guard := none }, { dst := some 115, op := Op.convert 3 5 (Operand.tmp 114), type := 5, pos := "law.go:234", after := #[{ on := 10, ground := Ground.data }], guard := none }, { dst := some 116, op := Op.buildSlice 29 2 #[(0, Operand.tmp 112), (1, Operand.tmp 115)], type := 29, pos := "law.go:234", after := #[{ on := 8, ground := Ground.data }, { on := 11, ground := Ground.data }], guard := none }, { dst := some 117, op := Op.convert 29 9 (Operand.tmp 116), type := 9, pos := "law.go:234", after := #[{ on := 12, ground := Ground.data }], guard := none }, { dst := some 118, op := Op.binOp BinOp.neq 9 (Operand.tmp 110) (Operand.tmp 117) 9, type := 4, pos := "law.go:234", after := #[{ on := 6, ground := Ground.data }, { on := 13, ground := Ground.data }], guard := none }] true) Q { tmps := #[u0, u1, u2, u3, .slice (some ⟨gb, 0, none⟩) n gc, u5, u6, u7, u8, u9, u10, u11, .int .i64 (i : Int), .int .i64 (k : Int), u14, u15, u16, u17, u18, u19, u20, u21, u22, u23, u24, u25, u26, u27, u28, u29, u30, u31, u32, u33, u34, u35, u36, u37, u38, u39, u40, u41, u42, u43, u44, u45, u46, u47, u48, u49, u50, u51, u52, u53, u54, u55, u56, u57, u58, u59, u60, u61, u62, u63, u64, u65, u66, u67, u68, u69, u70, u71, u72, u73, u74, u75, u76, u77, u78, u79, u80, u81, u82, u83, u84, u85, u86, u87, u88, u89, u90, u91, u92, u93, u94, u95, u96, u97, u98, u99, u100, u101, u102, u103, u104, u105, u106, u107, u108, u109, u110, u111, u112, u113, u114, u115, u116, u117, u118, u119, u120, u121, u122, u123, u124, u125, u126, u127, u128, u129, u130, u131, u132, u133, u134, u135, u136, u137, u138, u139, u140, u141, u142, u143, u144, u145], defers := ds } X := by
  have kA : Below X.heap.size X ((X.alloc (.cells #[.int .u8 ((mb1 i).toNat : Int), .int .u8 ((mb2 i).toNat : Int)] 5)).drew) := ((Below.refl _ X).alloc (Nat.le_refl _) _).drew
  have KS0 := hide (show X.drew.cell? ⟨gb, i, none⟩ = some (.slice (some ⟨g, o, none⟩) m cap) ∧ X.drew.cell? ⟨g, o + k, none⟩ = some (.string (mk i)) from ⟨c0, c1⟩)
  have KS1 := hide (show ((X.alloc (.cells #[.int .u8 ((mb1 i).toNat : Int), .int .u8 ((mb2 i).toNat : Int)] 5)).drew).cell? ⟨gb, i, none⟩ = some (.slice (some ⟨g, o, none⟩) m cap) ∧ ((X.alloc (.cells #[.int .u8 ((mb1 i).toNat : Int), .int .u8 ((mb2 i).toNat : Int)] 5)).drew).cell? ⟨g, o + k, none⟩ = some (.string (mk i)) from ⟨(kA.cell (p := ⟨gb, i, none⟩) hgb).trans c0, (kA.cell (p := ⟨g, o + k, none⟩) hgg).trans c1⟩)
  have kcv := conv_mk ((X.alloc (.cells #[.int .u8 ((mb1 i).toNat : Int), .int .u8 ((mb2 i).toNat : Int)] 5)).drew) X.heap.size i (by show (X.alloc _).cell? _ = _; rw [World.cell?_alloc_new]; rfl) (by show (X.alloc _).cell? _ = _; rw [World.cell?_alloc_new]; rfl)
  have hq := quo256 i
  have hw1 : IntKind.u8.wrap (i : Int) = ((mb1 i).toNat : Int) := wrap_u8 i
  have hw2 : IntKind.u8.wrap ((i / 256 : Nat) : Int) = ((mb2 i).toNat : Int) := wrap_u8 (i / 256)
  have hw3 : IntKind.i64.wrap ((i / 256 : Nat) : Int) = ((i / 256 : Nat) : Int) := wrap_small _ (by omega)
  have he : (ByteArray.toList (mk i) == ByteArray.toList (mk i)) = true := bx_eq _
  have KTN := hide kA
  have KEY : Bx _ := ⟨h⟩
  generalize mk i = mm at *
  generalize ((mb1 i).toNat : Int) = z1 at *
  generalize ((mb2 i).toNat : Int) = z2 at *
  generalize i / 256 = i2 at *
  clear h kA c0 c1 hil hgb hgg
  refine wp_region_held_drew (S := fun w' => w'.cell? ⟨gb, i, none⟩ = some (.slice (some ⟨g, o, none⟩) m cap) ∧ w'.cell? ⟨g, o + k, none⟩ = some (.string mm)) (by kernel_rfl) ?_ (fun hHeld => ?_)
  · exact unhide KS0
  refine wpAnyH_take (i := 0) (oi := { dst := some 104, op := Op.move (Operand.tmp 4), type := 24, pos := "law.go:234", after := #[], guard := none }) (v := ?_) rfl (by kernel_rfl) (by kernel_rfl) (by kernel_rfl) (fun c a w h => hQ c a _ w h) (Or.inl ⟨by rfl, ?_⟩) (by assumption) ?_
  rotate_left
  · intro w hSw; (try dsimp only at hSw); go_simp; (try with_reducible rfl)
  try simp only [Act.put, List.setIfInBounds_toArray, List.set_cons_zero, List.set_cons_succ]
  refine wpAnyH_take (i := 1) (oi := { dst := some 105, op := Op.move (Operand.tmp 12), type := 3, pos := "law.go:234", after := #[], guard := none }) (v := ?_) rfl (by kernel_rfl) (by kernel_rfl) (by kernel_rfl) (fun c a w h => hQ c a _ w h) (Or.inl ⟨by rfl, ?_⟩) (by assumption) ?_
  rotate_left
  · intro w hSw; (try dsimp only at hSw); go_simp; (try with_reducible rfl)
  try simp only [Act.put, List.setIfInBounds_toArray, List.set_cons_zero, List.set_cons_succ]
  refine wpAnyH_take (i := 2) (oi := { dst := some 106, op := Op.indexAddr 24 (Operand.tmp 104) (Operand.tmp 105), type := 0, pos := "law.go:234", after := #[{ on := 0, ground := Ground.data }, { on := 1, ground := Ground.data }], guard := none }) (v := ?_) rfl (by kernel_rfl) (by kernel_rfl) (by kernel_rfl) (fun c a w h => hQ c a _ w h) (Or.inl ⟨by rfl, ?_⟩) (by assumption) ?_
  rotate_left
  · intro w hSw; (try dsimp only at hSw); go_simp; (try with_reducible rfl)
  try simp only [Act.put, List.setIfInBounds_toArray, List.set_cons_zero, List.set_cons_succ]
  refine wpAnyH_take (i := 3) (oi := { dst := some 107, op := Op.load 28 (Operand.tmp 106), type := 28, pos := "law.go:234", after := #[{ on := 2, ground := Ground.data }], guard := none }) (v := ?_) rfl (by kernel_rfl) (by kernel_rfl) (by kernel_rfl) (fun c a w h => hQ c a _ w h) (Or.inl ⟨by rfl, ?_⟩) (by assumption) ?_
  rotate_left
  · intro w hSw; (try dsimp only at hSw); go_simp; (try with_reducible rfl)
  try simp only [Act.put, List.setIfInBounds_toArray, List.set_cons_zero, List.set_cons_succ]
  refine wpAnyH_take (i := 4) (oi := { dst := some 108, op := Op.move (Operand.tmp 13), type := 3, pos := "law.go:234", after := #[], guard := none }) (v := ?_) rfl (by kernel_rfl) (by kernel_rfl) (by kernel_rfl) (fun c a w h => hQ c a _ w h) (Or.inl ⟨by rfl, ?_⟩) (by assumption) ?_
  rotate_left
  · intro w hSw; (try dsimp only at hSw); go_simp; (try with_reducible rfl)
  try simp only [Act.put, List.setIfInBounds_toArray, List.set_cons_zero, List.set_cons_succ]
  refine wpAnyH_take (i := 5) (oi := { dst := some 109, op := Op.indexAddr 28 (Operand.tmp 107) (Operand.tmp 108), type := 0, pos := "law.go:234", after := #[{ on := 3, ground := Ground.data }, { on := 4, ground := Ground.data }], guard := none }) (v := ?_) rfl (by kernel_rfl) (by kernel_rfl) (by kernel_rfl) (fun c a w h => hQ c a _ w h) (Or.inl ⟨by rfl, ?_⟩) (by assumption) ?_
  rotate_left
  · intro w hSw; (try dsimp only at hSw); go_simp; (try with_reducible rfl)
  try simp only [Act.put, List.setIfInBounds_toArray, List.set_cons_zero, List.set_cons_succ]
  refine wpAnyH_take (i := 6) (oi := { dst := some 110, op := Op.load 9 (Operand.tmp 109), type := 9, pos := "law.go:234", after := #[{ on := 5, ground := Ground.data }], guard := none }) (v := ?_) rfl (by kernel_rfl) (by kernel_rfl) (by kernel_rfl) (fun c a w h => hQ c a _ w h) (Or.inl ⟨by rfl, ?_⟩) (by assumption) ?_
  rotate_left
  · intro w hSw; (try dsimp only at hSw); go_simp; (try with_reducible rfl)
  try simp only [Act.put, List.setIfInBounds_toArray, List.set_cons_zero, List.set_cons_succ]
  refine wpAnyH_take (i := 7) (oi := { dst := some 111, op := Op.move (Operand.tmp 12), type := 3, pos := "law.go:234", after := #[], guard := none }) (v := ?_) rfl (by kernel_rfl) (by kernel_rfl) (by kernel_rfl) (fun c a w h => hQ c a _ w h) (Or.inl ⟨by rfl, ?_⟩) (by assumption) ?_
  rotate_left
  · intro w hSw; (try dsimp only at hSw); go_simp; (try with_reducible rfl)
  try simp only [Act.put, List.setIfInBounds_toArray, List.set_cons_zero, List.set_cons_succ]
  refine wpAnyH_take (i := 8) (oi := { dst := some 112, op := Op.convert 3 5 (Operand.tmp 111), type := 5, pos := "law.go:234", after := #[{ on := 7, ground := Ground.data }], guard := none }) (v := ?_) rfl (by kernel_rfl) (by kernel_rfl) (by kernel_rfl) (fun c a w h => hQ c a _ w h) (Or.inl ⟨by rfl, ?_⟩) (by assumption) ?_
  rotate_left
  · intro w hSw; (try dsimp only at hSw); go_simp; (try with_reducible rfl)
  try simp only [Act.put, List.setIfInBounds_toArray, List.set_cons_zero, List.set_cons_succ]
  refine wpAnyH_take (i := 9) (oi := { dst := some 113, op := Op.move (Operand.tmp 12), type := 3, pos := "law.go:234", after := #[], guard := none }) (v := ?_) rfl (by kernel_rfl) (by kernel_rfl) (by kernel_rfl) (fun c a w h => hQ c a _ w h) (Or.inl ⟨by rfl, ?_⟩) (by assumption) ?_
  rotate_left
  · intro w hSw; (try dsimp only at hSw); go_simp; (try with_reducible rfl)
  try simp only [Act.put, List.setIfInBounds_toArray, List.set_cons_zero, List.set_cons_succ]
  refine wpAnyH_take (i := 10) (oi := { dst := some 114, op := Op.binOp BinOp.quo 3 (Operand.tmp 113) (Operand.const (Value.int IntKind.i64 256)) 3, type := 3, pos := "law.go:234", after := #[{ on := 9, ground := Ground.data }], guard := none }) (v := ?_) rfl (by kernel_rfl) (by kernel_rfl) (by kernel_rfl) (fun c a w h => hQ c a _ w h) (Or.inl ⟨by rfl, ?_⟩) (by assumption) ?_
  rotate_left
  · intro w hSw; (try dsimp only at hSw); go_simp; (try with_reducible rfl)
  try simp only [Act.put, List.setIfInBounds_toArray, List.set_cons_zero, List.set_cons_succ]
  refine wpAnyH_take (i := 11) (oi := { dst := some 115, op := Op.convert 3 5 (Operand.tmp 114), type := 5, pos := "law.go:234", after := #[{ on := 10, ground := Ground.data }], guard := none }) (v := ?_) rfl (by kernel_rfl) (by kernel_rfl) (by kernel_rfl) (fun c a w h => hQ c a _ w h) (Or.inl ⟨by rfl, ?_⟩) (by assumption) ?_
  rotate_left
  · intro w hSw; (try dsimp only at hSw); go_simp; (try with_reducible rfl)
  try simp only [Act.put, List.setIfInBounds_toArray, List.set_cons_zero, List.set_cons_succ]
  refine wpAnyH_ready (rs := [12]) (by kernel_rfl) (by simp) ?_
  refine AllReadyH.cons (o := { dst := some 116, op := Op.buildSlice 29 2 #[(0, Operand.tmp 112), (1, Operand.tmp 115)], type := 29, pos := "law.go:234", after := #[{ on := 8, ground := Ground.data }, { on := 11, ground := Ground.data }], guard := none }) rfl (fun K hK => ?_) AllReadyH.nil
  go_simp
  refine hK.out _ _ ?_ (fun hHeld => ?_)
  · exact unhide KS1
  clear hK K
  try simp only [Act.put, List.setIfInBounds_toArray, List.set_cons_zero, List.set_cons_succ]
  refine wpAnyH_ready (rs := [13]) (by kernel_rfl) (by simp) ?_
  refine AllReadyH.cons (o := { dst := some 117, op := Op.convert 29 9 (Operand.tmp 116), type := 9, pos := "law.go:234", after := #[{ on := 12, ground := Ground.data }], guard := none }) rfl (fun K hK => ?_) AllReadyH.nil
  go_simp
  refine hK.out _ _ ?_ (fun hHeld => ?_)
  · exact unhide KS1
  clear hK K
  try simp only [Act.put, List.setIfInBounds_toArray, List.set_cons_zero, List.set_cons_succ]
  refine wpAnyH_take (i := 14) (oi := { dst := some 118, op := Op.binOp BinOp.neq 9 (Operand.tmp 110) (Operand.tmp 117) 9, type := 4, pos := "law.go:234", after := #[{ on := 6, ground := Ground.data }, { on := 13, ground := Ground.data }], guard := none }) (v := ?_) rfl (by kernel_rfl) (by kernel_rfl) (by kernel_rfl) (fun c a w h => hQ c a _ w h) (Or.inl ⟨by rfl, ?_⟩) (by assumption) ?_
  rotate_left
  · intro w hSw; (try dsimp only at hSw); go_simp; (try with_reducible rfl)
  try simp only [Act.put, List.setIfInBounds_toArray, List.set_cons_zero, List.set_cons_succ]
  refine wpAnyH_done (by kernel_rfl) ?_ _
  exact KEY.out _ _ _ _ _ _ _ _ _ _ _ _ _ _ _ (unhide KTN)
end Go.Proofs.Ytboajcpfoejfeaa
