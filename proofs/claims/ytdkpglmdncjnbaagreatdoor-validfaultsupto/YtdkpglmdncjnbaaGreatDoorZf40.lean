import Derived.Test.YtdkpglmdncjnbaaGreatDoorZf34
namespace Go.Proofs.YtdkpglmdncjnbaaGreatDoor
open Go.RowKit
theorem Blk.lastS {W : World} {S : Nat} {pl : List ByteArray} (h : Blk W S (pl.map .string ++ [.string ⟨#[77, 65, 82, 75]⟩]) (pl.length + 1)) : W.cell? ⟨S, pl.length, none⟩ = some (.string ⟨#[77, 65, 82, 75]⟩) :=
 h.elem _ _ (by rw [List.getElem?_append_right (by simp)]; simp)
theorem Blk.lastF {W : World} {F : Nat} {fs : List (List Value)} (hf : ∀ x ∈ fs, isF x) (h : Blk W F (fs.flatten ++ [.string ⟨#[77, 65, 82, 75]⟩]) ((fs.length + 1) * 34)) : W.cell? ⟨F, fs.length * 34, none⟩ = some (.string ⟨#[77, 65, 82, 75]⟩) :=
 h.elem _ _ (by
  have hl := flat_lenm 34 fs (fun r hr => (hf r hr).1)
  rw [List.getElem?_append_right (by omega), hl, Nat.sub_self]; rfl)
set_option maxRecDepth 100000 in
set_option maxHeartbeats 8000000 in
theorem still_any (ps : List Pk) (base L : Nat) (u : Value) (W : World) (hl : ps.length ≤ 100000000000) (hz : ∀ p ∈ ps, PkZ p) (h1 : Lps base W L ps) (h2 : Pkl W u ps) :
 Calls Tryz.prog 12 #[.slice (some ⟨L, 0, none⟩) ps.length (ps.length + 1), u] W fun e w' => e = .returned (.bool true) ∧ Below W.heap.size W w' := by
 have CS := hide (samePackages_any ps (.slice (some ⟨L, 0, none⟩) ps.length (ps.length + 1)) u W (by omega) hz (h1.pkl hz) h2)
 obtain ⟨ua, uc, rfl⟩ : ∃ a c, u = .slice a ps.length c := let ⟨a, c, e, _⟩ := h2; ⟨a, c, e⟩
 have HLX := hide (fun (X : World) (hb : Below W.heap.size W X) => h1.later hb)
 have HZ := hide hz
 clear h1 h2 hz
 obtain ⟨N, hN⟩ : ∃ N, ps.length = N := ⟨_, rfl⟩
 rw [hN] at hl CS ⊢
 have HN := hide hN
 clear hN
 have j1 : (0 : Int) ≤ (N : Int) + 1 := by omega
 have j2 : (N : Int) + 1 ≤ (N : Int) + 1 := Int.le_refl _
 have j3 : (N : Int) < (N : Int) + 1 := by omega
 have j5 : (0 : Int) ≤ (N : Int) := by omega
 go_enter Tryz.func12, Tryz.ntmps12
 go_wp2_with fail
 refine (unhide CS).mono ?_
 rintro e w1 ⟨rfl, hb1⟩
 have m1 : w1.cell? ⟨L, N * 43, none⟩ = some (.string ⟨#[77, 65, 82, 75]⟩) := by rw [← unhide HN]; exact (unhide HLX w1 hb1).last
 have HB1 := hide hb1
 clear hb1 CS
 go_wp2_with fail
 go_loopg [5, 6] N (fun gq vi _ wr => ∃ i : Nat, vi = .int .i64 i ∧ i ≤ N ∧ N - i ≤ gq ∧ Hid (Below W.heap.size W wr))
 case atStart => exact ⟨0, by go_num, by omega, by omega, HB1⟩
 case round =>
  clear HB1 m1
  obtain ⟨i, rfl, hi, hg, HB⟩ := hrel
  by_cases hlt : i < N
  ·have hiz : (i : Int) < (N : Int) := by omega
   have i0 : (0 : Int) ≤ (i : Int) := by omega
   obtain ⟨p, hp⟩ : ∃ p, ps[i]? = some p := ⟨_, List.getElem?_eq_getElem (by have := unhide HN; omega)⟩
   have hzp := unhide HZ p (List.mem_of_getElem? hp)
   obtain ⟨cs, Md, Mr, C, S, F, k1, kp⟩ := (unhide HLX wr (unhide HB)).row.row i p (by have := unhide HN; omega) hp
   have R0 := hide k1
   have C1 := hide kp.pc
   have HK := hide (fun (X : World) (hb : Below wr.heap.size wr X) => kp.later hb)
   have SD := hide (fun (X : World) (hb : Below wr.heap.size wr X) => stillClauses_any p.dp _ Md X hzp.dl hzp.dls (kp.later hb).dl)
   have SR := hide (fun (X : World) (hb : Below wr.heap.size wr X) => stillClauses_any p.pr _ Mr X hzp.rl hzp.rls (kp.later hb).rl)
   have bc := hzp.cl
   have bv := hzp.vl
   have bf := hzp.fl
   clear k1 kp hzp hp
   go_wp2_with (first
    | (with_reducible refine p_loadm _ rfl rfl L (i * 43) rfl cs (unhide R0) (unhide C1).len ?_)
    | (with_reducible refine p_alloc rfl rfl ?_; intro w2 zc b2 k2 z2)
    | ((with_reducible refine p_store _ _ rfl rfl wr.heap.size rfl cs rfl (unhide C1).len (unhide C1).one zc b2 ?_); intro w3 b3 o3 k3 z3; obtain ⟨K3, B3⟩ := new_bkK k2 b3 k3; clear b2 k2 b3 o3 k3 z2 z3))
   have F7 := hide (fun (X : World) (hb : Below wr.heap.size wr X) (B : BkP X wr.heap.size cs) => And.intro (B.cell (unhide C1).c3) (And.intro (B.cell (unhide C1).c4) (And.intro (B.cell (unhide C1).c5) (And.intro (unhide HK X hb).cl.l0 (And.intro (unhide HK X hb).cl.l1 (unhide HK X hb).cl.l2)))))
   have D0 := hide (show Below wr.heap.size wr w3.drew ∧ BkP w3.drew wr.heap.size cs from ⟨(unhide K3).drew, (unhide B3).later (Below.refl _ _).drew⟩)
   have q1 : (0 : Int) ≤ (p.cf.length : Int) + 1 := by omega
   have q2 : (p.cf.length : Int) + 1 ≤ (p.cf.length : Int) + 1 := Int.le_refl _
   have q3 : (p.cf.length : Int) < (p.cf.length : Int) + 1 := by omega
   have q5 : (0 : Int) ≤ (p.cf.length : Int) := by omega
   have q4 : IntKind.i64.wrap ((p.cf.length : Int) + 1) = (p.cf.length : Int) + 1 := by rw [IntKind.wrap_i64]; omega
   simp only [Act.put, sqB, sq0, sq1]
   refine wp_region_held_drew (S := fun w' => w'.cell? ⟨wr.heap.size, 3, none⟩ = some (.slice (some ⟨Md, 0, none⟩) p.dp.length (p.dp.length + 1)) ∧ w'.cell? ⟨wr.heap.size, 4, none⟩ = some (.slice (some ⟨Mr, 0, none⟩) p.pr.length (p.pr.length + 1)) ∧ w'.cell? ⟨wr.heap.size, 5, none⟩ = some (.slice (some ⟨C, 0, none⟩) p.cf.length (p.cf.length + 1)) ∧ w'.cell? ⟨C, p.cf.length * 3, none⟩ = some (.string ⟨#[77, 65, 82, 75]⟩) ∧ w'.cell? ⟨C, p.cf.length * 3 + 1, none⟩ = some (.int .i64 99) ∧ w'.cell? ⟨C, p.cf.length * 3 + 2, none⟩ = some (.string ⟨#[]⟩)) (by kernel_rfl) ?_ (fun hHeld => ?_)
   ·exact unhide F7 _ (unhide D0).1 (unhide D0).2
   refine tk2 0 (⟨some 34, .fieldAddr 46 (.tmp 6) 3, 0, "law.go:153", #[], none⟩) ?_
   refine tk2 1 (⟨some 35, .load 40 (.tmp 34), 40, "law.go:153", #[⟨0, .data⟩], none⟩) ?_
   refine wpAnyH_ready (rs := [2]) (by kernel_rfl) (by simp) ?_
   refine AllReadyH.cons (o := ⟨some 36, .call { callee := .value (.func 30), args := #[.tmp 35], argTypes := #[40] }, 4, "law.go:153", #[⟨1, .data⟩], none⟩) rfl (fun K hK => ?_) AllReadyH.nil
   go_simp
   refine (unhide SD _ (unhide D0).1).mono ?_
   rintro x w5 ⟨rfl, hb5⟩
   have D1 := hide (And.intro (bl_t (unhide D0).1 hb5) ((unhide D0).2.later hb5))
   clear hb5
   go_wp2_with fail
   refine hK.out _ _ ?_ (fun hHeld0 => ?_)
   ·exact unhide F7 _ (unhide D1).1 (unhide D1).2
   clear hHeld
   clear hK K
   try simp only [Act.put, sqB, sq0, sq1]
   refine tk2 3 (⟨some 37, .unOp .not 4 (.tmp 36), 4, "law.go:153", #[⟨2, .data⟩], none⟩) ?_
   refine tk2 4 (⟨some 38, .move (.tmp 37), 4, "law.go:153", #[⟨3, .data⟩, ⟨2, .chain⟩], none⟩) ?_
   refine tk2 5 (⟨some 39, .fieldAddr 46 (.tmp 6) 4, 0, "law.go:153", #[⟨4, .guard⟩], some (4, false)⟩) ?_
   refine tk2 6 (⟨some 40, .load 40 (.tmp 39), 40, "law.go:153", #[⟨5, .data⟩, ⟨4, .guard⟩], some (4, false)⟩) ?_
   refine wpAnyH_ready (rs := [7]) (by kernel_rfl) (by simp) ?_
   refine AllReadyH.cons (o := ⟨some 41, .call { callee := .value (.func 30), args := #[.tmp 40], argTypes := #[40] }, 4, "law.go:153", #[⟨6, .data⟩, ⟨4, .chain⟩, ⟨4, .guard⟩], some (4, false)⟩) rfl (fun K hK => ?_) AllReadyH.nil
   go_simp
   refine (unhide SR _ (unhide D1).1).mono ?_
   rintro x w6 ⟨rfl, hb6⟩
   have D2 := hide (And.intro (bl_t (unhide D1).1 hb6) ((unhide D1).2.later hb6))
   clear hb6
   go_wp2_with fail
   refine hK.out _ _ ?_ (fun hHeld1 => ?_)
   ·exact unhide F7 _ (unhide D2).1 (unhide D2).2
   clear hHeld0
   clear hK K
   try simp only [Act.put, sqB, sq0, sq1]
   refine tk2 8 (⟨some 42, .unOp .not 4 (.tmp 41), 4, "law.go:153", #[⟨7, .data⟩, ⟨4, .guard⟩], some (4, false)⟩) ?_
   refine tk2 9 (⟨some 43, .pick (.tmp 38) (.const (Value.bool true)) (.tmp 42), 4, "law.go:153", #[⟨4, .data⟩, ⟨8, .data⟩], none⟩) ?_
   refine tk2 10 (⟨some 44, .move (.tmp 43), 4, "law.go:153", #[⟨9, .data⟩, ⟨7, .chain⟩], none⟩) ?_
   refine tk2 11 (⟨some 45, .fieldAddr 46 (.tmp 6) 5, 0, "law.go:153", #[⟨10, .guard⟩], some (10, false)⟩) ?_
   refine tk2 12 (⟨some 46, .load 41 (.tmp 45), 41, "law.go:153", #[⟨11, .data⟩, ⟨10, .guard⟩], some (10, false)⟩) ?_
   refine tk2 13 (⟨some 47, .fieldAddr 46 (.tmp 6) 5, 0, "law.go:153", #[⟨10, .guard⟩], some (10, false)⟩) ?_
   refine tk2 14 (⟨some 48, .load 41 (.tmp 47), 41, "law.go:153", #[⟨13, .data⟩, ⟨10, .guard⟩], some (10, false)⟩) ?_
   refine tk2 15 (⟨some 49, .call { callee := .builtin Builtin.len, args := #[.tmp 48], argTypes := #[41] }, 3, "law.go:153", #[⟨14, .data⟩, ⟨10, .guard⟩], some (10, false)⟩) ?_
   refine tk2 16 (⟨some 50, .binOp .add 3 (.tmp 49) (.const (Value.int IntKind.i64 1)) 3, 3, "law.go:153", #[⟨15, .data⟩, ⟨10, .guard⟩], some (10, false)⟩) ?_
   refine tk2 17 (⟨some 51, .slice 41 (.tmp 46) none (some (.tmp 50)) none, 41, "law.go:153", #[⟨12, .data⟩, ⟨16, .data⟩, ⟨10, .guard⟩], some (10, false)⟩) ?_
   refine tk2 18 (⟨some 52, .fieldAddr 46 (.tmp 6) 5, 0, "law.go:153", #[⟨10, .guard⟩], some (10, false)⟩) ?_
   refine tk2 19 (⟨some 53, .load 41 (.tmp 52), 41, "law.go:153", #[⟨18, .data⟩, ⟨10, .guard⟩], some (10, false)⟩) ?_
   refine tk2 20 (⟨some 54, .call { callee := .builtin Builtin.len, args := #[.tmp 53], argTypes := #[41] }, 3, "law.go:153", #[⟨19, .data⟩, ⟨10, .guard⟩], some (10, false)⟩) ?_
   refine tk2 21 (⟨some 55, .indexAddr 41 (.tmp 51) (.tmp 54), 0, "law.go:153", #[⟨17, .data⟩, ⟨20, .data⟩, ⟨10, .guard⟩], some (10, false)⟩) ?_
   refine tk2 22 (⟨some 56, .load 48 (.tmp 55), 48, "law.go:153", #[⟨21, .data⟩, ⟨10, .guard⟩], some (10, false)⟩) ?_
   refine wpAnyH_ready (rs := [23]) (by kernel_rfl) (by simp) ?_
   refine AllReadyH.cons (o := ⟨some 57, .call { callee := .value (.func 31), args := #[], argTypes := #[] }, 48, "law.go:153", #[⟨10, .chain⟩, ⟨10, .guard⟩], some (10, false)⟩) rfl (fun K hK => ?_) AllReadyH.nil
   go_simp
   refine (mark_any _).mono ?_
   rintro x w7 ⟨rfl, hb7⟩
   have D3 := hide (And.intro (bl_t (unhide D2).1 hb7) ((unhide D2).2.later hb7))
   clear hb7
   go_wp2_with fail
   refine hK.out _ _ ?_ (fun hHeld2 => ?_)
   ·exact unhide F7 _ (unhide D3).1 (unhide D3).2
   clear hHeld1
   clear hK K
   try simp only [Act.put, sqB, sq0, sq1]
   refine tk2 24 (⟨some 58, .binOp .neq 48 (.tmp 56) (.tmp 57) 48, 4, "law.go:153", #[⟨22, .data⟩, ⟨23, .data⟩, ⟨10, .guard⟩], some (10, false)⟩) ?_
   refine tk2 25 (⟨some 59, .pick (.tmp 44) (.const (Value.bool true)) (.tmp 58), 4, "law.go:153", #[⟨10, .data⟩, ⟨24, .data⟩], none⟩) ?_
   refine wpAnyH_done (by kernel_rfl) ?_ _
   have a6 := (unhide D3).2.cell (unhide C1).c6
   have a7 := (unhide D3).2.cell (unhide C1).c7
   have s6 := (unhide HK w7 (unhide D3).1).sl.lastS
   have s7 := (unhide HK w7 (unhide D3).1).fl.lastF (unhide HK w7 (unhide D3).1).ff
   have r1 : (0 : Int) ≤ (p.pv.length : Int) + 1 := by omega
   have r2 : (p.pv.length : Int) + 1 ≤ (p.pv.length : Int) + 1 := Int.le_refl _
   have r3 : (p.pv.length : Int) < (p.pv.length : Int) + 1 := by omega
   have r5 : (0 : Int) ≤ (p.pv.length : Int) := by omega
   have r4 : IntKind.i64.wrap ((p.pv.length : Int) + 1) = (p.pv.length : Int) + 1 := by rw [IntKind.wrap_i64]; omega
   have t1 : (0 : Int) ≤ (p.fs.length : Int) + 1 := by omega
   have t2 : (p.fs.length : Int) + 1 ≤ (p.fs.length : Int) + 1 := Int.le_refl _
   have t3 : (p.fs.length : Int) < (p.fs.length : Int) + 1 := by omega
   have t5 : (0 : Int) ≤ (p.fs.length : Int) := by omega
   have t4 : IntKind.i64.wrap ((p.fs.length : Int) + 1) = (p.fs.length : Int) + 1 := by rw [IntKind.wrap_i64]; omega
   clear F7 D0 D1 D2 SD SR R0 K3 B3
   have E9 := (Below.refl w7.heap.size w7).drew
   have HQ9 := hide (And.intro (cell_later a6 E9) (And.intro (cell_later a7 E9) (And.intro (cell_later s6 E9) (cell_later s7 E9))))
   have HB9 := hide (bl_t (unhide HB) (bl_t (unhide D3).1 E9))
   clear a6 a7 s6 s7 E9
   go_wp2_with fail
   refine wp_region_held_drew (S := fun w' => w'.cell? ⟨wr.heap.size, 6, none⟩ = some (.slice (some ⟨S, 0, none⟩) p.pv.length (p.pv.length + 1)) ∧ w'.cell? ⟨wr.heap.size, 7, none⟩ = some (.slice (some ⟨F, 0, none⟩) p.fs.length (p.fs.length + 1)) ∧ w'.cell? ⟨S, p.pv.length, none⟩ = some (.string ⟨#[77, 65, 82, 75]⟩) ∧ w'.cell? ⟨F, p.fs.length * 34, none⟩ = some (.string ⟨#[77, 65, 82, 75]⟩)) (by kernel_rfl) ?_ (fun hHeld => ?_)
   ·exact unhide HQ9
   refine tk2 0 (⟨some 60, .fieldAddr 46 (.tmp 6) 6, 0, "law.go:156", #[], none⟩) ?_
   refine tk2 1 (⟨some 61, .load 42 (.tmp 60), 42, "law.go:156", #[⟨0, .data⟩], none⟩) ?_
   refine tk2 2 (⟨some 62, .fieldAddr 46 (.tmp 6) 6, 0, "law.go:156", #[], none⟩) ?_
   refine tk2 3 (⟨some 63, .load 42 (.tmp 62), 42, "law.go:156", #[⟨2, .data⟩], none⟩) ?_
   refine tk2 4 (⟨some 64, .call { callee := .builtin Builtin.len, args := #[.tmp 63], argTypes := #[42] }, 3, "law.go:156", #[⟨3, .data⟩], none⟩) ?_
   refine tk2 5 (⟨some 65, .binOp .add 3 (.tmp 64) (.const (Value.int IntKind.i64 1)) 3, 3, "law.go:156", #[⟨4, .data⟩], none⟩) ?_
   refine tk2 6 (⟨some 66, .slice 42 (.tmp 61) none (some (.tmp 65)) none, 42, "law.go:156", #[⟨1, .data⟩, ⟨5, .data⟩], none⟩) ?_
   refine tk2 7 (⟨some 67, .fieldAddr 46 (.tmp 6) 6, 0, "law.go:156", #[], none⟩) ?_
   refine tk2 8 (⟨some 68, .load 42 (.tmp 67), 42, "law.go:156", #[⟨7, .data⟩], none⟩) ?_
   refine tk2 9 (⟨some 69, .call { callee := .builtin Builtin.len, args := #[.tmp 68], argTypes := #[42] }, 3, "law.go:156", #[⟨8, .data⟩], none⟩) ?_
   refine tk2 10 (⟨some 70, .indexAddr 42 (.tmp 66) (.tmp 69), 0, "law.go:156", #[⟨6, .data⟩, ⟨9, .data⟩], none⟩) ?_
   refine tk2 11 (⟨some 71, .load 9 (.tmp 70), 9, "law.go:156", #[⟨10, .data⟩], none⟩) ?_
   refine tk2 12 (⟨some 72, .binOp .neq 9 (.tmp 71) (.const (Value.string { data := #[77, 65, 82, 75] })) 9, 4, "law.go:156", #[⟨11, .data⟩], none⟩) ?_
   refine tk2 13 (⟨some 73, .move (.tmp 72), 4, "law.go:156", #[⟨12, .data⟩], none⟩) ?_
   refine tk2 14 (⟨some 74, .fieldAddr 46 (.tmp 6) 7, 0, "law.go:156", #[⟨13, .guard⟩], some (13, false)⟩) ?_
   refine tk2 15 (⟨some 75, .load 43 (.tmp 74), 43, "law.go:156", #[⟨14, .data⟩, ⟨13, .guard⟩], some (13, false)⟩) ?_
   refine tk2 16 (⟨some 76, .fieldAddr 46 (.tmp 6) 7, 0, "law.go:156", #[⟨13, .guard⟩], some (13, false)⟩) ?_
   refine tk2 17 (⟨some 77, .load 43 (.tmp 76), 43, "law.go:156", #[⟨16, .data⟩, ⟨13, .guard⟩], some (13, false)⟩) ?_
   refine tk2 18 (⟨some 78, .call { callee := .builtin Builtin.len, args := #[.tmp 77], argTypes := #[43] }, 3, "law.go:156", #[⟨17, .data⟩, ⟨13, .guard⟩], some (13, false)⟩) ?_
   refine tk2 19 (⟨some 79, .binOp .add 3 (.tmp 78) (.const (Value.int IntKind.i64 1)) 3, 3, "law.go:156", #[⟨18, .data⟩, ⟨13, .guard⟩], some (13, false)⟩) ?_
   refine tk2 20 (⟨some 80, .slice 43 (.tmp 75) none (some (.tmp 79)) none, 43, "law.go:156", #[⟨15, .data⟩, ⟨19, .data⟩, ⟨13, .guard⟩], some (13, false)⟩) ?_
   refine tk2 21 (⟨some 81, .fieldAddr 46 (.tmp 6) 7, 0, "law.go:156", #[⟨13, .guard⟩], some (13, false)⟩) ?_
   refine tk2 22 (⟨some 82, .load 43 (.tmp 81), 43, "law.go:156", #[⟨21, .data⟩, ⟨13, .guard⟩], some (13, false)⟩) ?_
   refine tk2 23 (⟨some 83, .call { callee := .builtin Builtin.len, args := #[.tmp 82], argTypes := #[43] }, 3, "law.go:156", #[⟨22, .data⟩, ⟨13, .guard⟩], some (13, false)⟩) ?_
   refine tk2 24 (⟨some 84, .indexAddr 43 (.tmp 80) (.tmp 83), 0, "law.go:156", #[⟨20, .data⟩, ⟨23, .data⟩, ⟨13, .guard⟩], some (13, false)⟩) ?_
   refine tk2 25 (⟨some 85, .fieldAddr 58 (.tmp 84) 0, 0, "law.go:156", #[⟨24, .data⟩, ⟨13, .guard⟩], some (13, false)⟩) ?_
   refine tk2 26 (⟨some 86, .load 9 (.tmp 85), 9, "law.go:156", #[⟨25, .data⟩, ⟨13, .guard⟩], some (13, false)⟩) ?_
   refine tk2 27 (⟨some 87, .binOp .neq 9 (.tmp 86) (.const (Value.string { data := #[77, 65, 82, 75] })) 9, 4, "law.go:156", #[⟨26, .data⟩, ⟨13, .guard⟩], some (13, false)⟩) ?_
   refine tk2 28 (⟨some 88, .pick (.tmp 73) (.const (Value.bool true)) (.tmp 87), 4, "law.go:156", #[⟨13, .data⟩, ⟨27, .data⟩], none⟩) ?_
   refine wpAnyH_done (by kernel_rfl) ?_ _
   go_wp2_with fail
   go_roundg (N - (i + 1))
   case measure => omega
   case rel => exact ⟨i + 1, by go_num, by omega, by omega, HB9⟩
  ·go_wp2_with fail
   go_ret
   exact ⟨rfl, unhide HB⟩
end Go.Proofs.YtdkpglmdncjnbaaGreatDoor
