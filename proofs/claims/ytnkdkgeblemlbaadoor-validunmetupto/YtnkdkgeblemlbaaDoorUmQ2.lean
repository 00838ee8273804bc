import Derived.Test.YtnkdkgeblemlbaaDoorUmNP
import Derived.IntWalk
namespace Go.Proofs.YtnkdkgeblemlbaaDoor
open Go.RowKit Go.Maps Go.Shelf

set_option maxRecDepth 100000 in
set_option maxHeartbeats 16000000 in
theorem validUnmet_walk (ps : List Pk) (s : Value) (ws : List Wd) (wa : Option Addr) (wcap : Nat) (w : World) (sm : SmK ps) (hz : ∀ p ∈ ps, PkZ p) (h : Pkl w s ps) (hw : Wis w wa ws) (hok : ∀ x ∈ ws, WdOk x) (hl : ws.length ≤ 1000000000) :
    Calls Tryd.prog 3 #[s, .slice wa ws.length wcap] w fun e w' => e = .returned (.bool true) ∧ RowKit.Below w.heap.size w w' := by
  have cL := hide (lent_any ps s w (by have := sm.l; omega) hz h)
  have HSM := hide sm
  have HZ := hide hz
  have HOK := hide hok
  go_enter Tryd.func3, Tryd.ntmps3
  go_wp2_with fail
  refine (unhide cL).mono ?_
  rintro e w1 ⟨rfl, hb1, l1⟩
  have H1 := hide (h.later hb1)
  have HW1 := hide (hw.later hb1)
  have HL1 := hide l1
  have HB1 := hide hb1
  have HLl : w.heap.size < w1.heap.size := l1.row.lt
  have mkW := makeW ws.length (by omega) w1
  obtain ⟨v', hcp⟩ := copy_wis ws wa wcap 3 w1.heap.size (ws.length + 1) (w1.alloc (.cells (madeCells #[.int .i64 0, .string ⟨#[]⟩, .int .i64 0, .string ⟨#[]⟩] ((ws.length + 1) * 4)) 28)) (hw.later (bl_t hb1 ((Below.refl _ _).alloc (Nat.le_refl _) _))) (fun j hj => by rw [World.cell?_alloc_at _ _ _ _ rfl]; exact made_some _ _ _ (by omega)) (fun j => by rw [World.frozen?_alloc_at _ _ _ _ rfl])
  obtain ⟨k3, ⟨z3, cz3⟩, fz3, b3⟩ := wk_start w1 ws
  unfold w3W at k3 cz3 fz3 b3
  have HK3 := hide (And.intro k3 b3)
  have hN2 : (ws.length : Int) < (ws.length : Int) + 1 := by omega
  clear cL h hw l1 hb1 sm hz hok k3 b3
  go_wp2_with fail
  generalize ((w1.alloc (.cells (madeCells #[.int .i64 0, .string ⟨#[]⟩, .int .i64 0, .string ⟨#[]⟩] ((ws.length + 1) * 4)) 28)).setCells w1.heap.size 0 (flW ws)).setCell ⟨w1.heap.size, ws.length * 4, none⟩ (.int .i64 99) = w3 at HK3 ⊢
  clear mkW hcp cz3 fz3
  have HIN := hide (show ∀ X, RowKit.Below w1.heap.size w1 X → ∀ (B : Nat) (ws2 : List Wd), ws2.length = ws.length → Wk X B ws2 → (∀ x ∈ ws2, WdOk x) → Calls Tryd.prog 6 #[.slice (some ⟨w.heap.size, 0, none⟩) ps.length (ps.length + 1), .slice (some ⟨B, 0, none⟩) ws.length (ws.length + 1)] X fun e w' => ∃ r, e = .returned r ∧ w'.ownsRow X.heap.size 3 1 r (unK ps ws2).length (ints (unK ps ws2)) ∧ RowKit.Below X.heap.size X w' from fun X hX B ws2 e2 k2 o2 => by
    have := (un_two ((unhide HL1).pkl (unhide HZ)) (unhide HSM) X hX (ws.length + 1) k2.wis o2 (by omega)).1
    rw [e2] at this
    exact this)
  have HSW := hide (show ∀ X, RowKit.Below w1.heap.size w1 X → ∀ (B : Nat) (ws2 : List Wd), ws2.length = ws.length → Wk X B ws2 → (∀ x ∈ ws2, WdOk x) → Calls Tryd.prog 5 #[s, .slice (some ⟨B, 0, none⟩) ws.length (ws.length + 1)] X fun e w' => ∃ r, e = .returned r ∧ w'.ownsRow X.heap.size 3 1 r (unK ps ws2).length (ints (unK ps ws2)) ∧ RowKit.Below X.heap.size X w' from fun X hX B ws2 e2 k2 o2 => by
    have := (un_two (unhide H1) (unhide HSM) X hX (ws.length + 1) k2.wis o2 (by omega)).2
    rw [e2] at this
    exact this)
  obtain ⟨U, hU⟩ : ∃ U, U = unK ps ws := ⟨_, rfl⟩
  obtain ⟨M, hM⟩ : ∃ M, M = U.length := ⟨_, rfl⟩
  have hlen : M ≤ ws.length := by rw [hM, hU]; exact unK_len ps ws
  have C0 := hide (un_two (unhide H1) (unhide HSM) w3 (unhide HK3).2 wcap ((unhide HW1).later (unhide HK3).2) (unhide HOK) (by omega)).2
  have C1 := hide (show ∀ X, RowKit.Below w1.heap.size w1 X → Wk X w1.heap.size ws → Calls Tryd.prog 6 #[.slice (some ⟨w.heap.size, 0, none⟩) ps.length (ps.length + 1), .slice (some ⟨w1.heap.size, 0, none⟩) ws.length (ws.length + 1)] X fun e w' => ∃ r, e = .returned r ∧ w'.ownsRow X.heap.size 3 1 r M (ints U) ∧ RowKit.Below X.heap.size X w' from fun X hX k => by
    rw [hM, hU]
    exact unhide HIN X hX w1.heap.size ws rfl k (unhide HOK))
  rw [← hU, ← hM] at C0
  have HUM := hide (And.intro hU hM)
  clear hU hM
  refine (unhide C0).mono ?_
  clear C0
  rintro e w4 ⟨r0, rfl, ro4, hb4⟩
  obtain ⟨a0, c0, rfl⟩ := owns_form ro4
  have HZ3 := hide (unhide HK3).1.lt
  have K4 := hide (And.intro ((unhide HK3).1.later hb4) (bl_t (unhide HK3).2 hb4))
  have RO4 := hide ro4
  clear ro4 hb4 HK3
  have hN3 : (0 : Int) ≤ (ws.length : Int) := by omega
  have hN4 : (ws.length : Int) ≤ (ws.length : Int) + 1 := by omega
  have hN5 : ws.length ≤ ws.length + 1 := by omega
  go_wp2_with fail
  refine (unhide C1 w4 (unhide K4).2 (unhide K4).1).mono ?_
  rintro e w5 ⟨r1, rfl, ro5, hb5⟩
  obtain ⟨a1, c1, rfl⟩ := owns_form ro5
  have HZ45 := hide hb5.size
  have K5 := hide (And.intro ((unhide K4).1.later hb5) (bl_t (unhide K4).2 hb5))
  have RO5 := hide (And.intro ro5 (row_low (unhide RO4) hb5))
  clear ro5 hb5
  go_wp2_with fail
  refine (unhide C1 w5 (unhide K5).2 (unhide K5).1).mono ?_
  rintro e w6 ⟨r2, rfl, ro6, hb6⟩
  obtain ⟨a2, c2, rfl⟩ := owns_form ro6
  have HLT := hide (show w1.heap.size < w4.heap.size ∧ (∀ g, (Value.slice a0 M c0).ownBlock = some g → g < w4.heap.size) ∧ (∀ g, (Value.slice a1 M c1).ownBlock = some g → g < w5.heap.size) from ⟨(unhide K4).1.lt, fun g e => (World.ownsRow.lt (unhide RO4) g e).2, fun g e => (World.ownsRow.lt (unhide RO5).1 g e).2⟩)
  have K6 := hide (And.intro ((unhide K5).1.later hb6) (bl_t (unhide K5).2 hb6))
  have RO6 := hide (And.intro ro6 (And.intro (row_low (unhide RO5).1 hb6) (row_low (unhide RO5).2 hb6)))
  clear ro6 hb6
  clear C1 RO4 RO5 K4 K5
  go_wp2_with fail
  refine (sameInts_yes (unhide RO6).2.1 (unhide RO6).2.2 (by omega)).mono ?_
  rintro e w7 ⟨rfl, hb7⟩
  have K7 := hide (And.intro ((unhide K6).1.later hb7) (bl_t (unhide K6).2 hb7))
  have RO7 := hide (And.intro (row_low (unhide RO6).1 hb7) (And.intro (row_low (unhide RO6).2.1 hb7) (row_low (unhide RO6).2.2 hb7)))
  clear hb7
  go_wp2_with fail
  have HRA := hide (show Ra w7 w7 (.slice a1 M c1) M from ⟨⟨_, row_lo (unhide RO7).2.1 (Nat.zero_le _)⟩, Fx.refl _ _⟩)
  clear K6 RO6
  have hM1 : M ≤ 1000000000 := by omega
  go_loopw [10] (fun iv wr => ∃ i : Nat, iv = .int .i64 i ∧ i ≤ M ∧ Hid (Ra w7 wr (.slice a1 M c1) M)) (fun iv _ => M - (intOf iv).toNat)
  case atStart => exact ⟨0, by go_num, Nat.zero_le _, HRA⟩
  case round =>
    clear HRA
    obtain ⟨i, rfl, hile, HR⟩ := hrel
    by_cases hlt : i < M
    · have hlt2 : (i : Int) < (M : Int) := by omega
      obtain ⟨g, rfl, ⟨z, cz⟩, fz, r2⟩ := (unhide HR).set hlt (.int .i64 (-1))
      have HR2 := hide r2
      clear r2
      go_wp2_with fail
      go_roundw
      case rel => exact ⟨i + 1, by go_num, by omega, HR2⟩
      case measure => simp [intOf]; omega
    · obtain rfl : i = M := by omega
      obtain ⟨xs8, hr8⟩ := (unhide HR).row
      have CL := hide (longer_any hr8 (Nat.zero_le _) (by omega))
      have hadd : (i : Int) + 100 = (i : Int) + 100 := rfl
      clear hr8 hadd
      go_wp2_with (go_at_call 8; refine (unhide CL).mono ?_; rintro e w9 ⟨rfl, hf9⟩; have HF9 := hide ((unhide HR).fx.trans hf9); clear hf9 CL)
      obtain ⟨B, hB⟩ : ∃ B, B = w1.heap.size := ⟨_, rfl⟩
      have hK9 : Wk w9 B ws ∧ RowKit.Below w1.heap.size w1 w9 := by
        have hne : ∀ g, (Value.slice a1 i c1).ownBlock = some g → w1.heap.size < g := fun g e => by
          have h1 := (World.ownsRow.lt (unhide RO7).2.1 g e).1
          have h2 := (unhide HLT).1
          omega
        obtain ⟨k7, b7⟩ := unhide K7
        have f := unhide HF9
        refine ⟨?_, ⟨f.bel.os.trans b7.os, f.bel.tape.trans b7.tape, f.bel.output.trans b7.output, Nat.le_trans b7.size f.size, fun j hj => ?_⟩⟩
        · rw [hB]
          exact k7.same (f.blk _ k7.lt fun e => by have := hne _ e; omega)
        · refine (f.blk j (by have := b7.size; omega) fun e => ?_).trans (b7.block j hj)
          have := hne j e
          omega
      have HR9 := hide (show w9.ownsRow w5.heap.size 3 1 (.slice a2 i c2) i (ints U) ∧ w9.ownsRow w3.heap.size 3 1 (.slice a0 i c0) i (ints U) from by
        have f := unhide HF9
        obtain ⟨r1, r2, r3⟩ := unhide RO7
        have hlt := unhide HLT
        refine ⟨own_same r1 fun b e => f.blk b (World.ownsRow.lt r1 b e).2 fun e2 => ?_, own_same r3 fun b e => f.blk b (World.ownsRow.lt r3 b e).2 fun e2 => ?_⟩
        · have h1 := (World.ownsRow.lt r1 b e).1
          have h2 := hlt.2.2 b e2
          omega
        · have h1 := hlt.2.1 b e
          have h2 := (World.ownsRow.lt r2 b e2).1
          omega)
      have HZ5 := hide (show w1.heap.size < w3.heap.size ∧ w1.heap.size < w5.heap.size from ⟨(unhide HZ3), by have := (unhide HLT).1; have := (unhide HZ45); omega⟩)
      have HST := hide (show Rb2 w9 w9 B (ngs ws 0) from ⟨Fx.refl _ _, by unfold ngs; simpa using hK9.1⟩)
      have HB9 := hide hK9.2
      have HBW := hide (show ∀ X ws2, Rb2 w9 X B ws2 → RowKit.Below w1.heap.size w1 X from fun X ws2 h => by
        have b9 := unhide HB9
        have f := h.fx
        exact ⟨f.bel.os.trans b9.os, f.bel.tape.trans b9.tape, f.bel.output.trans b9.output, Nat.le_trans b9.size f.size, fun j hj => (f.blk j (by have := b9.size; omega) (by omega)).trans (b9.block j hj)⟩)
      clear HF9 RO7 K7 hK9 HR HLT
      rw [← hB]
      have HEB := hide hB
      clear hB
      go_loopw [12] (fun jv wr => ∃ j : Nat, jv = .int .i64 j ∧ j ≤ ws.length ∧ Hid (Rb2 w9 wr B (ngs ws j))) (fun jv _ => ws.length - (intOf jv).toNat)
      case atStart => exact ⟨0, by go_num, Nat.zero_le _, HST⟩
      case round =>
        clear HST
        obtain ⟨j, rfl, hjle, HR⟩ := hrel
        by_cases hlt : j < ws.length
        · have hlt2 : (j : Int) < (ws.length : Int) := by omega
          have hlt3 : (j : Int) < (ws.length : Int) + 1 := by omega
          obtain ⟨x, hx⟩ : ∃ x, ws[j]? = some x := ⟨_, List.getElem?_eq_getElem hlt⟩
          obtain ⟨wr2, hwr2⟩ : ∃ y, y = wr.drew := ⟨_, rfl⟩
          have h1 : Rb2 w9 wr2 B (ngs ws j) := by rw [hwr2]; exact (unhide HR).drew
          obtain ⟨c0', c1', c2', c3'⟩ := h1.wk.cells (x := x) (by rw [ngs_at hlt]; exact hx)
          have hwis := (unhide HW1).later (unhide HBW _ _ h1)
          obtain ⟨bw, ow, rfl, hbw, q0, q1, q2, q3⟩ := hwis.cells hx
          obtain ⟨_, d1, d2, d3⟩ := h1.drew.wk.cells (x := x) (by rw [ngs_at hlt]; exact hx)
          have f0 := h1.wk.fr (j * 4)
          have f1 := h1.wk.fr (j * 4 + 1)
          have f2 := h1.wk.fr (j * 4 + 2)
          have f3 := h1.wk.fr (j * 4 + 3)
          have h3 := h1.write (i := j) (by rw [ngs_len]; exact hlt) (ngW x)
          rw [← ngs_next hx] at h3
          have h3 := h3.drew
          have HR3 := hide h3
          have HS18 := hide (And.intro c0' (And.intro c1' (And.intro c2' (And.intro c3' (And.intro q0 (And.intro q1 (And.intro q2 q3)))))))
          have HS20 := hide (And.intro d1 (And.intro d2 d3))
          have HC3 := hide (And.intro (h3.wk.cells (x := ngW x) (by rw [ngs_next hx]; exact List.getElem?_set_self (by rw [ngs_len]; exact hlt))).2.1 (h3.wk.cells (x := ngW x) (by rw [ngs_next hx]; exact List.getElem?_set_self (by rw [ngs_len]; exact hlt))).2.2)
          have HW2 := hide hwr2
          clear h1 h3 hwis hx q0 q1 q2 q3 d1 d2 d3 hwr2 HR
          go_wp2_with fail
          go_region_held3 (fun w' => w'.cell? ⟨B, j * 4, none⟩ = some (.int .i64 x.kd) ∧ w'.cell? ⟨B, j * 4 + 1, none⟩ = some (.string x.an) ∧ w'.cell? ⟨B, j * 4 + 2, none⟩ = some (.int .i64 x.op) ∧ w'.cell? ⟨B, j * 4 + 3, none⟩ = some (.string x.bd) ∧ w'.cell? ⟨bw, ow + j * 4, none⟩ = some (.int .i64 x.kd) ∧ w'.cell? ⟨bw, ow + j * 4 + 1, none⟩ = some (.string x.an) ∧ w'.cell? ⟨bw, ow + j * 4 + 2, none⟩ = some (.int .i64 x.op) ∧ w'.cell? ⟨bw, ow + j * 4 + 3, none⟩ = some (.string x.bd)) (exact (unhide HW2) ▸ unhide HS18) (fail)
          go_wp2_with fail
          rw [← unhide HW2]
          refine wp_region_held_drew (S := fun w' => w'.cell? ⟨B, j * 4 + 1, none⟩ = some (.string x.an) ∧ w'.cell? ⟨B, j * 4 + 2, none⟩ = some (.int .i64 x.op) ∧ w'.cell? ⟨B, j * 4 + 3, none⟩ = some (.string x.bd)) (by kernel_rfl) ?_ (fun hHeld => ?_)
          · exact unhide HS20
          refine wpAnyH_take (i := 0) (oi := { dst := some 77, op := Op.move (Operand.tmp 6), type := 23, pos := "law.go:265", after := #[], guard := none }) (v := ?_) rfl (by kernel_rfl) (by kernel_rfl) (by kernel_rfl) (fun _ _ _ h => h) (Or.inl ⟨by rfl, ?_⟩) (by assumption) ?_
          rotate_left
          · intro w hSw; (try dsimp only at hSw); go_simp; (try with_reducible rfl)
          try simp only [Act.put, List.setIfInBounds_toArray, List.set_cons_zero, List.set_cons_succ]
          refine wpAnyH_take (i := 1) (oi := { dst := some 78, op := Op.move (Operand.tmp 12), type := 3, pos := "law.go:265", after := #[], guard := none }) (v := ?_) rfl (by kernel_rfl) (by kernel_rfl) (by kernel_rfl) (fun _ _ _ h => h) (Or.inl ⟨by rfl, ?_⟩) (by assumption) ?_
          rotate_left
          · intro w hSw; (try dsimp only at hSw); go_simp; (try with_reducible rfl)
          try simp only [Act.put, List.setIfInBounds_toArray, List.set_cons_zero, List.set_cons_succ]
          refine wpAnyH_take (i := 2) (oi := { dst := some 79, op := Op.move (Operand.tmp 6), type := 23, pos := "law.go:265", after := #[], guard := none }) (v := ?_) rfl (by kernel_rfl) (by kernel_rfl) (by kernel_rfl) (fun _ _ _ h => h) (Or.inl ⟨by rfl, ?_⟩) (by assumption) ?_
          rotate_left
          · intro w hSw; (try dsimp only at hSw); go_simp; (try with_reducible rfl)
          try simp only [Act.put, List.setIfInBounds_toArray, List.set_cons_zero, List.set_cons_succ]
          refine wpAnyH_take (i := 3) (oi := { dst := some 80, op := Op.move (Operand.tmp 12), type := 3, pos := "law.go:265", after := #[], guard := none }) (v := ?_) rfl (by kernel_rfl) (by kernel_rfl) (by kernel_rfl) (fun _ _ _ h => h) (Or.inl ⟨by rfl, ?_⟩) (by assumption) ?_
          rotate_left
          · intro w hSw; (try dsimp only at hSw); go_simp; (try with_reducible rfl)
          try simp only [Act.put, List.setIfInBounds_toArray, List.set_cons_zero, List.set_cons_succ]
          refine wpAnyH_take (i := 4) (oi := { dst := some 81, op := Op.indexAddr 23 (Operand.tmp 79) (Operand.tmp 80), type := 0, pos := "law.go:265", after := #[{ on := 2, ground := Ground.data }, { on := 3, ground := Ground.data }], guard := none }) (v := ?_) rfl (by kernel_rfl) (by kernel_rfl) (by kernel_rfl) (fun _ _ _ h => h) (Or.inl ⟨by rfl, ?_⟩) (by assumption) ?_
          rotate_left
          · intro w hSw; (try dsimp only at hSw); go_simp; (try with_reducible rfl)
          try simp only [Act.put, List.setIfInBounds_toArray, List.set_cons_zero, List.set_cons_succ]
          refine wpAnyH_take (i := 5) (oi := { dst := some 82, op := Op.fieldAddr 28 (Operand.tmp 81) 0, type := 0, pos := "law.go:265", after := #[{ on := 4, ground := Ground.data }], guard := none }) (v := ?_) rfl (by kernel_rfl) (by kernel_rfl) (by kernel_rfl) (fun _ _ _ h => h) (Or.inl ⟨by rfl, ?_⟩) (by assumption) ?_
          rotate_left
          · intro w hSw; (try dsimp only at hSw); go_simp; (try with_reducible rfl)
          try simp only [Act.put, List.setIfInBounds_toArray, List.set_cons_zero, List.set_cons_succ]
          refine wpAnyH_take (i := 8) (oi := { dst := some 85, op := Op.move (Operand.tmp 6), type := 23, pos := "law.go:265", after := #[], guard := none }) (v := ?_) rfl (by kernel_rfl) (by kernel_rfl) (by kernel_rfl) (fun _ _ _ h => h) (Or.inl ⟨by rfl, ?_⟩) (by assumption) ?_
          rotate_left
          · intro w hSw; (try dsimp only at hSw); go_simp; (try with_reducible rfl)
          try simp only [Act.put, List.setIfInBounds_toArray, List.set_cons_zero, List.set_cons_succ]
          refine wpAnyH_take (i := 9) (oi := { dst := some 86, op := Op.move (Operand.tmp 12), type := 3, pos := "law.go:265", after := #[], guard := none }) (v := ?_) rfl (by kernel_rfl) (by kernel_rfl) (by kernel_rfl) (fun _ _ _ h => h) (Or.inl ⟨by rfl, ?_⟩) (by assumption) ?_
          rotate_left
          · intro w hSw; (try dsimp only at hSw); go_simp; (try with_reducible rfl)
          try simp only [Act.put, List.setIfInBounds_toArray, List.set_cons_zero, List.set_cons_succ]
          refine wpAnyH_take (i := 10) (oi := { dst := some 87, op := Op.indexAddr 23 (Operand.tmp 85) (Operand.tmp 86), type := 0, pos := "law.go:265", after := #[{ on := 8, ground := Ground.data }, { on := 9, ground := Ground.data }], guard := none }) (v := ?_) rfl (by kernel_rfl) (by kernel_rfl) (by kernel_rfl) (fun _ _ _ h => h) (Or.inl ⟨by rfl, ?_⟩) (by assumption) ?_
          rotate_left
          · intro w hSw; (try dsimp only at hSw); go_simp; (try with_reducible rfl)
          try simp only [Act.put, List.setIfInBounds_toArray, List.set_cons_zero, List.set_cons_succ]
          refine wpAnyH_take (i := 11) (oi := { dst := some 88, op := Op.fieldAddr 28 (Operand.tmp 87) 1, type := 0, pos := "law.go:265", after := #[{ on := 10, ground := Ground.data }], guard := none }) (v := ?_) rfl (by kernel_rfl) (by kernel_rfl) (by kernel_rfl) (fun _ _ _ h => h) (Or.inl ⟨by rfl, ?_⟩) (by assumption) ?_
          rotate_left
          · intro w hSw; (try dsimp only at hSw); go_simp; (try with_reducible rfl)
          try simp only [Act.put, List.setIfInBounds_toArray, List.set_cons_zero, List.set_cons_succ]
          refine wpAnyH_take (i := 12) (oi := { dst := some 89, op := Op.load 26 (Operand.tmp 88), type := 26, pos := "law.go:265", after := #[{ on := 11, ground := Ground.data }], guard := none }) (v := ?_) rfl (by kernel_rfl) (by kernel_rfl) (by kernel_rfl) (fun _ _ _ h => h) (Or.inl ⟨by rfl, ?_⟩) (by assumption) ?_
          rotate_left
          · intro w hSw; (try dsimp only at hSw); go_simp; (try with_reducible rfl)
          try simp only [Act.put, List.setIfInBounds_toArray, List.set_cons_zero, List.set_cons_succ]
          refine wpAnyH_ready (rs := [6]) (by kernel_rfl) (by simp) ?_
          refine AllReadyH.cons (o := { dst := some 83, op := Op.load 3 (Operand.tmp 82), type := 3, pos := "law.go:265", after := #[{ on := 5, ground := Ground.data }], guard := none }) rfl (fun K hK => ?_) AllReadyH.nil
          go_simp
          refine hK.out _ _ ?_ (fun hHeld0 => ?_)
          · exact unhide HS20
          clear hHeld
          clear hK K
          try simp only [Act.put, List.setIfInBounds_toArray, List.set_cons_zero, List.set_cons_succ]
          refine wpAnyH_take (i := 7) (oi := { dst := some 84, op := Op.binOp BinOp.sub 3 (Operand.const (Value.int IntKind.i64 1)) (Operand.tmp 83) 3, type := 3, pos := "law.go:265", after := #[{ on := 6, ground := Ground.data }], guard := none }) (v := ?_) rfl (by kernel_rfl) (by kernel_rfl) (by kernel_rfl) (fun _ _ _ h => h) (Or.inl ⟨by rfl, ?_⟩) (by assumption) ?_
          rotate_left
          · intro w hSw; (try dsimp only at hSw); go_simp; (try with_reducible rfl)
          try simp only [Act.put, List.setIfInBounds_toArray, List.set_cons_zero, List.set_cons_succ]
          refine wpAnyH_take (i := 13) (oi := { dst := some 90, op := Op.build 28 #[(0, Operand.tmp 84), (1, Operand.tmp 89)], type := 28, pos := "law.go:265", after := #[{ on := 7, ground := Ground.data }, { on := 12, ground := Ground.data }], guard := none }) (v := ?_) rfl (by kernel_rfl) (by kernel_rfl) (by kernel_rfl) (fun _ _ _ h => h) (Or.inl ⟨by rfl, ?_⟩) (by assumption) ?_
          rotate_left
          · intro w hSw; (try dsimp only at hSw); go_simp; (try with_reducible rfl)
          try simp only [Act.put, List.setIfInBounds_toArray, List.set_cons_zero, List.set_cons_succ]
          refine wpAnyH_take (i := 14) (oi := { dst := some 91, op := Op.indexAddr 23 (Operand.tmp 77) (Operand.tmp 78), type := 0, pos := "law.go:265", after := #[{ on := 0, ground := Ground.data }, { on := 1, ground := Ground.data }, { on := 0, ground := Ground.phase }, { on := 1, ground := Ground.phase }, { on := 2, ground := Ground.phase }, { on := 3, ground := Ground.phase }, { on := 4, ground := Ground.phase }, { on := 5, ground := Ground.phase }, { on := 6, ground := Ground.phase }, { on := 7, ground := Ground.phase }, { on := 8, ground := Ground.phase }, { on := 9, ground := Ground.phase }, { on := 10, ground := Ground.phase }, { on := 11, ground := Ground.phase }, { on := 12, ground := Ground.phase }, { on := 13, ground := Ground.phase }], guard := none }) (v := ?_) rfl (by kernel_rfl) (by kernel_rfl) (by kernel_rfl) (fun _ _ _ h => h) (Or.inl ⟨by rfl, ?_⟩) (by assumption) ?_
          rotate_left
          · intro w hSw; (try dsimp only at hSw); go_simp; (try with_reducible rfl)
          try simp only [Act.put, List.setIfInBounds_toArray, List.set_cons_zero, List.set_cons_succ]
          refine wpAnyH_ready (rs := [15]) (by kernel_rfl) (by simp) ?_
          refine AllReadyH.cons (o := { dst := none, op := Op.store 28 (Operand.tmp 91) (Operand.tmp 90), type := 0, pos := "law.go:265", after := #[{ on := 14, ground := Ground.data }, { on := 13, ground := Ground.data }, { on := 0, ground := Ground.phase }, { on := 1, ground := Ground.phase }, { on := 2, ground := Ground.phase }, { on := 3, ground := Ground.phase }, { on := 4, ground := Ground.phase }, { on := 5, ground := Ground.phase }, { on := 6, ground := Ground.phase }, { on := 7, ground := Ground.phase }, { on := 8, ground := Ground.phase }, { on := 9, ground := Ground.phase }, { on := 10, ground := Ground.phase }, { on := 11, ground := Ground.phase }, { on := 12, ground := Ground.phase }, { on := 13, ground := Ground.phase }], guard := none }) rfl (fun K hK => ?_) AllReadyH.nil
          go_simp
          rw [IntWalk.i64_left]
          refine hK.out _ _ ?_ (fun hHeld1 => ?_)
          · exact unhide HC3
          clear hHeld0
          clear hK K
          try simp only [Act.put, List.setIfInBounds_toArray, List.set_cons_zero, List.set_cons_succ]
          refine wpAnyH_done (by kernel_rfl) ?_ _
          go_wp2_with fail
          go_roundw
          case rel => exact ⟨j + 1, by go_num, by omega, HR3⟩
          case measure => simp [intOf]; omega
        · obtain rfl : j = ws.length := by omega
          have h1 := unhide HR
          have hmk := h1.wk.mrk
          rw [ngs_len] at hmk
          have hnl := ngs_len ws ws.length
          have hnok := ngs_ok (unhide HOK) ws.length
          generalize ngs ws ws.length = wz at *
          have HB10 := hide (unhide HBW _ _ h1)
          have HK10 := hide h1.wk
          have HR10 := hide (show wr.ownsRow w5.heap.size 3 1 (.slice a2 i c2) i (ints U) ∧ wr.ownsRow w3.heap.size 3 1 (.slice a0 i c0) i (ints U) from by
            have hne : ∀ g, w1.heap.size < g → g ≠ B := fun g hg => by have := unhide HEB; omega
            obtain ⟨r1, r3⟩ := unhide HR9
            have z5 := unhide HZ5
            exact ⟨own_same r1 fun b e => h1.fx.blk b (World.ownsRow.lt r1 b e).2 (hne b (by have := (World.ownsRow.lt r1 b e).1; omega)), own_same r3 fun b e => h1.fx.blk b (World.ownsRow.lt r3 b e).2 (hne b (by have := (World.ownsRow.lt r3 b e).1; omega))⟩)
          have HNOK := hide (And.intro hnl hnok)
          clear h1 hnl hnok HR9 HB9 HR HBW
          have CS := hide (sameInts_yes (unhide HR10).1 (unhide HR10).2 (by omega))
          go_wp2_with (first | (go_at_call 7; refine (unhide CS).mono ?_; rintro e w11 ⟨rfl, hb11⟩; have hmk2 := (hb11.cell (p := ⟨B, ws.length * 4, none⟩) (unhide HK10).lt).trans hmk; have HB11 := hide hb11; clear hb11 CS hmk) | (go_at_call 9; refine (still_any ps w.heap.size w.heap.size s w11 (by have := (unhide HSM).l; omega) (unhide HZ) ((unhide HL1).later (bl_t (unhide HB10) (unhide HB11))) ((unhide H1).later (bl_t (unhide HB10) (unhide HB11)))).mono ?_; rintro e w12 ⟨rfl, hb12⟩; have HB12 := hide (bl_t (unhide HB11) hb12); clear hb12))
          obtain ⟨V, hV⟩ : ∃ V, V = unK ps wz := ⟨_, rfl⟩
          obtain ⟨MM, hMM⟩ : ∃ M, M = V.length := ⟨_, rfl⟩
          have hMl : MM ≤ 1000000000 := by
            have h1 := unK_len ps wz
            have h2 := (unhide HNOK).1
            rw [hMM, hV]
            omega
          have HK12 := hide ((unhide HK10).later (unhide HB12))
          have HBB := hide (bl_t (unhide HB10) (unhide HB12))
          have CC0 := hide (show ∀ X, RowKit.Below w12.heap.size w12 X → Calls Tryd.prog 5 #[s, .slice (some ⟨B, 0, none⟩) ws.length (ws.length + 1)] X fun e w' => ∃ r, e = .returned r ∧ w'.ownsRow X.heap.size 3 1 r MM (ints V) ∧ RowKit.Below X.heap.size X w' from fun X hX => by
            rw [hMM, hV]
            exact unhide HSW X (bl_t (unhide HBB) hX) B wz (unhide HNOK).1 ((unhide HK12).later hX) (unhide HNOK).2)
          have CC1 := hide (show ∀ X, RowKit.Below w12.heap.size w12 X → Calls Tryd.prog 6 #[.slice (some ⟨w.heap.size, 0, none⟩) ps.length (ps.length + 1), .slice (some ⟨B, 0, none⟩) ws.length (ws.length + 1)] X fun e w' => ∃ r, e = .returned r ∧ w'.ownsRow X.heap.size 3 1 r MM (ints V) ∧ RowKit.Below X.heap.size X w' from fun X hX => by
            rw [hMM, hV]
            exact unhide HIN X (bl_t (unhide HBB) hX) B wz (unhide HNOK).1 ((unhide HK12).later hX) (unhide HNOK).2)
          have E0 := hide ((Below.refl w12.heap.size w12).drew)
          clear hV hMM hmk2 HB10 HB11 HB12 HR10 HIN HSW
          go_wp2_with fail
          refine wp_region_held_drew (S := fun _ => True) (by kernel_rfl) ?_ (fun hHeld => ?_)
          · exact trivial
          refine wpAnyH_take (i := 0) (oi := { dst := some 115, op := Op.move (Operand.tmp 0), type := 22, pos := "law.go:270", after := #[], guard := none }) (v := ?_) rfl (by kernel_rfl) (by kernel_rfl) (by kernel_rfl) (fun _ _ _ h => h) (Or.inl ⟨by rfl, ?_⟩) (by assumption) ?_
          rotate_left
          · intro w hSw; (try dsimp only at hSw); go_simp; (try with_reducible rfl)
          try simp only [Act.put, List.setIfInBounds_toArray, List.set_cons_zero, List.set_cons_succ]
          refine wpAnyH_take (i := 1) (oi := { dst := some 116, op := Op.move (Operand.tmp 6), type := 23, pos := "law.go:270", after := #[], guard := none }) (v := ?_) rfl (by kernel_rfl) (by kernel_rfl) (by kernel_rfl) (fun _ _ _ h => h) (Or.inl ⟨by rfl, ?_⟩) (by assumption) ?_
          rotate_left
          · intro w hSw; (try dsimp only at hSw); go_simp; (try with_reducible rfl)
          try simp only [Act.put, List.setIfInBounds_toArray, List.set_cons_zero, List.set_cons_succ]
          refine wpAnyH_take (i := 2) (oi := { dst := some 117, op := Op.move (Operand.tmp 1), type := 23, pos := "law.go:270", after := #[], guard := none }) (v := ?_) rfl (by kernel_rfl) (by kernel_rfl) (by kernel_rfl) (fun _ _ _ h => h) (Or.inl ⟨by rfl, ?_⟩) (by assumption) ?_
          rotate_left
          · intro w hSw; (try dsimp only at hSw); go_simp; (try with_reducible rfl)
          try simp only [Act.put, List.setIfInBounds_toArray, List.set_cons_zero, List.set_cons_succ]
          refine wpAnyH_take (i := 3) (oi := { dst := some 118, op := Op.call { callee := Callee.builtin Builtin.len, args := #[Operand.tmp 117], argTypes := #[23] }, type := 3, pos := "law.go:270", after := #[{ on := 2, ground := Ground.data }], guard := none }) (v := ?_) rfl (by kernel_rfl) (by kernel_rfl) (by kernel_rfl) (fun _ _ _ h => h) (Or.inl ⟨by rfl, ?_⟩) (by assumption) ?_
          rotate_left
          · intro w hSw; (try dsimp only at hSw); go_simp; (try with_reducible rfl)
          try simp only [Act.put, List.setIfInBounds_toArray, List.set_cons_zero, List.set_cons_succ]
          refine wpAnyH_take (i := 4) (oi := { dst := some 119, op := Op.slice 23 (Operand.tmp 116) none (some (Operand.tmp 118)) none, type := 23, pos := "law.go:270", after := #[{ on := 1, ground := Ground.data }, { on := 3, ground := Ground.data }], guard := none }) (v := ?_) rfl (by kernel_rfl) (by kernel_rfl) (by kernel_rfl) (fun _ _ _ h => h) (Or.inl ⟨by rfl, ?_⟩) (by assumption) ?_
          rotate_left
          · intro w hSw; (try dsimp only at hSw); go_simp; (try with_reducible rfl)
          try simp only [Act.put, List.setIfInBounds_toArray, List.set_cons_zero, List.set_cons_succ]
          refine wpAnyH_take (i := 6) (oi := { dst := some 121, op := Op.move (Operand.tmp 5), type := 22, pos := "law.go:270", after := #[], guard := none }) (v := ?_) rfl (by kernel_rfl) (by kernel_rfl) (by kernel_rfl) (fun _ _ _ h => h) (Or.inl ⟨by rfl, ?_⟩) (by assumption) ?_
          rotate_left
          · intro w hSw; (try dsimp only at hSw); go_simp; (try with_reducible rfl)
          try simp only [Act.put, List.setIfInBounds_toArray, List.set_cons_zero, List.set_cons_succ]
          refine wpAnyH_take (i := 7) (oi := { dst := some 122, op := Op.move (Operand.tmp 6), type := 23, pos := "law.go:270", after := #[], guard := none }) (v := ?_) rfl (by kernel_rfl) (by kernel_rfl) (by kernel_rfl) (fun _ _ _ h => h) (Or.inl ⟨by rfl, ?_⟩) (by assumption) ?_
          rotate_left
          · intro w hSw; (try dsimp only at hSw); go_simp; (try with_reducible rfl)
          try simp only [Act.put, List.setIfInBounds_toArray, List.set_cons_zero, List.set_cons_succ]
          refine wpAnyH_take (i := 8) (oi := { dst := some 123, op := Op.move (Operand.tmp 1), type := 23, pos := "law.go:270", after := #[], guard := none }) (v := ?_) rfl (by kernel_rfl) (by kernel_rfl) (by kernel_rfl) (fun _ _ _ h => h) (Or.inl ⟨by rfl, ?_⟩) (by assumption) ?_
          rotate_left
          · intro w hSw; (try dsimp only at hSw); go_simp; (try with_reducible rfl)
          try simp only [Act.put, List.setIfInBounds_toArray, List.set_cons_zero, List.set_cons_succ]
          refine wpAnyH_take (i := 9) (oi := { dst := some 124, op := Op.call { callee := Callee.builtin Builtin.len, args := #[Operand.tmp 123], argTypes := #[23] }, type := 3, pos := "law.go:270", after := #[{ on := 8, ground := Ground.data }], guard := none }) (v := ?_) rfl (by kernel_rfl) (by kernel_rfl) (by kernel_rfl) (fun _ _ _ h => h) (Or.inl ⟨by rfl, ?_⟩) (by assumption) ?_
          rotate_left
          · intro w hSw; (try dsimp only at hSw); go_simp; (try with_reducible rfl)
          try simp only [Act.put, List.setIfInBounds_toArray, List.set_cons_zero, List.set_cons_succ]
          refine wpAnyH_take (i := 10) (oi := { dst := some 125, op := Op.slice 23 (Operand.tmp 122) none (some (Operand.tmp 124)) none, type := 23, pos := "law.go:270", after := #[{ on := 7, ground := Ground.data }, { on := 9, ground := Ground.data }], guard := none }) (v := ?_) rfl (by kernel_rfl) (by kernel_rfl) (by kernel_rfl) (fun _ _ _ h => h) (Or.inl ⟨by rfl, ?_⟩) (by assumption) ?_
          rotate_left
          · intro w hSw; (try dsimp only at hSw); go_simp; (try with_reducible rfl)
          try simp only [Act.put, List.setIfInBounds_toArray, List.set_cons_zero, List.set_cons_succ]
          refine wpAnyH_ready (rs := [5]) (by kernel_rfl) (by simp) ?_
          refine AllReadyH.cons (o := { dst := some 120, op := Op.call { callee := Callee.value (Operand.func 5), args := #[Operand.tmp 115, Operand.tmp 119], argTypes := #[22, 23] }, type := 29, pos := "law.go:270", after := #[{ on := 0, ground := Ground.data }, { on := 4, ground := Ground.data }], guard := none }) rfl (fun K hK => ?_) AllReadyH.nil
          go_simp
          refine (unhide CC0 _ (unhide E0)).mono ?_
          rintro e y1 ⟨r, rfl, ro1, hv1⟩
          obtain ⟨ra1, rc1, rfl⟩ := owns_form ro1
          have E1 := hide (bl_t (unhide E0) hv1)
          have RR1 := hide (And.intro ro1 hv1)
          clear ro1 hv1
          go_wp2_with fail
          refine hK.out _ _ trivial (fun hHeld0 => ?_)
          clear hHeld
          clear hK K
          try simp only [Act.put, List.setIfInBounds_toArray, List.set_cons_zero, List.set_cons_succ]
          refine wpAnyH_ready (rs := [11]) (by kernel_rfl) (by simp) ?_
          refine AllReadyH.cons (o := { dst := some 126, op := Op.call { callee := Callee.value (Operand.func 6), args := #[Operand.tmp 121, Operand.tmp 125], argTypes := #[22, 23] }, type := 29, pos := "law.go:270", after := #[{ on := 6, ground := Ground.data }, { on := 10, ground := Ground.data }, { on := 5, ground := Ground.chain }], guard := none }) rfl (fun K hK => ?_) AllReadyH.nil
          go_simp
          refine (unhide CC1 _ (unhide E1)).mono ?_
          rintro e y2 ⟨r, rfl, ro2, hv2⟩
          obtain ⟨ra2, rc2, rfl⟩ := owns_form ro2
          have E2 := hide (bl_t (unhide E1) hv2)
          have RR2 := hide (And.intro ro2 hv2)
          clear ro2 hv2
          go_wp2_with fail
          refine hK.out _ _ trivial (fun hHeld1 => ?_)
          clear hHeld0
          clear hK K
          try simp only [Act.put, List.setIfInBounds_toArray, List.set_cons_zero, List.set_cons_succ]
          refine wpAnyH_ready (rs := [12]) (by kernel_rfl) (by simp) ?_
          refine AllReadyH.cons (o := { dst := some 127, op := Op.call { callee := Callee.value (Operand.func 7), args := #[Operand.tmp 120, Operand.tmp 126], argTypes := #[29, 29] }, type := 4, pos := "law.go:270", after := #[{ on := 5, ground := Ground.data }, { on := 11, ground := Ground.data }, { on := 11, ground := Ground.chain }], guard := none }) rfl (fun K hK => ?_) AllReadyH.nil
          go_simp
          refine (sameInts_yes (row_low (unhide RR1).1 (unhide RR2).2) (unhide RR2).1 (by omega)).mono ?_
          rintro e y3 ⟨rfl, hv3⟩
          have E3 := hide (bl_t (unhide E2) hv3)
          clear hv3
          go_wp2_with fail
          refine hK.out _ _ trivial (fun hHeld2 => ?_)
          clear hHeld1
          clear hK K
          try simp only [Act.put, List.setIfInBounds_toArray, List.set_cons_zero, List.set_cons_succ]
          refine wpAnyH_take (i := 13) (oi := { dst := some 128, op := Op.unOp UnOp.not 4 (Operand.tmp 127), type := 4, pos := "law.go:270", after := #[{ on := 12, ground := Ground.data }], guard := none }) (v := ?_) rfl (by kernel_rfl) (by kernel_rfl) (by kernel_rfl) (fun _ _ _ h => h) (Or.inl ⟨by rfl, ?_⟩) (by assumption) ?_
          rotate_left
          · intro w hSw; (try dsimp only at hSw); go_simp; (try with_reducible rfl)
          try simp only [Act.put, List.setIfInBounds_toArray, List.set_cons_zero, List.set_cons_succ]
          refine wpAnyH_done (by kernel_rfl) ?_ _
          go_wp2_with fail
          have HPS := hide (unhide HSM).l
          have LC := hide (show LpC w y3 ps.length B wz from ⟨ps, rfl, unhide HSM, unhide HZ, ((unhide HL1).later (bl_t (unhide HBB) (unhide E3))).row, bl_t (unhide HB1) (bl_t (unhide HBB) (unhide E3)), (unhide HK12).later (unhide E3)⟩)
          have hBw : w.heap.size < B := by have := unhide HEB; omega
          clear CC0 CC1 E0 E1 E2 E3 RR1 RR2 HBB HK12
          go_loopw [13] (fun vi wr => ∃ t : Nat, vi = .int .i64 t ∧ t ≤ ps.length ∧ Hid (LpC w wr ps.length B wz)) (fun vi _ => ps.length - (intOf vi).toNat)
          case atStart => exact ⟨0, by go_num, Nat.zero_le _, LC⟩
          case round =>
            clear LC
            obtain ⟨t, rfl, htle, LC⟩ := hrel
            have hpl := unhide HPS
            by_cases hlt : t < ps.length
            · have hiz : (t : Int) < (ps.length : Int) := by omega
              obtain ⟨⟨z, y1⟩, f1⟩ := (unhide LC).spot t hlt
              have LC2 := hide ((unhide LC).write hBw t hlt)
              go_wp2_with fail
              go_roundw
              case rel => exact ⟨t + 1, by go_num, by omega, LC2⟩
              case measure => simp [intOf]; omega
            · obtain ⟨ps2, hpl2, sm2, hz2, hp2, hb2, hk2⟩ := unhide LC
              have hpk : Pkl wr (.slice (some ⟨w.heap.size, 0, none⟩) ps.length (ps.length + 1)) ps2 := by rw [← hpl2]; rw [← hpl2] at hp2; exact hp2.pkl hz2
              obtain ⟨V2, hV⟩ : ∃ V, V = unK ps2 wz := ⟨_, rfl⟩
              obtain ⟨M2, hMM⟩ : ∃ M, M = V2.length := ⟨_, rfl⟩
              have hMl2 : M2 ≤ 1000000000 := by
                have h1 := unK_len ps2 wz
                have h2 := (unhide HNOK).1
                rw [hMM, hV]
                omega
              have hq : wz.length ≤ 1099511627776 := by have := (unhide HNOK).1; omega
              have hnn := (unhide HNOK).1
              have CC0 := hide (show ∀ X, RowKit.Below wr.heap.size wr X → Calls Tryd.prog 5 #[.slice (some ⟨w.heap.size, 0, none⟩) ps.length (ps.length + 1), .slice (some ⟨B, 0, none⟩) ws.length (ws.length + 1)] X fun e w' => ∃ r, e = .returned r ∧ w'.ownsRow X.heap.size 3 1 r M2 (ints V2) ∧ RowKit.Below X.heap.size X w' from fun X hX => by
                rw [hMM, hV]
                have := (un_two hpk sm2 X hX (ws.length + 1) (hk2.later hX).wis (unhide HNOK).2 hq).2
                rw [hnn] at this
                exact this)
              have CC1 := hide (show ∀ X, RowKit.Below wr.heap.size wr X → Calls Tryd.prog 6 #[.slice (some ⟨w.heap.size, 0, none⟩) ps.length (ps.length + 1), .slice (some ⟨B, 0, none⟩) ws.length (ws.length + 1)] X fun e w' => ∃ r, e = .returned r ∧ w'.ownsRow X.heap.size 3 1 r M2 (ints V2) ∧ RowKit.Below X.heap.size X w' from fun X hX => by
                rw [hMM, hV]
                have := (un_two hpk sm2 X hX (ws.length + 1) (hk2.later hX).wis (unhide HNOK).2 hq).1
                rw [hnn] at this
                exact this)
              have E0 := hide ((Below.refl wr.heap.size wr).drew)
              have HBZ := hide hb2
              clear hV hMM hpk hp2 hb2 hk2 sm2 hz2 hpl2 LC hq hnn
              go_wp2_with fail
              refine wp_region_held_drew (S := fun _ => True) (by kernel_rfl) ?_ (fun hHeld => ?_)
              · exact trivial
              refine wpAnyH_take (i := 0) (oi := { dst := some 139, op := Op.move (Operand.tmp 5), type := 22, pos := "law.go:276", after := #[], guard := none }) (v := ?_) rfl (by kernel_rfl) (by kernel_rfl) (by kernel_rfl) (fun _ _ _ h => h) (Or.inl ⟨by rfl, ?_⟩) (by assumption) ?_
              rotate_left
              · intro w hSw; (try dsimp only at hSw); go_simp; (try with_reducible rfl)
              try simp only [Act.put, List.setIfInBounds_toArray, List.set_cons_zero, List.set_cons_succ]
              refine wpAnyH_take (i := 1) (oi := { dst := some 140, op := Op.move (Operand.tmp 6), type := 23, pos := "law.go:276", after := #[], guard := none }) (v := ?_) rfl (by kernel_rfl) (by kernel_rfl) (by kernel_rfl) (fun _ _ _ h => h) (Or.inl ⟨by rfl, ?_⟩) (by assumption) ?_
              rotate_left
              · intro w hSw; (try dsimp only at hSw); go_simp; (try with_reducible rfl)
              try simp only [Act.put, List.setIfInBounds_toArray, List.set_cons_zero, List.set_cons_succ]
              refine wpAnyH_take (i := 2) (oi := { dst := some 141, op := Op.move (Operand.tmp 1), type := 23, pos := "law.go:276", after := #[], guard := none }) (v := ?_) rfl (by kernel_rfl) (by kernel_rfl) (by kernel_rfl) (fun _ _ _ h => h) (Or.inl ⟨by rfl, ?_⟩) (by assumption) ?_
              rotate_left
              · intro w hSw; (try dsimp only at hSw); go_simp; (try with_reducible rfl)
              try simp only [Act.put, List.setIfInBounds_toArray, List.set_cons_zero, List.set_cons_succ]
              refine wpAnyH_take (i := 3) (oi := { dst := some 142, op := Op.call { callee := Callee.builtin Builtin.len, args := #[Operand.tmp 141], argTypes := #[23] }, type := 3, pos := "law.go:276", after := #[{ on := 2, ground := Ground.data }], guard := none }) (v := ?_) rfl (by kernel_rfl) (by kernel_rfl) (by kernel_rfl) (fun _ _ _ h => h) (Or.inl ⟨by rfl, ?_⟩) (by assumption) ?_
              rotate_left
              · intro w hSw; (try dsimp only at hSw); go_simp; (try with_reducible rfl)
              try simp only [Act.put, List.setIfInBounds_toArray, List.set_cons_zero, List.set_cons_succ]
              refine wpAnyH_take (i := 4) (oi := { dst := some 143, op := Op.slice 23 (Operand.tmp 140) none (some (Operand.tmp 142)) none, type := 23, pos := "law.go:276", after := #[{ on := 1, ground := Ground.data }, { on := 3, ground := Ground.data }], guard := none }) (v := ?_) rfl (by kernel_rfl) (by kernel_rfl) (by kernel_rfl) (fun _ _ _ h => h) (Or.inl ⟨by rfl, ?_⟩) (by assumption) ?_
              rotate_left
              · intro w hSw; (try dsimp only at hSw); go_simp; (try with_reducible rfl)
              try simp only [Act.put, List.setIfInBounds_toArray, List.set_cons_zero, List.set_cons_succ]
              refine wpAnyH_take (i := 6) (oi := { dst := some 145, op := Op.move (Operand.tmp 5), type := 22, pos := "law.go:276", after := #[], guard := none }) (v := ?_) rfl (by kernel_rfl) (by kernel_rfl) (by kernel_rfl) (fun _ _ _ h => h) (Or.inl ⟨by rfl, ?_⟩) (by assumption) ?_
              rotate_left
              · intro w hSw; (try dsimp only at hSw); go_simp; (try with_reducible rfl)
              try simp only [Act.put, List.setIfInBounds_toArray, List.set_cons_zero, List.set_cons_succ]
              refine wpAnyH_take (i := 7) (oi := { dst := some 146, op := Op.move (Operand.tmp 6), type := 23, pos := "law.go:276", after := #[], guard := none }) (v := ?_) rfl (by kernel_rfl) (by kernel_rfl) (by kernel_rfl) (fun _ _ _ h => h) (Or.inl ⟨by rfl, ?_⟩) (by assumption) ?_
              rotate_left
              · intro w hSw; (try dsimp only at hSw); go_simp; (try with_reducible rfl)
              try simp only [Act.put, List.setIfInBounds_toArray, List.set_cons_zero, List.set_cons_succ]
              refine wpAnyH_take (i := 8) (oi := { dst := some 147, op := Op.move (Operand.tmp 1), type := 23, pos := "law.go:276", after := #[], guard := none }) (v := ?_) rfl (by kernel_rfl) (by kernel_rfl) (by kernel_rfl) (fun _ _ _ h => h) (Or.inl ⟨by rfl, ?_⟩) (by assumption) ?_
              rotate_left
              · intro w hSw; (try dsimp only at hSw); go_simp; (try with_reducible rfl)
              try simp only [Act.put, List.setIfInBounds_toArray, List.set_cons_zero, List.set_cons_succ]
              refine wpAnyH_take (i := 9) (oi := { dst := some 148, op := Op.call { callee := Callee.builtin Builtin.len, args := #[Operand.tmp 147], argTypes := #[23] }, type := 3, pos := "law.go:276", after := #[{ on := 8, ground := Ground.data }], guard := none }) (v := ?_) rfl (by kernel_rfl) (by kernel_rfl) (by kernel_rfl) (fun _ _ _ h => h) (Or.inl ⟨by rfl, ?_⟩) (by assumption) ?_
              rotate_left
              · intro w hSw; (try dsimp only at hSw); go_simp; (try with_reducible rfl)
              try simp only [Act.put, List.setIfInBounds_toArray, List.set_cons_zero, List.set_cons_succ]
              refine wpAnyH_take (i := 10) (oi := { dst := some 149, op := Op.slice 23 (Operand.tmp 146) none (some (Operand.tmp 148)) none, type := 23, pos := "law.go:276", after := #[{ on := 7, ground := Ground.data }, { on := 9, ground := Ground.data }], guard := none }) (v := ?_) rfl (by kernel_rfl) (by kernel_rfl) (by kernel_rfl) (fun _ _ _ h => h) (Or.inl ⟨by rfl, ?_⟩) (by assumption) ?_
              rotate_left
              · intro w hSw; (try dsimp only at hSw); go_simp; (try with_reducible rfl)
              try simp only [Act.put, List.setIfInBounds_toArray, List.set_cons_zero, List.set_cons_succ]
              refine wpAnyH_ready (rs := [5]) (by kernel_rfl) (by simp) ?_
              refine AllReadyH.cons (o := { dst := some 144, op := Op.call { callee := Callee.value (Operand.func 5), args := #[Operand.tmp 139, Operand.tmp 143], argTypes := #[22, 23] }, type := 29, pos := "law.go:276", after := #[{ on := 0, ground := Ground.data }, { on := 4, ground := Ground.data }], guard := none }) rfl (fun K hK => ?_) AllReadyH.nil
              go_simp
              refine (unhide CC0 _ (unhide E0)).mono ?_
              rintro e y1 ⟨r, rfl, ro1, hv1⟩
              obtain ⟨ra1, rc1, rfl⟩ := owns_form ro1
              have E1 := hide (bl_t (unhide E0) hv1)
              have RR1 := hide (And.intro ro1 hv1)
              clear ro1 hv1
              go_wp2_with fail
              refine hK.out _ _ trivial (fun hHeld0 => ?_)
              clear hHeld
              clear hK K
              try simp only [Act.put, List.setIfInBounds_toArray, List.set_cons_zero, List.set_cons_succ]
              refine wpAnyH_ready (rs := [11]) (by kernel_rfl) (by simp) ?_
              refine AllReadyH.cons (o := { dst := some 150, op := Op.call { callee := Callee.value (Operand.func 6), args := #[Operand.tmp 145, Operand.tmp 149], argTypes := #[22, 23] }, type := 29, pos := "law.go:276", after := #[{ on := 6, ground := Ground.data }, { on := 10, ground := Ground.data }, { on := 5, ground := Ground.chain }], guard := none }) rfl (fun K hK => ?_) AllReadyH.nil
              go_simp
              refine (unhide CC1 _ (unhide E1)).mono ?_
              rintro e y2 ⟨r, rfl, ro2, hv2⟩
              obtain ⟨ra2, rc2, rfl⟩ := owns_form ro2
              have E2 := hide (bl_t (unhide E1) hv2)
              have RR2 := hide (And.intro ro2 hv2)
              clear ro2 hv2
              go_wp2_with fail
              refine hK.out _ _ trivial (fun hHeld1 => ?_)
              clear hHeld0
              clear hK K
              try simp only [Act.put, List.setIfInBounds_toArray, List.set_cons_zero, List.set_cons_succ]
              refine wpAnyH_ready (rs := [12]) (by kernel_rfl) (by simp) ?_
              refine AllReadyH.cons (o := { dst := some 151, op := Op.call { callee := Callee.value (Operand.func 7), args := #[Operand.tmp 144, Operand.tmp 150], argTypes := #[29, 29] }, type := 4, pos := "law.go:276", after := #[{ on := 5, ground := Ground.data }, { on := 11, ground := Ground.data }, { on := 11, ground := Ground.chain }], guard := none }) rfl (fun K hK => ?_) AllReadyH.nil
              go_simp
              refine (sameInts_yes (row_low (unhide RR1).1 (unhide RR2).2) (unhide RR2).1 (by omega)).mono ?_
              rintro e y3 ⟨rfl, hv3⟩
              have E3 := hide (bl_t (unhide E2) hv3)
              clear hv3
              go_wp2_with fail
              refine hK.out _ _ trivial (fun hHeld2 => ?_)
              clear hHeld1
              clear hK K
              try simp only [Act.put, List.setIfInBounds_toArray, List.set_cons_zero, List.set_cons_succ]
              refine wpAnyH_take (i := 13) (oi := { dst := some 4, op := Op.assign (Operand.tmp 151), type := 4, pos := "law.go:276", after := #[{ on := 12, ground := Ground.data }, { on := 12, ground := Ground.chain }, { on := 0, ground := Ground.phase }, { on := 1, ground := Ground.phase }, { on := 2, ground := Ground.phase }, { on := 3, ground := Ground.phase }, { on := 4, ground := Ground.phase }, { on := 5, ground := Ground.phase }, { on := 6, ground := Ground.phase }, { on := 7, ground := Ground.phase }, { on := 8, ground := Ground.phase }, { on := 9, ground := Ground.phase }, { on := 10, ground := Ground.phase }, { on := 11, ground := Ground.phase }, { on := 12, ground := Ground.phase }], guard := none }) (v := ?_) rfl (by kernel_rfl) (by kernel_rfl) (by kernel_rfl) (fun _ _ _ h => h) (Or.inl ⟨by rfl, ?_⟩) (by assumption) ?_
              rotate_left
              · intro w hSw; (try dsimp only at hSw); go_simp; (try with_reducible rfl)
              try simp only [Act.put, List.setIfInBounds_toArray, List.set_cons_zero, List.set_cons_succ]
              refine wpAnyH_done (by kernel_rfl) ?_ _
              go_wp2_with fail
              go_ret
              exact ⟨rfl, bl_t (unhide HBZ) (unhide E3)⟩
end Go.Proofs.YtnkdkgeblemlbaaDoor
