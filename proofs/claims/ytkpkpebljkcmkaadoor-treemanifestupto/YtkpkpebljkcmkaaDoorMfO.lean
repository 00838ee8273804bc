import Derived.Test.YtkpkpebljkcmkaaDoorMfN
namespace Go.Proofs.YtkpkpebljkcmkaaDoor
open Go.RowKit

set_option maxRecDepth 100000 in
set_option maxHeartbeats 4000000 in
theorem sameFiles_yes {w : World} {u v : Value} {fs : List (List Value)} (hl : fs.length ≤ 2513169434843) (h : Rws 40 34 w u fs) (k : Rws 40 34 w v fs) :
    Calls Tryd.prog 9 #[u, v] w fun e w' => e = .returned (.bool true) ∧ ∃ n, w' = w.drewN n := by
  obtain ⟨a, c, rfl⟩ := h.form
  obtain ⟨a2, c2, rfl⟩ := k.form
  have HP := hide (fun (i : Nat) (hi : i < fs.length) => And.intro (h.at hi) (k.at hi))
  obtain ⟨N, hN⟩ : ∃ N, fs.length = N := ⟨_, rfl⟩
  have HN := hide hN
  rw [hN] at hl ⊢
  clear h k hN
  go_enter Tryd.func9, Tryd.ntmps9
  go_wp2_with fail
  go_loopg [5] N (fun gq iv wr => ∃ i n : Nat, iv = .int .i64 i ∧ i ≤ N ∧ N - i ≤ gq ∧ wr = w.drewN n)
  case atStart => exact ⟨0, 0, by go_num, by omega, by omega, rfl⟩
  case round =>
    obtain ⟨i, n, rfl, hi, hg, rfl⟩ := hrel
    by_cases hlt : i < N
    · have hin : (i : Int) < (N : Int) := by omega
      have hil : i < fs.length := by have := unhide HN; omega
      obtain ⟨⟨g, o, rfl, hgl, hok, c0⟩, g2, o2, rfl, hgl2, _, d0⟩ := unhide HP i hil
      have hff := neqF hok
      have hlen := hok.1
      generalize fs[i] = ys at *
      have l1 : (Tryd.prog.info? 40).map (·.size) = some ys.length := by rw [hlen]; exact infoF
      have HS := hide (show ∀ X, Below w.heap.size w X → X.rangeAt g (o + i * 34) ys ∧ X.rangeAt g2 (o2 + i * 34) ys from fun X hX => ⟨rangeAt_later c0 hgl hX, rangeAt_later d0 hgl2 hX⟩)
      have HD := hide (show (w.drewN n).drew = w.drewN (n + 1) from rfl)
      have B0 := hide (bl_drewN w n).drew
      clear hok HP c0 d0
      go_wp2_with fail
      refine wp_region_held_drew (S := fun w' => w'.rangeAt g (o + i * 34) ys ∧ w'.rangeAt g2 (o2 + i * 34) ys) (by kernel_rfl) ?_ (fun hHeld => ?_)
      · exact unhide HS _ (unhide B0)
      refine wpAnyH_take (i := 0) (oi := { dst := some 17, op := Op.move (Operand.tmp 0), type := 24, pos := "law.go:32", after := #[], guard := none }) (v := ?_) rfl (by kernel_rfl) (by kernel_rfl) (by kernel_rfl) (fun _ _ _ h => h) (Or.inl ⟨by rfl, ?_⟩) (by assumption) ?_
      rotate_left
      · intro w hSw; (try dsimp only at hSw); go_simp; (try with_reducible rfl)
      try simp only [Act.put, List.setIfInBounds_toArray, List.set_cons_zero, List.set_cons_succ]
      refine wpAnyH_take (i := 1) (oi := { dst := some 18, op := Op.move (Operand.tmp 5), type := 3, pos := "law.go:32", after := #[], guard := none }) (v := ?_) rfl (by kernel_rfl) (by kernel_rfl) (by kernel_rfl) (fun _ _ _ h => h) (Or.inl ⟨by rfl, ?_⟩) (by assumption) ?_
      rotate_left
      · intro w hSw; (try dsimp only at hSw); go_simp; (try with_reducible rfl)
      try simp only [Act.put, List.setIfInBounds_toArray, List.set_cons_zero, List.set_cons_succ]
      refine wpAnyH_take (i := 2) (oi := { dst := some 19, op := Op.indexAddr 24 (Operand.tmp 17) (Operand.tmp 18), type := 0, pos := "law.go:32", after := #[{ on := 0, ground := Ground.data }, { on := 1, ground := Ground.data }], guard := none }) (v := ?_) rfl (by kernel_rfl) (by kernel_rfl) (by kernel_rfl) (fun _ _ _ h => h) (Or.inl ⟨by rfl, ?_⟩) (by assumption) ?_
      rotate_left
      · intro w hSw; (try dsimp only at hSw); go_simp; (try with_reducible rfl)
      try simp only [Act.put, List.setIfInBounds_toArray, List.set_cons_zero, List.set_cons_succ]
      refine wpAnyH_take (i := 3) (oi := { dst := some 20, op := Op.load 40 (Operand.tmp 19), type := 40, pos := "law.go:32", after := #[{ on := 2, ground := Ground.data }], guard := none }) (v := .agg (ys).toArray) rfl (by kernel_rfl) (by kernel_rfl) (by kernel_rfl) (fun _ _ _ h => h) (yieldsIf_load_mid (by rfl) 40 (.tmp 19) rfl g (o + i * 34) (by rfl) (ys) _ (fun _ h => h.1) Tryd.underlying40 rfl l1) (by assumption) ?_
      try simp only [Act.put, List.setIfInBounds_toArray, List.set_cons_zero, List.set_cons_succ]
      refine wpAnyH_take (i := 4) (oi := { dst := some 21, op := Op.move (Operand.tmp 1), type := 24, pos := "law.go:32", after := #[], guard := none }) (v := ?_) rfl (by kernel_rfl) (by kernel_rfl) (by kernel_rfl) (fun _ _ _ h => h) (Or.inl ⟨by rfl, ?_⟩) (by assumption) ?_
      rotate_left
      · intro w hSw; (try dsimp only at hSw); go_simp; (try with_reducible rfl)
      try simp only [Act.put, List.setIfInBounds_toArray, List.set_cons_zero, List.set_cons_succ]
      refine wpAnyH_take (i := 5) (oi := { dst := some 22, op := Op.move (Operand.tmp 5), type := 3, pos := "law.go:32", after := #[], guard := none }) (v := ?_) rfl (by kernel_rfl) (by kernel_rfl) (by kernel_rfl) (fun _ _ _ h => h) (Or.inl ⟨by rfl, ?_⟩) (by assumption) ?_
      rotate_left
      · intro w hSw; (try dsimp only at hSw); go_simp; (try with_reducible rfl)
      try simp only [Act.put, List.setIfInBounds_toArray, List.set_cons_zero, List.set_cons_succ]
      refine wpAnyH_take (i := 6) (oi := { dst := some 23, op := Op.indexAddr 24 (Operand.tmp 21) (Operand.tmp 22), type := 0, pos := "law.go:32", after := #[{ on := 4, ground := Ground.data }, { on := 5, ground := Ground.data }], guard := none }) (v := ?_) rfl (by kernel_rfl) (by kernel_rfl) (by kernel_rfl) (fun _ _ _ h => h) (Or.inl ⟨by rfl, ?_⟩) (by assumption) ?_
      rotate_left
      · intro w hSw; (try dsimp only at hSw); go_simp; (try with_reducible rfl)
      try simp only [Act.put, List.setIfInBounds_toArray, List.set_cons_zero, List.set_cons_succ]
      refine wpAnyH_take (i := 7) (oi := { dst := some 24, op := Op.load 40 (Operand.tmp 23), type := 40, pos := "law.go:32", after := #[{ on := 6, ground := Ground.data }], guard := none }) (v := .agg (ys).toArray) rfl (by kernel_rfl) (by kernel_rfl) (by kernel_rfl) (fun _ _ _ h => h) (yieldsIf_load_mid (by rfl) 40 (.tmp 23) rfl g2 (o2 + i * 34) (by rfl) (ys) _ (fun _ h => h.2) Tryd.underlying40 rfl l1) (by assumption) ?_
      try simp only [Act.put, List.setIfInBounds_toArray, List.set_cons_zero, List.set_cons_succ]
      refine wpAnyH_take (i := 8) (oi := { dst := some 25, op := Op.binOp BinOp.neq 40 (Operand.tmp 20) (Operand.tmp 24) 40, type := 4, pos := "law.go:32", after := #[{ on := 3, ground := Ground.data }, { on := 7, ground := Ground.data }], guard := none }) (v := ?_) rfl (by kernel_rfl) (by kernel_rfl) (by kernel_rfl) (fun _ _ _ h => h) (Or.inl ⟨by rfl, ?_⟩) (by assumption) ?_
      rotate_left
      · intro w hSw; (try dsimp only at hSw); go_simp; (try with_reducible rfl)
      try simp only [Act.put, List.setIfInBounds_toArray, List.set_cons_zero, List.set_cons_succ]
      refine wpAnyH_done (by kernel_rfl) ?_ _
      go_wp2_with fail
      go_roundg (N - (i + 1))
      case measure => omega
      case rel => exact ⟨i + 1, n + 1, by go_num, by omega, by omega, unhide HD⟩
    · obtain rfl : i = N := by omega
      go_wp2_with fail
      go_ret
      exact ⟨rfl, n, rfl⟩
theorem cellsP : Tryd.prog.cellsOf 42 = 3 := by kernel_rfl
theorem infoP : (Tryd.prog.info? 42).map (·.size) = some 3 := by kernel_rfl
theorem formP (x : List Value) (hx : x.length = 3) : (Value.agg x.toArray).formed Tryd.prog 42 = true := by
  unfold Value.formed
  rw [Tryd.underlying42, cellsP]
  simp [hx]
theorem neqP {x : List Value} (hx : isT 42 3 x) (w : World) : (binOp .neq 42 (.agg x.toArray) (.agg x.toArray)).run Tryd.prog w = .ok (.bool false) w := neqT (by kernel_rfl) formP hx w
theorem isT_stp {k : Int} {f t : Nm} (hk : (Lit.int .i64 k).wf = true) (hf : f.size ≤ maxLen) (ht : t.size ≤ maxLen) : isT 42 3 (stp k f t) := by
  refine ⟨rfl, ?_, stp_one k f t⟩
  have e3 : Tryd.prog.keyLits 5 3 [.int .i64 k] = some [.int .i64 k] := by
    unfold Program.keyLits
    rw [Tryd.underlying3]
    simp [hk]
  unfold Program.keyLits
  rw [Tryd.underlying42]
  simp only
  rw [if_pos ⟨by rw [cellsP]; rfl, by decide +kernel⟩]
  obtain ⟨ls, h⟩ := (mapM_all (fun f' : Field => Tryd.prog.keyLits 5 f'.type (((stp k f t).drop f'.offset).take (Tryd.prog.cellsOf f'.type))) [{ name := "Kind", type := 3, offset := 0, embedded := false, tag := "", pkgPath := "", byteOffset := 0 }, { name := "From", type := 9, offset := 1, embedded := false, tag := "", pkgPath := "", byteOffset := 8 }, { name := "To", type := 9, offset := 2, embedded := false, tag := "", pkgPath := "", byteOffset := 24 }]).2 fun x hx => by
    simp only [List.mem_cons, List.not_mem_nil, or_false] at hx
    rcases hx with rfl | rfl | rfl
    · refine ⟨[.int .i64 k], ?_⟩
      show Tryd.prog.keyLits 5 3 (((stp k f t).drop 0).take (Tryd.prog.cellsOf 3)) = _
      rw [show Tryd.prog.cellsOf 3 = 1 by kernel_rfl]
      exact e3
    · refine ⟨[.string f.data.toList], ?_⟩
      show Tryd.prog.keyLits 5 9 (((stp k f t).drop 1).take (Tryd.prog.cellsOf 9)) = _
      rw [cells9]
      exact lits9 hf
    · refine ⟨[.string t.data.toList], ?_⟩
      show Tryd.prog.keyLits 5 9 (((stp k f t).drop 2).take (Tryd.prog.cellsOf 9)) = _
      rw [cells9]
      exact lits9 ht
  exact ⟨_, by rw [h]; rfl⟩
set_option maxRecDepth 100000 in
set_option maxHeartbeats 4000000 in
theorem sameSteps_yes {w : World} {u v : Value} {fs : List (List Value)} (hl : fs.length ≤ 2513169434843) (h : Rws 42 3 w u fs) (k : Rws 42 3 w v fs) :
    Calls Tryd.prog 11 #[u, v] w fun e w' => e = .returned (.bool true) ∧ ∃ n, w' = w.drewN n := by
  obtain ⟨a, c, rfl⟩ := h.form
  obtain ⟨a2, c2, rfl⟩ := k.form
  have HP := hide (fun (i : Nat) (hi : i < fs.length) => And.intro (h.at hi) (k.at hi))
  obtain ⟨N, hN⟩ : ∃ N, fs.length = N := ⟨_, rfl⟩
  have HN := hide hN
  rw [hN] at hl ⊢
  clear h k hN
  go_enter Tryd.func11, Tryd.ntmps11
  go_wp2_with fail
  go_loopg [5] N (fun gq iv wr => ∃ i n : Nat, iv = .int .i64 i ∧ i ≤ N ∧ N - i ≤ gq ∧ wr = w.drewN n)
  case atStart => exact ⟨0, 0, by go_num, by omega, by omega, rfl⟩
  case round =>
    obtain ⟨i, n, rfl, hi, hg, rfl⟩ := hrel
    by_cases hlt : i < N
    · have hin : (i : Int) < (N : Int) := by omega
      have hil : i < fs.length := by have := unhide HN; omega
      obtain ⟨⟨g, o, rfl, hgl, hok, c0⟩, g2, o2, rfl, hgl2, _, d0⟩ := unhide HP i hil
      have hff := neqP hok
      have hlen := hok.1
      generalize fs[i] = ys at *
      have l1 : (Tryd.prog.info? 42).map (·.size) = some ys.length := by rw [hlen]; exact infoP
      have HS := hide (show ∀ X, Below w.heap.size w X → X.rangeAt g (o + i * 3) ys ∧ X.rangeAt g2 (o2 + i * 3) ys from fun X hX => ⟨rangeAt_later c0 hgl hX, rangeAt_later d0 hgl2 hX⟩)
      have HD := hide (show (w.drewN n).drew = w.drewN (n + 1) from rfl)
      have B0 := hide (bl_drewN w n).drew
      clear hok HP c0 d0
      go_wp2_with fail
      refine wp_region_held_drew (S := fun w' => w'.rangeAt g (o + i * 3) ys ∧ w'.rangeAt g2 (o2 + i * 3) ys) (by kernel_rfl) ?_ (fun hHeld => ?_)
      · exact unhide HS _ (unhide B0)
      refine wpAnyH_take (i := 0) (oi := { dst := some 17, op := Op.move (Operand.tmp 0), type := 30, pos := "law.go:44", after := #[], guard := none }) (v := ?_) rfl (by kernel_rfl) (by kernel_rfl) (by kernel_rfl) (fun _ _ _ h => h) (Or.inl ⟨by rfl, ?_⟩) (by assumption) ?_
      rotate_left
      · intro w hSw; (try dsimp only at hSw); go_simp; (try with_reducible rfl)
      try simp only [Act.put, List.setIfInBounds_toArray, List.set_cons_zero, List.set_cons_succ]
      refine wpAnyH_take (i := 1) (oi := { dst := some 18, op := Op.move (Operand.tmp 5), type := 3, pos := "law.go:44", after := #[], guard := none }) (v := ?_) rfl (by kernel_rfl) (by kernel_rfl) (by kernel_rfl) (fun _ _ _ h => h) (Or.inl ⟨by rfl, ?_⟩) (by assumption) ?_
      rotate_left
      · intro w hSw; (try dsimp only at hSw); go_simp; (try with_reducible rfl)
      try simp only [Act.put, List.setIfInBounds_toArray, List.set_cons_zero, List.set_cons_succ]
      refine wpAnyH_take (i := 2) (oi := { dst := some 19, op := Op.indexAddr 30 (Operand.tmp 17) (Operand.tmp 18), type := 0, pos := "law.go:44", after := #[{ on := 0, ground := Ground.data }, { on := 1, ground := Ground.data }], guard := none }) (v := ?_) rfl (by kernel_rfl) (by kernel_rfl) (by kernel_rfl) (fun _ _ _ h => h) (Or.inl ⟨by rfl, ?_⟩) (by assumption) ?_
      rotate_left
      · intro w hSw; (try dsimp only at hSw); go_simp; (try with_reducible rfl)
      try simp only [Act.put, List.setIfInBounds_toArray, List.set_cons_zero, List.set_cons_succ]
      refine wpAnyH_take (i := 3) (oi := { dst := some 20, op := Op.load 42 (Operand.tmp 19), type := 42, pos := "law.go:44", after := #[{ on := 2, ground := Ground.data }], guard := none }) (v := .agg (ys).toArray) rfl (by kernel_rfl) (by kernel_rfl) (by kernel_rfl) (fun _ _ _ h => h) (yieldsIf_load_mid (by rfl) 42 (.tmp 19) rfl g (o + i * 3) (by rfl) (ys) _ (fun _ h => h.1) Tryd.underlying42 rfl l1) (by assumption) ?_
      try simp only [Act.put, List.setIfInBounds_toArray, List.set_cons_zero, List.set_cons_succ]
      refine wpAnyH_take (i := 4) (oi := { dst := some 21, op := Op.move (Operand.tmp 1), type := 30, pos := "law.go:44", after := #[], guard := none }) (v := ?_) rfl (by kernel_rfl) (by kernel_rfl) (by kernel_rfl) (fun _ _ _ h => h) (Or.inl ⟨by rfl, ?_⟩) (by assumption) ?_
      rotate_left
      · intro w hSw; (try dsimp only at hSw); go_simp; (try with_reducible rfl)
      try simp only [Act.put, List.setIfInBounds_toArray, List.set_cons_zero, List.set_cons_succ]
      refine wpAnyH_take (i := 5) (oi := { dst := some 22, op := Op.move (Operand.tmp 5), type := 3, pos := "law.go:44", after := #[], guard := none }) (v := ?_) rfl (by kernel_rfl) (by kernel_rfl) (by kernel_rfl) (fun _ _ _ h => h) (Or.inl ⟨by rfl, ?_⟩) (by assumption) ?_
      rotate_left
      · intro w hSw; (try dsimp only at hSw); go_simp; (try with_reducible rfl)
      try simp only [Act.put, List.setIfInBounds_toArray, List.set_cons_zero, List.set_cons_succ]
      refine wpAnyH_take (i := 6) (oi := { dst := some 23, op := Op.indexAddr 30 (Operand.tmp 21) (Operand.tmp 22), type := 0, pos := "law.go:44", after := #[{ on := 4, ground := Ground.data }, { on := 5, ground := Ground.data }], guard := none }) (v := ?_) rfl (by kernel_rfl) (by kernel_rfl) (by kernel_rfl) (fun _ _ _ h => h) (Or.inl ⟨by rfl, ?_⟩) (by assumption) ?_
      rotate_left
      · intro w hSw; (try dsimp only at hSw); go_simp; (try with_reducible rfl)
      try simp only [Act.put, List.setIfInBounds_toArray, List.set_cons_zero, List.set_cons_succ]
      refine wpAnyH_take (i := 7) (oi := { dst := some 24, op := Op.load 42 (Operand.tmp 23), type := 42, pos := "law.go:44", after := #[{ on := 6, ground := Ground.data }], guard := none }) (v := .agg (ys).toArray) rfl (by kernel_rfl) (by kernel_rfl) (by kernel_rfl) (fun _ _ _ h => h) (yieldsIf_load_mid (by rfl) 42 (.tmp 23) rfl g2 (o2 + i * 3) (by rfl) (ys) _ (fun _ h => h.2) Tryd.underlying42 rfl l1) (by assumption) ?_
      try simp only [Act.put, List.setIfInBounds_toArray, List.set_cons_zero, List.set_cons_succ]
      refine wpAnyH_take (i := 8) (oi := { dst := some 25, op := Op.binOp BinOp.neq 42 (Operand.tmp 20) (Operand.tmp 24) 42, type := 4, pos := "law.go:44", after := #[{ on := 3, ground := Ground.data }, { on := 7, ground := Ground.data }], guard := none }) (v := ?_) rfl (by kernel_rfl) (by kernel_rfl) (by kernel_rfl) (fun _ _ _ h => h) (Or.inl ⟨by rfl, ?_⟩) (by assumption) ?_
      rotate_left
      · intro w hSw; (try dsimp only at hSw); go_simp; (try with_reducible rfl)
      try simp only [Act.put, List.setIfInBounds_toArray, List.set_cons_zero, List.set_cons_succ]
      refine wpAnyH_done (by kernel_rfl) ?_ _
      go_wp2_with fail
      go_roundg (N - (i + 1))
      case measure => omega
      case rel => exact ⟨i + 1, n + 1, by go_num, by omega, by omega, unhide HD⟩
    · obtain rfl : i = N := by omega
      go_wp2_with fail
      go_ret
      exact ⟨rfl, n, rfl⟩
end Go.Proofs.YtkpkpebljkcmkaaDoor
