import Derived.Test.YtodlmbhlinpoeaaAuA
import Derived.Deep.RegionWith
import Derived.OwnWalk
namespace Go.Proofs.Ytodlmbhlinpoeaa
open Go.RowKit

set_option maxHeartbeats 1000000 in
theorem sameAtoms_yes {w : World} {u v : Value} {fs : List (List Value)} (hl : fs.length ≤ 8796093021952) (h : Rws 55 3 w u fs) (k : Rws 55 3 w v fs) :
    Calls Try.prog 26 #[u, v] w fun e w' => e = .returned (.bool true) ∧ ∃ n, w' = w.drewN n := by
  obtain ⟨a, c, rfl⟩ := h.form
  obtain ⟨a2, c2, rfl⟩ := k.form
  have HP := hide (show ∀ i (hi : i < fs.length), ∃ b o, a = some ⟨b, o, none⟩ ∧ b < w.heap.size ∧ isT 55 3 fs[i] ∧ w.rangeAt b (o + i * 3) fs[i] from fun i hi => h.at hi)
  have HR := hide (show ∀ i (hi : i < fs.length), ∃ b o, a2 = some ⟨b, o, none⟩ ∧ b < w.heap.size ∧ isT 55 3 fs[i] ∧ w.rangeAt b (o + i * 3) fs[i] from fun i hi => k.at hi)
  obtain ⟨N, hN⟩ : ∃ N, N = fs.length := ⟨_, rfl⟩
  have HN := hide hN
  rw [← hN] at hl ⊢
  clear h k hN
  go_enter Try.func26, Try.ntmps26
  go_wp2_with fail
  go_loopg [5] N (fun gq iv wr => ∃ i n : Nat, iv = .int .i64 i ∧ i ≤ N ∧ N - i ≤ gq ∧ wr = w.drewN n)
  case atStart => exact ⟨0, 0, by go_num, by omega, by omega, rfl⟩
  case round =>
    obtain ⟨i, n, rfl, hi, hg, rfl⟩ := hrel
    by_cases hlt : i < N
    · have hin : (i : Int) < (N : Int) := by omega
      have hil : i < fs.length := by have := unhide HN; omega
      obtain ⟨g, o, rfl, hgl, hok, c0⟩ := unhide HP i hil
      obtain ⟨g2, o2, rfl, hgl2, _, d0⟩ := unhide HR i hil
      have he : ∀ X, (binOp .neq 55 (.agg (fs[i]).toArray) (.agg (fs[i]).toArray)).run Try.prog X = .ok (.bool false) X := fun X => neqA hok X
      have hlen := hok.1
      generalize fs[i] = ys at *
      have l1 : (Try.prog.info? 55).map (·.size) = some ys.length := by rw [hlen]; exact infoA
      have HS := hide (show ∀ X, Below w.heap.size w X → X.rangeAt g (o + i * 3) ys ∧ X.rangeAt g2 (o2 + i * 3) ys from fun X hX => ⟨fun j u hj => (hX.cell (p := ⟨g, _, none⟩) hgl).trans (c0 j u hj), fun j u hj => (hX.cell (p := ⟨g2, _, none⟩) hgl2).trans (d0 j u hj)⟩)
      have HD := hide (show (w.drewN n).drew = w.drewN (n + 1) from rfl)
      have B0 := hide (bl_drewN w n).drew
      clear hok HP HR c0 d0
      go_wp2_with fail
      refine wp_region_held_drew (S := fun w' => w'.rangeAt g (o + i * 3) ys ∧ w'.rangeAt g2 (o2 + i * 3) ys) (by kernel_rfl) ?_ (fun hHeld => ?_)
      · exact unhide HS _ (unhide B0)
      refine wpAnyH_take (i := 0) (oi := { dst := some 17, op := Op.move (Operand.tmp 0), type := 40, pos := "play.go:267", after := #[], guard := none }) (v := ?_) rfl (by kernel_rfl) (by kernel_rfl) (by kernel_rfl) (fun _ _ _ h => h) (Or.inl ⟨by rfl, ?_⟩) (by assumption) ?_
      rotate_left
      · intro w hSw; (try dsimp only at hSw); go_simp; (try with_reducible rfl)
      try simp only [Act.put, List.setIfInBounds_toArray, List.set_cons_zero, List.set_cons_succ]
      refine wpAnyH_take (i := 1) (oi := { dst := some 18, op := Op.move (Operand.tmp 5), type := 3, pos := "play.go:267", after := #[], guard := none }) (v := ?_) rfl (by kernel_rfl) (by kernel_rfl) (by kernel_rfl) (fun _ _ _ h => h) (Or.inl ⟨by rfl, ?_⟩) (by assumption) ?_
      rotate_left
      · intro w hSw; (try dsimp only at hSw); go_simp; (try with_reducible rfl)
      try simp only [Act.put, List.setIfInBounds_toArray, List.set_cons_zero, List.set_cons_succ]
      refine wpAnyH_take (i := 2) (oi := { dst := some 19, op := Op.indexAddr 40 (Operand.tmp 17) (Operand.tmp 18), type := 0, pos := "play.go:267", after := #[{ on := 0, ground := Ground.data }, { on := 1, ground := Ground.data }], guard := none }) (v := ?_) rfl (by kernel_rfl) (by kernel_rfl) (by kernel_rfl) (fun _ _ _ h => h) (Or.inl ⟨by rfl, ?_⟩) (by assumption) ?_
      rotate_left
      · intro w hSw; (try dsimp only at hSw); go_simp; (try with_reducible rfl)
      try simp only [Act.put, List.setIfInBounds_toArray, List.set_cons_zero, List.set_cons_succ]
      refine wpAnyH_take (i := 3) (oi := { dst := some 20, op := Op.load 55 (Operand.tmp 19), type := 55, pos := "play.go:267", after := #[{ on := 2, ground := Ground.data }], guard := none }) (v := .agg (ys).toArray) rfl (by kernel_rfl) (by kernel_rfl) (by kernel_rfl) (fun _ _ _ h => h) (yieldsIf_load_mid (by rfl) 55 (.tmp 19) rfl g (o + i * 3) (by rfl) (ys) _ (fun _ h => h.1) Try.underlying55 rfl l1) (by assumption) ?_
      try simp only [Act.put, List.setIfInBounds_toArray, List.set_cons_zero, List.set_cons_succ]
      refine wpAnyH_take (i := 4) (oi := { dst := some 21, op := Op.move (Operand.tmp 1), type := 40, pos := "play.go:267", after := #[], guard := none }) (v := ?_) rfl (by kernel_rfl) (by kernel_rfl) (by kernel_rfl) (fun _ _ _ h => h) (Or.inl ⟨by rfl, ?_⟩) (by assumption) ?_
      rotate_left
      · intro w hSw; (try dsimp only at hSw); go_simp; (try with_reducible rfl)
      try simp only [Act.put, List.setIfInBounds_toArray, List.set_cons_zero, List.set_cons_succ]
      refine wpAnyH_take (i := 5) (oi := { dst := some 22, op := Op.move (Operand.tmp 5), type := 3, pos := "play.go:267", after := #[], guard := none }) (v := ?_) rfl (by kernel_rfl) (by kernel_rfl) (by kernel_rfl) (fun _ _ _ h => h) (Or.inl ⟨by rfl, ?_⟩) (by assumption) ?_
      rotate_left
      · intro w hSw; (try dsimp only at hSw); go_simp; (try with_reducible rfl)
      try simp only [Act.put, List.setIfInBounds_toArray, List.set_cons_zero, List.set_cons_succ]
      refine wpAnyH_take (i := 6) (oi := { dst := some 23, op := Op.indexAddr 40 (Operand.tmp 21) (Operand.tmp 22), type := 0, pos := "play.go:267", after := #[{ on := 4, ground := Ground.data }, { on := 5, ground := Ground.data }], guard := none }) (v := ?_) rfl (by kernel_rfl) (by kernel_rfl) (by kernel_rfl) (fun _ _ _ h => h) (Or.inl ⟨by rfl, ?_⟩) (by assumption) ?_
      rotate_left
      · intro w hSw; (try dsimp only at hSw); go_simp; (try with_reducible rfl)
      try simp only [Act.put, List.setIfInBounds_toArray, List.set_cons_zero, List.set_cons_succ]
      refine wpAnyH_take (i := 7) (oi := { dst := some 24, op := Op.load 55 (Operand.tmp 23), type := 55, pos := "play.go:267", after := #[{ on := 6, ground := Ground.data }], guard := none }) (v := .agg (ys).toArray) rfl (by kernel_rfl) (by kernel_rfl) (by kernel_rfl) (fun _ _ _ h => h) (yieldsIf_load_mid (by rfl) 55 (.tmp 23) rfl g2 (o2 + i * 3) (by rfl) (ys) _ (fun _ h => h.2) Try.underlying55 rfl l1) (by assumption) ?_
      try simp only [Act.put, List.setIfInBounds_toArray, List.set_cons_zero, List.set_cons_succ]
      refine wpAnyH_take (i := 8) (oi := { dst := some 25, op := Op.binOp BinOp.neq 55 (Operand.tmp 20) (Operand.tmp 24) 55, type := 4, pos := "play.go:267", after := #[{ on := 3, ground := Ground.data }, { on := 7, ground := Ground.data }], guard := none }) (v := ?_) rfl (by kernel_rfl) (by kernel_rfl) (by kernel_rfl) (fun _ _ _ h => h) (Or.inl ⟨by rfl, ?_⟩) (by assumption) ?_
      rotate_left
      · intro w hSw; (try dsimp only at hSw); go_simp; (try with_reducible rfl)
      try simp only [Act.put, List.setIfInBounds_toArray, List.set_cons_zero, List.set_cons_succ]
      refine wpAnyH_done (by kernel_rfl) ?_ _
      rw [unhide HD]
      go_wp2_with fail
      go_roundg (N - (i + 1))
      case measure => omega
      case rel => exact ⟨i + 1, n + 1, by go_num, by omega, by omega, rfl⟩
    · obtain rfl : i = N := by omega
      go_wp2_with fail
      go_ret
      exact ⟨rfl, n, rfl⟩
set_option maxHeartbeats 1000000 in
theorem wrongs_yes {w : World} {u v : Value} {fs : List (List Value)} (hl : fs.length ≤ 8796093021952) (h : Rws 31 4 w u fs) (k : Rws 31 4 w v fs) :
    Calls Try.prog 10 #[u, v] w fun e w' => e = .returned (.bool true) ∧ ∃ n, w' = w.drewN n := by
  obtain ⟨a, c, rfl⟩ := h.form
  obtain ⟨a2, c2, rfl⟩ := k.form
  have HP := hide (show ∀ i (hi : i < fs.length), ∃ b o, a = some ⟨b, o, none⟩ ∧ b < w.heap.size ∧ isT 31 4 fs[i] ∧ w.rangeAt b (o + i * 4) fs[i] from fun i hi => h.at hi)
  have HR := hide (show ∀ i (hi : i < fs.length), ∃ b o, a2 = some ⟨b, o, none⟩ ∧ b < w.heap.size ∧ isT 31 4 fs[i] ∧ w.rangeAt b (o + i * 4) fs[i] from fun i hi => k.at hi)
  obtain ⟨N, hN⟩ : ∃ N, N = fs.length := ⟨_, rfl⟩
  have HN := hide hN
  rw [← hN] at hl ⊢
  clear h k hN
  go_enter Try.func10, Try.ntmps10
  go_wp2_with fail
  go_loopg [5] N (fun gq iv wr => ∃ i n : Nat, iv = .int .i64 i ∧ i ≤ N ∧ N - i ≤ gq ∧ wr = w.drewN n)
  case atStart => exact ⟨0, 0, by go_num, by omega, by omega, rfl⟩
  case round =>
    obtain ⟨i, n, rfl, hi, hg, rfl⟩ := hrel
    by_cases hlt : i < N
    · have hin : (i : Int) < (N : Int) := by omega
      have hil : i < fs.length := by have := unhide HN; omega
      obtain ⟨g, o, rfl, hgl, hok, c0⟩ := unhide HP i hil
      obtain ⟨g2, o2, rfl, hgl2, _, d0⟩ := unhide HR i hil
      have he : ∀ X, (binOp .neq 31 (.agg (fs[i]).toArray) (.agg (fs[i]).toArray)).run Try.prog X = .ok (.bool false) X := fun X => neqW hok X
      have hlen := hok.1
      generalize fs[i] = ys at *
      have l1 : (Try.prog.info? 31).map (·.size) = some ys.length := by rw [hlen]; exact infoW
      have HS := hide (show ∀ X, Below w.heap.size w X → X.rangeAt g (o + i * 4) ys ∧ X.rangeAt g2 (o2 + i * 4) ys from fun X hX => ⟨fun j u hj => (hX.cell (p := ⟨g, _, none⟩) hgl).trans (c0 j u hj), fun j u hj => (hX.cell (p := ⟨g2, _, none⟩) hgl2).trans (d0 j u hj)⟩)
      have HD := hide (show (w.drewN n).drew = w.drewN (n + 1) from rfl)
      have B0 := hide (bl_drewN w n).drew
      clear hok HP HR c0 d0
      go_wp2_with fail
      refine wp_region_held_drew (S := fun w' => w'.rangeAt g (o + i * 4) ys ∧ w'.rangeAt g2 (o2 + i * 4) ys) (by kernel_rfl) ?_ (fun hHeld => ?_)
      · exact unhide HS _ (unhide B0)
      refine wpAnyH_take (i := 0) (oi := { dst := some 17, op := Op.move (Operand.tmp 0), type := 23, pos := "law.go:58", after := #[], guard := none }) (v := ?_) rfl (by kernel_rfl) (by kernel_rfl) (by kernel_rfl) (fun _ _ _ h => h) (Or.inl ⟨by rfl, ?_⟩) (by assumption) ?_
      rotate_left
      · intro w hSw; (try dsimp only at hSw); go_simp; (try with_reducible rfl)
      try simp only [Act.put, List.setIfInBounds_toArray, List.set_cons_zero, List.set_cons_succ]
      refine wpAnyH_take (i := 1) (oi := { dst := some 18, op := Op.move (Operand.tmp 5), type := 3, pos := "law.go:58", after := #[], guard := none }) (v := ?_) rfl (by kernel_rfl) (by kernel_rfl) (by kernel_rfl) (fun _ _ _ h => h) (Or.inl ⟨by rfl, ?_⟩) (by assumption) ?_
      rotate_left
      · intro w hSw; (try dsimp only at hSw); go_simp; (try with_reducible rfl)
      try simp only [Act.put, List.setIfInBounds_toArray, List.set_cons_zero, List.set_cons_succ]
      refine wpAnyH_take (i := 2) (oi := { dst := some 19, op := Op.indexAddr 23 (Operand.tmp 17) (Operand.tmp 18), type := 0, pos := "law.go:58", after := #[{ on := 0, ground := Ground.data }, { on := 1, ground := Ground.data }], guard := none }) (v := ?_) rfl (by kernel_rfl) (by kernel_rfl) (by kernel_rfl) (fun _ _ _ h => h) (Or.inl ⟨by rfl, ?_⟩) (by assumption) ?_
      rotate_left
      · intro w hSw; (try dsimp only at hSw); go_simp; (try with_reducible rfl)
      try simp only [Act.put, List.setIfInBounds_toArray, List.set_cons_zero, List.set_cons_succ]
      refine wpAnyH_take (i := 3) (oi := { dst := some 20, op := Op.load 31 (Operand.tmp 19), type := 31, pos := "law.go:58", after := #[{ on := 2, ground := Ground.data }], guard := none }) (v := .agg (ys).toArray) rfl (by kernel_rfl) (by kernel_rfl) (by kernel_rfl) (fun _ _ _ h => h) (yieldsIf_load_mid (by rfl) 31 (.tmp 19) rfl g (o + i * 4) (by rfl) (ys) _ (fun _ h => h.1) Try.underlying31 rfl l1) (by assumption) ?_
      try simp only [Act.put, List.setIfInBounds_toArray, List.set_cons_zero, List.set_cons_succ]
      refine wpAnyH_take (i := 4) (oi := { dst := some 21, op := Op.move (Operand.tmp 1), type := 23, pos := "law.go:58", after := #[], guard := none }) (v := ?_) rfl (by kernel_rfl) (by kernel_rfl) (by kernel_rfl) (fun _ _ _ h => h) (Or.inl ⟨by rfl, ?_⟩) (by assumption) ?_
      rotate_left
      · intro w hSw; (try dsimp only at hSw); go_simp; (try with_reducible rfl)
      try simp only [Act.put, List.setIfInBounds_toArray, List.set_cons_zero, List.set_cons_succ]
      refine wpAnyH_take (i := 5) (oi := { dst := some 22, op := Op.move (Operand.tmp 5), type := 3, pos := "law.go:58", after := #[], guard := none }) (v := ?_) rfl (by kernel_rfl) (by kernel_rfl) (by kernel_rfl) (fun _ _ _ h => h) (Or.inl ⟨by rfl, ?_⟩) (by assumption) ?_
      rotate_left
      · intro w hSw; (try dsimp only at hSw); go_simp; (try with_reducible rfl)
      try simp only [Act.put, List.setIfInBounds_toArray, List.set_cons_zero, List.set_cons_succ]
      refine wpAnyH_take (i := 6) (oi := { dst := some 23, op := Op.indexAddr 23 (Operand.tmp 21) (Operand.tmp 22), type := 0, pos := "law.go:58", after := #[{ on := 4, ground := Ground.data }, { on := 5, ground := Ground.data }], guard := none }) (v := ?_) rfl (by kernel_rfl) (by kernel_rfl) (by kernel_rfl) (fun _ _ _ h => h) (Or.inl ⟨by rfl, ?_⟩) (by assumption) ?_
      rotate_left
      · intro w hSw; (try dsimp only at hSw); go_simp; (try with_reducible rfl)
      try simp only [Act.put, List.setIfInBounds_toArray, List.set_cons_zero, List.set_cons_succ]
      refine wpAnyH_take (i := 7) (oi := { dst := some 24, op := Op.load 31 (Operand.tmp 23), type := 31, pos := "law.go:58", after := #[{ on := 6, ground := Ground.data }], guard := none }) (v := .agg (ys).toArray) rfl (by kernel_rfl) (by kernel_rfl) (by kernel_rfl) (fun _ _ _ h => h) (yieldsIf_load_mid (by rfl) 31 (.tmp 23) rfl g2 (o2 + i * 4) (by rfl) (ys) _ (fun _ h => h.2) Try.underlying31 rfl l1) (by assumption) ?_
      try simp only [Act.put, List.setIfInBounds_toArray, List.set_cons_zero, List.set_cons_succ]
      refine wpAnyH_take (i := 8) (oi := { dst := some 25, op := Op.binOp BinOp.neq 31 (Operand.tmp 20) (Operand.tmp 24) 31, type := 4, pos := "law.go:58", after := #[{ on := 3, ground := Ground.data }, { on := 7, ground := Ground.data }], guard := none }) (v := ?_) rfl (by kernel_rfl) (by kernel_rfl) (by kernel_rfl) (fun _ _ _ h => h) (Or.inl ⟨by rfl, ?_⟩) (by assumption) ?_
      rotate_left
      · intro w hSw; (try dsimp only at hSw); go_simp; (try with_reducible rfl)
      try simp only [Act.put, List.setIfInBounds_toArray, List.set_cons_zero, List.set_cons_succ]
      refine wpAnyH_done (by kernel_rfl) ?_ _
      rw [unhide HD]
      go_wp2_with fail
      go_roundg (N - (i + 1))
      case measure => omega
      case rel => exact ⟨i + 1, n + 1, by go_num, by omega, by omega, rfl⟩
    · obtain rfl : i = N := by omega
      go_wp2_with fail
      go_ret
      exact ⟨rfl, n, rfl⟩
set_option maxHeartbeats 1000000 in
theorem sameTexts_yes {w : World} {u v : Value} {fs : List (List Value)} (hl : fs.length ≤ 8796093021952) (h : Rws 9 1 w u fs) (k : Rws 9 1 w v fs) :
    Calls Try.prog 27 #[u, v] w fun e w' => e = .returned (.bool true) ∧ ∃ n, w' = w.drewN n := by
  obtain ⟨a, c, rfl⟩ := h.form
  obtain ⟨a2, c2, rfl⟩ := k.form
  have HP := hide (show ∀ i (hi : i < fs.length), ∃ b o, a = some ⟨b, o, none⟩ ∧ b < w.heap.size ∧ isT 9 1 fs[i] ∧ w.rangeAt b (o + i * 1) fs[i] from fun i hi => h.at hi)
  have HR := hide (show ∀ i (hi : i < fs.length), ∃ b o, a2 = some ⟨b, o, none⟩ ∧ b < w.heap.size ∧ isT 9 1 fs[i] ∧ w.rangeAt b (o + i * 1) fs[i] from fun i hi => k.at hi)
  obtain ⟨N, hN⟩ : ∃ N, N = fs.length := ⟨_, rfl⟩
  have HN := hide hN
  rw [← hN] at hl ⊢
  clear h k hN
  go_enter Try.func27, Try.ntmps27
  go_wp2_with fail
  go_loopg [5] N (fun gq iv wr => ∃ i n : Nat, iv = .int .i64 i ∧ i ≤ N ∧ N - i ≤ gq ∧ wr = w.drewN n)
  case atStart => exact ⟨0, 0, by go_num, by omega, by omega, rfl⟩
  case round =>
    obtain ⟨i, n, rfl, hi, hg, rfl⟩ := hrel
    by_cases hlt : i < N
    · have hin : (i : Int) < (N : Int) := by omega
      have hil : i < fs.length := by have := unhide HN; omega
      obtain ⟨g, o, rfl, hgl, hok, c0⟩ := unhide HP i hil
      obtain ⟨g2, o2, rfl, hgl2, _, d0⟩ := unhide HR i hil
      obtain ⟨s, hs⟩ := hok.str
      rw [hs] at c0 d0
      have c1 : w.cell? ⟨g, o + i, none⟩ = some (.string s) := by have := c0 0 _ rfl; rwa [Nat.mul_one] at this
      have d1 : w.cell? ⟨g2, o2 + i, none⟩ = some (.string s) := by have := d0 0 _ rfl; rwa [Nat.mul_one] at this
      have h0 : (ByteArray.toList s == ByteArray.toList s) = true := bx_eq _
      clear HP HR c0 d0 hs hok
      go_wp2_with fail
      go_quiet (fail)
      go_wp2
      go_roundg (N - (i + 1))
      case measure => omega
      case rel => exact ⟨i + 1, _, by go_num, by omega, by omega, rfl⟩
    · obtain rfl : i = N := by omega
      go_wp2_with fail
      go_ret
      exact ⟨rfl, n, rfl⟩
set_option maxHeartbeats 1000000 in
theorem sameClauses_yes {w : World} {u v : Value} {L : List (List (List Value))} (hl : L.length ≤ 5864062014634) (hr : ∀ l ∈ L, l.length ≤ 3518437208780) (h : Cls w u L) (k : Cls w v L) :
    Calls Try.prog 25 #[u, v] w fun e w' => e = .returned (.bool true) ∧ ∃ n, w' = w.drewN n := by
  obtain ⟨a, c, rfl⟩ := h.form
  obtain ⟨a2, c2, rfl⟩ := k.form
  have HP := hide (show ∀ i (hi : i < L.length), ∃ b o xa xc b2 o2 ya yc, a = some ⟨b, o, none⟩ ∧ a2 = some ⟨b2, o2, none⟩ ∧ w.cell? ⟨b, o + i, none⟩ = some (.slice xa (L[i]).length xc) ∧ w.cell? ⟨b2, o2 + i, none⟩ = some (.slice ya (L[i]).length yc) ∧ ∀ n, Calls Try.prog 26 #[.slice xa (L[i]).length xc, .slice ya (L[i]).length yc] (w.drewN n) fun e w' => e = .returned (.bool true) ∧ ∃ k, w' = (w.drewN n).drewN k from fun i hi => by
    obtain ⟨b, o, xa, xc, e1, _, h1, h2⟩ := h.at hi
    obtain ⟨b2, o2, ya, yc, e2, _, k1, k2⟩ := k.at hi
    exact ⟨b, o, xa, xc, b2, o2, ya, yc, e1, e2, h1, k1, fun n => sameAtoms_yes (Nat.le_trans (hr _ (List.getElem_mem hi)) (by decide)) (h2.later (bl_drewN w n)) (k2.later (bl_drewN w n))⟩)
  obtain ⟨N, hN⟩ : ∃ N, N = L.length := ⟨_, rfl⟩
  have HN := hide hN
  rw [← hN] at hl ⊢
  clear h k hN hr
  go_enter Try.func25, Try.ntmps25
  go_wp2_with fail
  go_loopg [5] N (fun gq iv wr => ∃ i : Nat, iv = .int .i64 i ∧ i ≤ N ∧ N - i ≤ gq ∧ Hid (∃ n, wr = w.drewN n))
  case atStart => exact ⟨0, by go_num, by omega, by omega, hide ⟨0, rfl⟩⟩
  case round =>
    obtain ⟨i, rfl, hi, hg, HW⟩ := hrel
    by_cases hlt : i < N
    · have hin : (i : Int) < (N : Int) := by omega
      have hil : i < L.length := by have := unhide HN; omega
      obtain ⟨g, o, xa, xc, g2, o2, ya, yc, rfl, rfl, c0, d0, hc⟩ := unhide HP i hil
      generalize (L[i]).length = M at *
      have HC := hide (show ∀ t, Calls Try.prog 26 #[.slice xa M xc, .slice ya M yc] (wr.drewN t) fun e w' => e = .returned (.bool true) ∧ ∃ k, w' = (wr.drewN t).drewN k from fun t => by
        obtain ⟨n, rfl⟩ := unhide HW
        rw [World.drewN_drewN]
        exact hc _)
      have HZ := hide (show ∀ t, ∃ n, wr.drewN t = w.drewN n from fun t => by
        obtain ⟨n, rfl⟩ := unhide HW
        exact ⟨_, World.drewN_drewN _ _ _⟩)
      have c0' : wr.cell? ⟨g, o + i, none⟩ = some (.slice xa M xc) := by obtain ⟨n, rfl⟩ := unhide HW; exact c0
      have d0' : wr.cell? ⟨g2, o2 + i, none⟩ = some (.slice ya M yc) := by obtain ⟨n, rfl⟩ := unhide HW; exact d0
      clear HP hc c0 d0
      go_wp2_with fail
      go_quiet (first | (go_at_call 26; refine (unhide HC _).mono ?_; rintro e w'' ⟨rfl, t, rfl⟩; exact ⟨rfl, _, by rw [World.drewN_drewN]⟩))
      go_wp2
      go_roundg (N - (i + 1))
      case measure => omega
      case rel => exact ⟨i + 1, by go_num, by omega, by omega, hide (unhide HZ _)⟩
    · obtain rfl : i = N := by omega
      go_wp2_with fail
      go_ret
      exact ⟨rfl, unhide HW⟩
end Go.Proofs.Ytodlmbhlinpoeaa
