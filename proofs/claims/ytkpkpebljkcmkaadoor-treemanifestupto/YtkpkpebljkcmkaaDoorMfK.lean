import Derived.Test.YtkpkpebljkcmkaaDoorMfJ
import Derived.Test.YtkpkpebljkcmkaaDoorGnK
namespace Go.Proofs.YtkpkpebljkcmkaaDoor
open Go.RowKit

/-- A FILE OF A PATH ALONE. -/
def mkF (p : Nm) : List Value := .string p :: .int .i64 0 :: List.replicate 32 (.int .u8 0)
theorem mkF_len (p : Nm) : (mkF p).length = 34 := by simp [mkF]
theorem mkF_pth (p : Nm) : pth (mkF p) = p := rfl
theorem builtF (p : Nm) : Tryd.prog.built 40 [(0, .string p)] = some (mkF p).toArray := by kernel_rfl
theorem lits9 {p : Nm} (hp : p.size ≤ maxLen) : Tryd.prog.keyLits 5 9 [.string p] = some [.string p.data.toList] := by
  unfold Program.keyLits
  rw [Tryd.underlying9]
  simp only
  rw [if_pos hp]
set_option maxRecDepth 100000 in
theorem isT_mk {p : Nm} (hp : p.size ≤ maxLen) : isT 40 34 (mkF p) := by
  refine ⟨mkF_len p, ?_, fun v hv => ?_⟩
  · have e3 : ∃ x, Tryd.prog.keyLits 5 3 [.int .i64 0] = some x := Option.isSome_iff_exists.1 (by decide +kernel)
    have eU : ∃ x, Tryd.prog.keyLits 5 38 (List.replicate 32 (.int .u8 0)) = some x := Option.isSome_iff_exists.1 (by decide +kernel)
    unfold Program.keyLits
    rw [Tryd.underlying40]
    simp only
    rw [if_pos ⟨by rw [mkF_len, cellsF], by decide +kernel⟩]
    obtain ⟨ls, h⟩ := (mapM_all (fun f : Field => Tryd.prog.keyLits 5 f.type (((mkF p).drop f.offset).take (Tryd.prog.cellsOf f.type))) [{ name := "Path", type := 9, offset := 0, embedded := false, tag := "", pkgPath := "", byteOffset := 0 }, { name := "Size", type := 3, offset := 1, embedded := false, tag := "", pkgPath := "", byteOffset := 16 }, { name := "Sum", type := 38, offset := 2, embedded := false, tag := "", pkgPath := "", byteOffset := 24 }]).2 fun x hx => by
      simp only [List.mem_cons, List.not_mem_nil, or_false] at hx
      rcases hx with rfl | rfl | rfl
      · refine ⟨[.string p.data.toList], ?_⟩
        show Tryd.prog.keyLits 5 9 (((mkF p).drop 0).take (Tryd.prog.cellsOf 9)) = _
        rw [cells9]
        exact lits9 hp
      · obtain ⟨x, hx⟩ := e3
        refine ⟨x, ?_⟩
        show Tryd.prog.keyLits 5 3 (((mkF p).drop 1).take (Tryd.prog.cellsOf 3)) = _
        rw [show Tryd.prog.cellsOf 3 = 1 by kernel_rfl]
        exact hx
      · obtain ⟨x, hx⟩ := eU
        refine ⟨x, ?_⟩
        show Tryd.prog.keyLits 5 38 (((mkF p).drop 2).take (Tryd.prog.cellsOf 38)) = _
        rw [cellsU]
        exact hx
    exact ⟨_, by rw [h]; rfl⟩
  · unfold mkF at hv
    simp only [List.mem_cons, List.mem_replicate] at hv
    rcases hv with rfl | rfl | ⟨_, rfl⟩ <;> rfl
set_option maxRecDepth 100000 in
theorem has_any {w : World} {v : Value} {l : List (List Value)} {p : Nm} (h : Rws 40 34 w v l) (hl : l.length ≤ 1048576) (hu : Up l) (hp : p.size ≤ maxLen) :
    Calls Tryd.prog 21 #[v, .string p] w fun e w' => ∃ b : Bool, e = .returned (.bool b) ∧ (b = true ↔ ∃ x ∈ l, pth x = p) ∧ Below w.heap.size w w' := by
  obtain ⟨a, c, rfl⟩ := h.form
  have HC := hide (search_any h hl hu (isT_mk hp))
  rw [mkF_pth] at HC
  have HBF := hide (builtF p)
  clear h
  go_enter Tryd.func21, Tryd.ntmps21
  go_wp2_with (first
    | ((with_reducible refine g_build _ rfl rfl (mkF p) ?hb ?_); (case hb => exact unhide HBF))
    | (go_at_call_of 32 (Value.slice a l.length c); refine (unhide HC).mono ?_; rintro e w1 ⟨⟨i, b, rfl, hb⟩, hbe⟩; have HB := hide (And.intro hb hbe); clear hb hbe))
  go_ret
  exact ⟨_, rfl, unhide HB⟩
end Go.Proofs.YtkpkpebljkcmkaaDoor
