import Derived.Test.YtfembjjpmjfklaaDoorSame2
import Derived.Laws.IdiomCopy
import Derived.OwnWalk
import Derived.Deep.RegionHeld3
namespace Go.Proofs.YtfembjjpmjfklaaDoor
open Go.RowKit

theorem info34 : (Tryd.prog.info? 34).map (fun i => (i.zero, i.size, i.bytes)) = some (some (.agg #[.string ⟨#[]⟩, .int .i64 0, .string ⟨#[]⟩]), 3, 40) := by kernel_rfl
theorem info52 : (Tryd.prog.info? 52).map (fun i => (i.zero, i.size, i.bytes)) = some (some (.slice none 0 0), 1, 24) := by kernel_rfl
theorem info9 : (Tryd.prog.info? 9).map (fun i => (i.zero, i.size, i.bytes)) = some (some (.string ⟨#[]⟩), 1, 16) := by kernel_rfl

/-- copy, OF ELEMENTS OF k CELLS: ALL IS READ BEFORE ANYTHING IS WRITTEN. -/
theorem run_copy_many {P : Program} (w : World) (dT sT ty elem : TypeId) (k b o dLen dCap : Nat) (a : Addr) (sLen sCap : Nat) (cs : List Value)
    (hu : P.underlying dT = some (.slice elem)) (hs : (P.info? elem).map (·.size) = some k) (hn : cs.length = Nat.min sLen dLen * k)
    (hsrc : ∀ j v, cs[j]? = some v → w.cell? (a.add j) = some v) (hc : ∀ j, j < cs.length → (w.cell? ⟨b, o + j, none⟩).isSome = true) (hf : ∀ j, j < cs.length → w.frozen? ⟨b, o + j, none⟩ = false) (h1 : ∀ v ∈ cs, v.oneCell' = true) :
    (Builtin.copy_ #[dT, sT] ty #[.slice (some ⟨b, o, none⟩) dLen dCap, .slice (some a) sLen sCap]).run P w = .ok (goInt (Nat.min sLen dLen)) (w.setCells b o cs) := by
  have hl := run_loadCells_list (P := P) w a cs hsrc
  have hst := run_storeCells_cells (P := P) b o cs 0 w (by simpa using hc) (by simpa using hf) h1
  cases hq : P.info? elem with
  | none => simp [hq] at hs
  | some i =>
    have hi : i.size = k := by simpa [hq] using hs
    simp [Builtin.copy_, run_underlying hu, Builtin.lenOf, Builtin.firstCells, sizeOf, typeInfo, hq, hi, ← hn, hl, hst]

/-- A SLICE OF ONE. -/
def One (w : World) (v x : Value) : Prop := ∃ b o c, v = .slice (some ⟨b, o, none⟩) 1 c ∧ b < w.heap.size ∧ w.cell? ⟨b, o, none⟩ = some x
theorem One.later {w w' : World} {v x : Value} (h : One w v x) (hb : Below w.heap.size w w') : One w' v x := by
  obtain ⟨b, o, c, h1, h2, h3⟩ := h
  exact ⟨b, o, c, h1, Nat.lt_of_lt_of_le h2 hb.size, (hb.cell (p := ⟨b, o, none⟩) h2).trans h3⟩

theorem keepO {w0 W W' : World} {b1 b2 o1 o2 : Nat} {v1 v2 : Value} (hb : Below W.heap.size W W') (h1 : W.cell? ⟨b1, o1, none⟩ = some v1) (h2 : W.cell? ⟨b2, o2, none⟩ = some v2)
    (g1 : b1 < W.heap.size) (g2 : b2 < W.heap.size) (hB : Below w0.heap.size w0 W) :
    W'.cell? ⟨b1, o1, none⟩ = some v1 ∧ W'.cell? ⟨b2, o2, none⟩ = some v2 ∧ b1 < W'.heap.size ∧ b2 < W'.heap.size ∧ Below w0.heap.size w0 W' :=
  ⟨(hb.cell (p := ⟨b1, o1, none⟩) g1).trans h1, (hb.cell (p := ⟨b2, o2, none⟩) g2).trans h2, Nat.lt_of_lt_of_le g1 hb.size, Nat.lt_of_lt_of_le g2 hb.size, hB.trans (hb.mono hB.size)⟩

set_option maxHeartbeats 4000000 in
theorem sameField_one (al : List At) (v u x y : Value) (w : World) (h1 : One w v x) (h2 : One w u y) (a1 : Ats w x al) (a2 : Ats w y al) :
    Calls Tryd.prog 12 #[v, u] w fun e w' => e = .returned (.bool true) ∧ Below w.heap.size w w' := by
  have kC := hide (fun (w' : World) (hb : Below w.heap.size w w') => sameClause_any al x y w' (a1.later hb) (a2.later hb))
  obtain ⟨b1, o1, c1, rfl, g1, k1⟩ := h1
  obtain ⟨b2, o2, c2, rfl, g2, k2⟩ := h2
  obtain ⟨xa, xc, rfl, hxb, -⟩ := a1
  obtain ⟨ya, yc, rfl, -, -⟩ := a2
  have K := hide (And.intro k1 (And.intro k2 (And.intro g1 g2)))
  clear k1 k2 g1 g2
  go_enter Tryd.func12, Tryd.ntmps12
  go_wp2_with fail
  go_loopw [5, 6] (fun i _ wr => ∃ k : Nat, k ≤ 1 ∧ i = .int .i64 k ∧ Hid (Below w.heap.size w wr)) (fun i _ _ => 1 - (intOf i).toNat)
  case atStart => exact ⟨0, Nat.zero_le _, rfl, hide (Below.refl _ _)⟩
  case round =>
    obtain ⟨k, hk, rfl, HB⟩ := hrel
    by_cases hlt : k < 1
    · obtain rfl : k = 0 := by omega
      have B0 := unhide HB
      have k1 := (B0.cell (p := ⟨b1, o1, none⟩) (unhide K).2.2.1).trans (unhide K).1
      have k2 := (B0.cell (p := ⟨b2, o2, none⟩) (unhide K).2.2.2).trans (unhide K).2.1
      have g1 := Nat.lt_of_lt_of_le (unhide K).2.2.1 B0.size
      have g2 := Nat.lt_of_lt_of_le (unhide K).2.2.2 B0.size
      have hBB : Below w.heap.size w wr.drew := B0.drew
      go_wp2_with fail
      go_region_held3 (fun w' => w'.cell? ⟨b1, o1, none⟩ = some (.slice xa al.length xc) ∧ w'.cell? ⟨b2, o2, none⟩ = some (.slice ya al.length yc) ∧ b1 < w'.heap.size ∧ b2 < w'.heap.size ∧ Below w.heap.size w w') (first | go_keep | (go_split_ands; exact keepO (by assumption) (by assumption) (by assumption) (by assumption) (by assumption) (by assumption)))
        (first | (go_at_call 26; refine (unhide kC _ (by go_split_ands; assumption)).mono ?_; rintro x w5 ⟨rfl, hb5⟩))
      all_goals
        go_split_ands
        have HB9 := hide (show Below w.heap.size w _ by assumption)
        go_wp2_with fail
        go_roundw
        case rel => exact ⟨1, Nat.le_refl _, by go_num, HB9⟩
        case measure => simp [intOf]
    · go_wp2
      go_ret
      exact ⟨rfl, unhide HB⟩

end Go.Proofs.YtfembjjpmjfklaaDoor
