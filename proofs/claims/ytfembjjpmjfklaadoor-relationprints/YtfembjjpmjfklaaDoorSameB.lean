import Derived.Test.YtfembjjpmjfklaaDoorRelX
import Derived.Deep.RegionWith
import Derived.Deep.RegionHeld3
import Derived.Sort.BigQuietIn
namespace Go.Proofs.YtfembjjpmjfklaaDoor
open Go.RowKit

theorem bl_drewN (w : World) (n : Nat) : Below w.heap.size w (w.drewN n) := (Below.refl _ w).trans ⟨rfl, rfl, rfl, Nat.le_refl _, fun _ _ => rfl⟩

set_option maxHeartbeats 2000000 in
theorem sameNamesB (pl : List ByteArray) (v u : Value) (w : World) (h1 : Sts w v pl) (h2 : Sts w u pl) :
    Calls Tryd.prog 21 #[v, u] w fun e w' => e = .returned (.bool true) ∧ Below w.heap.size w w' := by
  obtain ⟨va, vc, rfl, hbig, hv⟩ := h1
  obtain ⟨ua, uc, rfl, -, hu⟩ := h2
  have HV : Hid (∀ i (h : i < pl.length), ∃ b o, va = some ⟨b, o, none⟩ ∧ b < w.heap.size ∧ w.cell? ⟨b, o + i, none⟩ = some (.string pl[i])) := hv
  have HU : Hid (∀ i (h : i < pl.length), ∃ b o, ua = some ⟨b, o, none⟩ ∧ b < w.heap.size ∧ w.cell? ⟨b, o + i, none⟩ = some (.string pl[i])) := hu
  clear hv hu
  go_enter Tryd.func21, Tryd.ntmps21
  go_wp2_with fail
  go_loopw [5] (fun i wr => ∃ k n : Nat, k ≤ pl.length ∧ i = .int .i64 k ∧ wr = w.drewN n) (fun i _ => pl.length - (intOf i).toNat)
  case atStart => exact ⟨0, 0, Nat.zero_le _, rfl, rfl⟩
  case round =>
    obtain ⟨k, n, hk, rfl, rfl⟩ := hrel
    by_cases hlt : k < pl.length
    · obtain ⟨g, o, rfl, hg, hc⟩ := HV.out k hlt
      obtain ⟨g2, o2, rfl, hg2, hc2⟩ := HU.out k hlt
      generalize pl[k] = q at *
      clear HV HU
      go_wp2_with fail
      go_quiet (fail)
      go_wp2
      go_roundw
      case rel => exact ⟨k + 1, _, by omega, by go_num, rfl⟩
      case measure => simp [intOf]; omega
    · go_wp2
      go_ret
      exact ⟨rfl, bl_drewN _ _⟩


theorem amV_neq (n : ByteArray) (op : Int) (v : ByteArray) (w : World) :
    (binOp .neq 34 (.agg #[.string n, .int .i64 op, .string v]) (.agg #[.string n, .int .i64 op, .string v])).run Tryd.prog w = .ok (.bool false) w := by
  go_simp

set_option maxHeartbeats 2000000 in
theorem sameClauseB (al : List Am) (v u : Value) (w : World) (h1 : Ams w v al) (h2 : Ams w u al) :
    Calls Tryd.prog 26 #[v, u] w fun e w' => e = .returned (.bool true) ∧ Below w.heap.size w w' := by
  obtain ⟨va, vc, rfl, hbig, hv⟩ := h1
  obtain ⟨ua, uc, rfl, -, hu⟩ := h2
  have HV : Hid (∀ i (h : i < al.length), ∃ b o, va = some ⟨b, o, none⟩ ∧ b < w.heap.size ∧ w.cell? ⟨b, o + i * 3, none⟩ = some (.string al[i].n) ∧ w.cell? ⟨b, o + i * 3 + 1, none⟩ = some (.int .i64 al[i].op) ∧ w.cell? ⟨b, o + i * 3 + 2, none⟩ = some (.string al[i].v)) := hv
  have HU : Hid (∀ i (h : i < al.length), ∃ b o, ua = some ⟨b, o, none⟩ ∧ b < w.heap.size ∧ w.cell? ⟨b, o + i * 3, none⟩ = some (.string al[i].n) ∧ w.cell? ⟨b, o + i * 3 + 1, none⟩ = some (.int .i64 al[i].op) ∧ w.cell? ⟨b, o + i * 3 + 2, none⟩ = some (.string al[i].v)) := hu
  clear hv hu
  go_enter Tryd.func26, Tryd.ntmps26
  go_wp2_with fail
  go_loopw [5] (fun i wr => ∃ k n : Nat, k ≤ al.length ∧ i = .int .i64 k ∧ wr = w.drewN n) (fun i _ => al.length - (intOf i).toNat)
  case atStart => exact ⟨0, 0, Nat.zero_le _, rfl, rfl⟩
  case round =>
    obtain ⟨k, n, hk, rfl, rfl⟩ := hrel
    by_cases hlt : k < al.length
    · obtain ⟨g, o, rfl, hg, hc0, hc1, hc2⟩ := HV.out k hlt
      obtain ⟨g2, o2, rfl, hg2, he0, he1, he2⟩ := HU.out k hlt
      generalize al[k].n = q0 at *
      generalize al[k].op = q1 at *
      generalize al[k].v = q2 at *
      clear HV HU
      have ce := amV_neq q0 q1 q2
      go_wp2_with fail
      go_quiet (fail)
      go_wp2
      go_roundw
      case rel => exact ⟨k + 1, _, by omega, by go_num, rfl⟩
      case measure => simp [intOf]; omega
    · go_wp2
      go_ret
      exact ⟨rfl, bl_drewN _ _⟩

set_option maxHeartbeats 2000000 in
theorem sameAtomsB (al : List Am) (v u : Value) (w : World) (h1 : Ams w v al) (h2 : Ams w u al) :
    Calls Tryd.prog 20 #[v, u] w fun e w' => e = .returned (.bool true) ∧ Below w.heap.size w w' := by
  obtain ⟨va, vc, rfl, hbig, hv⟩ := h1
  obtain ⟨ua, uc, rfl, -, hu⟩ := h2
  have HV : Hid (∀ i (h : i < al.length), ∃ b o, va = some ⟨b, o, none⟩ ∧ b < w.heap.size ∧ w.cell? ⟨b, o + i * 3, none⟩ = some (.string al[i].n) ∧ w.cell? ⟨b, o + i * 3 + 1, none⟩ = some (.int .i64 al[i].op) ∧ w.cell? ⟨b, o + i * 3 + 2, none⟩ = some (.string al[i].v)) := hv
  have HU : Hid (∀ i (h : i < al.length), ∃ b o, ua = some ⟨b, o, none⟩ ∧ b < w.heap.size ∧ w.cell? ⟨b, o + i * 3, none⟩ = some (.string al[i].n) ∧ w.cell? ⟨b, o + i * 3 + 1, none⟩ = some (.int .i64 al[i].op) ∧ w.cell? ⟨b, o + i * 3 + 2, none⟩ = some (.string al[i].v)) := hu
  clear hv hu
  go_enter Tryd.func20, Tryd.ntmps20
  go_wp2_with fail
  go_loopw [5] (fun i wr => ∃ k n : Nat, k ≤ al.length ∧ i = .int .i64 k ∧ wr = w.drewN n) (fun i _ => al.length - (intOf i).toNat)
  case atStart => exact ⟨0, 0, Nat.zero_le _, rfl, rfl⟩
  case round =>
    obtain ⟨k, n, hk, rfl, rfl⟩ := hrel
    by_cases hlt : k < al.length
    · obtain ⟨g, o, rfl, hg, hc0, hc1, hc2⟩ := HV.out k hlt
      obtain ⟨g2, o2, rfl, hg2, he0, he1, he2⟩ := HU.out k hlt
      generalize al[k].n = q0 at *
      generalize al[k].op = q1 at *
      generalize al[k].v = q2 at *
      clear HV HU
      have ce := amV_neq q0 q1 q2
      go_wp2_with fail
      go_quiet (fail)
      go_wp2
      go_roundw
      case rel => exact ⟨k + 1, _, by omega, by go_num, rfl⟩
      case measure => simp [intOf]; omega
    · go_wp2
      go_ret
      exact ⟨rfl, bl_drewN _ _⟩


theorem keepF {w0 W W' : World} {b1 b2 o1 o2 : Nat} {v1 v2 : Value} (hb : Below W.heap.size W W') (h1 : W.cell? ⟨b1, o1, none⟩ = some v1) (h2 : W.cell? ⟨b2, o2, none⟩ = some v2)
    (g1 : b1 < W.heap.size) (g2 : b2 < W.heap.size) (hB : Below w0.heap.size w0 W) :
    W'.cell? ⟨b1, o1, none⟩ = some v1 ∧ W'.cell? ⟨b2, o2, none⟩ = some v2 ∧ b1 < W'.heap.size ∧ b2 < W'.heap.size ∧ Below w0.heap.size w0 W' :=
  ⟨(hb.cell (p := ⟨b1, o1, none⟩) g1).trans h1, (hb.cell (p := ⟨b2, o2, none⟩) g2).trans h2, Nat.lt_of_lt_of_le g1 hb.size, Nat.lt_of_lt_of_le g2 hb.size, hB.trans (hb.mono hB.size)⟩

set_option maxHeartbeats 4000000 in
theorem sameFieldB (cl : List (List Am)) (v u : Value) (w : World) (h1 : Cls w v cl) (h2 : Cls w u cl) :
    Calls Tryd.prog 12 #[v, u] w fun e w' => e = .returned (.bool true) ∧ Below w.heap.size w w' := by
  have H1 := hide h1
  have H2 := hide h2
  obtain ⟨va, vc, rfl, hbig, -⟩ := h1
  obtain ⟨ua, uc, rfl, -, -⟩ := h2
  go_enter Tryd.func12, Tryd.ntmps12
  go_wp2_with fail
  go_loopw [5, 6] (fun i _ wr => ∃ k : Nat, k ≤ cl.length ∧ i = .int .i64 k ∧ Hid (Below w.heap.size w wr)) (fun i _ _ => cl.length - (intOf i).toNat)
  case atStart => exact ⟨0, Nat.zero_le _, rfl, hide (Below.refl _ _)⟩
  case round =>
    obtain ⟨k, hk, rfl, HB⟩ := hrel
    by_cases hlt : k < cl.length
    · have B0 := unhide HB
      obtain ⟨b1, o1, x, rfl, g1, k1, a1⟩ := ((unhide H1).later B0).elem k hlt
      obtain ⟨b2, o2, y, rfl, g2, k2, a2⟩ := ((unhide H2).later B0).elem k hlt
      have kC := hide (fun (w' : World) (hb : Below wr.heap.size wr w') => sameClauseB cl[k] x y w' (a1.later hb) (a2.later hb))
      obtain ⟨xa, xc, rfl, -⟩ := a1
      obtain ⟨ya, yc, rfl, -⟩ := a2
      generalize cl[k].length = m at *
      have hBB : Below wr.heap.size wr wr.drew := (Below.refl _ wr).drew
      go_wp2_with fail
      go_region_held3 (fun w' => w'.cell? ⟨b1, o1 + k, none⟩ = some (.slice xa m xc) ∧ w'.cell? ⟨b2, o2 + k, none⟩ = some (.slice ya m yc) ∧ b1 < w'.heap.size ∧ b2 < w'.heap.size ∧ Below wr.heap.size wr w') (first | go_keep | (go_split_ands; exact keepF (by assumption) (by assumption) (by assumption) (by assumption) (by assumption) (by assumption)))
        (first | (go_at_call 26; refine (unhide kC _ (by go_split_ands; assumption)).mono ?_; rintro x w5 ⟨rfl, hb5⟩))
      all_goals
        go_split_ands
        have HB9 := hide (bl_t B0 (show Below wr.heap.size wr _ by assumption))
        go_wp2_with fail
        go_roundw
        case rel => exact ⟨k + 1, by omega, by go_num, HB9⟩
        case measure => simp [intOf]; omega
    · go_wp2
      go_ret
      exact ⟨rfl, unhide HB⟩

end Go.Proofs.YtfembjjpmjfklaaDoor
