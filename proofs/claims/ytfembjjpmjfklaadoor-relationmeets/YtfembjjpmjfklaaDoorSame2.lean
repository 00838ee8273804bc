import Derived.Test.YtfembjjpmjfklaaDoorMeet
import Derived.Deep.RegionWith
import Derived.Sort.BigQuietIn
namespace Go.Proofs.YtfembjjpmjfklaaDoor
open Go.RowKit

theorem bl_drewN (w : World) (n : Nat) : Below w.heap.size w (w.drewN n) := (Below.refl _ w).trans ⟨rfl, rfl, rfl, Nat.le_refl _, fun _ _ => rfl⟩

set_option maxHeartbeats 2000000 in
theorem sameNames_any (pl : List ByteArray) (v u : Value) (w : World) (h1 : Strs w v pl) (h2 : Strs w u pl) :
    Calls Tryd.prog 21 #[v, u] w fun e w' => e = .returned (.bool true) ∧ Below w.heap.size w w' := by
  obtain ⟨va, vc, rfl, hbig, hv⟩ := h1
  obtain ⟨ua, uc, rfl, -, hu⟩ := h2
  have HV : Hid (∀ i (h : i < pl.length), ∃ b o, va = some ⟨b, o, none⟩ ∧ b < w.heap.size ∧ w.cell? ⟨b, o + i, none⟩ = some (.string pl[i])) := hv
  have HU : Hid (∀ i (h : i < pl.length), ∃ b o, ua = some ⟨b, o, none⟩ ∧ b < w.heap.size ∧ w.cell? ⟨b, o + i, none⟩ = some (.string pl[i])) := hu
  clear hv hu
  go_enter Tryd.func21, Tryd.ntmps21
  go_wp2_with fail
  go_loopw [5] (fun i wr => ∃ k n : Nat, k ≤ pl.length ∧ i = .int .i64 k ∧ wr = w.drewN n) (fun i _ => pl.length - (intOf i).toNat)
  case atStart => exact ⟨0, 0, Nat.zero_le _, rfl, rfl⟩
  case round =>
    obtain ⟨k, n, hk, rfl, rfl⟩ := hrel
    by_cases hlt : k < pl.length
    · obtain ⟨g, o, rfl, hg, hc⟩ := HV.out k hlt
      obtain ⟨g2, o2, rfl, hg2, hc2⟩ := HU.out k hlt
      generalize pl[k] = q at *
      clear HV HU
      go_wp2_with fail
      go_quiet (fail)
      go_wp2
      go_roundw
      case rel => exact ⟨k + 1, _, by omega, by go_num, rfl⟩
      case measure => simp [intOf]; omega
    · go_wp2
      go_ret
      exact ⟨rfl, bl_drewN _ _⟩

/-- A SLICE OF THESE ATOMS. -/
def Ats (w : World) (v : Value) (al : List At) : Prop :=
  ∃ a c, v = .slice a al.length c ∧ al.length ≤ 3074457345618258602 ∧ ∀ i (h : i < al.length), ∃ b o, a = some ⟨b, o, none⟩ ∧ b < w.heap.size ∧ w.cell? ⟨b, o + i * 3, none⟩ = some (.string al[i].n) ∧ w.cell? ⟨b, o + i * 3 + 1, none⟩ = some (.int .i64 al[i].op) ∧ w.cell? ⟨b, o + i * 3 + 2, none⟩ = some (.string al[i].v)

theorem Ats.later {w w' : World} {v : Value} {al : List At} (h : Ats w v al) (hb : Below w.heap.size w w') : Ats w' v al := by
  obtain ⟨a, c, h1, h2, h3⟩ := h
  refine ⟨a, c, h1, h2, fun i hi => ?_⟩
  obtain ⟨b, o, e1, e2, e3, e4, e5⟩ := h3 i hi
  exact ⟨b, o, e1, Nat.lt_of_lt_of_le e2 hb.size, (hb.cell (p := ⟨b, _, none⟩) e2).trans e3, (hb.cell (p := ⟨b, _, none⟩) e2).trans e4, (hb.cell (p := ⟨b, _, none⟩) e2).trans e5⟩

theorem atV_neq (n : ByteArray) (op : Int) (v : ByteArray) (w : World) :
    (binOp .neq 34 (.agg #[.string n, .int .i64 op, .string v]) (.agg #[.string n, .int .i64 op, .string v])).run Tryd.prog w = .ok (.bool false) w := by
  go_simp

set_option maxHeartbeats 2000000 in
theorem sameClause_any (al : List At) (v u : Value) (w : World) (h1 : Ats w v al) (h2 : Ats w u al) :
    Calls Tryd.prog 26 #[v, u] w fun e w' => e = .returned (.bool true) ∧ Below w.heap.size w w' := by
  obtain ⟨va, vc, rfl, hbig, hv⟩ := h1
  obtain ⟨ua, uc, rfl, -, hu⟩ := h2
  have HV : Hid (∀ i (h : i < al.length), ∃ b o, va = some ⟨b, o, none⟩ ∧ b < w.heap.size ∧ w.cell? ⟨b, o + i * 3, none⟩ = some (.string al[i].n) ∧ w.cell? ⟨b, o + i * 3 + 1, none⟩ = some (.int .i64 al[i].op) ∧ w.cell? ⟨b, o + i * 3 + 2, none⟩ = some (.string al[i].v)) := hv
  have HU : Hid (∀ i (h : i < al.length), ∃ b o, ua = some ⟨b, o, none⟩ ∧ b < w.heap.size ∧ w.cell? ⟨b, o + i * 3, none⟩ = some (.string al[i].n) ∧ w.cell? ⟨b, o + i * 3 + 1, none⟩ = some (.int .i64 al[i].op) ∧ w.cell? ⟨b, o + i * 3 + 2, none⟩ = some (.string al[i].v)) := hu
  clear hv hu
  go_enter Tryd.func26, Tryd.ntmps26
  go_wp2_with fail
  go_loopw [5] (fun i wr => ∃ k n : Nat, k ≤ al.length ∧ i = .int .i64 k ∧ wr = w.drewN n) (fun i _ => al.length - (intOf i).toNat)
  case atStart => exact ⟨0, 0, Nat.zero_le _, rfl, rfl⟩
  case round =>
    obtain ⟨k, n, hk, rfl, rfl⟩ := hrel
    by_cases hlt : k < al.length
    · obtain ⟨g, o, rfl, hg, hc0, hc1, hc2⟩ := HV.out k hlt
      obtain ⟨g2, o2, rfl, hg2, he0, he1, he2⟩ := HU.out k hlt
      generalize al[k].n = q0 at *
      generalize al[k].op = q1 at *
      generalize al[k].v = q2 at *
      clear HV HU
      have ce := atV_neq q0 q1 q2
      go_wp2_with fail
      go_quiet (fail)
      go_wp2
      go_roundw
      case rel => exact ⟨k + 1, _, by omega, by go_num, rfl⟩
      case measure => simp [intOf]; omega
    · go_wp2
      go_ret
      exact ⟨rfl, bl_drewN _ _⟩

def atomV (n : ByteArray) (op : Int) (v : ByteArray) : Value := .agg #[.string n, .int .i64 op, .string v]

set_option maxHeartbeats 1000000 in
theorem mark2_any (n : Int) (w : World) :
    Calls Tryd.prog 22 #[.int .i64 n] w fun e w' => e = .returned (.agg #[.string ⟨#[77, 65, 82, 75]⟩, .int .i64 n, .string ⟨#[]⟩]) ∧ Below w.heap.size w w' := by
  go_enter Tryd.func22, Tryd.ntmps22
  go_wp2
  exact bodyPost_ret (v := .agg #[.string ⟨#[77, 65, 82, 75]⟩, .int .i64 n, .string ⟨#[]⟩]) (by simp [results, Tryd.results22, go_sem]) rfl ⟨rfl, (Below.refl _ _).alloc (Nat.le_refl _) _⟩

end Go.Proofs.YtfembjjpmjfklaaDoor
