import Derived.Test.YtmckmeoondlcpaaDoorMeet
import Derived.Deep.RegionWith
import Derived.Sort.BigQuietIn
namespace Go.Proofs.YtmckmeoondlcpaaDoor
open Go.RowKit

theorem bl_drewN (w : World) (n : Nat) : Below w.heap.size w (w.drewN n) := (Below.refl _ w).trans ⟨rfl, rfl, rfl, Nat.le_refl _, fun _ _ => rfl⟩

/-- A SLICE OF THESE ATOMS. -/
def Ats (w : World) (v : Value) (al : List At) : Prop :=
  ∃ a c, v = .slice a al.length c ∧ al.length ≤ 3074457345618258602 ∧ ∀ i (h : i < al.length), ∃ b o, a = some ⟨b, o, none⟩ ∧ b < w.heap.size ∧ w.cell? ⟨b, o + i * 3, none⟩ = some (.string al[i].n) ∧ w.cell? ⟨b, o + i * 3 + 1, none⟩ = some (.int .i64 al[i].op) ∧ w.cell? ⟨b, o + i * 3 + 2, none⟩ = some (.string al[i].v)

theorem Ats.later {w w' : World} {v : Value} {al : List At} (h : Ats w v al) (hb : Below w.heap.size w w') : Ats w' v al := by
  obtain ⟨a, c, h1, h2, h3⟩ := h
  refine ⟨a, c, h1, h2, fun i hi => ?_⟩
  obtain ⟨b, o, e1, e2, e3, e4, e5⟩ := h3 i hi
  exact ⟨b, o, e1, Nat.lt_of_lt_of_le e2 hb.size, (hb.cell (p := ⟨b, _, none⟩) e2).trans e3, (hb.cell (p := ⟨b, _, none⟩) e2).trans e4, (hb.cell (p := ⟨b, _, none⟩) e2).trans e5⟩

theorem atV_neq (n : ByteArray) (op : Int) (v : ByteArray) (w : World) :
    (binOp .neq 33 (.agg #[.string n, .int .i64 op, .string v]) (.agg #[.string n, .int .i64 op, .string v])).run Tryd.prog w = .ok (.bool false) w := by
  go_simp

def atomV (n : ByteArray) (op : Int) (v : ByteArray) : Value := .agg #[.string n, .int .i64 op, .string v]

end Go.Proofs.YtmckmeoondlcpaaDoor
