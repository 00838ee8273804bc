import Derived.Test.YtmckmeoondlcpaaDoorProv
namespace Go.Proofs.YtmckmeoondlcpaaDoor
open Go.RowKit

/-- THE CELLS OF A PACKAGE: NAME, VERSION, PROVIDES. -/
structure Pkg (cs : List Value) (nm vr : ByteArray) (pv : Value) : Prop where
  len : cs.length = 43
  n : cs[0]? = some (.string nm)
  v : cs[1]? = some (.string vr)
  p : cs[6]? = some pv

theorem pkgNew (w : World) (cs : List Value) (t : TypeId) : ∃ W, w.alloc (.cells cs.toArray t) = W ∧ (∀ i v, cs[i]? = some v → W.cell? ⟨w.heap.size, i, none⟩ = some v) ∧ w.heap.size < W.heap.size ∧ Below w.heap.size w W := by
  refine ⟨_, rfl, fun i v h => ?_, by simp, (Below.refl w.heap.size w).alloc (Nat.le_refl _) _⟩
  rw [World.cell?_alloc_new]
  simpa using h

set_option maxHeartbeats 1000000 in
theorem rProvides_any (cs : List Value) (nm vr : ByteArray) (pv : Value) (pl : List ByteArray) (x : ByteArray) (w : World) (hp : Pkg cs nm vr pv) (h : Strs w pv pl) :
    Calls Tryd.prog 20 #[.agg cs.toArray, .string x] w fun e w' => e = .returned (.bool (Lib.containsS pl x)) ∧ Below w.heap.size w w' := by
  obtain ⟨W, hW, hcells, hq, hB⟩ := pkgNew w cs 38
  have k6 := hcells 6 pv hp.p
  obtain ⟨a, c, rfl, hbig, hcell⟩ := h.later hB
  have HC : Hid (∀ i (h : i < pl.length), ∃ b o, a = some ⟨b, o, none⟩ ∧ b < W.heap.size ∧ W.cell? ⟨b, o + i, none⟩ = some (.string pl[i])) := hcell
  have HB : Hid (Below w.heap.size w W) := hB
  clear hcell hcells hp hB h
  go_enter Tryd.func20, Tryd.ntmps20
  go_wp2
  try rw [hW]
  clear hW
  go_loop [5] (fun i => ∃ k : Nat, k ≤ pl.length ∧ i = .int .i64 k ∧ ∀ j (hj : j < pl.length), j < k → pl[j] ≠ x) (fun i => pl.length - (intOf i).toNat)
  case atStart => exact ⟨0, Nat.zero_le _, rfl, fun j hj h => absurd h (Nat.not_lt_zero _)⟩
  case round =>
    obtain ⟨k, hk, rfl, hall⟩ := hrel
    have HA : Hid (∀ j (hj : j < pl.length), j < k → pl[j] ≠ x) := hall
    clear hall
    by_cases hlt : k < pl.length
    · obtain ⟨b, o, rfl, hbw, hcb⟩ := HC.out k hlt
      have HE : Hid ((pl[k].toList == x.toList) = true ↔ pl[k] = x) := ba_beq
      generalize hq : pl[k] = q at *
      have HQ : Hid (pl[k] = q) := hq
      clear hq
      cases hc : (q.toList == x.toList)
      · have HN : Hid (q ≠ x) := fun e => by have := HE.out.2 e; rw [hc] at this; cases this
        go_wp2
        go_round
        case rel =>
          refine ⟨k + 1, by omega, by go_num, fun j hj h => ?_⟩
          by_cases e : j = k
          · subst e; rw [HQ.out]; exact HN.out
          · exact HA.out j hj (by omega)
        case measure => simp [intOf]; omega
      · have HY : Hid (q = x) := HE.out.1 hc
        go_wp2
        go_ret
        exact ⟨by rw [containsS_hit pl x k hlt (HQ.out.trans HY.out)]; rfl, HB.out⟩
    · go_wp2
      go_ret
      exact ⟨by rw [containsS_miss pl x fun j hj => HA.out j hj (by omega)]; rfl, HB.out⟩

end Go.Proofs.YtmckmeoondlcpaaDoor
