import Derived.Test.YtmckmeoondlcpaaDoorProg
import Derived.Test.YtmckmeoondlcpaaDoorPlain
import Derived.Below
import Derived.WalkKit
import Derived.WalkSpells
import Derived.WalkLawsBesides
import Derived.Lib.SlicesS
import Derived.Lib.Strings
import Derived.Deep.MidRow
namespace Go.Proofs.YtmckmeoondlcpaaDoor
open Go.RowKit

/-- A SLICE OF THESE TEXTS. -/
def Strs (w : World) (v : Value) (pl : List ByteArray) : Prop :=
  ∃ a c, v = .slice a pl.length c ∧ pl.length ≤ 9223372036854775807 ∧ ∀ i (h : i < pl.length), ∃ b o, a = some ⟨b, o, none⟩ ∧ b < w.heap.size ∧ w.cell? ⟨b, o + i, none⟩ = some (.string pl[i])

theorem Strs.later {w w' : World} {v : Value} {pl : List ByteArray} (h : Strs w v pl) (hb : Below w.heap.size w w') : Strs w' v pl := by
  obtain ⟨a, c, h1, h2, h3⟩ := h
  refine ⟨a, c, h1, h2, fun i hi => ?_⟩
  obtain ⟨b, o, e1, e2, e3⟩ := h3 i hi
  exact ⟨b, o, e1, Nat.lt_of_lt_of_le e2 hb.size, (hb.cell (p := ⟨b, o + i, none⟩) e2).trans e3⟩

theorem containsS_hit (pl : List ByteArray) (x : ByteArray) (k : Nat) (h : k < pl.length) (hx : pl[k] = x) : Lib.containsS pl x = true :=
  (Lib.containsS_iff pl x).2 (hx ▸ List.getElem_mem h)
theorem containsS_miss (pl : List ByteArray) (x : ByteArray) (h : ∀ j (hj : j < pl.length), pl[j] ≠ x) : Lib.containsS pl x = false := by
  cases e : Lib.containsS pl x with
  | false => rfl
  | true =>
    obtain ⟨j, hj, ej⟩ := List.getElem_of_mem ((Lib.containsS_iff pl x).1 e)
    exact absurd ej (h j hj)

theorem ba_beq {a b : ByteArray} : (a.toList == b.toList) = true ↔ a = b := by
  constructor
  · intro h
    have h1 := eq_of_beq h
    rw [Lib.toList_data, Lib.toList_data] at h1
    apply ByteArray.ext
    apply Array.ext'
    exact h1
  · rintro rfl
    simp

set_option maxHeartbeats 1000000 in
theorem Index_any (v : Value) (pl : List ByteArray) (x : ByteArray) (w : World) (h : Strs w v pl) :
    Calls Tryd.prog 22 #[v, .string x] w fun e w' => (∃ n : Int, e = .returned (.int .i64 n) ∧ decide (0 ≤ n) = Lib.containsS pl x) ∧ w' = w := by
  obtain ⟨a, c, rfl, hbig, hcell⟩ := h
  have HC : Hid (∀ i (h : i < pl.length), ∃ b o, a = some ⟨b, o, none⟩ ∧ b < w.heap.size ∧ w.cell? ⟨b, o + i, none⟩ = some (.string pl[i])) := hcell
  clear hcell
  go_enter Tryd.func22, Tryd.ntmps22
  go_wp2
  go_loop [5, 8] (fun _ i => ∃ k : Nat, k ≤ pl.length ∧ i = .int .i64 k ∧ ∀ j (hj : j < pl.length), j < k → pl[j] ≠ x) (fun _ i => pl.length - (intOf i).toNat)
  case atStart => exact ⟨0, Nat.zero_le _, rfl, fun j hj h => absurd h (Nat.not_lt_zero _)⟩
  case round =>
    obtain ⟨k, hk, rfl, hall⟩ := hrel
    have HA : Hid (∀ j (hj : j < pl.length), j < k → pl[j] ≠ x) := hall
    clear hall
    by_cases hlt : k < pl.length
    · obtain ⟨b, o, rfl, hbw, hcb⟩ := HC.out k hlt
      have HE : Hid ((x.toList == pl[k].toList) = true ↔ x = pl[k]) := ba_beq
      generalize hq : pl[k] = q at *
      have HQ : Hid (pl[k] = q) := hq
      clear hq
      cases hc : (x.toList == q.toList)
      · have HN : Hid (q ≠ x) := fun e => by have := HE.out.2 e.symm; rw [hc] at this; cases this
        go_wp2
        go_round
        case rel =>
          refine ⟨k + 1, by omega, by go_num, fun j hj h => ?_⟩
          by_cases e : j = k
          · subst e; rw [HQ.out]; exact HN.out
          · exact HA.out j hj (by omega)
        case measure => simp [intOf]; omega
      · have HY : Hid (q = x) := (HE.out.1 hc).symm
        go_wp2
        go_ret
        exact ⟨⟨k, rfl, by rw [containsS_hit pl x k hlt (HQ.out.trans HY.out)]; simp⟩, rfl⟩
    · go_wp2
      go_ret
      exact ⟨⟨-1, rfl, by rw [containsS_miss pl x fun j hj => HA.out j hj (by omega)]; rfl⟩, rfl⟩

theorem Contains_any (v : Value) (pl : List ByteArray) (x : ByteArray) (w : World) (h : Strs w v pl) :
    Calls Tryd.prog 18 #[v, .string x] w fun e w' => e = .returned (.bool (Lib.containsS pl x)) ∧ w' = w := by
  have c1 : Hid (∀ (w' : World), w' = w → Calls Tryd.prog 22 #[v, .string x] w' fun e w2 => (∃ n : Int, e = .returned (.int .i64 n) ∧ decide (0 ≤ n) = Lib.containsS pl x) ∧ w2 = w') := fun w' e => e ▸ Index_any v pl x w h
  clear h
  go_enter Tryd.func18, Tryd.ntmps18
  go_wp2_with (go_at_call 22; refine (c1.out _ rfl).mono ?_; rintro e w' ⟨⟨n, rfl, hn⟩, rfl⟩; have HN : Hid (decide (0 ≤ n) = Lib.containsS pl x) := hn; clear hn)
  go_ret
  exact ⟨by first | (rw [← HN.out]; rfl) | (congr 2; rw [← HN.out]; rfl), rfl⟩

end Go.Proofs.YtmckmeoondlcpaaDoor
