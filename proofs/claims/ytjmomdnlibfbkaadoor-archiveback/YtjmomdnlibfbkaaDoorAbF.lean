import Derived.Test.YtjmomdnlibfbkaaDoorAbE
import Derived.Test.YtjmomdnlibfbkaaDoorShelfB
namespace Go.Proofs.YtjmomdnlibfbkaaDoor
open Go.RowKit

def bn (l : Bs) : List Int := l.map fun b => (b.toNat : Int)
theorem bn_len (l : Bs) : (bn l).length = l.length := List.length_map _
theorem bn_bytes (l : Bs) : Lib.bytesOf (bn l) = l := by
  unfold Lib.bytesOf bn
  rw [List.map_map]
  refine (List.map_congr_left fun b _ => ?_).trans (List.map_id l)
  show UInt8.ofNat ((b.toNat : Int)).toNat = b
  simp
theorem bn_rng (l : Bs) : ∀ x ∈ bn l, 0 ≤ x ∧ x < 256 := fun x hx => by
  obtain ⟨b, _, rfl⟩ := List.mem_map.1 hx
  have := UInt8.toNat_lt b
  omega
theorem bn_in {w : World} {a : Option Addr} {n c : Nat} {l : Bs} (h : Rb w (.slice a n c) l) : Lib.BytesIn w a l.length (bn l) := fun h0 => by
  obtain ⟨b, o, e, _, hc⟩ := h.at h0
  refine ⟨b, o, e, fun i hi => ?_⟩
  rw [hc i hi]
  unfold cb bn
  rw [List.getD_eq_getElem?_getD, List.getElem?_map, List.getElem?_eq_getElem hi]
  rfl
/-- WHERE THE FIRST ZERO STANDS. -/
theorem upz_idx (l : Bs) : (Lib.index l [0] = -1 ∧ upz l = l) ∨ ∃ i : Nat, Lib.index l [0] = (i : Int) ∧ i < l.length ∧ upz l = l.take i := by
  by_cases h : (0 : UInt8) ∈ l
  · obtain ⟨a, r, e, hn⟩ := first_of h
    refine .inr ⟨a.length, by rw [e, idx1_hit 0 r a hn], by rw [e, List.length_append, List.length_cons]; omega, ?_⟩
    unfold upz
    rw [e, List.takeWhile_append_of_pos (fun b hb => by
      have : b ≠ 0 := fun q => hn (q ▸ hb)
      simpa using this)]
    simp
  · refine .inl ⟨idx1_miss 0 l h, ?_⟩
    have := upz_app (l := l) 0 fun b hb q => h (q ▸ hb)
    rw [show zs 0 = [] from rfl, List.append_nil] at this
    exact this
theorem ba_nil : ba [] = (⟨#[]⟩ : ByteArray) := rfl
/-- BYTES AS A TEXT. -/
theorem conv_rb {w : World} {a : Option Addr} {n c : Nat} {l : Bs} (h : Rb w (.slice a n c) l) : (convert 23 9 (.slice a n c)).run Tryd.prog w = .ok (.string (ba l)) w := by
  obtain ⟨a2, c2, e, _⟩ := h.form
  cases e
  by_cases h0 : 0 < l.length
  · obtain ⟨b, o, rfl, _, hc⟩ := h.at h0
    refine run_convert_bytes_back (P := Tryd.prog) w 23 9 5 ⟨b, o, none⟩ c l Tryd.underlying23 Tryd.underlying5 Tryd.underlying9 ?_
    intro j hj
    rw [Addr.add_mid]
    exact hc j hj
  · have : l = [] := List.length_eq_zero_iff.1 (by omega)
    subst this
    exact run_convert_bytes_zero w 23 5 Tryd.underlying23 Tryd.underlying5 a c 9 Tryd.underlying9
set_option maxRecDepth 100000 in
set_option maxHeartbeats 4000000 in
theorem upToZero_any {w : World} {g o n c : Nat} {l : Bs} (h : Rb w (.slice (some ⟨g, o, none⟩) n c) l) (hl : l.length ≤ 1000000) (hg : Glob w) :
    Calls Tryd.prog 44 #[.slice (some ⟨g, o, none⟩) n c] w fun e w' => e = .returned (.string (ba (upz l))) ∧ Below w.heap.size w w' := by
  obtain ⟨a2, c2, e, hc⟩ := h.form
  cases e
  obtain ⟨m, hm⟩ := hg.mx
  have hgb := hg.big
  have b1 : Below w.heap.size w (w.alloc (.cells #[.int .u8 0] 5)) := (Below.refl _ _).alloc (Nat.le_refl _) _
  have h1 := h.later b1
  have hm1 := (b1.cell (p := ⟨0, 0, none⟩) (by show 0 < w.heap.size; omega)).trans hm
  have hz0 : ∀ i, i < 1 → (w.alloc (.cells #[.int .u8 0] 5)).cell? ⟨w.heap.size, 0 + i, none⟩ = some (.int .u8 (([0] : List Int).getD i 0)) := by
    intro i hi
    obtain rfl : i = 0 := by omega
    simp [World.cell?_alloc_new]
  have CC := hide (Any.bytes_Cut_all Tryd.laysT4 (some ⟨g, o, none⟩) (some ⟨w.heap.size, 0, none⟩) l.length c 1 1 (bn l) [0] m (w.alloc (.cells #[.int .u8 0] 5)) (bn_len l) rfl (bn_rng l) (fun y hy => by simp at hy; subst hy; decide) (bn_in h1)
    (fun _ => ⟨w.heap.size, 0, rfl, hz0⟩) (fun q => by cases q) hc (by omega) (by decide) hm1)
  rw [bn_bytes] at CC
  have HW := hide (show ∀ (i q : Nat), i ≤ l.length → (convert 23 9 (.slice (some ⟨g, o, none⟩) i c)).run Tryd.prog ((w.alloc (.cells #[.int .u8 0] 5)).drewN q) = .ok (.string (ba (l.take i))) ((w.alloc (.cells #[.int .u8 0] 5)).drewN q) from fun i q hi => by
    refine conv_rb ?_
    obtain ⟨a3, c3, e3, k3, r3⟩ := h1.later (bl_drewN _ q)
    cases e3
    refine ⟨_, c, by rw [List.length_take, Nat.min_eq_left hi], by rw [List.length_take]; omega, fun h0 => ?_⟩
    obtain ⟨b, o2, e4, e5, e6⟩ := r3 (by rw [List.length_take] at h0; omega)
    exact ⟨b, o2, e4, e5, fun j x hj => e6 j x (by
      have hjl := (List.getElem?_eq_some_iff.1 hj).1
      rw [List.length_take] at hjl
      rw [List.getElem?_take_of_lt (by omega)] at hj
      exact hj)⟩)
  have HU := hide (upz_idx l)
  have B1 := hide b1
  clear h h1 hm hm1 hg hgb b1 hz0
  generalize hW1 : w.alloc (.cells #[.int .u8 0] 5) = w1 at *
  rcases unhide HU with ⟨hi, hu⟩ | ⟨i, hi, hil, hu⟩
  · rw [show (Lib.index l (Lib.bytesOf [0])) = -1 from hi] at CC
    rw [hu]
    go_enter Tryd.func44, Tryd.ntmps44
    go_wp2_with (first
      | (go_at_call 51; refine (unhide CC).mono ?_; rintro e w2 ⟨rfl, q, rfl⟩; have kc := unhide HW l.length q (Nat.le_refl _); rw [List.take_length] at kc; rw [Lib.cutV, if_neg (by decide)]))
    go_ret
    exact ⟨rfl, bl_t (unhide B1) (bl_drewN _ q)⟩
  · rw [show (Lib.index l (Lib.bytesOf [0])) = (i : Int) from hi] at CC
    rw [hu]
    go_enter Tryd.func44, Tryd.ntmps44
    go_wp2_with (first
      | (go_at_call 51; refine (unhide CC).mono ?_; rintro e w2 ⟨rfl, q, rfl⟩; have kc := unhide HW i q (by omega); rw [Lib.cutV, if_pos (by omega), Int.toNat_natCast]))
    go_ret
    exact ⟨rfl, bl_t (unhide B1) (bl_drewN _ q)⟩
end Go.Proofs.YtjmomdnlibfbkaaDoor
