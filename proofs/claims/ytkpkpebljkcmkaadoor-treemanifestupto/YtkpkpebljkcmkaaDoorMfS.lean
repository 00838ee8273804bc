import Derived.Test.YtkpkpebljkcmkaaDoorMfR
namespace Go.Proofs.YtkpkpebljkcmkaaDoor
open Go.RowKit

set_option maxRecDepth 100000 in
set_option maxHeartbeats 8000000 in
theorem still_yes {w w0 : World} {g : Nat} {v : Value} {ps : List Pk} (h : Lm w0 w g ps) (k : Pks w v ps) (hl : ps.length ≤ 1048576) (hs : (allF ps).length ≤ 1048576) :
    Calls Tryd.prog 12 #[.slice (some ⟨g, 0, none⟩) ps.length (ps.length + 1), v] w fun e w' => e = .returned (.bool true) ∧ ∃ n, w' = w.drewN n := by
  obtain ⟨a, c, rfl⟩ := k.form
  have c0 := h.mrk
  unfold mark at c0
  have HQ := hide (show ∀ i (hi : i < ps.length), ∃ b o B xa xc, a = some ⟨b, o, none⟩ ∧ ∀ X, Below w.heap.size w X → X.cell? ⟨g, i * 43, none⟩ = some (.string (ps[i]).nm) ∧ X.cell? ⟨g, i * 43 + 1, none⟩ = some (.string (ps[i]).vr) ∧ X.cell? ⟨g, i * 43 + 7, none⟩ = some (.slice (some ⟨B, 0, none⟩) (ps[i]).fs.length ((ps[i]).fs.length + 1)) ∧ X.cell? ⟨b, o + i * 43, none⟩ = some (.string (ps[i]).nm) ∧ X.cell? ⟨b, o + i * 43 + 1, none⟩ = some (.string (ps[i]).vr) ∧ X.cell? ⟨b, o + i * 43 + 7, none⟩ = some (.slice xa (ps[i]).fs.length xc) ∧ Calls Tryd.prog 25 #[.slice (some ⟨B, 0, none⟩) (ps[i]).fs.length ((ps[i]).fs.length + 1), .slice xa (ps[i]).fs.length xc] X fun e w' => e = .returned (.bool true) ∧ ∃ n, w' = X.drewN n from fun i hi => by
    obtain ⟨b, o, cs, xa, xc, e, hbl, hr, hc, hf⟩ := k.at hi
    obtain ⟨cj, B, k1, k2, k3, _⟩ := h.each i hi
    refine ⟨b, o, B, xa, xc, e, fun X hX => ?_⟩
    have r1 := rangeAt_later k1 h.lt hX
    have r2 := rangeAt_later hr hbl hX
    exact ⟨by simpa using r1 0 _ k2.c0, r1 1 _ k2.c1, r1 7 _ k2.c7, by simpa using r2 0 _ hc.c0, r2 1 _ hc.c1, r2 7 _ hc.c7, stillFiles_yes (Nat.le_trans (allF_le hi) hs) (k3.later hX) (hf.later hX)⟩)
  obtain ⟨N, hN⟩ : ∃ N, ps.length = N := ⟨_, rfl⟩
  have HN := hide hN
  rw [hN] at hl c0 ⊢
  have hw1 : IntKind.i64.wrap ((N : Int) + 1) = (N : Int) + 1 := IntWalk.i64_in _ (by omega)
  have hcz : (0 : Int) ≤ (N : Int) + 1 := by omega
  have hcy : (N : Int) < (N : Int) + 1 := by omega
  clear h k hN
  go_enter Tryd.func12, Tryd.ntmps12
  go_wp2_with fail
  clear c0
  go_loopg [5, 6] N (fun gq iv _ wr => ∃ i n : Nat, iv = .int .i64 i ∧ i ≤ N ∧ N - i ≤ gq ∧ wr = w.drewN n)
  case atStart => exact ⟨0, 0, by go_num, by omega, by omega, rfl⟩
  case round =>
    obtain ⟨i, n, rfl, hi, hg, hw⟩ := hrel
    by_cases hlt : i < N
    · have hin : (i : Int) < (N : Int) := by omega
      have hin2 : (i : Int) < (N : Int) + 1 := by omega
      have hil : i < ps.length := by have := unhide HN; omega
      obtain ⟨b, o, B, xa, xc, rfl, HX⟩ := unhide HQ i hil
      have HXX := hide HX
      have HW := hide hw
      have KW := hide (show Below w.heap.size w wr from by rw [hw]; exact bl_drewN w n)
      generalize (ps[i]).fs.length = M at *
      generalize (ps[i]).nm = s1 at *
      generalize (ps[i]).vr = s2 at *
      clear HX hw
      obtain ⟨_, _, a7, _, _, b7, _⟩ := unhide HXX wr (unhide KW)
      have KC := hide (fun t => (unhide HXX (wr.drewN t) (bl_t (unhide KW) (bl_drewN wr t))).2.2.2.2.2.2)
      go_upto_region 6 with fail
      go_quiet (first
        | (go_at_call 25; refine (unhide KC _).mono ?_; rintro e w'' ⟨rfl, t, rfl⟩; exact ⟨rfl, _, by rw [World.drewN_drewN]⟩))
      have KA := hide (bl_t (unhide KW) (bl_drewN wr nq))
      have HA := hide (show ∃ m, wr.drewN nq = w.drewN m from ⟨n + nq, by rw [unhide HW]; exact World.drewN_drewN _ _ _⟩)
      clear a7 b7 KC KW HW
      generalize wr.drewN nq = wa at *
      obtain ⟨a1, a2, _, b1, b2, _, _⟩ := unhide HXX wa (unhide KA)
      have q1 := bx_eq s1
      have q2 := bx_eq s2
      go_upto_region 7 with fail
      go_quiet (fail)
      have HB := hide (show ∃ m, wa.drewN nq = w.drewN m from by obtain ⟨m, e⟩ := unhide HA; exact ⟨m + nq, by rw [e]; exact World.drewN_drewN _ _ _⟩)
      clear a1 a2 b1 b2 HXX KA HA q1 q2
      go_wp2_with fail
      obtain ⟨m9, hm9⟩ := unhide HB
      go_roundg (N - (i + 1))
      case measure => omega
      case rel => exact ⟨i + 1, m9, by go_num, by omega, by omega, hm9⟩
    · obtain rfl : i = N := by omega
      have hge : ¬ (i : Int) < (i : Int) := by omega
      have HW := hide hw
      clear hw
      go_wp2_with fail
      go_ret
      exact ⟨rfl, n, unhide HW⟩
end Go.Proofs.YtkpkpebljkcmkaaDoor
