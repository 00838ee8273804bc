import Derived.Test.YtjmomdnlibfbkaaDoorAbS
namespace Go.Proofs.YtjmomdnlibfbkaaDoor
open Go.RowKit

set_option maxRecDepth 100000 in
set_option maxHeartbeats 8000000 in
theorem blobs_yes {w : World} {u v : Value} {fs : List Fl} (h : Fb w u fs) (k : Fb w v fs) (hn : fs.length ≤ 5864062014805) (hb : ∀ f ∈ fs, f.2.length ≤ 140737488355328) :
    Calls Tryd.prog 9 #[u, v] w fun e w' => e = .returned (.bool true) ∧ ∃ n, w' = w.drewN n := by
  obtain ⟨a, c, rfl, hc⟩ := h.form
  obtain ⟨a2, c2, rfl, hc2⟩ := k.form
  have HP := hide (show ∀ i (hi : i < fs.length), ∃ b o x y b2 o2 x2 y2, a = some ⟨b, o, none⟩ ∧ a2 = some ⟨b2, o2, none⟩ ∧ (∀ n, (w.drewN n).cell? ⟨b, o + i * 2, none⟩ = some (.string fs[i].1) ∧ (w.drewN n).cell? ⟨b, o + i * 2 + 1, none⟩ = some (.slice x fs[i].2.length y) ∧ (w.drewN n).cell? ⟨b2, o2 + i * 2, none⟩ = some (.string fs[i].1) ∧ (w.drewN n).cell? ⟨b2, o2 + i * 2 + 1, none⟩ = some (.slice x2 fs[i].2.length y2)) ∧ ∀ n, Calls Tryd.prog 11 #[.slice x fs[i].2.length y, .slice x2 fs[i].2.length y2] (w.drewN n) fun e w' => e = .returned (.bool true) ∧ ∃ m, w' = (w.drewN n).drewN m from fun i hi => by
    obtain ⟨b, o, x, y, e1, h1, h2⟩ := h.at2 hi
    obtain ⟨b2, o2, x2, y2, e2, k1, k2⟩ := k.at2 hi
    exact ⟨b, o, x, y, b2, o2, x2, y2, e1, e2, fun n => ⟨h1 _ (bl_drewN w n) 0 _ rfl, h1 _ (bl_drewN w n) 1 _ rfl, k1 _ (bl_drewN w n) 0 _ rfl, k1 _ (bl_drewN w n) 1 _ rfl⟩, fun n => equal_yes (h2.later (bl_drewN w n)) (k2.later (bl_drewN w n)) (hb _ (List.getElem_mem hi))⟩)
  obtain ⟨N, hN⟩ : ∃ N, fs.length = N := ⟨_, rfl⟩
  have HN := hide hN
  rw [hN] at hn hc hc2 ⊢
  clear h k hN hb
  go_enter Tryd.func9, Tryd.ntmps9
  go_wp2_with fail
  go_loopg [5] N (fun gq iv wr => ∃ i : Nat, iv = .int .i64 i ∧ i ≤ N ∧ N - i ≤ gq ∧ Hid (∃ n, wr = w.drewN n))
  case atStart => exact ⟨0, by go_num, by omega, by omega, hide ⟨0, rfl⟩⟩
  case round =>
    obtain ⟨i, rfl, hi, hg, HW⟩ := hrel
    by_cases hlt : i < N
    · have hin : (i : Int) < (N : Int) := by omega
      have hil : i < fs.length := by have := unhide HN; omega
      obtain ⟨b, o, x, y, b2, o2, x2, y2, rfl, rfl, hcs, hcl⟩ := unhide HP i hil
      generalize fs[i] = f at *
      have HC := hide (show ∀ t, Calls Tryd.prog 11 #[.slice x f.2.length y, .slice x2 f.2.length y2] (wr.drewN t) fun e w' => e = .returned (.bool true) ∧ ∃ k, w' = (wr.drewN t).drewN k from fun t => by
        obtain ⟨n, rfl⟩ := unhide HW
        rw [World.drewN_drewN]
        exact hcl _)
      have HZ := hide (show ∀ t, ∃ n, wr.drewN t = w.drewN n from fun t => by
        obtain ⟨n, rfl⟩ := unhide HW
        exact ⟨_, World.drewN_drewN _ _ _⟩)
      obtain ⟨c0, c1, d0, d1⟩ : wr.cell? ⟨b, o + i * 2, none⟩ = some (.string f.1) ∧ wr.cell? ⟨b, o + i * 2 + 1, none⟩ = some (.slice x f.2.length y) ∧ wr.cell? ⟨b2, o2 + i * 2, none⟩ = some (.string f.1) ∧ wr.cell? ⟨b2, o2 + i * 2 + 1, none⟩ = some (.slice x2 f.2.length y2) := by
        obtain ⟨n, rfl⟩ := unhide HW
        exact hcs n
      generalize f.2.length = K at *
      generalize f.1 = s at *
      have h0 : (ByteArray.toList s == ByteArray.toList s) = true := by simp
      clear HP hcs hcl
      go_wp2_with fail
      go_quiet (first | (go_at_call 11; refine (unhide HC _).mono ?_; rintro e w'' ⟨rfl, t, rfl⟩; exact ⟨rfl, _, by rw [World.drewN_drewN]⟩))
      go_wp2
      go_roundg (N - (i + 1))
      case measure => omega
      case rel => exact ⟨i + 1, by go_num, by omega, by omega, hide (unhide HZ _)⟩
    · obtain rfl : i = N := by omega
      go_wp2_with fail
      go_ret
      exact ⟨rfl, unhide HW⟩
end Go.Proofs.YtjmomdnlibfbkaaDoor
