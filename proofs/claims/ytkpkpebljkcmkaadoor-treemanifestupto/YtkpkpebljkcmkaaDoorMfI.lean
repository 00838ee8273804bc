import Derived.Test.YtkpkpebljkcmkaaDoorMfH
namespace Go.Proofs.YtkpkpebljkcmkaaDoor
open Go.RowKit

theorem find_any {w : World} {v : Value} {l : List (List Value)} {p : Nm} (h : Rws 40 34 w v l) (hl : l.length ≤ 1048576) :
    Calls Tryd.prog 24 #[v, .string p] w fun e w' => (∃ r : Int, e = .returned (.int .i64 r) ∧ (r < 0 ↔ ∀ x ∈ l, pth x ≠ p)) ∧ w' = w := by
  obtain ⟨a, c, rfl⟩ := h.form
  have HC := hide (show ∀ k (hk : k < l.length), ∃ b o, a = some ⟨b, o, none⟩ ∧ w.cell? ⟨b, o + k * 34, none⟩ = some (.string (pth l[k])) from fun k hk => by
    obtain ⟨b, o, e, hb2, hok, hr⟩ := h.at hk
    obtain ⟨s, hs0, hsp, _⟩ := hok.path2
    have := hr 0 _ hs0
    rw [Nat.add_zero] at this
    exact ⟨b, o, e, by rw [hsp]; exact this⟩)
  obtain ⟨N, hN⟩ : ∃ N, l.length = N := ⟨_, rfl⟩
  have HN := hide hN
  rw [hN] at hl ⊢
  clear h hN
  go_enter Tryd.func24, Tryd.ntmps24
  go_wp2_with fail
  go_loopg [5] N (fun gq iv wr => ∃ k : Nat, iv = .int .i64 k ∧ k ≤ N ∧ N - k ≤ gq ∧ wr = w ∧ Hid (∀ j (hj : j < l.length), j < k → pth l[j] ≠ p))
  case atStart => exact ⟨0, by go_num, by omega, by omega, rfl, hide fun j _ h => absurd h (Nat.not_lt_zero _)⟩
  case round =>
    obtain ⟨k, rfl, hk, hg, rfl, HJ⟩ := hrel
    by_cases hlt : k < N
    · have hin : (k : Int) < (N : Int) := by omega
      have hkl : k < l.length := by have := unhide HN; omega
      obtain ⟨b, o, rfl, c1⟩ := unhide HC k hkl
      have HM := hide (show l[k] ∈ l from List.getElem_mem _)
      have HJ2 := hide (show pth l[k] ≠ p → ∀ j (hj : j < l.length), j < k + 1 → pth l[j] ≠ p from fun hn j hj hjk => by
        by_cases e : j = k
        · subst e; exact hn
        · exact unhide HJ j hj (by omega))
      have HX := hide (show pth l[k] = p → ¬ ∀ x ∈ l, pth x ≠ p from fun e q => q _ (unhide HM) e)
      generalize pth l[k] = p1 at *
      clear HM HJ
      by_cases e : p1 = p
      · have hno := unhide HX e
        subst e
        have q0 := bx_eq p1
        have HNO := hide hno
        clear hno HX HJ2
        go_wp2_with fail
        go_ret
        exact ⟨⟨_, rfl, ⟨fun q => by omega, fun q => absurd q (unhide HNO)⟩⟩, rfl⟩
      · have q0 : (ByteArray.toList p1 == ByteArray.toList p) = false := by rw [ba_if, decide_eq_false e]
        have HJ3 := hide (unhide HJ2 e)
        clear HJ2 HX
        go_wp2_with fail
        go_roundg (N - (k + 1))
        case measure => omega
        case rel => exact ⟨k + 1, by go_num, by omega, by omega, rfl, HJ3⟩
    · obtain rfl : k = N := by omega
      have hge : ¬ (k : Int) < (k : Int) := by omega
      have HALL := hide (show ∀ x ∈ l, pth x ≠ p from fun x hx => by
        obtain ⟨j, hj, rfl⟩ := List.getElem_of_mem hx
        exact unhide HJ j hj (by have := unhide HN; omega))
      clear HJ HC
      go_wp2_with fail
      go_ret
      exact ⟨⟨_, rfl, ⟨fun _ => unhide HALL, fun _ => by decide⟩⟩, rfl⟩
end Go.Proofs.YtkpkpebljkcmkaaDoor
