import Derived.Test.YtiibobjbcgbknaaDoorSgC
namespace Go.Proofs.YtiibobjbcgbknaaDoor
open Go.RowKit

set_option maxRecDepth 100000 in
set_option maxHeartbeats 2000000 in
theorem Print_no (ps : List (List Fd)) (v : Value) (w : World) (hno : ¬ ∀ p ∈ ps, okP p = true) (hl : ps.length ≤ 16777216) (hs : ∀ p ∈ ps, p.length ≤ 16777216 ∧ ∀ f ∈ p, szG f) (hD : DocG w v ps) :
    Calls Tryd.prog 14 #[v] w fun e w' => e = .returned (.tuple #[.slice none 0 0, .int .i64 34]) ∧ Below w.heap.size w w' := by
  obtain ⟨va, vc, rfl, hD⟩ := hD
  have HN := hide hno
  have HS := hide hs
  have HD := hide hD
  clear hno hs hD
  go_enter Tryd.func14, Tryd.ntmps14
  go_wp2
  go_loopw [13] (fun iv wr => ∃ k : Nat, k ≤ ps.length ∧ iv = .int .i64 k ∧ Hid (Below w.heap.size w wr) ∧ Hid (∀ j p, j < k → ps[j]? = some p → okP p = true)) (fun iv _ => ps.length - (intOf iv).toNat)
  case atStart => exact ⟨0, Nat.zero_le _, rfl, hide (Below.refl _ _), hide (fun j _ h => absurd h (Nat.not_lt_zero _))⟩
  case round =>
    obtain ⟨k, hk, rfl, HB, HA⟩ := hrel
    by_cases hlt : k < ps.length
    · obtain ⟨g, o, rfl, hd⟩ := unhide HD (by omega)
      obtain ⟨u, u1, u2⟩ := hd k _ (List.getElem?_eq_getElem hlt)
      have d0 := cell_later u1 (unhide HB)
      obtain ⟨q1, q2⟩ := unhide HS _ (List.getElem_mem hlt)
      have HPK := hide (show ps[k]? = some ps[k] from List.getElem?_eq_getElem hlt)
      cases hok : okP ps[k]
      · have c1 := hide (mayBe_no ps[k] u wr hok q2 (Nat.le_trans q1 (by decide)) (u2.later (unhide HB)))
        obtain ⟨ua, uc, rfl, _⟩ := u2
        clear hd u1 q1 q2 hok
        go_wp2_with (go_at_call 37; refine (unhide c1).mono ?_; rintro e w2 ⟨rfl, hb2⟩; have HB2 := hide (bl_t (unhide HB) hb2); clear hb2)
        go_ret2
        exact ⟨rfl, unhide HB2⟩
      · have c1 := hide (mayBe_yes ps[k] u wr hok (fun f hf => (q2 f hf).f) (Nat.le_trans q1 (by decide)) ((u2.later (unhide HB)).parC fun f hf => okF_ls (List.all_eq_true.1 (okP_parts hok).1 f hf)))
        have HA2 := hide (show ∀ j p, j < k + 1 → ps[j]? = some p → okP p = true from fun j p hj hjp => by
          by_cases e : j < k
          · exact unhide HA j p e hjp
          · obtain rfl : j = k := by omega
            rw [unhide HPK] at hjp
            cases hjp
            exact hok)
        obtain ⟨ua, uc, rfl, _⟩ := u2
        clear hd u1 q1 q2 hok HA
        go_wp2_with (go_at_call 37; refine (unhide c1).mono ?_; rintro e w2 ⟨rfl, hb2⟩; have HB2 := hide (bl_t (unhide HB) hb2); clear hb2)
        go_roundw
        case rel => exact ⟨k + 1, by omega, by go_num, HB2, HA2⟩
        case measure => simp [intOf]; omega
    · exact absurd (fun p hp => by
        obtain ⟨j, hj⟩ := List.mem_iff_getElem?.1 hp
        exact unhide HA j p (by have := (List.getElem?_eq_some_iff.1 hj).1; omega) hj) (unhide HN)

end Go.Proofs.YtiibobjbcgbknaaDoor
