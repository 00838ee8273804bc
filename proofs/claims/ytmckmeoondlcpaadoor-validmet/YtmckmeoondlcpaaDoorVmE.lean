import Derived.Test.YtmckmeoondlcpaaDoorVmD
namespace Go.Proofs.YtmckmeoondlcpaaDoor
open Go.RowKit

set_option maxRecDepth 100000 in
set_option maxHeartbeats 4000000 in
theorem stillClauses_any (cl : List (List At)) (base M : Nat) (W : World) (hl : cl.length ≤ 5864062014634) (hls : ∀ al ∈ cl, al.length ≤ 3518437208883) (h : Lcl base W M cl) :
    Calls Tryd.prog 9 #[.slice (some ⟨M, 0, none⟩) cl.length (cl.length + 1)] W fun e w' => e = .returned (.bool true) ∧ Below W.heap.size W w' := by
  obtain ⟨K, hMK, hK, m1, k0, k1, k2⟩ := h.last
  have HLR := hide (fun (w' : World) (B : Below W.heap.size W w') => h.row.later B)
  have HLS := hide hls
  have F2 := hide (fun (w' : World) (B : Below W.heap.size W w') => And.intro (cell_later m1 B) (And.intro (cell_later k0 B) (And.intro (cell_later k1 B) (And.intro (cell_later k2 B) B))))
  have B0 := hide ((Below.refl W.heap.size W).drew)
  clear h hls m1 k0 k1 k2 hMK hK
  obtain ⟨N, hN⟩ : ∃ N, cl.length = N := ⟨_, rfl⟩
  rw [hN] at hl F2 HLR ⊢
  have HN := hide hN
  clear hN
  have j1 : (0 : Int) ≤ (N : Int) + 1 := by omega
  have j2 : (N : Int) + 1 ≤ (N : Int) + 1 := Int.le_refl _
  have j3 : (N : Int) < (N : Int) + 1 := by omega
  have j5 : (0 : Int) ≤ (N : Int) := by omega
  go_enter Tryd.func9, Tryd.ntmps9
  go_wp2_with fail
  go_region_held3 (fun w' => w'.cell? ⟨M, N, none⟩ = some (.slice (some ⟨K, 0, none⟩) 1 1) ∧ w'.cell? ⟨K, 0, none⟩ = some (.string ⟨#[77, 65, 82, 75]⟩) ∧ w'.cell? ⟨K, 1, none⟩ = some (.int .i64 99) ∧ w'.cell? ⟨K, 2, none⟩ = some (.string ⟨#[]⟩) ∧ Below W.heap.size W w') (first | exact unhide F2 _ (unhide B0) | exact unhide F2 _ (unhide B6))
    (first | (go_at_call 11; refine (mark_any _).mono ?_; rintro x w6 ⟨rfl, hb6⟩; have B6 := hide ((unhide B0).trans (hb6.mono (unhide B0).size)); clear hb6))
  clear F2
  go_wp2_with fail
  go_loopg [4, 5] N (fun gq vi _ wr => ∃ i : Nat, vi = .int .i64 i ∧ i ≤ N ∧ N - i ≤ gq ∧ Hid (Below W.heap.size W wr))
  case atStart => exact ⟨0, by go_num, by omega, by omega, B6⟩
  case round =>
    clear B0 B6
    obtain ⟨i, rfl, hi, hg, HB⟩ := hrel
    by_cases hlt : i < N
    · have hiz : (i : Int) < (N : Int) := by omega
      have i0 : (0 : Int) ≤ (i : Int) := by omega
      obtain ⟨al, hal⟩ : ∃ al, cl[i]? = some al := ⟨_, List.getElem?_eq_getElem (by have := unhide HN; omega)⟩
      have hla := unhide HLS al (List.mem_of_getElem? hal)
      obtain ⟨C, hMC, c1, A1⟩ := (unhide HLR wr (unhide HB)).row i al hlt hal
      have d0 := A1.l0
      have d1 := A1.l1
      have d2 := A1.l2
      have HF := hide (fun (w' : World) (B : Below wr.heap.size wr w') => And.intro (cell_later c1 B) (And.intro (cell_later d0 B) (And.intro (cell_later d1 B) (And.intro (cell_later d2 B) B))))
      have D0 := hide ((Below.refl wr.heap.size wr))
      clear hal A1 hMC
      generalize al.length = L at *
      have q1 : (0 : Int) ≤ (L : Int) + 1 := by omega
      have q2 : (L : Int) + 1 ≤ (L : Int) + 1 := Int.le_refl _
      have q3 : (L : Int) < (L : Int) + 1 := by omega
      have q5 : (0 : Int) ≤ (L : Int) := by omega
      have q4 : IntKind.i64.wrap ((L : Int) + 1) = (L : Int) + 1 := by rw [IntKind.wrap_i64]; omega
      go_wp2_with fail
      go_quiet (fail)
      have D1 := hide (bl_t (unhide D0) (bl_drewN wr nq))
      have D2 := hide (unhide D1).drew
      clear c1 d0 d1 d2
      generalize wr.drewN nq = W1 at *
      go_wp2_with fail
      go_region_held3 (fun w' => w'.cell? ⟨M, i, none⟩ = some (.slice (some ⟨C, 0, none⟩) L (L + 1)) ∧ w'.cell? ⟨C, L * 3, none⟩ = some (.string ⟨#[77, 65, 82, 75]⟩) ∧ w'.cell? ⟨C, L * 3 + 1, none⟩ = some (.int .i64 99) ∧ w'.cell? ⟨C, L * 3 + 2, none⟩ = some (.string ⟨#[]⟩) ∧ Below wr.heap.size wr w') (first | exact unhide HF _ (unhide D2) | exact unhide HF _ (unhide D3))
        (first | (go_at_call 11; refine (mark_any _).mono ?_; rintro x w6 ⟨rfl, hb6⟩; have D3 := hide ((unhide D2).trans (hb6.mono (unhide D2).size)); clear hb6))
      go_wp2_with fail
      go_roundg (N - (i + 1))
      case measure => omega
      case rel => exact ⟨i + 1, by go_num, by omega, by omega, hide ((unhide HB).trans ((unhide D3).mono (unhide HB).size))⟩
    · go_wp2_with fail
      go_ret
      exact ⟨rfl, unhide HB⟩
end Go.Proofs.YtmckmeoondlcpaaDoor
