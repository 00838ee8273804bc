import Derived.Test.YtmckmeoondlcpaaDoorVmC
namespace Go.Proofs.YtmckmeoondlcpaaDoor
open Go.RowKit

theorem keepS {w w' : World} {b o : Nat} {x : Value} (g : b < w.heap.size) (k : w.cell? ⟨b, o, none⟩ = some x) (B : Below w.heap.size w w') : w'.cell? ⟨b, o, none⟩ = some x ∧ Below w.heap.size w w' :=
  ⟨(B.cell (p := ⟨b, o, none⟩) g).trans k, B⟩

set_option maxRecDepth 100000 in
set_option maxHeartbeats 4000000 in
theorem lentClauses_any (cl : List (List At)) (v : Value) (w : World) (hl : cl.length ≤ 5864062014634) (hls : ∀ al ∈ cl, al.length ≤ 3518437208883) (h1 : Cls w v cl) :
    Calls Tryd.prog 5 #[v] w fun e w' => e = .returned (.slice (some ⟨w.heap.size, 0, none⟩) cl.length (cl.length + 1)) ∧ Below w.heap.size w w' ∧ Lcl w.heap.size w' w.heap.size cl := by
  obtain ⟨va, vc, rfl, hv⟩ := h1
  have HV := hide hv
  have HLS := hide hls
  have mkR := makeRow cl.length hl
  have HR := hide (row_of w cl)
  have HB := hide ((Below.refl w.heap.size w).alloc (Nat.le_refl _) (.cells (madeCells #[.slice none 0 0] (cl.length + 1)) 24))
  clear hv hls
  obtain ⟨N, hN⟩ : ∃ N, cl.length = N := ⟨_, rfl⟩
  rw [hN] at hl mkR HR HB ⊢
  have HN := hide hN
  clear hN
  go_enter Tryd.func5, Tryd.ntmps5
  go_wp2_with fail
  obtain ⟨M, hM⟩ : ∃ M, w.heap.size = M := ⟨_, rfl⟩
  rw [hM] at HR ⊢
  generalize w.alloc (.cells (madeCells #[.slice none 0 0] (N + 1)) 24) = W0 at *
  clear mkR
  have HM := hide hM
  clear hM
  go_loopg [4, 5] N (fun gq vi _ wr => ∃ i : Nat, vi = .int .i64 i ∧ i ≤ N ∧ N - i ≤ gq ∧ Hid (Below w.heap.size w wr) ∧ Hid (Row M wr M cl i))
  case atStart => exact ⟨0, by go_num, by omega, by omega, HB, HR⟩
  case round =>
    clear HB HR
    obtain ⟨i, rfl, hi, hg, HB, HR⟩ := hrel
    by_cases hlt : i < N
    · have hiz : (i : Int) < (N : Int) := by omega
      obtain ⟨b1, o1, rfl, g0, hc1⟩ := unhide HV (by have := unhide HN; omega)
      obtain ⟨al, hal⟩ : ∃ al, cl[i]? = some al := ⟨_, List.getElem?_eq_getElem (by have := unhide HN; omega)⟩
      obtain ⟨xa, xc, k1, A1⟩ := hc1 i al hal
      have hla := unhide HLS al (List.mem_of_getElem? hal)
      have c1 := cell_later k1 (unhide HB)
      have g1 : b1 < wr.heap.size := Nat.lt_of_lt_of_le g0 (unhide HB).size
      have HAL := hide hal
      have i0 : (0 : Int) ≤ (i : Int) := by omega
      have mk52 := make52 al.length hla
      have HBC := hide ((Below.refl wr.heap.size wr).alloc (Nat.le_refl _) (.cells (madeCells #[.string ⟨#[]⟩, .int .i64 0, .string ⟨#[]⟩] ((al.length + 1) * 3)) 33))
      have HA1 := hide (A1.later (unhide HB))
      clear hc1 k1 A1 hal g0
      have hcp0 : ∃ v', (Builtin.copy_ #[24, 24] 3 #[.slice (some ⟨wr.heap.size, 0, none⟩) (al.length + 1) (al.length + 1), .slice xa al.length xc]).run Tryd.prog (wr.alloc (.cells (madeCells #[.string ⟨#[]⟩, .int .i64 0, .string ⟨#[]⟩] ((al.length + 1) * 3)) 33)) = .ok v' ((wr.alloc (.cells (madeCells #[.string ⟨#[]⟩, .int .i64 0, .string ⟨#[]⟩] ((al.length + 1) * 3)) 33)).setCells wr.heap.size 0 (flat al)) := by
        refine copy_clause al _ 3 _ _ _ ((unhide HA1).later (unhide HBC)) (fun j hj => ?_) (fun j => ?_)
        · rw [World.cell?_alloc_at _ _ _ _ rfl]
          exact made_some _ _ _ (by omega)
        · rw [World.frozen?_alloc_at _ _ _ _ rfl]
      obtain ⟨v', hcp⟩ := hcp0
      obtain ⟨W3, hW3, HL, HB3⟩ : ∃ W3, ((wr.alloc (.cells (madeCells #[.string ⟨#[]⟩, .int .i64 0, .string ⟨#[]⟩] ((al.length + 1) * 3)) 33)).setCells wr.heap.size 0 (flat al)) = W3 ∧ Hid (Mk0 W3 wr.heap.size al) ∧ Hid (Below wr.heap.size wr W3) := ⟨_, rfl, hide (mk0_of wr al), hide (below_setCells _ (Nat.le_refl _) _ _ _ (unhide HBC))⟩
      rw [hW3] at hcp
      obtain ⟨k3, -⟩ := keepS g1 c1 (unhide HB3)
      clear hW3 HBC HA1
      go_wp2_with fail
      clear hcp mk52
      have hC := Nat.le_refl wr.heap.size
      have j1 : (0 : Int) ≤ (al.length : Int) := by omega
      have j2 : (al.length : Int) < (al.length : Int) + 1 := by omega
      go_region_held3 (fun w' => w'.cell? ⟨b1, o1 + i, none⟩ = some (.slice xa al.length xc) ∧ Below wr.heap.size wr w') (first | exact keepS g1 c1 (unhide HB3).drew | exact keepS g1 c1 (unhide HB5) | exact keepS g1 c1 ((((unhide HB5).setCell (p := ⟨wr.heap.size, _, none⟩) hC _).setCell (p := ⟨wr.heap.size, _, none⟩) hC _).setCell (p := ⟨wr.heap.size, _, none⟩) hC _))
        (first | (go_at_call 11; refine (mark_any _).mono ?_; rintro x w5 ⟨rfl, hb5⟩; have HL5 := hide ((unhide HL).later ((Below.refl _ _).drew.trans hb5)); have HB5 := hide ((unhide HB3).trans (((Below.refl _ _).drew.trans hb5).mono (unhide HB3).size)); obtain ⟨z0, hz0⟩ := Option.isSome_iff_exists.1 ((unhide HL5).last 0 (by omega)); obtain ⟨z1, hz1⟩ := Option.isSome_iff_exists.1 ((unhide HL5).last 1 (by omega)); obtain ⟨z2, hz2⟩ := Option.isSome_iff_exists.1 ((unhide HL5).last 2 (by omega)); rw [Nat.add_zero] at hz0; have hf0 := (unhide HL5).fr (al.length * 3); have hf1 := (unhide HL5).fr (al.length * 3 + 1); have hf2 := (unhide HL5).fr (al.length * 3 + 2); clear hb5))
      have HQ := hide (unhide HL5).mark
      have HB7 := hide ((((unhide HB5).setCell (p := ⟨wr.heap.size, al.length * 3, none⟩) hC (.string ⟨#[77, 65, 82, 75]⟩)).setCell (p := ⟨wr.heap.size, al.length * 3 + 1, none⟩) hC (.int .i64 99)).setCell (p := ⟨wr.heap.size, al.length * 3 + 2, none⟩) hC (.string ⟨#[]⟩))
      obtain ⟨k7, -⟩ := keepS g1 c1 (unhide HB7)
      have HR7 := hide ((unhide HR).later (unhide HB7))
      have hMC := (unhide HR).lt
      obtain ⟨y0, hy0⟩ := Option.isSome_iff_exists.1 ((unhide HR7).spot i (by have := unhide HN; omega))
      have fy := (unhide HR7).fr i
      have HB8 := hide ((unhide HB).trans ((unhide HB7).mono (unhide HB).size))
      clear HL HB3 HL5 HB5 hz0 hz1 hz2 hf0 hf1 hf2 k3
      generalize (((w5.setCell ⟨wr.heap.size, al.length * 3, none⟩ (.string ⟨#[77, 65, 82, 75]⟩)).setCell ⟨wr.heap.size, al.length * 3 + 1, none⟩ (.int .i64 99)).setCell ⟨wr.heap.size, al.length * 3 + 2, none⟩ (.string ⟨#[]⟩)) = V7 at *
      have j3 : (al.length : Int) ≤ (al.length : Int) + 1 := by omega
      have j4 : (i : Int) < (N : Int) + 1 := by omega
      go_wp2_with fail
      have hMw : w.heap.size ≤ M := Nat.le_of_eq (unhide HM)
      go_roundg (N - (i + 1))
      case measure => omega
      case rel => exact ⟨i + 1, by go_num, by omega, by omega, hide ((unhide HB8).setCell (p := ⟨M, i, none⟩) hMw _), hide ((unhide HR7).put (unhide HAL) hMC (unhide HQ))⟩
    · obtain rfl : i = N := by omega
      go_wp2_with fail
      refine (mark_any _).mono ?_
      rintro x w5 ⟨rfl, hb5⟩
      have HR5 := hide ((unhide HR).later hb5)
      have HB5 := hide ((unhide HB).trans (hb5.mono (unhide HB).size))
      obtain ⟨y1, hy1⟩ := Option.isSome_iff_exists.1 ((unhide HR5).spot i (by have := unhide HN; omega))
      have fM := (unhide HR5).fr i
      have ltM := (unhide HR5).lt
      have i0 : (0 : Int) ≤ (i : Int) := by omega
      have j4 : (i : Int) < (i : Int) + 1 := by omega
      have j3 : (i : Int) ≤ (i : Int) + 1 := by omega
      clear hb5
      go_wp2_with fail
      go_ret
      have hMw : w.heap.size ≤ M := Nat.le_of_eq (unhide HM)
      have hN := unhide HN
      have hD := (unhide HR5)
      rw [← hN] at hD
      have hD := hD.done
      have hB9 := ((unhide HB5).alloc (unhide HB5).size (.cells #[.string ⟨#[77, 65, 82, 75]⟩, .int .i64 99, .string ⟨#[]⟩] 33)).setCell (p := ⟨M, i, none⟩) hMw (.slice (some ⟨w5.heap.size, 0, none⟩) 1 1)
      rw [World.setCell_alloc_past _ _ _ _ ltM] at hD hB9
      rw [hN] at hD
      exact ⟨by rw [unhide HM]; rfl, hB9, by rw [unhide HM]; exact hD⟩
end Go.Proofs.YtmckmeoondlcpaaDoor
