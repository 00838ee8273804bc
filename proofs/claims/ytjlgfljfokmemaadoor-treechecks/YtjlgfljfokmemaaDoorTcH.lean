import Derived.Test.YtjlgfljfokmemaaDoorTcG
namespace Go.Proofs.YtjlgfljfokmemaaDoor
open Go.RowKit Go.Maps Go.Shelf

def y0 : Stp := ⟨2, ⟨#[]⟩, ⟨#[116, 47, 120]⟩⟩
theorem y0_ok : SpOk y0 := ⟨by decide, by decide⟩

set_option maxRecDepth 100000 in
set_option maxHeartbeats 4000000 in
theorem treeChecks_walk (ws : List Stp) (v : Value) (w : World) (h : Sps w v ws) (hn : ws.length ≤ 3518437208883) (hok : ∀ x ∈ ws, SpOk x) (hg : Glob w) :
    Calls Tryd.prog 4 #[v] w fun e w' => e = .returned (.bool true) ∧ Below w.heap.size w w' := by
  obtain ⟨va, vc, rfl⟩ := h.shape
  have c1 := hide (lentSteps_any ws _ w h hn)
  have C2 := hide (fun (L : List Stp) (B c : Nat) (W : World) (hk : Sk W B L) (hn : L.length ≤ 3518437208883) (ho : ∀ x ∈ L, SpOk x) (hg : Glob W) => Check_any L (.slice (some ⟨B, 0, none⟩) L.length c) W (hk.sps (by omega)) hn ho hg)
  have C3 := hide (fun (L : List Stp) (B c : Nat) (W : World) (hk : Sk W B L) (hn : L.length ≤ 3518437208883) (ho : ∀ x ∈ L, SpOk x) => rCheck_any L (.slice (some ⟨B, 0, none⟩) L.length c) W (hk.sps (by omega)) hn ho)
  have C4 := hide (fun W hb => rCheck_any ws (.slice va ws.length vc) W (h.later hb) hn hok)
  have C5 := hide (fun (B c : Nat) (W : World) (hk : Sk W B ws) (hc : ws.length + 1 ≤ c) hb => stillSteps_any ws B c (.slice va ws.length vc) W hk hc hn (h.later hb))
  have HO := hide hok
  have HG := hide hg
  clear h hok hg
  obtain ⟨N, hN⟩ : ∃ N, ws.length = N := ⟨_, rfl⟩
  rw [hN] at c1 C4 C5 hn ⊢
  go_enter Tryd.func4, Tryd.ntmps4
  go_wp2_with fail
  refine (unhide c1).mono ?_
  rintro e w1 ⟨B, c, rfl, hc, hB, hk, hb⟩
  have c2 := unhide C2 ws B c w1 hk (by omega) (unhide HO) ((unhide HG).later hb)
  rw [hN] at c2
  have C2' := hide c2
  have HK := hide hk
  have HB := hide hb
  clear hk hb c1 c2
  go_wp2_with fail
  refine (unhide C2').mono ?_
  rintro e w2 ⟨rfl, hb2⟩
  have HK2 := hide ((unhide HK).later hb2)
  have HB2 := hide (bl_t (unhide HB) hb2)
  clear hb2 C2' HK HB
  go_wp2_with fail
  refine (num_any _ _).mono ?_
  rintro e w' ⟨rfl, rfl⟩
  go_wp2_with fail
  refine (unhide C4 _ (unhide HB2)).mono ?_
  rintro e w3 ⟨rfl, hb3⟩
  have HK3 := hide ((unhide HK2).later hb3)
  have HB3 := hide (bl_t (unhide HB2) hb3)
  clear hb3 HK2 HB2 C4
  generalize ckS ws = ck at *
  go_wp2_with fail
  refine (unhide C5 B c w3 (unhide HK3) hc (unhide HB3)).mono ?_
  rintro e w4 ⟨rfl, hb4⟩
  have HK4 := hide ((unhide HK3).later hb4)
  have HB4 := hide (bl_t (unhide HB3) hb4)
  clear hb4 HK3 HB3 C5
  go_wp2_with fail
  go_loopw [5] (fun i W => ∃ k : Nat, k ≤ N ∧ i = .int .i64 k ∧ Hid (Below w.heap.size w W) ∧ Hid (∃ L : List Stp, L.length = N ∧ (∀ x ∈ L, SpOk x) ∧ Sk W B L)) (fun i _ => N - (intOf i).toNat)
  case atStart => exact ⟨0, Nat.zero_le _, rfl, HB4, hide ⟨ws, hN, unhide HO, unhide HK4⟩⟩
  case round =>
    clear HK4 HB4 HO
    obtain ⟨k, hk, rfl, HB, HL⟩ := hrel
    by_cases hlt : k < N
    · obtain ⟨L, hL, ho, hs⟩ := unhide HL
      have hx : L[k]? = some L[k] := List.getElem?_eq_getElem (by omega)
      obtain ⟨z0, z1, z2⟩ := hs.cells hx
      have f0 := hs.fr (k * 3)
      have f1 := hs.fr (k * 3 + 1)
      have f2 := hs.fr (k * 3 + 2)
      have hlt2 := hs.lt
      have HW := hide (hs.write (i := k) (by omega) y0)
      generalize L[k] = x at *
      have j1 : (k : Int) < (N : Int) := by omega
      clear HL hs
      go_wp2_with fail
      go_roundw
      case rel => exact ⟨k + 1, by omega, by go_num, hide ((((unhide HB).setCell (p := ⟨B, _, none⟩) hB _).setCell (p := ⟨B, _, none⟩) hB _).setCell (p := ⟨B, _, none⟩) hB _), hide ⟨L.set k y0, by rw [List.length_set]; exact hL, fun x hx => (List.mem_or_eq_of_mem_set hx).elim (ho x) (fun e => e ▸ y0_ok), unhide HW⟩⟩
      case measure => simp [intOf]; omega
    · obtain ⟨L, hL, ho, hs⟩ := unhide HL
      have c6 := unhide C3 L B c wr hs (by omega) ho
      rw [hL] at c6
      have C6 := hide c6
      have C7 := hide (fun W hb hg => by have := unhide C2 L B c W (hs.later hb) (by omega) ho hg; rw [hL] at this; exact this)
      generalize ckS L = ck2 at *
      clear HL hs ho c6 C3 C2
      go_wp2_with fail
      refine (unhide C6).mono ?_
      rintro e w6 ⟨rfl, hb6⟩
      have HB6 := hide (bl_t (unhide HB) hb6)
      have C8 := hide (unhide C7 w6 hb6 ((unhide HG).later (unhide HB6)))
      clear hb6 C7
      go_wp2_with fail
      refine (unhide C8).mono ?_
      rintro e w7 ⟨rfl, hb7⟩
      have HB7 := hide (bl_t (unhide HB6) hb7)
      clear hb7
      go_wp2_with fail
      refine (num_any _ _).mono ?_
      rintro e w' ⟨rfl, rfl⟩
      go_wp2_with fail
      go_ret
      exact ⟨rfl, unhide HB7⟩

end Go.Proofs.YtjlgfljfokmemaaDoor
