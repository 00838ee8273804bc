import Derived.Test.YtcebpdcijpgkjaaGreatDoorZc36
import Derived.Test.YtcebpdcijpgkjaaGreatDoorZc27
import Derived.IntWalk
import Derived.Deep.CutRange
namespace Go.Proofs.YtcebpdcijpgkjaaGreatDoor
open Go.RowKit Go.Maps Go.Shelf

theorem closed_then {ps : List Pk} (sm : SmP ps) (ht : akK ps ps.length ≤ 1048576) {inn : Nat → Bool} (hin : Clo ps inn ∧ (∀ G, Clo ps G → ∀ p, p < ps.length → G p = true → inn p = true) ∧ ∀ p, inn p = true → p < ps.length) {X : World} {v : Value} (pk : Pkl X v ps) :
    Calls Tryz.prog 15 #[v] X fun e w' => ∃ r, e = .returned r ∧ w'.ownsRow X.heap.size 3 1 r (plL inn ps.length).length (ints (plL inn ps.length)) ∧ RowKit.Below X.heap.size X w' := by
  refine (Closed_any sm pk ht).mono ?_
  rintro e w' ⟨r, i2, rfl, ro, h2, hb⟩
  rw [closed_two h2 hin] at ro
  exact ⟨r, rfl, ro, hb⟩
theorem row_kyl2 {lo N : Nat} {w : World} {u : Value} {L : List (Nm × Nm)} (h : w.ownsRow lo 29 2 u N (kyC L)) (hN : N = L.length) : Kyl w u L := by
  subst hN
  exact row_kyl h
theorem two_news (w : World) (x y : Value) (t : TypeId) : ∀ j u, [x, y][j]? = some u → (w.alloc (.cells #[x, y] t)).cell? ((⟨w.heap.size, 0, none⟩ : Addr).add j) = some u := by
  intro j u hj
  match j, hj with
  | 0, hj =>
    simp at hj
    subst hj
    simp [Addr.add]
  | 1, hj =>
    simp at hj
    subst hj
    simp [Addr.add]
theorem own_lt {lo e size n : Nat} {W : World} {v : Value} {xs : List Value} (h : W.ownsRow lo e size v n xs) : ∀ g, v.ownBlock = some g → lo ≤ g ∧ g < W.heap.size := fun g e => World.ownsRow.lt h g e

set_option maxRecDepth 100000 in
set_option maxHeartbeats 16000000 in
theorem validClosed_walk (ps : List Pk) (s : Value) (ks : List (Nm × Nm)) (ka : Option Addr) (kc : Nat) (w : World) (sm : SmP ps) (hz : ∀ p ∈ ps, PkZ p) (ht : akK ps ps.length ≤ 1048576) (ho : (ps.map fun p => p.dp.length + (clN p.pr).length).sum ≤ 1048576) (h : Pkl w s ps) (hk : Kyl w (.slice ka ks.length kc) ks) (hkl : ks.length ≤ 1048576) (hkz : ∀ x ∈ ks, x.1.size ≤ maxLen ∧ x.2.size ≤ maxLen) :
    Calls Tryz.prog 4 #[s, .slice ka ks.length kc] w fun e w' => e = .returned (.bool true) ∧ RowKit.Below w.heap.size w w' := by
  have cL := hide (lent_win ps s w (by have := sm.l; omega) hz h)
  obtain ⟨va, vc, rfl⟩ : ∃ a c, s = .slice a ps.length c := let ⟨a, c, e, _⟩ := h; ⟨a, c, e⟩
  have HSM := hide sm
  have HZ := hide hz
  have HT := hide ht
  have HO := hide ho
  have HFI := hide (show ∀ p ∈ ps, ∀ x ∈ p.fs, ∃ s : Nm, x[0]? = some (Value.string s) from fun p hp x hx => let ⟨s, hs, _⟩ := sm.f p hp x hx; ⟨s, hs⟩)
  have HKZ := hide hkz
  go_enter Tryz.func4, Tryz.ntmps4
  go_wp2_with fail
  refine (unhide cL).mono ?_
  rintro e w1 ⟨rfl, hb1, l1, Md, Mr, pr1⟩
  have H1 := hide (h.later hb1)
  have HW1 := hide (hk.later hb1)
  have HL1 := hide l1
  have HPR := hide pr1
  have HB1 := hide hb1
  have HLl : w.heap.size < w1.heap.size := l1.row.lt
  have mkK := makeKy ks.length (by omega) w1
  obtain ⟨v', hcp⟩ := copy_kys ks ka kc 3 w1.heap.size (ks.length + 1) (w1.alloc (.cells (madeCells #[.string ⟨#[]⟩, .string ⟨#[]⟩] ((ks.length + 1) * 2)) 29)) (hk.later (bl_t hb1 ((Below.refl _ _).alloc (Nat.le_refl _) _))) (fun j hj => by rw [World.cell?_alloc_at _ _ _ _ rfl]; exact made_some _ _ _ (by omega)) (fun j => by rw [World.frozen?_alloc_at _ _ _ _ rfl])
  obtain ⟨k3, ⟨z3, cz3⟩, fz3, b3⟩ := kk_start w1 ks
  unfold w3K at k3 cz3 fz3 b3
  have HK3 := hide (And.intro k3 b3)
  have hN2 : (ks.length : Int) < (ks.length : Int) + 1 := by omega
  clear cL h hk l1 pr1 hb1 sm hz ht ho hkz k3 b3
  go_wp2_with fail
  generalize ((w1.alloc (.cells (madeCells #[.string ⟨#[]⟩, .string ⟨#[]⟩] ((ks.length + 1) * 2)) 29)).setCells w1.heap.size 0 (kyC ks)).setCell ⟨w1.heap.size, ks.length * 2, none⟩ (.string ⟨#[77, 65, 82, 75]⟩) = w3 at HK3 ⊢
  clear mkK hcp cz3 fz3
  have HPK := hide (show ∀ X, RowKit.Below w1.heap.size w1 X → Pkl X (.slice (some ⟨w.heap.size, 0, none⟩) ps.length (ps.length + 1)) ps ∧ Pkl X (.slice va ps.length vc) ps from fun X hX => ⟨((unhide HL1).pkl (unhide HZ)).later hX, (unhide H1).later hX⟩)
  refine (rClosed_any (unhide HSM) (unhide HPK w3 (unhide HK3).2).2).mono ?_
  rintro e w4 ⟨r0, inn, rfl, ro4, hinn, hb4⟩
  obtain ⟨U, hU⟩ : ∃ U, U = plL inn ps.length := ⟨_, rfl⟩
  obtain ⟨M, hM⟩ : ∃ M, M = U.length := ⟨_, rfl⟩
  have CC := hide (show ∀ X, RowKit.Below w1.heap.size w1 X → Calls Tryz.prog 15 #[.slice (some ⟨w.heap.size, 0, none⟩) ps.length (ps.length + 1)] X fun e w' => ∃ r, e = .returned r ∧ w'.ownsRow X.heap.size 3 1 r M (ints U) ∧ RowKit.Below X.heap.size X w' from fun X hX => by
    rw [hM, hU]
    exact closed_then (unhide HSM) (unhide HT) hinn (unhide HPK X hX).1)
  have hM1 : M ≤ 1048576 := by
    rw [hM, hU]
    have h1 := plL_len inn ps.length
    have h2 := (unhide HSM).l
    omega
  rw [← hU, ← hM] at ro4
  obtain ⟨L, hLl, cB, cR⟩ := breaks_all (unhide HSM) hkl (unhide HKZ)
  obtain ⟨ML, hML⟩ : ∃ n, n = L.length := ⟨_, rfl⟩
  have CB := hide (show ∀ X, RowKit.Below w1.heap.size w1 X → Kk X w1.heap.size ks → Calls Tryz.prog 16 #[.slice (some ⟨w.heap.size, 0, none⟩) ps.length (ps.length + 1), .slice (some ⟨w1.heap.size, 0, none⟩) ks.length (ks.length + 1)] X fun e w' => ∃ r, e = .returned r ∧ w'.ownsRow X.heap.size 29 2 r ML (kyC L) ∧ RowKit.Below X.heap.size X w' from fun X hX k => by
    rw [hML]
    exact cB X _ _ (unhide HPK X hX).1 k.kyl)
  have CR := hide (show ∀ X, RowKit.Below w1.heap.size w1 X → Calls Tryz.prog 17 #[.slice va ps.length vc, .slice ka ks.length kc] X fun e w' => ∃ r, e = .returned r ∧ w'.ownsRow X.heap.size 29 2 r ML (kyC L) ∧ RowKit.Below X.heap.size X w' from fun X hX => by
    rw [hML]
    exact cR X _ _ (unhide HPK X hX).2 ((unhide HW1).later hX))
  have hML1 : ML ≤ 1048576 := by rw [hML]; exact hLl
  have HML := hide hML
  clear hinn hU hM hML hLl cB cR
  obtain ⟨a0, c0, rfl⟩ := owns_form ro4
  have HS3 := hide (unhide HK3).1.lt
  have HS4 := hide hb4.size
  have LT0 := hide (own_lt ro4)
  have K4 := hide (And.intro ((unhide HK3).1.later hb4) (bl_t (unhide HK3).2 hb4))
  have RO4 := hide ro4
  clear ro4 hb4 HK3
  have hN3 : (0 : Int) ≤ (ks.length : Int) := by omega
  have hN4 : (ks.length : Int) ≤ (ks.length : Int) + 1 := by omega
  have hN5 : ks.length ≤ ks.length + 1 := by omega
  go_wp2_with fail
  refine (unhide CC w4 (unhide K4).2).mono ?_
  rintro e w5 ⟨r1, rfl, ro5, hb5⟩
  obtain ⟨a1, c1, rfl⟩ := owns_form ro5
  have HS5 := hide hb5.size
  have LT1 := hide (own_lt ro5)
  have K5 := hide (And.intro ((unhide K4).1.later hb5) (bl_t (unhide K4).2 hb5))
  have RO5 := hide (And.intro ro5 (row_low (unhide RO4) hb5))
  clear ro5 hb5 K4 RO4
  go_wp2_with fail
  refine (unhide CC w5 (unhide K5).2).mono ?_
  rintro e w6 ⟨r2, rfl, ro6, hb6⟩
  obtain ⟨a2, c2, rfl⟩ := owns_form ro6
  have HS6 := hide hb6.size
  have LT2 := hide (own_lt ro6)
  have K6 := hide (And.intro ((unhide K5).1.later hb6) (bl_t (unhide K5).2 hb6))
  have RO6 := hide (And.intro ro6 (And.intro (row_low (unhide RO5).1 hb6) (row_low (unhide RO5).2 hb6)))
  clear ro6 hb6 K5 RO5
  go_wp2_with fail
  refine (unhide CB w6 (unhide K6).2 (unhide K6).1).mono ?_
  rintro e w7 ⟨r3, rfl, ro7, hb7⟩
  obtain ⟨a3, c3, rfl⟩ := owns_form ro7
  have HS7 := hide hb7.size
  have LT3 := hide (own_lt ro7)
  have K7 := hide (And.intro ((unhide K6).1.later hb7) (bl_t (unhide K6).2 hb7))
  have RO7 := hide (And.intro ro7 (And.intro (row_low (unhide RO6).1 hb7) (And.intro (row_low (unhide RO6).2.1 hb7) (row_low (unhide RO6).2.2 hb7))))
  clear ro7 hb7 K6 RO6
  go_wp2_with fail
  refine (unhide CB w7 (unhide K7).2 (unhide K7).1).mono ?_
  rintro e w8 ⟨r4, rfl, ro8, hb8⟩
  obtain ⟨a4, c4, rfl⟩ := owns_form ro8
  have HS8 := hide hb8.size
  have LT4 := hide (own_lt ro8)
  have K8 := hide (And.intro ((unhide K7).1.later hb8) (bl_t (unhide K7).2 hb8))
  have RO8 := hide (And.intro ro8 (And.intro (row_low (unhide RO7).1 hb8) (And.intro (row_low (unhide RO7).2.1 hb8) (And.intro (row_low (unhide RO7).2.2.1 hb8) (row_low (unhide RO7).2.2.2 hb8)))))
  clear ro8 hb8 K7 RO7
  go_wp2_with fail
  refine (unhide CR w8 (unhide K8).2).mono ?_
  rintro e w9 ⟨r5, rfl, ro9, hb9⟩
  obtain ⟨a5, c5, rfl⟩ := owns_form ro9
  have HS9 := hide hb9.size
  have LT5 := hide (own_lt ro9)
  have K9 := hide (And.intro ((unhide K8).1.later hb9) (bl_t (unhide K8).2 hb9))
  have RO9 := hide (show w9.ownsRow w8.heap.size 29 2 (.slice a5 ML c5) ML (kyC L) ∧ w9.ownsRow w7.heap.size 29 2 (.slice a4 ML c4) ML (kyC L) ∧ w9.ownsRow w6.heap.size 29 2 (.slice a3 ML c3) ML (kyC L) ∧ w9.ownsRow w5.heap.size 3 1 (.slice a2 M c2) M (ints U) ∧ w9.ownsRow w4.heap.size 3 1 (.slice a1 M c1) M (ints U) ∧ w9.ownsRow w3.heap.size 3 1 (.slice a0 M c0) M (ints U) from ⟨ro9, row_low (unhide RO8).1 hb9, row_low (unhide RO8).2.1 hb9, row_low (unhide RO8).2.2.1 hb9, row_low (unhide RO8).2.2.2.1 hb9, row_low (unhide RO8).2.2.2.2 hb9⟩)
  clear ro9 hb9 K8 RO8 CC CB CR
  go_wp2_with fail
  refine (sameInts_yes (unhide RO9).2.2.2.2.1 (unhide RO9).2.2.2.2.2 (by omega)).mono ?_
  rintro e w10 ⟨rfl, hb10⟩
  have K10 := hide (And.intro ((unhide K9).1.later hb10) (bl_t (unhide K9).2 hb10))
  have RO10 := hide (show w10.ownsRow w8.heap.size 29 2 (.slice a5 ML c5) ML (kyC L) ∧ w10.ownsRow w7.heap.size 29 2 (.slice a4 ML c4) ML (kyC L) ∧ w10.ownsRow w6.heap.size 29 2 (.slice a3 ML c3) ML (kyC L) ∧ w10.ownsRow w5.heap.size 3 1 (.slice a2 M c2) M (ints U) ∧ w10.ownsRow w4.heap.size 3 1 (.slice a1 M c1) M (ints U) ∧ w10.ownsRow w3.heap.size 3 1 (.slice a0 M c0) M (ints U) from ⟨row_low (unhide RO9).1 hb10, row_low (unhide RO9).2.1 hb10, row_low (unhide RO9).2.2.1 hb10, row_low (unhide RO9).2.2.2.1 hb10, row_low (unhide RO9).2.2.2.2.1 hb10, row_low (unhide RO9).2.2.2.2.2 hb10⟩)
  have HZ10 := hide hb10.size
  clear hb10 K9 RO9
  go_wp2_with fail
  have CK := hide (show ∀ X (a : Option Addr) (c : Nat) (lo : Nat) (a' : Option Addr) (c' : Nat) (lo' : Nat), X.ownsRow lo 29 2 (.slice a ML c) ML (kyC L) → X.ownsRow lo' 29 2 (.slice a' ML c') ML (kyC L) → Calls Tryz.prog 19 #[.slice a ML c, .slice a' ML c'] X fun e w' => e = .returned (.bool true) ∧ RowKit.Below X.heap.size X w' from fun X a c lo a' c' lo' h1 h2 => sameKeys_yes (l := L) (row_kyl2 h1 (unhide HML)) (row_kyl2 h2 (unhide HML)) (by rw [← unhide HML]; exact hML1))
  refine (unhide CK w10 _ _ _ _ _ _ (unhide RO10).2.2.1 (unhide RO10).1).mono ?_
  rintro e w11 ⟨rfl, hb11⟩
  have K11 := hide (And.intro ((unhide K10).1.later hb11) (bl_t (unhide K10).2 hb11))
  have RO11 := hide (show w11.ownsRow w8.heap.size 29 2 (.slice a5 ML c5) ML (kyC L) ∧ w11.ownsRow w7.heap.size 29 2 (.slice a4 ML c4) ML (kyC L) ∧ w11.ownsRow w6.heap.size 29 2 (.slice a3 ML c3) ML (kyC L) ∧ w11.ownsRow w5.heap.size 3 1 (.slice a2 M c2) M (ints U) ∧ w11.ownsRow w4.heap.size 3 1 (.slice a1 M c1) M (ints U) ∧ w11.ownsRow w3.heap.size 3 1 (.slice a0 M c0) M (ints U) from ⟨row_low (unhide RO10).1 hb11, row_low (unhide RO10).2.1 hb11, row_low (unhide RO10).2.2.1 hb11, row_low (unhide RO10).2.2.2.1 hb11, row_low (unhide RO10).2.2.2.2.1 hb11, row_low (unhide RO10).2.2.2.2.2 hb11⟩)
  have HZ11 := hide (show w6.heap.size ≤ w11.heap.size from by have := unhide HS7; have := unhide HS8; have := unhide HS9; have := unhide HZ10; have := hb11.size; omega)
  clear hb11 K10 RO10 HZ10
  go_wp2_with fail
  have HRA := hide (show Ra w11 w11 (.slice a1 M c1) M from ⟨⟨_, row_lo2 (unhide RO11).2.2.2.2.1 (Nat.zero_le _)⟩, Fx.refl _ _⟩)
  go_loopw [13] (fun iv wr => ∃ i : Nat, iv = .int .i64 i ∧ i ≤ M ∧ Hid (Ra w11 wr (.slice a1 M c1) M)) (fun iv _ => M - (intOf iv).toNat)
  case atStart => exact ⟨0, by go_num, Nat.zero_le _, HRA⟩
  case round =>
    clear HRA
    obtain ⟨i, rfl, hile, HR⟩ := hrel
    by_cases hlt : i < M
    · have hlt2 : (i : Int) < (M : Int) := by omega
      obtain ⟨g, rfl, ⟨z, cz⟩, fz, r2⟩ := (unhide HR).set hlt (.int .i64 (-1))
      have HR2 := hide r2
      clear r2
      go_wp2_with fail
      go_roundw
      case rel => exact ⟨i + 1, by go_num, by omega, HR2⟩
      case measure => simp [intOf]; omega
    · obtain rfl : i = M := by omega
      obtain ⟨xs8, hr8⟩ := (unhide HR).row
      have CL := hide (longer_any hr8 (Nat.zero_le _) (by omega))
      have hadd : (i : Int) + 100 = (i : Int) + 100 := rfl
      clear hr8 hadd
      go_wp2_with (go_at_call 20; refine (unhide CL).mono ?_; rintro e w13 ⟨rfl, hf13⟩; have HF13 := hide ((unhide HR).fx.trans hf13); clear hf13 CL)
      have HS := hide (show w1.heap.size < w3.heap.size ∧ w3.heap.size ≤ w4.heap.size ∧ w4.heap.size ≤ w5.heap.size ∧ w5.heap.size ≤ w6.heap.size ∧ w6.heap.size ≤ w7.heap.size ∧ w7.heap.size ≤ w8.heap.size from ⟨unhide HS3, unhide HS4, unhide HS5, unhide HS6, unhide HS7, unhide HS8⟩)
      have K13 := hide (show Kk w13 w1.heap.size ks ∧ RowKit.Below w1.heap.size w1 w13 from by
        obtain ⟨k, b⟩ := unhide K11
        have z := unhide HS
        refine ⟨k.same ((unhide HF13).blk _ k.lt fun e => ?_), Fx.low b (unhide HF13) (fun g e => ?_) b.size⟩
        · have := (unhide LT1 _ e).1
          omega
        · have := (unhide LT1 _ e).1
          omega)
      have RO13 := hide (show w13.ownsRow w8.heap.size 29 2 (.slice a5 ML c5) ML (kyC L) ∧ w13.ownsRow w7.heap.size 29 2 (.slice a4 ML c4) ML (kyC L) ∧ w13.ownsRow w6.heap.size 29 2 (.slice a3 ML c3) ML (kyC L) ∧ w13.ownsRow w5.heap.size 3 1 (.slice a2 i c2) i (ints U) ∧ w13.ownsRow w3.heap.size 3 1 (.slice a0 i c0) i (ints U) from by
        have f := unhide HF13
        have z := unhide HS
        obtain ⟨r5, r4, r3, r2, r1, r0⟩ := unhide RO11
        refine ⟨f.row r5 fun g e e2 => ?_, f.row r4 fun g e e2 => ?_, f.row r3 fun g e e2 => ?_, f.row r2 fun g e e2 => ?_, f.row r0 fun g e e2 => ?_⟩
        · have := (own_lt r5 g e).1; have := (unhide LT1 g e2).2; omega
        · have := (own_lt r4 g e).1; have := (unhide LT1 g e2).2; omega
        · have := (own_lt r3 g e).1; have := (unhide LT1 g e2).2; omega
        · have := (own_lt r2 g e).1; have := (unhide LT1 g e2).2; omega
        · have := (unhide LT0 g e).2; have := (unhide LT1 g e2).1; omega)
      have HZ13 := hide (show w6.heap.size ≤ w13.heap.size from Nat.le_trans (unhide HZ11) (unhide HF13).size)
      clear K11 RO11 HF13 HR LT1 HS3 HS4 HS5 HS6 HS7 HS8 HS9 HZ11
      have HRK := hide (show Rk w13 w13 w6.heap.size (.slice a3 ML c3) ML from ⟨⟨_, (unhide RO13).2.2.1⟩, Fx.refl _ _⟩)
      go_loopw [15] (fun iv wr => ∃ j : Nat, iv = .int .i64 j ∧ j ≤ ML ∧ Hid (Rk w13 wr w6.heap.size (.slice a3 ML c3) ML)) (fun iv _ => ML - (intOf iv).toNat)
      case atStart => exact ⟨0, by go_num, Nat.zero_le _, HRK⟩
      case round =>
        clear HRK
        obtain ⟨j, rfl, hjle, HR⟩ := hrel
        by_cases hlt : j < ML
        · have hlt2 : (j : Int) < (ML : Int) := by omega
          obtain ⟨g, rfl, hg, ⟨z0, cz0⟩, ⟨z1, cz1⟩, fz0, fz1, r2⟩ := (unhide HR).set hlt (.string ⟨#[]⟩) (.string ⟨#[]⟩)
          have HR2 := hide r2
          clear r2
          go_wp2_with fail
          go_roundw
          case rel => exact ⟨j + 1, by go_num, by omega, HR2⟩
          case measure => simp [intOf]; omega
        · obtain rfl : j = ML := by omega
          obtain ⟨ys0, hr15⟩ := (unhide HR).row
          have HG := hide (show Gk wr wr w6.heap.size (.slice a3 j c3) (.slice a3 j c3) j from ⟨⟨_, hr15⟩, fun g e => .inl e, Fx.refl _ _⟩)
          obtain ⟨i0, hi0, hz0, hz1, hz2⟩ := info_parts2 infoKz
          have HZ15 := hide (show w6.heap.size ≤ wr.heap.size from Nat.le_trans (unhide HZ13) (unhide HR).fx.size)
          have hz15 := unhide HZ15
          go_wp2_with (first | (at_builtin; go_must (refine wpList_append_own_at _ rfl _ _ 33 rfl w6.heap.size 29 i0 (.agg #[.string ⟨#[]⟩, .string ⟨#[]⟩]) 2 32 Tryz.underlying33 hi0 hz0 hz1 hz2 rfl (by decide) _ _ _ rfl (hr15.alloc _) ⟨wr.heap.size, 0, none⟩ 1 1 [.string ⟨#[77, 79, 82, 69]⟩, .string ⟨#[]⟩] rfl rfl (two_news _ _ _ _) (by simp [Value.oneCell']) (by unfold maxLen; omega) (by omega) (by simp; omega) ?_); intro v' w16 hown hgrow _ hat; have HG16 := hide ((unhide HG).grow hown hgrow hat); clear hown hgrow hat))
          obtain ⟨w15, rfl⟩ : ∃ x, x = wr := ⟨_, rfl⟩
          clear hr15 HG hz15
          go_loopw [16, 17] (fun mv iv wr => ∃ t : Nat, iv = .int .i64 t ∧ t ≤ 99 ∧ Hid (Gk w15 wr w6.heap.size (.slice a3 j c3) mv (j + 1 + t))) (fun _ iv _ => 99 - (intOf iv).toNat)
          case atStart => exact ⟨0, by go_num, Nat.zero_le _, HG16⟩
          case round =>
            clear HG16
            obtain ⟨t, rfl, htle, HU⟩ := hrel
            obtain ⟨ys, hrow⟩ := (unhide HU).row
            have hz17 : w6.heap.size ≤ wr.heap.size := Nat.le_trans (unhide HZ15) (unhide HU).fx.size
            by_cases hlt : t < 99
            · have hlt2 : (t : Int) < 99 := by omega
              go_wp2_with (first | (at_builtin; go_must (refine wpList_append_own_at _ rfl _ _ 33 rfl w6.heap.size 29 i0 (.agg #[.string ⟨#[]⟩, .string ⟨#[]⟩]) 2 32 Tryz.underlying33 hi0 hz0 hz1 hz2 rfl (by decide) _ _ _ rfl (hrow.alloc _) ⟨wr.heap.size, 0, none⟩ 1 1 [.string ⟨#[77, 79, 82, 69]⟩, .string ⟨#[]⟩] rfl rfl (two_news _ _ _ _) (by simp [Value.oneCell']) (by unfold maxLen; omega) (by omega) (by simp; omega) ?_); intro v' w9 hown hgrow _ hat; have HU9 := hide ((unhide HU).grow hown hgrow hat); clear hown hgrow hat))
              go_roundw
              case rel => exact ⟨t + 1, by go_num, by omega, HU9⟩
              case measure => simp [intOf]; omega
            · obtain rfl : t = 99 := by omega
              obtain ⟨ma, mc, rfl⟩ := owns_form hrow
              have HF17 := hide ((unhide HR).fx.trans (unhide HU).fx)
              have K17 := hide (show Kk wr w1.heap.size ks ∧ RowKit.Below w1.heap.size w1 wr from by
                obtain ⟨k, b⟩ := unhide K13
                have z := unhide HS
                refine ⟨k.same ((unhide HF17).blk _ k.lt fun e => ?_), Fx.low b (unhide HF17) (fun g e => ?_) b.size⟩
                · have := (unhide LT3 _ e).1
                  omega
                · have := (unhide LT3 _ e).1
                  omega)
              have RO17 := hide (show wr.ownsRow w8.heap.size 29 2 (.slice a5 j c5) j (kyC L) ∧ wr.ownsRow w7.heap.size 29 2 (.slice a4 j c4) j (kyC L) ∧ wr.ownsRow w5.heap.size 3 1 (.slice a2 i c2) i (ints U) ∧ wr.ownsRow w3.heap.size 3 1 (.slice a0 i c0) i (ints U) from by
                have f := unhide HF17
                have z := unhide HS
                obtain ⟨r5, r4, r3, r2, r0⟩ := unhide RO13
                refine ⟨f.row r5 fun g e e2 => ?_, f.row r4 fun g e e2 => ?_, f.row r2 fun g e e2 => ?_, f.row r0 fun g e e2 => ?_⟩
                · have := (own_lt r5 g e).1; have := (unhide LT3 g e2).2; omega
                · have := (own_lt r4 g e).1; have := (unhide LT3 g e2).2; omega
                · have := (unhide LT2 g e).2; have := (unhide LT3 g e2).1; omega
                · have := (unhide LT0 g e).2; have := (unhide LT3 g e2).1; omega)
              clear HU hrow HF17 RO13 K13 HR hi0 hz0 hz1 hz2 LT0 LT2 LT3 LT4 LT5 HZ13 HZ15 hz17
              have CI := hide (sameInts_yes (unhide RO17).2.2.1 (unhide RO17).2.2.2 (by omega))
              have CK1 := hide (fun (X : World) (hX : RowKit.Below wr.heap.size wr X) => unhide CK X _ _ _ _ _ _ (row_low (unhide RO17).2.1 hX) (row_low (unhide RO17).1 hX))
              have CK2 := hide (fun (X : World) (hX : RowKit.Below wr.heap.size wr X) => sameKeys_yes (l := ks) (((unhide K17).1.later hX).kyl (c := ks.length + 1)) ((unhide HW1).later (bl_t (unhide K17).2 hX)) hkl)
              have CST := hide (fun (X : World) (hX : RowKit.Below wr.heap.size wr X) => still_any ps w.heap.size w.heap.size (.slice va ps.length vc) X (by have := (unhide HSM).l; omega) (unhide HZ) ((unhide HL1).later (bl_t (unhide K17).2 hX)) ((unhide H1).later (bl_t (unhide K17).2 hX)))
              have hMM : ((((j + 1 + 99 : Nat) : Int)) != (j : Int) + 100) = false := by
                rw [bne_eq_false_iff_eq]
                omega
              go_wp2_with (first
                | (go_at_call 18; refine (unhide CI).mono ?_; rintro e y1 ⟨rfl, hv1⟩; have E1 := hide hv1; clear hv1 CI)
                | (go_at_call 19; refine (unhide CK1 y1 (unhide E1)).mono ?_; rintro e y2 ⟨rfl, hv2⟩; have E2 := hide (bl_t (unhide E1) hv2); clear hv2 CK1)
                | (go_at_call 19; refine (unhide CK2 y2 (unhide E2)).mono ?_; rintro e y3 ⟨rfl, hv3⟩; have E3 := hide (bl_t (unhide E2) hv3); have hmk := ((unhide K17).1.later (unhide E3)).mrk; clear hv3 CK2)
                | (go_at_call 12; refine (unhide CST y3 (unhide E3)).mono ?_; rintro e y4 ⟨rfl, hv4⟩; have E4 := hide (bl_t (unhide E3) hv4); clear hv4 CST))
              have HX0 := hide (show Kx y4 y4 w1.heap.size ks.length from ⟨ks, rfl, (unhide K17).1.later (unhide E4), unhide HKZ, Fx.refl _ _⟩)
              have HB4 := hide (bl_t (unhide K17).2 (unhide E4))
              clear hmk hMM E1 E2 E3 E4 K17 RO17 CK HKZ HW1
              go_loopw [18] (fun iv wr => ∃ t : Nat, iv = .int .i64 t ∧ t ≤ ks.length ∧ Hid (Kx y4 wr w1.heap.size ks.length)) (fun iv _ => ks.length - (intOf iv).toNat)
              case atStart => exact ⟨0, by go_num, Nat.zero_le _, HX0⟩
              case round =>
                clear HX0
                obtain ⟨t, rfl, htle, HX⟩ := hrel
                by_cases hlt : t < ks.length
                · have hlt2 : (t : Int) < (ks.length : Int) := by omega
                  have hlt3 : (t : Int) < (ks.length : Int) + 1 := by omega
                  obtain ⟨⟨z0, cz0⟩, ⟨z1, cz1⟩, fz0, fz1, hB, k2⟩ := (unhide HX).write hlt (⟨#[110, 111, 110, 101]⟩, ⟨#[]⟩) ⟨by decide, by decide⟩
                  have HX2 := hide k2
                  clear k2
                  go_wp2_with fail
                  go_roundw
                  case rel => exact ⟨t + 1, by go_num, by omega, HX2⟩
                  case measure => simp [intOf]; omega
                · obtain rfl : t = ks.length := by omega
                  obtain ⟨w18, rfl⟩ : ∃ x, x = wr := ⟨_, rfl⟩
                  go_upto_region 33 with fail
                  go_cut [166] from 159 to 166 (fun c wc => (∃ b : Bool, c = .bool b ∧ (b = true → 0 < ks.length ∧ 0 < ps.length)) ∧ wc = w18)
                  case first =>
                    by_cases hk0 : 0 < ks.length
                    · have hk1 : (0 : Int) < (ks.length : Int) := by omega
                      by_cases hp0 : 0 < ps.length
                      · have hp1 : (0 : Int) < (ps.length : Int) := by omega
                        go_wp2_with fail
                        go_meet
                        case rel => exact ⟨⟨true, rfl, fun _ => ⟨hk0, hp0⟩⟩, rfl⟩
                      · have hp1 : ¬ (0 : Int) < (ps.length : Int) := by omega
                        go_wp2_with fail
                        go_meet
                        case rel => exact ⟨⟨false, rfl, fun h => by cases h⟩, rfl⟩
                    · have hk1 : ¬ (0 : Int) < (ks.length : Int) := by omega
                      go_wp2_with fail
                      go_meet
                      case rel => exact ⟨⟨false, rfl, fun h => by cases h⟩, rfl⟩
                  obtain ⟨⟨bb, rfl, hbb⟩, rfl⟩ := hcut
                  go_upto_if 166 with fail
                  go_cut [] from 166 to 177 (fun wc => Hid (Kx y4 wc w1.heap.size ks.length))
                  case first =>
                    cases bb
                    · go_wp2_with fail
                      go_meet
                      case rel => exact HX
                    · obtain ⟨hk0, hp0⟩ := hbb rfl
                      have hk1 : (0 : Int) < (ks.length : Int) := by omega
                      have hp1 : (0 : Int) < (ps.length : Int) := by omega
                      have hk2 : (0 : Int) < (ks.length : Int) + 1 := by omega
                      obtain ⟨p0, hp0s⟩ : ∃ p, ps[0]? = some p := ⟨_, List.getElem?_eq_getElem hp0⟩
                      obtain ⟨sb, so, rfl, hsb, c0, c1⟩ := (unhide H1).first hp0s
                      have HXd := (unhide HX).later (Below.refl _ wc).drew
                      have bd := HXd.low (unhide HB4) (unhide HB4).size
                      obtain ⟨⟨z0, cz0⟩, ⟨z1, cz1⟩, fz0, fz1, hB, k2⟩ := (unhide HX).write hk0 (p0.nm, p0.vr) ⟨((unhide HSM).z p0 (List.mem_of_getElem? hp0s)).1, ((unhide HSM).z p0 (List.mem_of_getElem? hp0s)).2.1⟩
                      have k3 := k2.later (Below.refl _ _).drew
                      have be := k3.low (unhide HB4) (unhide HB4).size
                      have HX2 := hide k3
                      have HS34 := hide (And.intro ((bd.cell (p := ⟨sb, so, none⟩) hsb).trans c0) ((bd.cell (p := ⟨sb, so + 1, none⟩) hsb).trans c1))
                      have HS34b := hide (And.intro ((be.cell (p := ⟨sb, so, none⟩) hsb).trans c0) ((be.cell (p := ⟨sb, so + 1, none⟩) hsb).trans c1))
                      simp only [Nat.zero_mul, Nat.zero_add] at cz0 cz1 fz0 fz1
                      clear k2 k3 HXd bd be c0 c1
                      go_wp2_with fail
                      refine wp_region_held_drew (S := fun w' => w'.cell? ⟨sb, so, none⟩ = some (.string p0.nm) ∧ w'.cell? ⟨sb, so + 1, none⟩ = some (.string p0.vr)) (by kernel_rfl) ?_ (fun hHeld => ?_)
                      · exact unhide HS34
                      refine wpAnyH_take (i := 0) (oi := { dst := some 167, op := Op.move (Operand.tmp 6), type := 33, pos := "law.go:312", after := #[], guard := none }) (v := ?_) rfl (by kernel_rfl) (by kernel_rfl) (by kernel_rfl) (fun _ _ _ h => h) (Or.inl ⟨by rfl, ?_⟩) (by assumption) ?_
                      rotate_left
                      · intro w hSw; (try dsimp only at hSw); go_simp; (try with_reducible rfl)
                      try simp only [Act.put, List.setIfInBounds_toArray, List.set_cons_zero, List.set_cons_succ]
                      refine wpAnyH_take (i := 1) (oi := { dst := some 168, op := Op.move (Operand.tmp 0), type := 22, pos := "law.go:312", after := #[], guard := none }) (v := ?_) rfl (by kernel_rfl) (by kernel_rfl) (by kernel_rfl) (fun _ _ _ h => h) (Or.inl ⟨by rfl, ?_⟩) (by assumption) ?_
                      rotate_left
                      · intro w hSw; (try dsimp only at hSw); go_simp; (try with_reducible rfl)
                      try simp only [Act.put, List.setIfInBounds_toArray, List.set_cons_zero, List.set_cons_succ]
                      refine wpAnyH_take (i := 2) (oi := { dst := some 169, op := Op.indexAddr 22 (Operand.tmp 168) (Operand.const (Value.int IntKind.i64 0)), type := 0, pos := "law.go:312", after := #[{ on := 1, ground := Ground.data }], guard := none }) (v := ?_) rfl (by kernel_rfl) (by kernel_rfl) (by kernel_rfl) (fun _ _ _ h => h) (Or.inl ⟨by rfl, ?_⟩) (by assumption) ?_
                      rotate_left
                      · intro w hSw; (try dsimp only at hSw); go_simp; (try with_reducible rfl)
                      try simp only [Act.put, List.setIfInBounds_toArray, List.set_cons_zero, List.set_cons_succ]
                      refine wpAnyH_take (i := 3) (oi := { dst := some 170, op := Op.fieldAddr 46 (Operand.tmp 169) 0, type := 0, pos := "law.go:312", after := #[{ on := 2, ground := Ground.data }], guard := none }) (v := ?_) rfl (by kernel_rfl) (by kernel_rfl) (by kernel_rfl) (fun _ _ _ h => h) (Or.inl ⟨by rfl, ?_⟩) (by assumption) ?_
                      rotate_left
                      · intro w hSw; (try dsimp only at hSw); go_simp; (try with_reducible rfl)
                      try simp only [Act.put, List.setIfInBounds_toArray, List.set_cons_zero, List.set_cons_succ]
                      refine wpAnyH_take (i := 4) (oi := { dst := some 171, op := Op.load 9 (Operand.tmp 170), type := 9, pos := "law.go:312", after := #[{ on := 3, ground := Ground.data }], guard := none }) (v := ?_) rfl (by kernel_rfl) (by kernel_rfl) (by kernel_rfl) (fun _ _ _ h => h) (Or.inl ⟨by rfl, ?_⟩) (by assumption) ?_
                      rotate_left
                      · intro w hSw; (try dsimp only at hSw); go_simp; (try with_reducible rfl)
                      try simp only [Act.put, List.setIfInBounds_toArray, List.set_cons_zero, List.set_cons_succ]
                      refine wpAnyH_take (i := 5) (oi := { dst := some 172, op := Op.move (Operand.tmp 0), type := 22, pos := "law.go:312", after := #[], guard := none }) (v := ?_) rfl (by kernel_rfl) (by kernel_rfl) (by kernel_rfl) (fun _ _ _ h => h) (Or.inl ⟨by rfl, ?_⟩) (by assumption) ?_
                      rotate_left
                      · intro w hSw; (try dsimp only at hSw); go_simp; (try with_reducible rfl)
                      try simp only [Act.put, List.setIfInBounds_toArray, List.set_cons_zero, List.set_cons_succ]
                      refine wpAnyH_take (i := 6) (oi := { dst := some 173, op := Op.indexAddr 22 (Operand.tmp 172) (Operand.const (Value.int IntKind.i64 0)), type := 0, pos := "law.go:312", after := #[{ on := 5, ground := Ground.data }], guard := none }) (v := ?_) rfl (by kernel_rfl) (by kernel_rfl) (by kernel_rfl) (fun _ _ _ h => h) (Or.inl ⟨by rfl, ?_⟩) (by assumption) ?_
                      rotate_left
                      · intro w hSw; (try dsimp only at hSw); go_simp; (try with_reducible rfl)
                      try simp only [Act.put, List.setIfInBounds_toArray, List.set_cons_zero, List.set_cons_succ]
                      refine wpAnyH_take (i := 7) (oi := { dst := some 174, op := Op.fieldAddr 46 (Operand.tmp 173) 1, type := 0, pos := "law.go:312", after := #[{ on := 6, ground := Ground.data }], guard := none }) (v := ?_) rfl (by kernel_rfl) (by kernel_rfl) (by kernel_rfl) (fun _ _ _ h => h) (Or.inl ⟨by rfl, ?_⟩) (by assumption) ?_
                      rotate_left
                      · intro w hSw; (try dsimp only at hSw); go_simp; (try with_reducible rfl)
                      try simp only [Act.put, List.setIfInBounds_toArray, List.set_cons_zero, List.set_cons_succ]
                      refine wpAnyH_take (i := 8) (oi := { dst := some 175, op := Op.load 9 (Operand.tmp 174), type := 9, pos := "law.go:312", after := #[{ on := 7, ground := Ground.data }], guard := none }) (v := ?_) rfl (by kernel_rfl) (by kernel_rfl) (by kernel_rfl) (fun _ _ _ h => h) (Or.inl ⟨by rfl, ?_⟩) (by assumption) ?_
                      rotate_left
                      · intro w hSw; (try dsimp only at hSw); go_simp; (try with_reducible rfl)
                      try simp only [Act.put, List.setIfInBounds_toArray, List.set_cons_zero, List.set_cons_succ]
                      refine wpAnyH_take (i := 9) (oi := { dst := some 176, op := Op.build 29 #[(0, Operand.tmp 171), (1, Operand.tmp 175)], type := 29, pos := "law.go:312", after := #[{ on := 4, ground := Ground.data }, { on := 8, ground := Ground.data }], guard := none }) (v := ?_) rfl (by kernel_rfl) (by kernel_rfl) (by kernel_rfl) (fun _ _ _ h => h) (Or.inl ⟨by rfl, ?_⟩) (by assumption) ?_
                      rotate_left
                      · intro w hSw; (try dsimp only at hSw); go_simp; (try with_reducible rfl)
                      try simp only [Act.put, List.setIfInBounds_toArray, List.set_cons_zero, List.set_cons_succ]
                      refine wpAnyH_take (i := 10) (oi := { dst := some 177, op := Op.indexAddr 33 (Operand.tmp 167) (Operand.const (Value.int IntKind.i64 0)), type := 0, pos := "law.go:312", after := #[{ on := 0, ground := Ground.data }, { on := 0, ground := Ground.phase }, { on := 1, ground := Ground.phase }, { on := 2, ground := Ground.phase }, { on := 3, ground := Ground.phase }, { on := 4, ground := Ground.phase }, { on := 5, ground := Ground.phase }, { on := 6, ground := Ground.phase }, { on := 7, ground := Ground.phase }, { on := 8, ground := Ground.phase }, { on := 9, ground := Ground.phase }], guard := none }) (v := ?_) rfl (by kernel_rfl) (by kernel_rfl) (by kernel_rfl) (fun _ _ _ h => h) (Or.inl ⟨by rfl, ?_⟩) (by assumption) ?_
                      rotate_left
                      · intro w hSw; (try dsimp only at hSw); go_simp; (try with_reducible rfl)
                      try simp only [Act.put, List.setIfInBounds_toArray, List.set_cons_zero, List.set_cons_succ]
                      refine wpAnyH_ready (rs := [11]) (by kernel_rfl) (by simp) ?_
                      refine AllReadyH.cons (o := { dst := none, op := Op.store 29 (Operand.tmp 177) (Operand.tmp 176), type := 0, pos := "law.go:312", after := #[{ on := 10, ground := Ground.data }, { on := 9, ground := Ground.data }, { on := 0, ground := Ground.phase }, { on := 1, ground := Ground.phase }, { on := 2, ground := Ground.phase }, { on := 3, ground := Ground.phase }, { on := 4, ground := Ground.phase }, { on := 5, ground := Ground.phase }, { on := 6, ground := Ground.phase }, { on := 7, ground := Ground.phase }, { on := 8, ground := Ground.phase }, { on := 9, ground := Ground.phase }], guard := none }) rfl (fun K hK => ?_) AllReadyH.nil
                      go_simp
                      refine hK.out _ _ ?_ (fun hHeld0 => ?_)
                      · exact unhide HS34b
                      clear hHeld
                      clear hK K
                      try simp only [Act.put, List.setIfInBounds_toArray, List.set_cons_zero, List.set_cons_succ]
                      refine wpAnyH_done (by kernel_rfl) ?_ _
                      go_wp2_with fail
                      go_meet
                      case rel => exact HX2
                  case rest =>
                    have HXc := hcut
                    obtain ⟨ks2, hn2, hk2, hz2, hf2⟩ := unhide HXc
                    have HBc := hide ((unhide HXc).low (unhide HB4) (unhide HB4).size)
                    obtain ⟨L2, hL2, cB2, cR2⟩ := breaks_all (unhide HSM) (show ks2.length ≤ 1048576 by omega) hz2
                    obtain ⟨ML2, hML2⟩ : ∃ n, n = L2.length := ⟨_, rfl⟩
                    have CC0 := hide (show ∀ X, RowKit.Below wc.heap.size wc X → Calls Tryz.prog 17 #[.slice va ps.length vc, .slice (some ⟨w1.heap.size, 0, none⟩) ks.length (ks.length + 1)] X fun e w' => ∃ r, e = .returned r ∧ w'.ownsRow X.heap.size 29 2 r ML2 (kyC L2) ∧ RowKit.Below X.heap.size X w' from fun X hX => by
                      rw [hML2, ← hn2]
                      exact cR2 X _ _ (unhide HPK X (bl_t (unhide HBc) hX)).2 (hk2.later hX).kyl)
                    have CC1 := hide (show ∀ X, RowKit.Below wc.heap.size wc X → Calls Tryz.prog 16 #[.slice (some ⟨w.heap.size, 0, none⟩) ps.length (ps.length + 1), .slice (some ⟨w1.heap.size, 0, none⟩) ks.length (ks.length + 1)] X fun e w' => ∃ r, e = .returned r ∧ w'.ownsRow X.heap.size 29 2 r ML2 (kyC L2) ∧ RowKit.Below X.heap.size X w' from fun X hX => by
                      rw [hML2, ← hn2]
                      exact cB2 X _ _ (unhide HPK X (bl_t (unhide HBc) hX)).1 (hk2.later hX).kyl)
                    have CQ := hide (show ∀ X (a : Option Addr) (c : Nat) (lo : Nat) (a' : Option Addr) (c' : Nat) (lo' : Nat), X.ownsRow lo 29 2 (.slice a ML2 c) ML2 (kyC L2) → X.ownsRow lo' 29 2 (.slice a' ML2 c') ML2 (kyC L2) → Calls Tryz.prog 19 #[.slice a ML2 c, .slice a' ML2 c'] X fun e w' => e = .returned (.bool true) ∧ RowKit.Below X.heap.size X w' from fun X a c lo a' c' lo' h1 h2 => sameKeys_yes (l := L2) (row_kyl2 h1 hML2) (row_kyl2 h2 hML2) hL2)
                    have E0 := hide ((Below.refl wc.heap.size wc).drew)
                    have HK2 := hide hk2
                    have HZ2 := hide (And.intro hn2 hz2)
                    clear hcut HXc hn2 hk2 hz2 hf2 hL2 cB2 cR2 hML2 HX
                    go_wp2_with fail
                    refine wp_region_held_drew (S := fun _ => True) (by kernel_rfl) ?_ (fun hHeld => ?_)
                    · exact trivial
                    refine wpAnyH_take (i := 0) (oi := { dst := some 178, op := Op.move (Operand.tmp 0), type := 22, pos := "law.go:314", after := #[], guard := none }) (v := ?_) rfl (by kernel_rfl) (by kernel_rfl) (by kernel_rfl) (fun _ _ _ h => h) (Or.inl ⟨by rfl, ?_⟩) (by assumption) ?_
                    rotate_left
                    · intro w hSw; (try dsimp only at hSw); go_simp; (try with_reducible rfl)
                    try simp only [Act.put, List.setIfInBounds_toArray, List.set_cons_zero, List.set_cons_succ]
                    refine wpAnyH_take (i := 1) (oi := { dst := some 179, op := Op.move (Operand.tmp 6), type := 33, pos := "law.go:314", after := #[], guard := none }) (v := ?_) rfl (by kernel_rfl) (by kernel_rfl) (by kernel_rfl) (fun _ _ _ h => h) (Or.inl ⟨by rfl, ?_⟩) (by assumption) ?_
                    rotate_left
                    · intro w hSw; (try dsimp only at hSw); go_simp; (try with_reducible rfl)
                    try simp only [Act.put, List.setIfInBounds_toArray, List.set_cons_zero, List.set_cons_succ]
                    refine wpAnyH_take (i := 2) (oi := { dst := some 180, op := Op.move (Operand.tmp 1), type := 33, pos := "law.go:314", after := #[], guard := none }) (v := ?_) rfl (by kernel_rfl) (by kernel_rfl) (by kernel_rfl) (fun _ _ _ h => h) (Or.inl ⟨by rfl, ?_⟩) (by assumption) ?_
                    rotate_left
                    · intro w hSw; (try dsimp only at hSw); go_simp; (try with_reducible rfl)
                    try simp only [Act.put, List.setIfInBounds_toArray, List.set_cons_zero, List.set_cons_succ]
                    refine wpAnyH_take (i := 3) (oi := { dst := some 181, op := Op.call { callee := Callee.builtin Builtin.len, args := #[Operand.tmp 180], argTypes := #[33] }, type := 3, pos := "law.go:314", after := #[{ on := 2, ground := Ground.data }], guard := none }) (v := ?_) rfl (by kernel_rfl) (by kernel_rfl) (by kernel_rfl) (fun _ _ _ h => h) (Or.inl ⟨by rfl, ?_⟩) (by assumption) ?_
                    rotate_left
                    · intro w hSw; (try dsimp only at hSw); go_simp; (try with_reducible rfl)
                    try simp only [Act.put, List.setIfInBounds_toArray, List.set_cons_zero, List.set_cons_succ]
                    refine wpAnyH_take (i := 4) (oi := { dst := some 182, op := Op.slice 33 (Operand.tmp 179) none (some (Operand.tmp 181)) none, type := 33, pos := "law.go:314", after := #[{ on := 1, ground := Ground.data }, { on := 3, ground := Ground.data }], guard := none }) (v := ?_) rfl (by kernel_rfl) (by kernel_rfl) (by kernel_rfl) (fun _ _ _ h => h) (Or.inl ⟨by rfl, ?_⟩) (by assumption) ?_
                    rotate_left
                    · intro w hSw; (try dsimp only at hSw); go_simp; (try with_reducible rfl)
                    try simp only [Act.put, List.setIfInBounds_toArray, List.set_cons_zero, List.set_cons_succ]
                    refine wpAnyH_take (i := 6) (oi := { dst := some 184, op := Op.move (Operand.tmp 5), type := 22, pos := "law.go:314", after := #[], guard := none }) (v := ?_) rfl (by kernel_rfl) (by kernel_rfl) (by kernel_rfl) (fun _ _ _ h => h) (Or.inl ⟨by rfl, ?_⟩) (by assumption) ?_
                    rotate_left
                    · intro w hSw; (try dsimp only at hSw); go_simp; (try with_reducible rfl)
                    try simp only [Act.put, List.setIfInBounds_toArray, List.set_cons_zero, List.set_cons_succ]
                    refine wpAnyH_take (i := 7) (oi := { dst := some 185, op := Op.move (Operand.tmp 6), type := 33, pos := "law.go:314", after := #[], guard := none }) (v := ?_) rfl (by kernel_rfl) (by kernel_rfl) (by kernel_rfl) (fun _ _ _ h => h) (Or.inl ⟨by rfl, ?_⟩) (by assumption) ?_
                    rotate_left
                    · intro w hSw; (try dsimp only at hSw); go_simp; (try with_reducible rfl)
                    try simp only [Act.put, List.setIfInBounds_toArray, List.set_cons_zero, List.set_cons_succ]
                    refine wpAnyH_take (i := 8) (oi := { dst := some 186, op := Op.move (Operand.tmp 1), type := 33, pos := "law.go:314", after := #[], guard := none }) (v := ?_) rfl (by kernel_rfl) (by kernel_rfl) (by kernel_rfl) (fun _ _ _ h => h) (Or.inl ⟨by rfl, ?_⟩) (by assumption) ?_
                    rotate_left
                    · intro w hSw; (try dsimp only at hSw); go_simp; (try with_reducible rfl)
                    try simp only [Act.put, List.setIfInBounds_toArray, List.set_cons_zero, List.set_cons_succ]
                    refine wpAnyH_take (i := 9) (oi := { dst := some 187, op := Op.call { callee := Callee.builtin Builtin.len, args := #[Operand.tmp 186], argTypes := #[33] }, type := 3, pos := "law.go:314", after := #[{ on := 8, ground := Ground.data }], guard := none }) (v := ?_) rfl (by kernel_rfl) (by kernel_rfl) (by kernel_rfl) (fun _ _ _ h => h) (Or.inl ⟨by rfl, ?_⟩) (by assumption) ?_
                    rotate_left
                    · intro w hSw; (try dsimp only at hSw); go_simp; (try with_reducible rfl)
                    try simp only [Act.put, List.setIfInBounds_toArray, List.set_cons_zero, List.set_cons_succ]
                    refine wpAnyH_take (i := 10) (oi := { dst := some 188, op := Op.slice 33 (Operand.tmp 185) none (some (Operand.tmp 187)) none, type := 33, pos := "law.go:314", after := #[{ on := 7, ground := Ground.data }, { on := 9, ground := Ground.data }], guard := none }) (v := ?_) rfl (by kernel_rfl) (by kernel_rfl) (by kernel_rfl) (fun _ _ _ h => h) (Or.inl ⟨by rfl, ?_⟩) (by assumption) ?_
                    rotate_left
                    · intro w hSw; (try dsimp only at hSw); go_simp; (try with_reducible rfl)
                    try simp only [Act.put, List.setIfInBounds_toArray, List.set_cons_zero, List.set_cons_succ]
                    refine wpAnyH_ready (rs := [5]) (by kernel_rfl) (by simp) ?_
                    refine AllReadyH.cons (o := { dst := some 183, op := Op.call { callee := Callee.value (Operand.func 17), args := #[Operand.tmp 178, Operand.tmp 182], argTypes := #[22, 33] }, type := 33, pos := "law.go:314", after := #[{ on := 0, ground := Ground.data }, { on := 4, ground := Ground.data }], guard := none }) rfl (fun K hK => ?_) AllReadyH.nil
                    go_simp
                    refine (unhide CC0 _ (unhide E0)).mono ?_
                    rintro e y1 ⟨r, rfl, ro1, hv1⟩
                    obtain ⟨ra1, rc1, rfl⟩ := owns_form ro1
                    have E1 := hide (bl_t (unhide E0) hv1)
                    have RR1 := hide (And.intro ro1 hv1)
                    clear ro1 hv1
                    go_wp2_with fail
                    refine hK.out _ _ trivial (fun hHeld0 => ?_)
                    clear hHeld
                    clear hK K
                    try simp only [Act.put, List.setIfInBounds_toArray, List.set_cons_zero, List.set_cons_succ]
                    refine wpAnyH_ready (rs := [11]) (by kernel_rfl) (by simp) ?_
                    refine AllReadyH.cons (o := { dst := some 189, op := Op.call { callee := Callee.value (Operand.func 16), args := #[Operand.tmp 184, Operand.tmp 188], argTypes := #[22, 33] }, type := 33, pos := "law.go:314", after := #[{ on := 6, ground := Ground.data }, { on := 10, ground := Ground.data }, { on := 5, ground := Ground.chain }], guard := none }) rfl (fun K hK => ?_) AllReadyH.nil
                    go_simp
                    refine (unhide CC1 _ (unhide E1)).mono ?_
                    rintro e y2 ⟨r, rfl, ro2, hv2⟩
                    obtain ⟨ra2, rc2, rfl⟩ := owns_form ro2
                    have E2 := hide (bl_t (unhide E1) hv2)
                    have RR2 := hide (And.intro ro2 hv2)
                    clear ro2 hv2
                    go_wp2_with fail
                    refine hK.out _ _ trivial (fun hHeld1 => ?_)
                    clear hHeld0
                    clear hK K
                    try simp only [Act.put, List.setIfInBounds_toArray, List.set_cons_zero, List.set_cons_succ]
                    refine wpAnyH_ready (rs := [12]) (by kernel_rfl) (by simp) ?_
                    refine AllReadyH.cons (o := { dst := some 190, op := Op.call { callee := Callee.value (Operand.func 19), args := #[Operand.tmp 183, Operand.tmp 189], argTypes := #[33, 33] }, type := 4, pos := "law.go:314", after := #[{ on := 5, ground := Ground.data }, { on := 11, ground := Ground.data }, { on := 11, ground := Ground.chain }], guard := none }) rfl (fun K hK => ?_) AllReadyH.nil
                    go_simp
                    refine (unhide CQ _ _ _ _ _ _ _ (row_low (unhide RR1).1 (unhide RR2).2) (unhide RR2).1).mono ?_
                    rintro e y3 ⟨rfl, hv3⟩
                    have E3 := hide (bl_t (unhide E2) hv3)
                    clear hv3
                    go_wp2_with fail
                    refine hK.out _ _ trivial (fun hHeld2 => ?_)
                    clear hHeld1
                    clear hK K
                    try simp only [Act.put, List.setIfInBounds_toArray, List.set_cons_zero, List.set_cons_succ]
                    refine wpAnyH_take (i := 13) (oi := { dst := some 191, op := Op.unOp UnOp.not 4 (Operand.tmp 190), type := 4, pos := "law.go:314", after := #[{ on := 12, ground := Ground.data }], guard := none }) (v := ?_) rfl (by kernel_rfl) (by kernel_rfl) (by kernel_rfl) (fun _ _ _ h => h) (Or.inl ⟨by rfl, ?_⟩) (by assumption) ?_
                    rotate_left
                    · intro w hSw; (try dsimp only at hSw); go_simp; (try with_reducible rfl)
                    try simp only [Act.put, List.setIfInBounds_toArray, List.set_cons_zero, List.set_cons_succ]
                    refine wpAnyH_done (by kernel_rfl) ?_ _
                    go_wp2_with fail
                    obtain ⟨nm, hnm, hnz⟩ := first_nm (unhide HSM)
                    have HNM := hide hnm
                    have HNZ := hide hnz
                    have HB35 := hide (bl_t (unhide HBc) (unhide E3))
                    have HI0 := hide (Oi.start ((unhide HPR).later (unhide HB35)) nm)
                    have HK35 := hide ((unhide HK2).later (unhide E3))
                    have hpl := (unhide HSM).l
                    clear hnm hnz E0 E1 E2 E3 RR1 RR2 CC0 CC1 CQ HBc HK2 HB4
                    go_loopw [19] (fun iv wr => ∃ t : Nat, iv = .int .i64 t ∧ t ≤ ps.length ∧ Hid (Oi y3 wr w.heap.size ps Md Mr nm t)) (fun iv _ => ps.length - (intOf iv).toNat)
                    case atStart => exact ⟨0, by go_num, Nat.zero_le _, HI0⟩
                    case round =>
                      clear HI0
                      obtain ⟨t, rfl, htle, HI⟩ := hrel
                      by_cases hlt : t < ps.length
                      · have hlt2 : (t : Int) < (ps.length : Int) := by omega
                        obtain ⟨p, hp⟩ : ∃ p, ps[t]? = some p := ⟨_, List.getElem?_eq_getElem hlt⟩
                        obtain ⟨p0, hp0⟩ : ∃ p, ps[0]? = some p := ⟨_, List.getElem?_eq_getElem (by omega)⟩
                        have hpz : (0 : Int) < (ps.length : Int) := by omega
                        have hpn : 0 < ps.length := by omega
                        have HE0 := hide (unhide HNM p0 hp0)
                        obtain ⟨_, _, ⟨z6, c6⟩, f6⟩ := (unhide HI).cells hp
                        have HJ0 := hide ((unhide HI).prov hlt)
                        have HP := hide hp
                        have HP0 := hide hp0
                        have hdl : p.dp.length ≤ 1048576 := Nat.le_trans (le_sum (fun p : Pk => p.dp.length) (List.mem_of_getElem? hp)) (unhide HSM).sd
                        clear hp hp0 HI
                        go_wp2_with fail
                        go_loopw [20] (fun nv wr => ∃ n : Nat, nv = .int .i64 n ∧ n ≤ p.dp.length ∧ Hid (Oj y3 wr w.heap.size ps Md Mr nm t n)) (fun nv _ => p.dp.length - (intOf nv).toNat)
                        case atStart => exact ⟨0, by go_num, Nat.zero_le _, HJ0⟩
                        case round =>
                          clear HJ0 c6 f6
                          obtain ⟨n, rfl, hnle, HJ⟩ := hrel
                          have c3 := ((unhide HJ).cells (unhide HP)).2
                          by_cases hn : n < p.dp.length
                          · have hn2 : (n : Int) < (p.dp.length : Int) := by omega
                            have jd := (unhide HJ).later (Below.refl _ wr).drew
                            have ja := jd.later ((Below.refl _ wr.drew).alloc (Nat.le_refl _) (.cells #[.string nm, .int .i64 0, .string ⟨#[]⟩] 48))
                            obtain ⟨⟨zd, cd⟩, fd, hmd, hll⟩ := (unhide HJ).spot (unhide HP) hn
                            have jd1 := (unhide HJ).dep (unhide HP) hn
                            rw [World.setCell_alloc_past _ _ _ _ hmd] at jd1
                            have jd2 := jd1.later (Below.refl _ _).drew
                            have e0 := jd.cells (unhide HP0)
                            have e1 := ja.cells (unhide HP0)
                            have e2 := jd2.cells (unhide HP0)
                            rw [unhide HE0, Nat.zero_mul] at e0 e1 e2
                            have HS44 := hide (And.intro (jd.cells (unhide HP)).2 e0.1)
                            have HS44b := hide (And.intro (ja.cells (unhide HP)).2 e1.1)
                            have HS44c := hide (And.intro (jd2.cells (unhide HP)).2 e2.1)
                            have HJ2 := hide jd2
                            clear jd ja jd1 jd2 e0 e1 e2
                            go_wp2_with fail
                            refine wp_region_held_drew (S := fun w' => w'.cell? ⟨w.heap.size, t * 43 + 3, none⟩ = some (.slice (some ⟨Md t, 0, none⟩) p.dp.length (p.dp.length + 1)) ∧ w'.cell? ⟨w.heap.size, 0, none⟩ = some (.string nm)) (by kernel_rfl) ?_ (fun hHeld => ?_)
                            · exact unhide HS44
                            refine wpAnyH_take (i := 0) (oi := { dst := some 212, op := Op.move (Operand.tmp 5), type := 22, pos := "law.go:320", after := #[], guard := none }) (v := ?_) rfl (by kernel_rfl) (by kernel_rfl) (by kernel_rfl) (fun _ _ _ h => h) (Or.inl ⟨by rfl, ?_⟩) (by assumption) ?_
                            rotate_left
                            · intro w hSw; (try dsimp only at hSw); go_simp; (try with_reducible rfl)
                            try simp only [Act.put, List.setIfInBounds_toArray, List.set_cons_zero, List.set_cons_succ]
                            refine wpAnyH_take (i := 1) (oi := { dst := some 213, op := Op.move (Operand.tmp 19), type := 3, pos := "law.go:320", after := #[], guard := none }) (v := ?_) rfl (by kernel_rfl) (by kernel_rfl) (by kernel_rfl) (fun _ _ _ h => h) (Or.inl ⟨by rfl, ?_⟩) (by assumption) ?_
                            rotate_left
                            · intro w hSw; (try dsimp only at hSw); go_simp; (try with_reducible rfl)
                            try simp only [Act.put, List.setIfInBounds_toArray, List.set_cons_zero, List.set_cons_succ]
                            refine wpAnyH_take (i := 2) (oi := { dst := some 214, op := Op.indexAddr 22 (Operand.tmp 212) (Operand.tmp 213), type := 0, pos := "law.go:320", after := #[{ on := 0, ground := Ground.data }, { on := 1, ground := Ground.data }], guard := none }) (v := ?_) rfl (by kernel_rfl) (by kernel_rfl) (by kernel_rfl) (fun _ _ _ h => h) (Or.inl ⟨by rfl, ?_⟩) (by assumption) ?_
                            rotate_left
                            · intro w hSw; (try dsimp only at hSw); go_simp; (try with_reducible rfl)
                            try simp only [Act.put, List.setIfInBounds_toArray, List.set_cons_zero, List.set_cons_succ]
                            refine wpAnyH_take (i := 3) (oi := { dst := some 215, op := Op.fieldAddr 46 (Operand.tmp 214) 3, type := 0, pos := "law.go:320", after := #[{ on := 2, ground := Ground.data }], guard := none }) (v := ?_) rfl (by kernel_rfl) (by kernel_rfl) (by kernel_rfl) (fun _ _ _ h => h) (Or.inl ⟨by rfl, ?_⟩) (by assumption) ?_
                            rotate_left
                            · intro w hSw; (try dsimp only at hSw); go_simp; (try with_reducible rfl)
                            try simp only [Act.put, List.setIfInBounds_toArray, List.set_cons_zero, List.set_cons_succ]
                            refine wpAnyH_take (i := 4) (oi := { dst := some 216, op := Op.load 40 (Operand.tmp 215), type := 40, pos := "law.go:320", after := #[{ on := 3, ground := Ground.data }], guard := none }) (v := ?_) rfl (by kernel_rfl) (by kernel_rfl) (by kernel_rfl) (fun _ _ _ h => h) (Or.inl ⟨by rfl, ?_⟩) (by assumption) ?_
                            rotate_left
                            · intro w hSw; (try dsimp only at hSw); go_simp; (try with_reducible rfl)
                            try simp only [Act.put, List.setIfInBounds_toArray, List.set_cons_zero, List.set_cons_succ]
                            refine wpAnyH_take (i := 5) (oi := { dst := some 217, op := Op.move (Operand.tmp 20), type := 3, pos := "law.go:320", after := #[], guard := none }) (v := ?_) rfl (by kernel_rfl) (by kernel_rfl) (by kernel_rfl) (fun _ _ _ h => h) (Or.inl ⟨by rfl, ?_⟩) (by assumption) ?_
                            rotate_left
                            · intro w hSw; (try dsimp only at hSw); go_simp; (try with_reducible rfl)
                            try simp only [Act.put, List.setIfInBounds_toArray, List.set_cons_zero, List.set_cons_succ]
                            refine wpAnyH_take (i := 6) (oi := { dst := some 218, op := Op.move (Operand.tmp 5), type := 22, pos := "law.go:320", after := #[], guard := none }) (v := ?_) rfl (by kernel_rfl) (by kernel_rfl) (by kernel_rfl) (fun _ _ _ h => h) (Or.inl ⟨by rfl, ?_⟩) (by assumption) ?_
                            rotate_left
                            · intro w hSw; (try dsimp only at hSw); go_simp; (try with_reducible rfl)
                            try simp only [Act.put, List.setIfInBounds_toArray, List.set_cons_zero, List.set_cons_succ]
                            refine wpAnyH_take (i := 7) (oi := { dst := some 219, op := Op.indexAddr 22 (Operand.tmp 218) (Operand.const (Value.int IntKind.i64 0)), type := 0, pos := "law.go:320", after := #[{ on := 6, ground := Ground.data }], guard := none }) (v := ?_) rfl (by kernel_rfl) (by kernel_rfl) (by kernel_rfl) (fun _ _ _ h => h) (Or.inl ⟨by rfl, ?_⟩) (by assumption) ?_
                            rotate_left
                            · intro w hSw; (try dsimp only at hSw); go_simp; (try with_reducible rfl)
                            try simp only [Act.put, List.setIfInBounds_toArray, List.set_cons_zero, List.set_cons_succ]
                            refine wpAnyH_take (i := 8) (oi := { dst := some 220, op := Op.fieldAddr 46 (Operand.tmp 219) 0, type := 0, pos := "law.go:320", after := #[{ on := 7, ground := Ground.data }], guard := none }) (v := ?_) rfl (by kernel_rfl) (by kernel_rfl) (by kernel_rfl) (fun _ _ _ h => h) (Or.inl ⟨by rfl, ?_⟩) (by assumption) ?_
                            rotate_left
                            · intro w hSw; (try dsimp only at hSw); go_simp; (try with_reducible rfl)
                            try simp only [Act.put, List.setIfInBounds_toArray, List.set_cons_zero, List.set_cons_succ]
                            refine wpAnyH_take (i := 9) (oi := { dst := some 221, op := Op.load 9 (Operand.tmp 220), type := 9, pos := "law.go:320", after := #[{ on := 8, ground := Ground.data }], guard := none }) (v := ?_) rfl (by kernel_rfl) (by kernel_rfl) (by kernel_rfl) (fun _ _ _ h => h) (Or.inl ⟨by rfl, ?_⟩) (by assumption) ?_
                            rotate_left
                            · intro w hSw; (try dsimp only at hSw); go_simp; (try with_reducible rfl)
                            try simp only [Act.put, List.setIfInBounds_toArray, List.set_cons_zero, List.set_cons_succ]
                            refine wpAnyH_take (i := 10) (oi := { dst := some 222, op := Op.build 48 #[(0, Operand.tmp 221)], type := 48, pos := "law.go:320", after := #[{ on := 9, ground := Ground.data }], guard := none }) (v := ?_) rfl (by kernel_rfl) (by kernel_rfl) (by kernel_rfl) (fun _ _ _ h => h) (Or.inl ⟨by rfl, ?_⟩) (by assumption) ?_
                            rotate_left
                            · intro w hSw; (try dsimp only at hSw); go_simp; (try with_reducible rfl)
                            try simp only [Act.put, List.setIfInBounds_toArray, List.set_cons_zero, List.set_cons_succ]
                            refine wpAnyH_ready (rs := [11]) (by kernel_rfl) (by simp) ?_
                            refine AllReadyH.cons (o := { dst := some 223, op := Op.buildSlice 49 1 #[(0, Operand.tmp 222)], type := 49, pos := "law.go:320", after := #[{ on := 10, ground := Ground.data }], guard := none }) rfl (fun K hK => ?_) AllReadyH.nil
                            go_simp
                            refine hK.out _ _ ?_ (fun hHeld0 => ?_)
                            · exact unhide HS44b
                            clear hHeld
                            clear hK K
                            try simp only [Act.put, List.setIfInBounds_toArray, List.set_cons_zero, List.set_cons_succ]
                            refine wpAnyH_take (i := 12) (oi := { dst := some 224, op := Op.indexAddr 40 (Operand.tmp 216) (Operand.tmp 217), type := 0, pos := "law.go:320", after := #[{ on := 4, ground := Ground.data }, { on := 5, ground := Ground.data }, { on := 0, ground := Ground.phase }, { on := 1, ground := Ground.phase }, { on := 2, ground := Ground.phase }, { on := 3, ground := Ground.phase }, { on := 4, ground := Ground.phase }, { on := 5, ground := Ground.phase }, { on := 6, ground := Ground.phase }, { on := 7, ground := Ground.phase }, { on := 8, ground := Ground.phase }, { on := 9, ground := Ground.phase }, { on := 10, ground := Ground.phase }, { on := 11, ground := Ground.phase }], guard := none }) (v := ?_) rfl (by kernel_rfl) (by kernel_rfl) (by kernel_rfl) (fun _ _ _ h => h) (Or.inl ⟨by rfl, ?_⟩) (by assumption) ?_
                            rotate_left
                            · intro w hSw; (try dsimp only at hSw); go_simp; (try with_reducible rfl)
                            try simp only [Act.put, List.setIfInBounds_toArray, List.set_cons_zero, List.set_cons_succ]
                            refine wpAnyH_ready (rs := [13]) (by kernel_rfl) (by simp) ?_
                            refine AllReadyH.cons (o := { dst := none, op := Op.store 49 (Operand.tmp 224) (Operand.tmp 223), type := 0, pos := "law.go:320", after := #[{ on := 12, ground := Ground.data }, { on := 11, ground := Ground.data }, { on := 0, ground := Ground.phase }, { on := 1, ground := Ground.phase }, { on := 2, ground := Ground.phase }, { on := 3, ground := Ground.phase }, { on := 4, ground := Ground.phase }, { on := 5, ground := Ground.phase }, { on := 6, ground := Ground.phase }, { on := 7, ground := Ground.phase }, { on := 8, ground := Ground.phase }, { on := 9, ground := Ground.phase }, { on := 10, ground := Ground.phase }, { on := 11, ground := Ground.phase }], guard := none }) rfl (fun K hK => ?_) AllReadyH.nil
                            go_simp
                            refine hK.out _ _ ?_ (fun hHeld1 => ?_)
                            · exact unhide HS44c
                            clear hHeld0
                            clear hK K
                            try simp only [Act.put, List.setIfInBounds_toArray, List.set_cons_zero, List.set_cons_succ]
                            refine wpAnyH_done (by kernel_rfl) ?_ _
                            go_wp2_with fail
                            go_roundw
                            case rel => exact ⟨n + 1, by go_num, by omega, HJ2⟩
                            case measure => simp [intOf]; omega
                          · obtain rfl : n = p.dp.length := by omega
                            have HI2 := hide ((unhide HJ).done (unhide HP))
                            go_wp2_with fail
                            go_roundw
                            case rel => exact ⟨t + 1, by go_num, by omega, HI2⟩
                            case measure => simp [intOf]; omega
                      · obtain rfl : t = ps.length := by omega
                        have HPK2 := hide ((unhide HI).pkl (unhide HZ) (unhide HFI))
                        have HSM2 := hide (SmP.over (unhide HSM) nm (unhide HNZ))
                        have HT2 := hide (akK_over ps nm (unhide HO))
                        have HK3 := hide (show Kk wr w1.heap.size ks2 from (unhide HK35).same ((unhide HI).fx.blk _ (unhide HK35).lt (by
                          rintro (e | ⟨k, hk, e⟩)
                          · omega
                          · have := (unhide HPR).ord k hk
                            omega)))
                        obtain ⟨L3, hL3, cB3, cR3⟩ := breaks_all (unhide HSM2) (show ks2.length ≤ 1048576 by have := (unhide HZ2).1; omega) (unhide HZ2).2
                        obtain ⟨ML3, hML3⟩ : ∃ n, n = L3.length := ⟨_, rfl⟩
                        have CC0 := hide (show ∀ X, RowKit.Below wr.heap.size wr X → Calls Tryz.prog 17 #[.slice (some ⟨w.heap.size, 0, none⟩) ps.length (ps.length + 1), .slice (some ⟨w1.heap.size, 0, none⟩) ks.length (ks.length + 1)] X fun e w' => ∃ r, e = .returned r ∧ w'.ownsRow X.heap.size 29 2 r ML3 (kyC L3) ∧ RowKit.Below X.heap.size X w' from fun X hX => by
                          rw [hML3, ← (unhide HZ2).1]
                          exact cR3 X _ _ ((unhide HPK2).later hX) ((unhide HK3).later hX).kyl)
                        have CC1 := hide (show ∀ X, RowKit.Below wr.heap.size wr X → Calls Tryz.prog 16 #[.slice (some ⟨w.heap.size, 0, none⟩) ps.length (ps.length + 1), .slice (some ⟨w1.heap.size, 0, none⟩) ks.length (ks.length + 1)] X fun e w' => ∃ r, e = .returned r ∧ w'.ownsRow X.heap.size 29 2 r ML3 (kyC L3) ∧ RowKit.Below X.heap.size X w' from fun X hX => by
                          rw [hML3, ← (unhide HZ2).1]
                          exact cB3 X _ _ ((unhide HPK2).later hX) ((unhide HK3).later hX).kyl)
                        have CQ := hide (show ∀ X (a : Option Addr) (c : Nat) (lo : Nat) (a' : Option Addr) (c' : Nat) (lo' : Nat), X.ownsRow lo 29 2 (.slice a ML3 c) ML3 (kyC L3) → X.ownsRow lo' 29 2 (.slice a' ML3 c') ML3 (kyC L3) → Calls Tryz.prog 19 #[.slice a ML3 c, .slice a' ML3 c'] X fun e w' => e = .returned (.bool true) ∧ RowKit.Below X.heap.size X w' from fun X a c lo a' c' lo' h1 h2 => sameKeys_yes (l := L3) (row_kyl2 h1 hML3) (row_kyl2 h2 hML3) hL3)
                        have E0 := hide ((Below.refl wr.heap.size wr).drew)
                        have HBF := hide (show RowKit.Below w.heap.size w wr from Fx.low (bl_t (unhide HB1) (unhide HB35)) (unhide HI).fx (by
                          rintro g (e | ⟨k, hk, e⟩)
                          · omega
                          · obtain ⟨dn, ho, _⟩ := unhide HI
                            have := (ho.md k hk).1
                            omega) (bl_t (unhide HB1) (unhide HB35)).size)
                        clear hL3 cB3 cR3 hML3 HK3 HI HB35 HK35
                        go_wp2_with fail
                        refine wp_region_held_drew (S := fun _ => True) (by kernel_rfl) ?_ (fun hHeld => ?_)
                        · exact trivial
                        refine wpAnyH_take (i := 0) (oi := { dst := some 225, op := Op.move (Operand.tmp 5), type := 22, pos := "law.go:323", after := #[], guard := none }) (v := ?_) rfl (by kernel_rfl) (by kernel_rfl) (by kernel_rfl) (fun _ _ _ h => h) (Or.inl ⟨by rfl, ?_⟩) (by assumption) ?_
                        rotate_left
                        · intro w hSw; (try dsimp only at hSw); go_simp; (try with_reducible rfl)
                        try simp only [Act.put, List.setIfInBounds_toArray, List.set_cons_zero, List.set_cons_succ]
                        refine wpAnyH_take (i := 1) (oi := { dst := some 226, op := Op.move (Operand.tmp 6), type := 33, pos := "law.go:323", after := #[], guard := none }) (v := ?_) rfl (by kernel_rfl) (by kernel_rfl) (by kernel_rfl) (fun _ _ _ h => h) (Or.inl ⟨by rfl, ?_⟩) (by assumption) ?_
                        rotate_left
                        · intro w hSw; (try dsimp only at hSw); go_simp; (try with_reducible rfl)
                        try simp only [Act.put, List.setIfInBounds_toArray, List.set_cons_zero, List.set_cons_succ]
                        refine wpAnyH_take (i := 2) (oi := { dst := some 227, op := Op.move (Operand.tmp 1), type := 33, pos := "law.go:323", after := #[], guard := none }) (v := ?_) rfl (by kernel_rfl) (by kernel_rfl) (by kernel_rfl) (fun _ _ _ h => h) (Or.inl ⟨by rfl, ?_⟩) (by assumption) ?_
                        rotate_left
                        · intro w hSw; (try dsimp only at hSw); go_simp; (try with_reducible rfl)
                        try simp only [Act.put, List.setIfInBounds_toArray, List.set_cons_zero, List.set_cons_succ]
                        refine wpAnyH_take (i := 3) (oi := { dst := some 228, op := Op.call { callee := Callee.builtin Builtin.len, args := #[Operand.tmp 227], argTypes := #[33] }, type := 3, pos := "law.go:323", after := #[{ on := 2, ground := Ground.data }], guard := none }) (v := ?_) rfl (by kernel_rfl) (by kernel_rfl) (by kernel_rfl) (fun _ _ _ h => h) (Or.inl ⟨by rfl, ?_⟩) (by assumption) ?_
                        rotate_left
                        · intro w hSw; (try dsimp only at hSw); go_simp; (try with_reducible rfl)
                        try simp only [Act.put, List.setIfInBounds_toArray, List.set_cons_zero, List.set_cons_succ]
                        refine wpAnyH_take (i := 4) (oi := { dst := some 229, op := Op.slice 33 (Operand.tmp 226) none (some (Operand.tmp 228)) none, type := 33, pos := "law.go:323", after := #[{ on := 1, ground := Ground.data }, { on := 3, ground := Ground.data }], guard := none }) (v := ?_) rfl (by kernel_rfl) (by kernel_rfl) (by kernel_rfl) (fun _ _ _ h => h) (Or.inl ⟨by rfl, ?_⟩) (by assumption) ?_
                        rotate_left
                        · intro w hSw; (try dsimp only at hSw); go_simp; (try with_reducible rfl)
                        try simp only [Act.put, List.setIfInBounds_toArray, List.set_cons_zero, List.set_cons_succ]
                        refine wpAnyH_take (i := 6) (oi := { dst := some 231, op := Op.move (Operand.tmp 5), type := 22, pos := "law.go:323", after := #[], guard := none }) (v := ?_) rfl (by kernel_rfl) (by kernel_rfl) (by kernel_rfl) (fun _ _ _ h => h) (Or.inl ⟨by rfl, ?_⟩) (by assumption) ?_
                        rotate_left
                        · intro w hSw; (try dsimp only at hSw); go_simp; (try with_reducible rfl)
                        try simp only [Act.put, List.setIfInBounds_toArray, List.set_cons_zero, List.set_cons_succ]
                        refine wpAnyH_take (i := 7) (oi := { dst := some 232, op := Op.move (Operand.tmp 6), type := 33, pos := "law.go:323", after := #[], guard := none }) (v := ?_) rfl (by kernel_rfl) (by kernel_rfl) (by kernel_rfl) (fun _ _ _ h => h) (Or.inl ⟨by rfl, ?_⟩) (by assumption) ?_
                        rotate_left
                        · intro w hSw; (try dsimp only at hSw); go_simp; (try with_reducible rfl)
                        try simp only [Act.put, List.setIfInBounds_toArray, List.set_cons_zero, List.set_cons_succ]
                        refine wpAnyH_take (i := 8) (oi := { dst := some 233, op := Op.move (Operand.tmp 1), type := 33, pos := "law.go:323", after := #[], guard := none }) (v := ?_) rfl (by kernel_rfl) (by kernel_rfl) (by kernel_rfl) (fun _ _ _ h => h) (Or.inl ⟨by rfl, ?_⟩) (by assumption) ?_
                        rotate_left
                        · intro w hSw; (try dsimp only at hSw); go_simp; (try with_reducible rfl)
                        try simp only [Act.put, List.setIfInBounds_toArray, List.set_cons_zero, List.set_cons_succ]
                        refine wpAnyH_take (i := 9) (oi := { dst := some 234, op := Op.call { callee := Callee.builtin Builtin.len, args := #[Operand.tmp 233], argTypes := #[33] }, type := 3, pos := "law.go:323", after := #[{ on := 8, ground := Ground.data }], guard := none }) (v := ?_) rfl (by kernel_rfl) (by kernel_rfl) (by kernel_rfl) (fun _ _ _ h => h) (Or.inl ⟨by rfl, ?_⟩) (by assumption) ?_
                        rotate_left
                        · intro w hSw; (try dsimp only at hSw); go_simp; (try with_reducible rfl)
                        try simp only [Act.put, List.setIfInBounds_toArray, List.set_cons_zero, List.set_cons_succ]
                        refine wpAnyH_take (i := 10) (oi := { dst := some 235, op := Op.slice 33 (Operand.tmp 232) none (some (Operand.tmp 234)) none, type := 33, pos := "law.go:323", after := #[{ on := 7, ground := Ground.data }, { on := 9, ground := Ground.data }], guard := none }) (v := ?_) rfl (by kernel_rfl) (by kernel_rfl) (by kernel_rfl) (fun _ _ _ h => h) (Or.inl ⟨by rfl, ?_⟩) (by assumption) ?_
                        rotate_left
                        · intro w hSw; (try dsimp only at hSw); go_simp; (try with_reducible rfl)
                        try simp only [Act.put, List.setIfInBounds_toArray, List.set_cons_zero, List.set_cons_succ]
                        refine wpAnyH_ready (rs := [5]) (by kernel_rfl) (by simp) ?_
                        refine AllReadyH.cons (o := { dst := some 230, op := Op.call { callee := Callee.value (Operand.func 17), args := #[Operand.tmp 225, Operand.tmp 229], argTypes := #[22, 33] }, type := 33, pos := "law.go:323", after := #[{ on := 0, ground := Ground.data }, { on := 4, ground := Ground.data }], guard := none }) rfl (fun K hK => ?_) AllReadyH.nil
                        go_simp
                        refine (unhide CC0 _ (unhide E0)).mono ?_
                        rintro e y1 ⟨r, rfl, ro1, hv1⟩
                        obtain ⟨ra1, rc1, rfl⟩ := owns_form ro1
                        have E1 := hide (bl_t (unhide E0) hv1)
                        have RR1 := hide (And.intro ro1 hv1)
                        clear ro1 hv1
                        go_wp2_with fail
                        refine hK.out _ _ trivial (fun hHeld0 => ?_)
                        clear hHeld
                        clear hK K
                        try simp only [Act.put, List.setIfInBounds_toArray, List.set_cons_zero, List.set_cons_succ]
                        refine wpAnyH_ready (rs := [11]) (by kernel_rfl) (by simp) ?_
                        refine AllReadyH.cons (o := { dst := some 236, op := Op.call { callee := Callee.value (Operand.func 16), args := #[Operand.tmp 231, Operand.tmp 235], argTypes := #[22, 33] }, type := 33, pos := "law.go:323", after := #[{ on := 6, ground := Ground.data }, { on := 10, ground := Ground.data }, { on := 5, ground := Ground.chain }], guard := none }) rfl (fun K hK => ?_) AllReadyH.nil
                        go_simp
                        refine (unhide CC1 _ (unhide E1)).mono ?_
                        rintro e y2 ⟨r, rfl, ro2, hv2⟩
                        obtain ⟨ra2, rc2, rfl⟩ := owns_form ro2
                        have E2 := hide (bl_t (unhide E1) hv2)
                        have RR2 := hide (And.intro ro2 hv2)
                        clear ro2 hv2
                        go_wp2_with fail
                        refine hK.out _ _ trivial (fun hHeld1 => ?_)
                        clear hHeld0
                        clear hK K
                        try simp only [Act.put, List.setIfInBounds_toArray, List.set_cons_zero, List.set_cons_succ]
                        refine wpAnyH_ready (rs := [12]) (by kernel_rfl) (by simp) ?_
                        refine AllReadyH.cons (o := { dst := some 237, op := Op.call { callee := Callee.value (Operand.func 19), args := #[Operand.tmp 230, Operand.tmp 236], argTypes := #[33, 33] }, type := 4, pos := "law.go:323", after := #[{ on := 5, ground := Ground.data }, { on := 11, ground := Ground.data }, { on := 11, ground := Ground.chain }], guard := none }) rfl (fun K hK => ?_) AllReadyH.nil
                        go_simp
                        refine (unhide CQ _ _ _ _ _ _ _ (row_low (unhide RR1).1 (unhide RR2).2) (unhide RR2).1).mono ?_
                        rintro e y3 ⟨rfl, hv3⟩
                        have E3 := hide (bl_t (unhide E2) hv3)
                        clear hv3
                        go_wp2_with fail
                        refine hK.out _ _ trivial (fun hHeld2 => ?_)
                        clear hHeld1
                        clear hK K
                        try simp only [Act.put, List.setIfInBounds_toArray, List.set_cons_zero, List.set_cons_succ]
                        refine wpAnyH_take (i := 13) (oi := { dst := some 238, op := Op.move (Operand.tmp 237), type := 4, pos := "law.go:323", after := #[{ on := 12, ground := Ground.data }, { on := 12, ground := Ground.chain }], guard := none }) (v := ?_) rfl (by kernel_rfl) (by kernel_rfl) (by kernel_rfl) (fun _ _ _ h => h) (Or.inl ⟨by rfl, ?_⟩) (by assumption) ?_
                        rotate_left
                        · intro w hSw; (try dsimp only at hSw); go_simp; (try with_reducible rfl)
                        try simp only [Act.put, List.setIfInBounds_toArray, List.set_cons_zero, List.set_cons_succ]
                        refine wpAnyH_take (i := 14) (oi := { dst := some 239, op := Op.move (Operand.tmp 5), type := 22, pos := "law.go:323", after := #[{ on := 13, ground := Ground.guard }], guard := some (13, true) }) (v := ?_) rfl (by kernel_rfl) (by kernel_rfl) (by kernel_rfl) (fun _ _ _ h => h) (Or.inl ⟨by rfl, ?_⟩) (by assumption) ?_
                        rotate_left
                        · intro w hSw; (try dsimp only at hSw); go_simp; (try with_reducible rfl)
                        try simp only [Act.put, List.setIfInBounds_toArray, List.set_cons_zero, List.set_cons_succ]
                        refine wpAnyH_take (i := 16) (oi := { dst := some 241, op := Op.move (Operand.tmp 5), type := 22, pos := "law.go:323", after := #[{ on := 13, ground := Ground.guard }], guard := some (13, true) }) (v := ?_) rfl (by kernel_rfl) (by kernel_rfl) (by kernel_rfl) (fun _ _ _ h => h) (Or.inl ⟨by rfl, ?_⟩) (by assumption) ?_
                        rotate_left
                        · intro w hSw; (try dsimp only at hSw); go_simp; (try with_reducible rfl)
                        try simp only [Act.put, List.setIfInBounds_toArray, List.set_cons_zero, List.set_cons_succ]
                        refine wpAnyH_ready (rs := [15]) (by kernel_rfl) (by simp) ?_
                        refine AllReadyH.cons (o := { dst := some 240, op := Op.call { callee := Callee.value (Operand.func 14), args := #[Operand.tmp 239], argTypes := #[22] }, type := 34, pos := "law.go:323", after := #[{ on := 14, ground := Ground.data }, { on := 13, ground := Ground.chain }, { on := 13, ground := Ground.guard }], guard := some (13, true) }) rfl (fun K hK => ?_) AllReadyH.nil
                        go_simp
                        refine (rClosed_any (unhide HSM2) ((unhide HPK2).later (unhide E3))).mono ?_
                        rintro e y4 ⟨r, inn2, rfl, ro4, hinn2, hv4⟩
                        obtain ⟨U2, hU2⟩ : ∃ U, U = plL inn2 (ps.map (ovP nm)).length := ⟨_, rfl⟩
                        obtain ⟨M2, hM2⟩ : ∃ M, M = U2.length := ⟨_, rfl⟩
                        have CC4 := hide (show ∀ X, RowKit.Below wr.heap.size wr X → Calls Tryz.prog 15 #[.slice (some ⟨w.heap.size, 0, none⟩) ps.length (ps.length + 1)] X fun e w' => ∃ r, e = .returned r ∧ w'.ownsRow X.heap.size 3 1 r M2 (ints U2) ∧ RowKit.Below X.heap.size X w' from fun X hX => by rw [hM2, hU2]; exact closed_then (unhide HSM2) (unhide HT2) hinn2 ((unhide HPK2).later hX))
                        have hM3 : M2 ≤ 1048576 := by (rw [hM2, hU2]; have h1 := plL_len inn2 (ps.map (ovP nm)).length; have h2 := (unhide HSM2).l; omega)
                        rw [← hU2, ← hM2] at ro4
                        obtain ⟨ra4, rc4, rfl⟩ := owns_form ro4
                        have E4 := hide (bl_t (unhide E3) hv4)
                        have RR4 := hide ro4
                        clear ro4 hv4 hU2 hM2 hinn2
                        go_wp2_with fail
                        refine hK.out _ _ trivial (fun hHeld3 => ?_)
                        clear hHeld2
                        clear hK K
                        try simp only [Act.put, List.setIfInBounds_toArray, List.set_cons_zero, List.set_cons_succ]
                        refine wpAnyH_ready (rs := [17]) (by kernel_rfl) (by simp) ?_
                        refine AllReadyH.cons (o := { dst := some 242, op := Op.call { callee := Callee.value (Operand.func 15), args := #[Operand.tmp 241], argTypes := #[22] }, type := 34, pos := "law.go:323", after := #[{ on := 16, ground := Ground.data }, { on := 15, ground := Ground.chain }, { on := 13, ground := Ground.guard }], guard := some (13, true) }) rfl (fun K hK => ?_) AllReadyH.nil
                        go_simp
                        refine (unhide CC4 _ (unhide E4)).mono ?_
                        rintro e y5 ⟨r, rfl, ro5, hv5⟩
                        obtain ⟨ra5, rc5, rfl⟩ := owns_form ro5
                        have E5 := hide (bl_t (unhide E4) hv5)
                        have RR5 := hide (And.intro ro5 hv5)
                        clear ro5 hv5
                        go_wp2_with fail
                        refine hK.out _ _ trivial (fun hHeld4 => ?_)
                        clear hHeld3
                        clear hK K
                        try simp only [Act.put, List.setIfInBounds_toArray, List.set_cons_zero, List.set_cons_succ]
                        refine wpAnyH_ready (rs := [18]) (by kernel_rfl) (by simp) ?_
                        refine AllReadyH.cons (o := { dst := some 243, op := Op.call { callee := Callee.value (Operand.func 18), args := #[Operand.tmp 240, Operand.tmp 242], argTypes := #[34, 34] }, type := 4, pos := "law.go:323", after := #[{ on := 15, ground := Ground.data }, { on := 17, ground := Ground.data }, { on := 17, ground := Ground.chain }, { on := 13, ground := Ground.guard }], guard := some (13, true) }) rfl (fun K hK => ?_) AllReadyH.nil
                        go_simp
                        refine (sameInts_yes (row_low (unhide RR4) (unhide RR5).2) (unhide RR5).1 (by omega)).mono ?_
                        rintro e y6 ⟨rfl, hv6⟩
                        have E6 := hide (bl_t (unhide E5) hv6)
                        clear hv6
                        go_wp2_with fail
                        refine hK.out _ _ trivial (fun hHeld5 => ?_)
                        clear hHeld4
                        clear hK K
                        try simp only [Act.put, List.setIfInBounds_toArray, List.set_cons_zero, List.set_cons_succ]
                        refine wpAnyH_take (i := 19) (oi := { dst := some 244, op := Op.pick (Operand.tmp 238) (Operand.tmp 243) (Operand.const (Value.bool false)), type := 4, pos := "law.go:323", after := #[{ on := 13, ground := Ground.data }, { on := 18, ground := Ground.data }], guard := none }) (v := ?_) rfl (by kernel_rfl) (by kernel_rfl) (by kernel_rfl) (fun _ _ _ h => h) (Or.inl ⟨by rfl, ?_⟩) (by assumption) ?_
                        rotate_left
                        · intro w hSw; (try dsimp only at hSw); go_simp; (try with_reducible rfl)
                        try simp only [Act.put, List.setIfInBounds_toArray, List.set_cons_zero, List.set_cons_succ]
                        refine wpAnyH_take (i := 20) (oi := { dst := some 4, op := Op.assign (Operand.tmp 244), type := 4, pos := "law.go:323", after := #[{ on := 19, ground := Ground.data }, { on := 18, ground := Ground.chain }, { on := 0, ground := Ground.phase }, { on := 1, ground := Ground.phase }, { on := 2, ground := Ground.phase }, { on := 3, ground := Ground.phase }, { on := 4, ground := Ground.phase }, { on := 5, ground := Ground.phase }, { on := 6, ground := Ground.phase }, { on := 7, ground := Ground.phase }, { on := 8, ground := Ground.phase }, { on := 9, ground := Ground.phase }, { on := 10, ground := Ground.phase }, { on := 11, ground := Ground.phase }, { on := 12, ground := Ground.phase }, { on := 13, ground := Ground.phase }, { on := 14, ground := Ground.phase }, { on := 15, ground := Ground.phase }, { on := 16, ground := Ground.phase }, { on := 17, ground := Ground.phase }, { on := 18, ground := Ground.phase }, { on := 19, ground := Ground.phase }], guard := none }) (v := ?_) rfl (by kernel_rfl) (by kernel_rfl) (by kernel_rfl) (fun _ _ _ h => h) (Or.inl ⟨by rfl, ?_⟩) (by assumption) ?_
                        rotate_left
                        · intro w hSw; (try dsimp only at hSw); go_simp; (try with_reducible rfl)
                        try simp only [Act.put, List.setIfInBounds_toArray, List.set_cons_zero, List.set_cons_succ]
                        refine wpAnyH_done (by kernel_rfl) ?_ _
                        go_wp2_with fail
                        go_ret
                        exact ⟨rfl, bl_t (unhide HBF) (unhide E6)⟩
end Go.Proofs.YtcebpdcijpgkjaaGreatDoor
