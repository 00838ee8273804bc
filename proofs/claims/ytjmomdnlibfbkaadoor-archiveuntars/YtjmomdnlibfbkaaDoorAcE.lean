import Derived.Test.YtjmomdnlibfbkaaDoorAcD
namespace Go.Proofs.YtjmomdnlibfbkaaDoor
open Go.RowKit

/-- WHAT read ANSWERS. -/
def RdA (T : Option (ByteArray × Nat)) (w : World) (e : Ending) (w' : World) : Prop := ∃ (p : ByteArray) (s : Nat) (ok : Bool), e = .returned (.tuple #[.string p, .int .i64 (s : Int), .bool ok]) ∧ T = (if ok = true then some (p, s) else none) ∧ Below w.heap.size w w'
theorem no3 {T : Option (ByteArray × Nat)} {w w' : World} {e : Ending} (h : T = none) (he : e = .returned (.tuple #[.string ⟨#[]⟩, .int .i64 0, .bool false])) (hb : Below w.heap.size w w') : RdA T w e w' := ⟨⟨#[]⟩, 0, false, he, h, hb⟩
theorem yes3 {T : Option (ByteArray × Nat)} {w w' : World} {e : Ending} {p : ByteArray} {s : Nat} {A B : Bs} (h : T = if A = B then some (p, s) else none) (he : e = .returned (.tuple #[.string p, .int .i64 (s : Int), .bool (decide (A = B))])) (hb : Below w.heap.size w w') : RdA T w e w' :=
  ⟨p, s, decide (A = B), he, by rw [h]; by_cases q : A = B <;> simp [q], hb⟩
set_option maxRecDepth 100000 in
set_option maxHeartbeats 16000000 in
theorem read_any {w : World} {v : Value} {h : Bs} (hh : Rb w v h) (hl : h.length = 512) (hg : Gtb w) :
    Calls Tryd.prog 23 #[v] w fun e w' => RdA (toldL h) w e w' := by
  obtain ⟨a, c, rfl, hc⟩ := hh.form
  obtain ⟨b, o, rfl, _, hcell⟩ := hh.at (by omega)
  have HH := hide hh
  rw [hl] at HH
  have HL := hide hl
  have HG := hide hg
  have HC := hide hcell
  have l1 : (fld 0 100 h).length = 100 := fld_len (by omega)
  have l2 : (fld 345 155 h).length = 155 := fld_len (by omega)
  have CU1 := hide (show Calls Tryd.prog 36 #[.slice (some ⟨b, o, none⟩) 100 c] w fun e w' => e = .returned (.string (ba (upz (fld 0 100 h)))) ∧ w' = w from by
    have q := hh.take (k := 100) (by omega)
    rw [show h.take 100 = fld 0 100 h from rfl] at q
    exact rupTo_any q (by rw [l1]; decide))
  have CU2 := hide (show Calls Tryd.prog 36 #[.slice (some ⟨b, o + 345, none⟩) 155 (c - 345)] w fun e w' => e = .returned (.string (ba (upz (fld 345 155 h)))) ∧ w' = w from by
    have q := hh.cutA (i := 345) (j := 500) (by decide) (by omega)
    rw [show (h.drop 345).take (500 - 345) = fld 345 155 h from rfl, show Option.map (fun x => x.add 345) (some (⟨b, o, none⟩ : Addr)) = some ⟨b, o + 345, none⟩ from by simp [Addr.add]] at q
    exact rupTo_any q (by rw [l2]; decide))
  have u1 := upz_len (fld 0 100 h)
  have u2 := upz_len (fld 345 155 h)
  have HRP := hide (show rdP h = ba (if upz (fld 345 155 h) = [] then upz (fld 0 100 h) else upz (fld 345 155 h) ++ 47 :: upz (fld 0 100 h)) from rfl)
  have HSZ := hide (show (rdP h).size ≤ 9223372036854775807 from by
    have : (rdP h).size ≤ 300 := by
      unfold rdP
      rw [ba_size]
      split
      · omega
      · rw [List.length_append, List.length_cons]
        omega
    omega)
  have HSB0 := hide (show rdS h ≤ 4611686018427387904 from Nat.le_of_lt (Nat.lt_of_lt_of_le (rdO_lt 11 (fld 124 11 h) (fld_len (by omega))) (by decide)))
  have hc1 : ¬ c = 345 := by omega
  have hc2 : (345 : Int) ≤ (c : Int) := by omega
  have hc3 : (500 : Int) ≤ (c : Int) := by omega
  have hc4 : (100 : Int) ≤ (c : Int) := by omega
  have hc5 : 345 ≤ c := by omega
  have hc6 : 500 ≤ c := by omega
  have hc7 : 100 ≤ c := by omega
  have HN := hide (show (upz (fld 0 100 h)).length ≤ 100 ∧ (upz (fld 345 155 h)).length ≤ 155 from ⟨by omega, by omega⟩)
  rw [hl]
  clear hh hl hg hcell l1 l2 u1 u2
  generalize upz (fld 0 100 h) = n1 at *
  generalize upz (fld 345 155 h) = p1 at *
  go_enter Tryd.func23, Tryd.ntmps23
  by_cases hp : p1 = []
  · subst hp
    have hne : ((ba ([] : Bs)).toList == []) = true := by rw [Lib.toList_data]; rfl
    go_upto_region 5 with (first
      | (go_at_call 36; refine (unhide CU1).mono ?_; rintro e wn ⟨rfl, hw⟩; rw [hw]; clear hw wn CU1)
      | (go_at_call 36; refine (unhide CU2).mono ?_; rintro e wn ⟨rfl, hw⟩; rw [hw]; clear hw wn CU2))
    rw [show ba n1 = rdP h from by rw [unhide HRP]; simp]
    clear hne
    go_upto_region 6 with fail
    go_wp2_with fail
    go_loopg [7, 8] 11 (fun gq sv iv wr => ∃ i : Nat, iv = .int .i64 i ∧ sv = .int .i64 (rdO (fld 124 (i - 124) h) : Nat) ∧ 124 ≤ i ∧ i ≤ 135 ∧ 135 - i ≤ gq ∧ wr = w)
    case atStart => exact ⟨124, by go_num, rfl, by omega, by omega, by omega, rfl⟩
    case round =>
      obtain ⟨i, rfl, rfl, hi1, hi2, hgq, rfl⟩ := hrel
      by_cases hlt : i < 135
      · have hin : (i : Int) < 135 := by omega
        have hil : i < h.length := by have := unhide HL; omega
        have hi5 : (i : Int) < 512 := by omega
        have c0 := unhide HC i hil
        have hsn := rdO_take hil hi1 hlt
        have hle : rdO (fld 124 (i - 124) h) < 1073741824 := Nat.lt_of_lt_of_le (rdO_lt (i - 124) _ (fld_len (by have := unhide HL; omega))) (Nat.le_trans (Nat.pow_le_pow_right (by decide) (show i - 124 ≤ 10 by omega)) (by decide))
        have HNO := hide (fun hb => told_no (unhide HL) hi1 hlt hb)
        have hb := UInt8.toNat_lt h[i]
        have HSN := hide hsn
        unfold cb at c0
        generalize h[i].toNat = q at *
        generalize rdO (fld 124 (i - 124) h) = t at *
        clear hsn
        by_cases h1 : (q : Int) < 48
        · have HN := hide (unhide HNO (by omega))
          clear HNO HSN
          go_wp2_with fail
          go_ret3
          exact no3 (unhide HN) rfl (Below.refl _ _)
        · by_cases h2 : (55 : Int) < (q : Int)
          · have HN := hide (unhide HNO (by omega))
            clear HNO HSN
            go_wp2_with fail
            go_ret3
            exact no3 (unhide HN) rfl (Below.refl _ _)
          · have hw1 : IntKind.u8.wrap ((q : Int) - 48) = (q : Int) - 48 := IntWalk.u8_in _ (by omega)
            have hw2 : IntKind.i64.wrap ((q : Int) - 48) = (q : Int) - 48 := IntWalk.i64_in _ (by omega)
            have hw3 : IntKind.i64.wrap ((t : Int) * 8) = (t : Int) * 8 := IntWalk.i64_in _ (by omega)
            have hw4 : IntKind.i64.wrap ((t : Int) * 8 + ((q : Int) - 48)) = (t : Int) * 8 + ((q : Int) - 48) := IntWalk.i64_in _ (by omega)
            clear HNO
            go_wp2_with fail
            go_roundg (135 - (i + 1))
            case measure => omega
            case rel => exact ⟨i + 1, by go_num, by rw [unhide HSN]; exact congrArg (Value.int IntKind.i64) (by omega), by omega, by omega, by omega, rfl⟩
      · obtain rfl : i = 135 := by omega
        have hge : ¬ (135 : Int) < 135 := by omega
        have HRS := hide (show rdS h = rdO (fld 124 (135 - 124) h) from rfl)
        rw [← unhide HRS]
        have CK := hide (rCheckPath_any (rdP h) wr (unhide HSZ))
        have HSB := hide (show rdS h ≤ 4611686018427387904 from unhide HSB0)
        by_cases h0 : (spl (rdP h)).2.2 = 0
        · have CH := hide (fun (X : World) (hX : Below wr.heap.size wr X) => rheader_any (w := X) h0 (unhide HSZ) (unhide HSB) ((unhide HG).later hX))
          have HTS := hide (told_same h0)
          have CS := hide (fun (X : World) (u : Value) (hX : Below wr.heap.size wr X) (hu : Rb X u (hdP (rdP h) (rdS h))) => rsame_any hu ((unhide HH).later hX) (by rw [unhide HL, hdP_len h0]) (by rw [hdP_len h0]; decide))
          rw [h0] at CK
          generalize rdP h = p at *
          generalize rdS h = s at *
          generalize hdP p s = A at *
          clear h0
          go_wp2_with (first
            | (go_at_call 37; refine (unhide CK).mono ?_; rintro e w1 ⟨rfl, b1⟩; have B1 := hide b1; clear b1 CK)
            | (go_at_call 39; refine (unhide CH w1 (unhide B1)).mono ?_; rintro e w2 ⟨v2, rfl, r2, b2⟩; have B2 := hide (bl_t (unhide B1) b2); have R2 := hide r2; clear b2 r2 CH B1)
            | (go_at_call 38; refine (unhide CS w2 _ (unhide B2) (unhide R2)).mono ?_; rintro e w3 ⟨rfl, n, rfl⟩; have B3 := hide (bl_t (unhide B2) (bl_drewN w2 n)); clear CS R2 B2))
          go_ret3
          exact yes3 (unhide HTS) rfl (unhide B3)
        · have HN := hide (told_path h0)
          generalize (spl (rdP h)).2.2 = er at *
          generalize rdP h = p at *
          go_wp2_with (first
            | (go_at_call 37; refine (unhide CK).mono ?_; rintro e w1 ⟨rfl, b1⟩; have B1 := hide b1; clear b1 CK))
          go_ret3
          exact no3 (unhide HN) rfl (unhide B1)
  · have HP0 := hide hp
    have hne : ((ba p1).toList == []) = false := by
      rw [Lib.toList_data]
      cases p1 with
      | nil => exact absurd rfl hp
      | cons x l => rfl
    have z1 : (ba p1).size ≤ 155 := by rw [ba_size]; exact (unhide HN).2
    have z2 : (ba n1).size ≤ 100 := by rw [ba_size]; exact (unhide HN).1
    have hcat : ¬ (9223372036854775807 < (ba p1).size + 1) := by omega
    have hcat2 : ¬ (9223372036854775807 < (ba p1 ++ (⟨#[47]⟩ : ByteArray)).size + (ba n1).size) := by
      rw [ByteArray.size_append]
      have : (⟨#[47]⟩ : ByteArray).size = 1 := rfl
      omega
    clear hp
    go_upto_region 5 with (first
      | (go_at_call 36; refine (unhide CU1).mono ?_; rintro e wn ⟨rfl, hw⟩; rw [hw]; clear hw wn CU1)
      | (go_at_call 36; refine (unhide CU2).mono ?_; rintro e wn ⟨rfl, hw⟩; rw [hw]; clear hw wn CU2))
    clear hcat hcat2 z1 z2 hne
    rw [show ba p1 ++ (⟨#[47]⟩ : ByteArray) ++ ba n1 = rdP h from by rw [unhide HRP, if_neg (unhide HP0), show (⟨#[47]⟩ : ByteArray) = ba [47] from rfl, ba_app, ba_app, List.append_assoc]; rfl]
    go_upto_region 6 with fail
    go_wp2_with fail
    go_loopg [7, 8] 11 (fun gq sv iv wr => ∃ i : Nat, iv = .int .i64 i ∧ sv = .int .i64 (rdO (fld 124 (i - 124) h) : Nat) ∧ 124 ≤ i ∧ i ≤ 135 ∧ 135 - i ≤ gq ∧ wr = w)
    case atStart => exact ⟨124, by go_num, rfl, by omega, by omega, by omega, rfl⟩
    case round =>
      obtain ⟨i, rfl, rfl, hi1, hi2, hgq, rfl⟩ := hrel
      by_cases hlt : i < 135
      · have hin : (i : Int) < 135 := by omega
        have hil : i < h.length := by have := unhide HL; omega
        have hi5 : (i : Int) < 512 := by omega
        have c0 := unhide HC i hil
        have hsn := rdO_take hil hi1 hlt
        have hle : rdO (fld 124 (i - 124) h) < 1073741824 := Nat.lt_of_lt_of_le (rdO_lt (i - 124) _ (fld_len (by have := unhide HL; omega))) (Nat.le_trans (Nat.pow_le_pow_right (by decide) (show i - 124 ≤ 10 by omega)) (by decide))
        have HNO := hide (fun hb => told_no (unhide HL) hi1 hlt hb)
        have hb := UInt8.toNat_lt h[i]
        have HSN := hide hsn
        unfold cb at c0
        generalize h[i].toNat = q at *
        generalize rdO (fld 124 (i - 124) h) = t at *
        clear hsn
        by_cases h1 : (q : Int) < 48
        · have HN := hide (unhide HNO (by omega))
          clear HNO HSN
          go_wp2_with fail
          go_ret3
          exact no3 (unhide HN) rfl (Below.refl _ _)
        · by_cases h2 : (55 : Int) < (q : Int)
          · have HN := hide (unhide HNO (by omega))
            clear HNO HSN
            go_wp2_with fail
            go_ret3
            exact no3 (unhide HN) rfl (Below.refl _ _)
          · have hw1 : IntKind.u8.wrap ((q : Int) - 48) = (q : Int) - 48 := IntWalk.u8_in _ (by omega)
            have hw2 : IntKind.i64.wrap ((q : Int) - 48) = (q : Int) - 48 := IntWalk.i64_in _ (by omega)
            have hw3 : IntKind.i64.wrap ((t : Int) * 8) = (t : Int) * 8 := IntWalk.i64_in _ (by omega)
            have hw4 : IntKind.i64.wrap ((t : Int) * 8 + ((q : Int) - 48)) = (t : Int) * 8 + ((q : Int) - 48) := IntWalk.i64_in _ (by omega)
            clear HNO
            go_wp2_with fail
            go_roundg (135 - (i + 1))
            case measure => omega
            case rel => exact ⟨i + 1, by go_num, by rw [unhide HSN]; exact congrArg (Value.int IntKind.i64) (by omega), by omega, by omega, by omega, rfl⟩
      · obtain rfl : i = 135 := by omega
        have hge : ¬ (135 : Int) < 135 := by omega
        have HRS := hide (show rdS h = rdO (fld 124 (135 - 124) h) from rfl)
        rw [← unhide HRS]
        have CK := hide (rCheckPath_any (rdP h) wr (unhide HSZ))
        have HSB := hide (show rdS h ≤ 4611686018427387904 from unhide HSB0)
        by_cases h0 : (spl (rdP h)).2.2 = 0
        · have CH := hide (fun (X : World) (hX : Below wr.heap.size wr X) => rheader_any (w := X) h0 (unhide HSZ) (unhide HSB) ((unhide HG).later hX))
          have HTS := hide (told_same h0)
          have CS := hide (fun (X : World) (u : Value) (hX : Below wr.heap.size wr X) (hu : Rb X u (hdP (rdP h) (rdS h))) => rsame_any hu ((unhide HH).later hX) (by rw [unhide HL, hdP_len h0]) (by rw [hdP_len h0]; decide))
          rw [h0] at CK
          generalize rdP h = p at *
          generalize rdS h = s at *
          generalize hdP p s = A at *
          clear h0
          go_wp2_with (first
            | (go_at_call 37; refine (unhide CK).mono ?_; rintro e w1 ⟨rfl, b1⟩; have B1 := hide b1; clear b1 CK)
            | (go_at_call 39; refine (unhide CH w1 (unhide B1)).mono ?_; rintro e w2 ⟨v2, rfl, r2, b2⟩; have B2 := hide (bl_t (unhide B1) b2); have R2 := hide r2; clear b2 r2 CH B1)
            | (go_at_call 38; refine (unhide CS w2 _ (unhide B2) (unhide R2)).mono ?_; rintro e w3 ⟨rfl, n, rfl⟩; have B3 := hide (bl_t (unhide B2) (bl_drewN w2 n)); clear CS R2 B2))
          go_ret3
          exact yes3 (unhide HTS) rfl (unhide B3)
        · have HN := hide (told_path h0)
          generalize (spl (rdP h)).2.2 = er at *
          generalize rdP h = p at *
          go_wp2_with (first
            | (go_at_call 37; refine (unhide CK).mono ?_; rintro e w1 ⟨rfl, b1⟩; have B1 := hide b1; clear b1 CK))
          go_ret3
          exact no3 (unhide HN) rfl (unhide B1)
end Go.Proofs.YtjmomdnlibfbkaaDoor
