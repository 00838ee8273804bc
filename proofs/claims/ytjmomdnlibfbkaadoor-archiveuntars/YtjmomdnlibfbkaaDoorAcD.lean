import Derived.Test.YtjmomdnlibfbkaaDoorAcC
namespace Go.Proofs.YtjmomdnlibfbkaaDoor
open Go.RowKit

theorem laid_int {w0 w : World} {g : Nat} {o : Int} {L : Bs} {s : ByteArray} (h : Hd w0 w g L) (ho : 0 ≤ o ∧ o + s.size ≤ 512) :
    Calls Tryd.prog 47 #[.slice (some ⟨g, 0, none⟩) 512 512, .int .i64 o, .string s] w fun e w' => e = .returned (.tuple #[]) ∧ Hd w0 w' g (put L o.toNat s.data.toList) := by
  obtain ⟨k, rfl⟩ : ∃ k : Nat, o = k := ⟨o.toNat, by omega⟩
  exact laid_any h (by omega)
theorem octal_int {w : World} {n : Nat} {k : Int} (hn : n ≤ 4611686018427387904) (hk : 0 ≤ k ∧ k ≤ 512) (hg : Glob w) (ht : Lib.TabIs Tryd.prog w "internal/strconv.uint64pow10" .u64 Lib.pow10Tab) :
    Calls Tryd.prog 48 #[.int .i64 n, .int .i64 k] w fun e w' => e = .returned (.string (ba (oct k.toNat n))) ∧ Below w.heap.size w w' := by
  obtain ⟨m, rfl⟩ : ∃ m : Nat, k = m := ⟨k.toNat, by omega⟩
  exact octal_any hn (by omega) hg ht
theorem Hd.below {w0 w w' : World} {g : Nat} {L : Bs} (h : Hd w0 w g L) (hb : Below w.heap.size w w') : Hd w' w' g L := ⟨h.by_.later hb, h.len, Ow.refl _ _⟩
/-- WHAT THE DEFINITION'S HEADER NEEDS: the tables. -/
structure Gtb (w : World) : Prop where
  gl : Glob w
  tb : Lib.TabIs Tryd.prog w "internal/strconv.uint64pow10" .u64 Lib.pow10Tab
theorem Gtb.later {w w' : World} (h : Gtb w) (hb : Below w.heap.size w w') : Gtb w' := ⟨h.gl.later hb, tab_later h.gl.big hb h.tb⟩
theorem fld_all {L : Bs} {n : Nat} (h : L.length = n) : fld 0 n L = L := by
  unfold fld
  rw [List.drop_zero, List.take_of_length_le (by omega)]
theorem Hd.rb {w : World} {g : Nat} {L : Bs} (h : By w g L) (hl : L.length = 512) : Rb w (.slice (some ⟨g, 0, none⟩) 512 512) L := by
  have q := h.rb (o := 0) (n := 512) (c := 512) (by omega) (Nat.le_refl _)
  rw [fld_all hl] at q
  exact q
theorem size_ba_oct (k n : Nat) : (ba (oct k n)).size = k := by rw [ba_size, oct_len]
set_option maxRecDepth 100000 in
set_option maxHeartbeats 16000000 in
theorem rheader_any {w : World} {p : ByteArray} {s : Nat} (h0 : (spl p).2.2 = 0) (hp : p.size ≤ 9223372036854775807) (hs : s ≤ 4611686018427387904) (hg : Gtb w) :
    Calls Tryd.prog 39 #[.string p, .int .i64 s] w fun e w' => ∃ v, e = .returned v ∧ Rb w' v (hdP p s) ∧ Below w.heap.size w w' := by
  have CS := hide (rSplit_any p w hp)
  have CO := hide (fun (X : World) (m : Nat) (k : Int) (hm : m ≤ 4611686018427387904) (hk : 0 ≤ k ∧ k ≤ 512) (hX : Below w.heap.size w X) => octal_int (w := X) hm hk (hg.later hX).gl (hg.later hX).tb)
  obtain ⟨pre, nm, e1, e2, l1, l2, _⟩ := spl_parts h0
  have hE : hdP p s = hdr pre nm s := by unfold hdP; rw [e1, e2]
  rw [hE]
  have M1 := hide (show 0 ≤ (345 : Int) ∧ (345 : Int) + (spl p).1.size ≤ 512 from by
    have : (spl p).1.size ≤ 155 := by rw [← size_list, e1]; exact l2
    omega)
  have M2 := hide (show 0 ≤ (0 : Int) ∧ (0 : Int) + (spl p).2.1.size ≤ 512 from by
    have : (spl p).2.1.size ≤ 100 := by rw [← size_list, e2]; exact l1
    omega)
  have M3 := hide (show 0 ≤ (124 : Int) ∧ (124 : Int) + (ba (oct (11 : Int).toNat s)).size ≤ 512 from by rw [size_ba_oct]; decide)
  have M4 := hide (fun S => show 0 ≤ (148 : Int) ∧ (148 : Int) + (ba (oct (6 : Int).toNat S)).size ≤ 512 from by rw [size_ba_oct]; decide)
  have E1 := hide e1
  have E2 := hide e2
  have HS := hide hs
  rw [h0] at CS
  clear e1 e2 h0 hE hp hg
  generalize (spl p).1 = s1 at *
  generalize (spl p).2.1 = s2 at *
  have mk := fun u => makeY 512 (by decide) u
  rw [show ((512 : Nat) : Int) = 512 from rfl] at mk
  go_enter Tryd.func39, Tryd.ntmps39
  go_upto_region 2 with (first
    | (go_at_call 46; refine (unhide CS).mono ?_; rintro e w1 ⟨rfl, b1⟩; have W1 := hide b1; clear b1 CS))
  have H1 := hide (show Hd (w1.alloc (.cells (madeCells #[.int .u8 0] 512) 5)) (w1.alloc (.cells (madeCells #[.int .u8 0] 512) 5)) w1.heap.size (zs 512) from ⟨By.made w1 512, zs_len 512, Ow.refl _ _⟩)
  have W2 := hide ((unhide W1).alloc (unhide W1).size (.cells (madeCells #[.int .u8 0] 512) 5))
  have HSZ := hide (unhide W1).size
  go_upto_region 3 with fail
  clear mk
  generalize w1.alloc (.cells (madeCells #[.int .u8 0] 512) 5) = w2 at *
  have H2 := H1
  clear H1
  go_upto_region 7 with (first
    | (go_at_call 47; refine (laid_int (unhide H2) (by first | decide | exact unhide M1 | exact unhide M2 | exact unhide M3)).mono ?_; rintro e wl ⟨rfl, q⟩; clear H2; have H2 := hide q; clear q))
  have W3 := hide ((unhide W2).trans ((unhide H2).ow.bel.mono (unhide HSZ)))
  go_upto_region 14 with (first
    | (go_at_call 48; refine (unhide CO _ s 11 (unhide HS) (by decide) (unhide W3)).mono ?_; rintro e w4 ⟨rfl, b4⟩; have W4 := hide ((unhide W3).trans (b4.mono (unhide W3).size)); have H4 := hide ((unhide H2).below b4); clear H2 b4; have H2 := H4; clear H4)
    | (go_at_call 47; refine (laid_int (unhide H2) (by first | decide | exact unhide M1 | exact unhide M2 | exact unhide M3)).mono ?_; rintro e wl ⟨rfl, q⟩; clear H2; have H2 := hide q; clear q))
  have H5 := hide (show Hd w4 wl w1.heap.size (rh pre nm s) from by have q := unhide H2; rw [unhide E1, unhide E2] at q; exact q)
  have W5 := hide ((unhide W4).trans ((unhide H5).ow.bel.mono (unhide HSZ)))
  clear H2 W4
  obtain ⟨L, hL, hLl, hLh⟩ : ∃ L, rh pre nm s = L ∧ L.length = 512 ∧ ((put L 148 (oct 6 (sumB L))).set 154 0).set 155 32 = hdr pre nm s := ⟨_, rfl, rh_len l1 l2 s, rh_hdr l1 l2 s⟩
  rw [hL] at H5
  have HLH := hide hLh
  clear hL hLh
  obtain ⟨g, hg⟩ : ∃ g, w1.heap.size = g := ⟨_, rfl⟩
  rw [hg] at H5 HSZ ⊢
  clear hg
  go_wp2_with fail
  go_loopg [9, 10] 512 (fun gq tv iv wr => ∃ i : Nat, iv = .int .i64 i ∧ tv = .int .i64 (sumB (L.take i) : Nat) ∧ i ≤ 512 ∧ 512 - i ≤ gq ∧ wr = wl)
  case atStart => exact ⟨0, by go_num, rfl, by omega, by omega, rfl⟩
  case round =>
    obtain ⟨i, rfl, rfl, hi, hg, rfl⟩ := hrel
    by_cases hlt : i < 512
    · have hin : (i : Int) < 512 := by omega
      have c0 := (unhide H5).by_.at_ i _ (List.getElem?_eq_getElem (show i < L.length by omega))
      have hsn : sumB (L.take (i + 1)) = sumB (L.take i) + (L[i]'(by omega)).toNat := by
        rw [List.take_succ_eq_append_getElem (by omega), sumB_snoc]
      have hle := sumB_le i (L.take i) (by rw [List.length_take]; omega)
      have hb := UInt8.toNat_lt (L[i]'(by omega))
      have HS := hide hsn
      unfold cb at c0
      generalize (L[i]'(by omega)).toNat = q at *
      generalize sumB (L.take i) = t at *
      clear hsn
      have hw1 : IntKind.i64.wrap ((t : Int) + (q : Int)) = (t : Int) + (q : Int) := IntWalk.i64_in _ (by omega)
      have hw2 : IntKind.i64.wrap (q : Int) = (q : Int) := IntWalk.i64_in _ (by omega)
      go_wp2_with fail
      go_roundg (512 - (i + 1))
      case measure => omega
      case rel => exact ⟨i + 1, by go_num, by rw [unhide HS]; congr 1, by omega, by omega, rfl⟩
    · obtain rfl : i = 512 := by omega
      have hge : ¬ (512 : Int) < 512 := by omega
      rw [List.take_of_length_le (by omega)]
      have hle := sumB_le 512 L hLl
      obtain ⟨S, hS⟩ : ∃ S, sumB L = S := ⟨_, rfl⟩
      rw [hS] at hle HLH ⊢
      have HSL := hide (show S ≤ 4611686018427387904 by omega)
      clear hS
      go_upto_region 20 with (first
        | (go_at_call 48; refine (unhide CO _ S 6 (unhide HSL) (by decide) (unhide W5)).mono ?_; rintro e w6 ⟨rfl, b6⟩; have W6 := hide ((unhide W5).trans (b6.mono (unhide W5).size)); have H6 := hide ((unhide H5).below b6); clear H5 b6)
        | (go_at_call 47; refine (laid_int (unhide H6) (unhide M4 S)).mono ?_; rintro e w7 ⟨rfl, q⟩; have H7 := hide (show Hd w6 w7 g (put L 148 (oct 6 S)) from q); clear q H6))
      have W7 := hide ((unhide W6).trans ((unhide H7).ow.bel.mono (unhide HSZ)))
      have H8 := hide (show By ((w7.setCell ⟨g, 154, none⟩ (.int .u8 0)).setCell ⟨g, 155, none⟩ (.int .u8 32)) g (hdr pre nm s) from by
        have q := ((unhide H7).by_.set (p := 154) (by rw [(unhide H7).len]; decide) 0).set (p := 155) (by rw [List.length_set, (unhide H7).len]; decide) 32
        rw [unhide HLH] at q
        exact q)
      have HR := hide (Hd.rb (unhide H8) (hdr_len l1 l2 s))
      have W8 := hide (show Below w.heap.size w ((w7.setCell ⟨g, 154, none⟩ (.int .u8 0)).setCell ⟨g, 155, none⟩ (.int .u8 32)) from ((unhide W7).setCell (p := ⟨g, 154, none⟩) (unhide HSZ) _).setCell (p := ⟨g, 155, none⟩) (unhide HSZ) _)
      obtain ⟨q1, hq1⟩ : ∃ qv : Value, w7.cell? ⟨g, 154, none⟩ = some qv := ⟨_, (unhide H7).by_.at_ 154 _ (List.getElem?_eq_getElem (by rw [(unhide H7).len]; decide))⟩
      have hf1 := (unhide H7).by_.fr 154
      obtain ⟨q2, hq2⟩ : ∃ qv : Value, (w7.setCell ⟨g, 154, none⟩ (.int .u8 0)).cell? ⟨g, 155, none⟩ = some qv := ⟨_, ((unhide H7).by_.set (p := 154) (by rw [(unhide H7).len]; decide) 0).at_ 155 _ (List.getElem?_eq_getElem (by rw [List.length_set, (unhide H7).len]; decide))⟩
      have hf2 := (unhide H7).by_.fr 155
      clear H7 W7
      go_wp2_with fail
      go_ret
      exact ⟨_, rfl, unhide HR, unhide W8⟩
end Go.Proofs.YtjmomdnlibfbkaaDoor
