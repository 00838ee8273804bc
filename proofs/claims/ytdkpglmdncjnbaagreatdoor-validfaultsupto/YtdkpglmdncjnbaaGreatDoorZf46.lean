import Derived.Test.YtdkpglmdncjnbaaGreatDoorZf45
import Derived.Test.YtdkpglmdncjnbaaGreatDoorZf41
namespace Go.Proofs.YtdkpglmdncjnbaaGreatDoor
section
open Go.RowKit Go.Maps Go.Shelf
set_option maxRecDepth 100000 in
set_option maxHeartbeats 8000000 in
theorem wanted1_any {w : World} {v : Value} {ps : List Pd} (an : Nm) (op : Int) (bd : ByteArray) (pk : Pks w v ps) (hl : ps.length ≤ 1000000000) (hbd : bd.size ≤ maxLen) :
 Calls Tryz.prog 65 #[v, .agg (wc 1 an op bd)] w fun e w' => e = .returned (.bool (wantP ps 1 an op bd)) ∧ RowKit.Below w.heap.size w w' := by
 have HW := hide (show wantP ps 1 an op bd = !(ps.any fun q => q.nm.toList == an.toList && fitsA op bd q.vr) from rfl)
 generalize wantP ps 1 an op bd = r at *
 obtain ⟨va, vc, rfl, hk⟩ := pk
 obtain ⟨W1, hW1⟩ : ∃ x, x = w.alloc (.cells (wc 1 an op bd) 73) := ⟨_, rfl⟩
 have b1 : RowKit.Below w.heap.size w W1 := by rw [hW1]; exact (Below.refl _ _).alloc (Nat.le_refl _) _
 have g1 : W1.heap[w.heap.size]? = some (.cells (wc 1 an op bd) 73 (0, 0)) := by rw [hW1]; exact World.alloc_heap_new w _
 obtain ⟨N, hN⟩ : ∃ N, ps.length = N := ⟨_, rfl⟩
 rw [hN] at hl hk ⊢
 have HN := hide hN
 have HP := hide hk
 have HZ := hide hbd
 clear hk hN hbd
 have z1 : w.heap.size < W1.heap.size := blk_lt g1
 have HG := hide (And.intro g1 b1)
 go_enter Tryz.func65, Tryz.ntmps65
 go_wp2_with fail
 rw [← hW1]
 clear hW1 g1 b1
 go_loopw [7] (fun vi wr => ∃ i : Nat, vi = .int .i64 i ∧ i ≤ N ∧ Hid (RowKit.Below W1.heap.size W1 wr) ∧ Hid (∀ (j : Nat) (x : Pd), j < i → ps[j]? = some x → (x.nm.toList == an.toList && fitsA op bd x.vr) = false)) (fun vi _ => N - (intOf vi).toNat)
 case atStart => exact ⟨0, by go_num, by omega, hide (Below.refl _ _), hide (fun j x hj => absurd hj (Nat.not_lt_zero _))⟩
 case round =>
  obtain ⟨i, rfl, hile, HB, HM⟩ := hrel
  by_cases hlt : i < N
  ·have hlt2 : (i : Int) < (N : Int) := by omega
   obtain ⟨b, o, rfl, hbw, hc⟩ := unhide HP (by have := unhide HN; omega)
   obtain ⟨x, hx⟩ : ∃ x, ps[i]? = some x := ⟨_, List.getElem?_eq_getElem (by have := unhide HN; omega)⟩
   obtain ⟨hr, hok⟩ := hc i x hx
   have HX := hide hx
   have HST := hide (show ∀ X, RowKit.Below W1.heap.size W1 X → X.cell? ⟨w.heap.size, 1, none⟩ = some (.string an) ∧ X.cell? ⟨w.heap.size, 2, none⟩ = some (.int .i64 op) ∧ X.cell? ⟨w.heap.size, 3, none⟩ = some (.string bd) ∧ X.cell? ⟨b, o + i * 43, none⟩ = some (.string x.nm) ∧ X.cell? ⟨b, o + i * 43 + 1, none⟩ = some (.string x.vr) from fun X hX => by
    have h := (hX.block _ (blk_lt (unhide HG).1)).trans (unhide HG).1
    have r := range_bel hr hbw (bl_t (unhide HG).2 hX)
    exact ⟨(cell_blk h 1).1.trans rfl, (cell_blk h 2).1.trans rfl, (cell_blk h 3).1.trans rfl, r 0 _ hok.1.n, r 1 _ hok.1.v⟩)
   have QR := hide (rFitsA_any an op bd x.vr (unhide HZ) hok.2.2)
   have E0 := hide (show RowKit.Below W1.heap.size W1 wr.drew from bl_t (unhide HB) (Below.refl _ wr).drew)
   clear hc hr hok hx
   have HNX := hide (fun hf => miss_next (f := fun q => q.nm.toList == an.toList && fitsA op bd q.vr) (unhide HX) hf (unhide HM))
   have HH := hide (fun hf => want_hit (f := fun q => q.nm.toList == an.toList && fitsA op bd q.vr) (unhide HX) hf)
   clear HX HM
   generalize x.nm = nm at *
   generalize x.vr = vr at *
   cases he : (nm.toList == an.toList) with
   | false =>
     rw [he] at HNX HH
     have HNX2 := hide (unhide HNX rfl)
     clear HNX HH
     go_wp2_with fail
     refine wp_region_held_drew (S := fun w' => w'.cell? ⟨w.heap.size, 1, none⟩ = some (.string an) ∧ w'.cell? ⟨w.heap.size, 2, none⟩ = some (.int .i64 op) ∧ w'.cell? ⟨w.heap.size, 3, none⟩ = some (.string bd) ∧ w'.cell? ⟨b, o + i * 43, none⟩ = some (.string nm) ∧ w'.cell? ⟨b, o + i * 43 + 1, none⟩ = some (.string vr)) (by kernel_rfl) ?_ (fun hHeld => ?_)
     ·exact unhide HST _ (unhide E0)
     refine tk2 0 (⟨some 34, .move (.tmp 0), 22, "ref.go:124", #[], none⟩) ?_
     refine tk2 1 (⟨some 35, .move (.tmp 7), 3, "ref.go:124", #[], none⟩) ?_
     refine tk2 2 (⟨some 36, .indexAddr 22 (.tmp 34) (.tmp 35), 0, "ref.go:124", #[⟨0, .data⟩, ⟨1, .data⟩], none⟩) ?_
     refine tk2 3 (⟨some 37, .fieldAddr 46 (.tmp 36) 0, 0, "ref.go:124", #[⟨2, .data⟩], none⟩) ?_
     refine tk2 4 (⟨some 38, .load 9 (.tmp 37), 9, "ref.go:124", #[⟨3, .data⟩], none⟩) ?_
     refine tk2 5 (⟨some 39, .fieldAddr 73 (.tmp 3) 1, 0, "ref.go:124", #[], none⟩) ?_
     refine tk2 6 (⟨some 40, .fieldAddr 48 (.tmp 39) 0, 0, "ref.go:124", #[⟨5, .data⟩], none⟩) ?_
     refine tk2 7 (⟨some 41, .load 9 (.tmp 40), 9, "ref.go:124", #[⟨6, .data⟩], none⟩) ?_
     refine tk2 8 (⟨some 42, .binOp .eql 9 (.tmp 38) (.tmp 41) 9, 4, "ref.go:124", #[⟨4, .data⟩, ⟨7, .data⟩], none⟩) ?_
     refine tk2 9 (⟨some 43, .move (.tmp 42), 4, "ref.go:124", #[⟨8, .data⟩], none⟩) ?_
     refine tkH 10 ⟨some 44, .fieldAddr 73 (.tmp 3) 1, 0, "ref.go:124", #[⟨9, .guard⟩], some (9, true)⟩ (v := undef) (Or.inr ⟨by rfl, rfl⟩) ?_
     try simp only [Act.put, sqB, sq0, sq1]
     refine tkH 11 ⟨some 45, .load 48 (.tmp 44), 48, "ref.go:124", #[⟨10, .data⟩, ⟨9, .guard⟩], some (9, true)⟩ (v := undef) (Or.inr ⟨by rfl, rfl⟩) ?_
     try simp only [Act.put, sqB, sq0, sq1]
     refine tkH 12 ⟨some 46, .move (.tmp 0), 22, "ref.go:124", #[⟨9, .guard⟩], some (9, true)⟩ (v := undef) (Or.inr ⟨by rfl, rfl⟩) ?_
     try simp only [Act.put, sqB, sq0, sq1]
     refine tkH 13 ⟨some 47, .move (.tmp 7), 3, "ref.go:124", #[⟨9, .guard⟩], some (9, true)⟩ (v := undef) (Or.inr ⟨by rfl, rfl⟩) ?_
     try simp only [Act.put, sqB, sq0, sq1]
     refine tkH 14 ⟨some 48, .indexAddr 22 (.tmp 46) (.tmp 47), 0, "ref.go:124", #[⟨12, .data⟩, ⟨13, .data⟩, ⟨9, .guard⟩], some (9, true)⟩ (v := undef) (Or.inr ⟨by rfl, rfl⟩) ?_
     try simp only [Act.put, sqB, sq0, sq1]
     refine tkH 15 ⟨some 49, .fieldAddr 46 (.tmp 48) 1, 0, "ref.go:124", #[⟨14, .data⟩, ⟨9, .guard⟩], some (9, true)⟩ (v := undef) (Or.inr ⟨by rfl, rfl⟩) ?_
     try simp only [Act.put, sqB, sq0, sq1]
     refine tkH 16 ⟨some 50, .load 9 (.tmp 49), 9, "ref.go:124", #[⟨15, .data⟩, ⟨9, .guard⟩], some (9, true)⟩ (v := undef) (Or.inr ⟨by rfl, rfl⟩) ?_
     try simp only [Act.put, sqB, sq0, sq1]
     refine tkH 17 ⟨some 51, .call { callee := .value (.func 82), args := #[.tmp 45, .tmp 50], argTypes := #[48, 9] }, 4, "ref.go:124", #[⟨11, .data⟩, ⟨16, .data⟩, ⟨9, .chain⟩, ⟨9, .guard⟩], some (9, true)⟩ (v := undef) (Or.inr ⟨by rfl, rfl⟩) ?_
     try simp only [Act.put, sqB, sq0, sq1]
     refine tk2 18 (⟨some 52, .pick (.tmp 43) (.tmp 51) (.const (Value.bool false)), 4, "ref.go:124", #[⟨9, .data⟩, ⟨17, .data⟩], none⟩) ?_
     refine wpAnyH_done (by kernel_rfl) ?_ _
     go_wp2_with fail
     go_roundw
     case rel => exact ⟨i + 1, by go_num, by omega, E0, HNX2⟩
     case measure => simp [intOf]; omega
   | true =>
     rw [he] at HNX HH
     cases hf : fitsA op bd vr with
     | false =>
       rw [hf] at HNX QR
       have HNX2 := hide (unhide HNX rfl)
       clear HNX HH hf
       go_wp2_with fail
       go_region_held3 (fun w' => w'.cell? ⟨w.heap.size, 1, none⟩ = some (.string an) ∧ w'.cell? ⟨w.heap.size, 2, none⟩ = some (.int .i64 op) ∧ w'.cell? ⟨w.heap.size, 3, none⟩ = some (.string bd) ∧ w'.cell? ⟨b, o + i * 43, none⟩ = some (.string nm) ∧ w'.cell? ⟨b, o + i * 43 + 1, none⟩ = some (.string vr)) (first | exact unhide HST _ (unhide E0) | exact unhide HST _ (unhide E1)) (first | (go_at_call 82; refine (unhide QR _).mono ?_; rintro e w11 ⟨rfl, hb11⟩; have E1 := hide (bl_t (unhide E0) hb11); clear hb11))
       go_wp2_with fail
       go_roundw
       case rel => exact ⟨i + 1, by go_num, by omega, E1, HNX2⟩
       case measure => simp [intOf]; omega
     | true =>
       rw [hf] at HH QR
       have HF2 := hide ((unhide HW).trans (congrArg (!·) (unhide HH rfl)))
       clear HNX HH hf
       go_wp2_with fail
       go_region_held3 (fun w' => w'.cell? ⟨w.heap.size, 1, none⟩ = some (.string an) ∧ w'.cell? ⟨w.heap.size, 2, none⟩ = some (.int .i64 op) ∧ w'.cell? ⟨w.heap.size, 3, none⟩ = some (.string bd) ∧ w'.cell? ⟨b, o + i * 43, none⟩ = some (.string nm) ∧ w'.cell? ⟨b, o + i * 43 + 1, none⟩ = some (.string vr)) (first | exact unhide HST _ (unhide E0) | exact unhide HST _ (unhide E1)) (first | (go_at_call 82; refine (unhide QR _).mono ?_; rintro e w11 ⟨rfl, hb11⟩; have E1 := hide (bl_t (unhide E0) hb11); clear hb11))
       go_wp2_with fail
       go_ret
       exact ⟨ret_bb (unhide HF2).symm, bl_t (unhide HG).2 (unhide E1)⟩
  ·have HF := hide (want_miss (ps := ps) (f := fun q => q.nm.toList == an.toList && fitsA op bd q.vr) fun j x hx => unhide HM j x (by have := (List.getElem?_eq_some_iff.1 hx).1; have := unhide HN; omega) hx)
   have HF2 := hide ((unhide HW).trans (congrArg (!·) (unhide HF)))
   clear HM HF
   go_wp2_with fail
   go_ret
   exact ⟨ret_bb (unhide HF2).symm, bl_t (unhide HG).2 (unhide HB)⟩
set_option maxHeartbeats 4000000 in
theorem wanted2_any {w : World} {v : Value} (kd : Int) (h0 : kd ≠ 0) (h1 : kd ≠ 1) (an : Nm) (op : Int) (bd : ByteArray) (ps : List Pd) :
 Calls Tryz.prog 65 #[v, .agg (wc kd an op bd)] w fun e w' => e = .returned (.bool (wantP ps kd an op bd)) ∧ RowKit.Below w.heap.size w w' := by
 have HW := hide (show wantP ps kd an op bd = true from by unfold wantP; rw [if_neg h0, if_neg h1])
 generalize wantP ps kd an op bd = r at *
 have e0 : (kd == 0) = false := by simpa using h0
 have e1 : (kd == 1) = false := by simpa using h1
 have HK := hide ((Below.refl w.heap.size w).alloc (Nat.le_refl _) (.cells (wc kd an op bd) 73))
 clear h0 h1
 go_enter Tryz.func65, Tryz.ntmps65
 go_wp2
 go_ret
 exact ⟨ret_bb (unhide HW).symm, unhide HK⟩
theorem wanted_any {w : World} {v : Value} {ps : List Pd} (kd : Int) (an : Nm) (op : Int) (bd : ByteArray) (pk : Pks w v ps) (hl : ps.length ≤ 1000000000) (hbd : bd.size ≤ maxLen) :
 Calls Tryz.prog 65 #[v, .agg (wc kd an op bd)] w fun e w' => e = .returned (.bool (wantP ps kd an op bd)) ∧ RowKit.Below w.heap.size w w' := by
 by_cases h0 : kd = 0
 ·subst h0; exact wanted0_any an op bd pk hl hbd
 ·by_cases h1 : kd = 1
  ·subst h1; exact wanted1_any an op bd pk hl hbd
  ·exact wanted2_any kd h0 h1 an op bd ps
end
section
open Go.RowKit Go.Maps Go.Shelf
set_option maxRecDepth 100000 in
set_option maxHeartbeats 8000000 in
theorem rUnmet_any {w : World} {v : Value} {ps : List Pd} {wa : Option Addr} {ws : List Wd} (wcap : Nat) (pk : Pks w v ps) (hlp : ps.length ≤ 1000000000) (hw : Wis w wa ws) (hok : ∀ x ∈ ws, WdOk x) (hl : ws.length ≤ 1099511627776) :
 Calls Tryz.prog 35 #[v, .slice wa ws.length wcap] w fun e w' => ∃ r, e = .returned r ∧ w'.ownsRow w.heap.size 3 1 r (unL ps ws ws.length).length (ints (unL ps ws ws.length)) ∧ RowKit.Below w.heap.size w w' := by
 obtain ⟨i0, hi, hz0, hz1, hz2⟩ := info_parts2 infoI
 obtain ⟨va, vc, rfl⟩ : ∃ a c, v = .slice a ps.length c := let ⟨a, c, e, _⟩ := pk; ⟨a, c, e⟩
 have HG := hide (show ∀ X, RowKit.Below w.heap.size w X → ∀ x ∈ ws, Calls Tryz.prog 65 #[.slice va ps.length vc, .agg (wc x.kd x.an x.op x.bd)] X fun e w' => e = .returned (.bool (x.ok ps)) ∧ RowKit.Below X.heap.size X w' from fun X hX x hx => wanted_any x.kd x.an x.op x.bd (pk.later hX) hlp (hok x hx).2)
 have HAT := hide (show ∀ X, RowKit.Below w.heap.size w X → Wis X wa ws from fun X hX => hw.later hX)
 have HST := hide (Us.start w)
 obtain ⟨N, hN⟩ : ∃ N, N = ws.length := ⟨_, rfl⟩
 rw [← hN] at hl ⊢
 have HN := hide hN
 clear pk hlp hw hok hN
 go_enter Tryz.func35, Tryz.ntmps35
 go_wp2_with fail
 go_loopw [5, 6, 7] (fun sv iv _ wr => ∃ i : Nat, iv = .int .i64 i ∧ i ≤ N ∧ Hid (Us w wr sv (unL ps ws i))) (fun _ iv _ _ => N - (intOf iv).toNat)
 case atStart => exact ⟨0, by go_num, Nat.zero_le _, HST⟩
 case round =>
  clear HST
  obtain ⟨i, rfl, hile, HU⟩ := hrel
  have hu := unhide HU
  by_cases hlt : i < N
  ·have hlt2 : (i : Int) < (N : Int) := by omega
   have hjp : i < ws.length := by have := unhide HN; omega
   have hwis := unhide HAT wr hu.bw
   have hx : ws[i]? = some ws[i] := List.getElem?_eq_getElem hjp
   generalize ws[i] = x at *
   obtain ⟨b, o, rfl, hbl, c0, c1, c2, c3⟩ := hwis.cells hx
   have C := hide (unhide HG _ hu.bw x (List.mem_of_getElem? hx))
   have HX := hide hx
   clear hu hwis hx hjp
   cases hf : x.ok ps with
   | true =>
     rw [hf] at C
     have HE := hide (unL_yes (unhide HX) hf)
     clear hf HX
     go_wp2_with (go_at_call 65; refine (unhide C).mono ?_; rintro e w5 ⟨rfl, hb⟩; have HU3 := hide ((unhide HU).later hb); clear hb C HU)
     go_roundw
     case rel => exact ⟨i + 1, by go_num, by omega, by rw [unhide HE]; exact HU3⟩
     case measure => simp [intOf]; omega
   | false =>
     rw [hf] at C
     have HE := hide (unL_no (unhide HX) hf)
     have hLk := unL_len ps ws i
     clear hf HX
     go_wp2_with (first | (go_at_call 65; refine (unhide C).mono ?_; rintro e w5 ⟨rfl, hb⟩; have HU3 := hide ((unhide HU).later hb); clear hb C HU; have hbz := (unhide HU3).bw.size) | (at_builtin; go_must (refine wpList_append_own _ rfl _ _ 34 rfl w.heap.size 3 i0 (.int .i64 0) 1 8 Tryz.underlying34 hi hz0 hz1 hz2 rfl (by decide) _ _ _ rfl ((unhide HU3).row.alloc _) ⟨w5.heap.size, 0, none⟩ 1 1 [.int .i64 (i : Int)] rfl rfl (cell_one_new _ _ _) (by simp [Value.oneCell']) (by unfold maxLen; omega) (by omega) (by simp; omega) ?_); intro v' w9 hown hgrow _; have HU9 := hide ((unhide HU3).grow hown hgrow); clear hown hgrow))
     go_roundw
     case rel => exact ⟨i + 1, by go_num, by omega, by rw [unhide HE]; exact HU9⟩
     case measure => simp [intOf]; omega
  ·obtain rfl : i = N := by omega
   go_wp2
   go_ret
   exact ⟨_, rfl, hu.row, hu.bw⟩
end
section
open Go.RowKit
def zzP (p : Pk) : Pk := { p with nm := ⟨#[122, 122]⟩ }
theorem PkC.name {cs : List Value} {p : Pk} {d r c v f : Value} (h : PkC cs p d r c v f) : PkC (cs.set 0 (.string ⟨#[122, 122]⟩)) (zzP p) d r c v f := by
 have hl := h.len
 refine ⟨by simp [hl], fun x hx => ?_, ?_, ?_, ?_, ?_, ?_, ?_, ?_, ?_, ?_, ?_, fun j x hx => ?_, ?_⟩
 ·rcases List.mem_or_eq_of_mem_set hx with hx | rfl
  ·exact h.one x hx
  ·rfl
 ·simp [hl, zzP]
 ·simp [h.c1, zzP]
 ·simp [h.c2, zzP]
 ·simp [h.c3]
 ·simp [h.c4]
 ·simp [h.c5]
 ·simp [h.c6]
 ·simp [h.c7]
 ·simp [h.c8, zzP]
 ·simp [h.c9, zzP]
 ·rw [List.getElem?_set_ne (by omega)]
  exact h.cs0 j x hx
 ·simp [h.c42, zzP]
theorem setCell_blk (L o : Nat) (v : Value) (W : World) (D : Nat) (hD : L < D) (j : Nat) : (W.setCell ⟨L, o, none⟩ v).cell? ⟨D, j, none⟩ = W.cell? ⟨D, j, none⟩ :=
 World.cell?_setCell_other _ _ _ _ (blk_ne (by omega))
theorem PRow.name {base : Nat} {W : World} {L n i : Nat} {ps : List Pk} {p : Pk} (h : PRow base W L ps n) (hi : i < n) (hn : n ≤ ps.length) (hp : ps[i]? = some p) : PRow base (W.setCell ⟨L, i * 43, none⟩ (.string ⟨#[122, 122]⟩)) L (ps.set i (zzP p)) n := by
 have keep : ∀ q cs Md Mr C S F, LPk W L q cs Md Mr C S F → LPk (W.setCell ⟨L, i * 43, none⟩ (.string ⟨#[122, 122]⟩)) L q cs Md Mr C S F := fun q cs Md Mr C S F hk =>
  hk.of (fun D hD _ => setCell_blk L _ _ W D hD) (fun D _ _ j => World.frozen?_setCell _ _ _ _) (by simp) (fun D hD => setCell_blk L _ _ W D hD) (fun D _ j => World.frozen?_setCell _ _ _ _)
 obtain ⟨z, hz⟩ := Option.isSome_iff_exists.1 (h.spot (i * 43) (by omega))
 refine ⟨fun k q hk hq => ?_, fun j hj => ?_, fun j => ?_, by simpa using h.lt, h.lo⟩
 ·by_cases e : i = k
  ·subst e
   rw [List.getElem?_set_self (by omega)] at hq
   cases hq
   obtain ⟨cs, Md, Mr, C, S, F, h1, h2⟩ := h.row i p hk hp
   have h3 := keep p cs Md Mr C S F h2
   refine ⟨cs.set 0 (.string ⟨#[122, 122]⟩), Md, Mr, C, S, F, fun j v hv => ?_, ⟨h3.pc.name, h3.dl, h3.rl, h3.cl, h3.hC, h3.sl, h3.hS, h3.fl, h3.hF, h3.ff⟩⟩
   by_cases ej : j = 0
   ·subst ej
    rw [List.getElem?_set_self (by rw [h2.pc.len]; omega)] at hv
    cases hv
    exact World.cell?_setCell_same _ _ _ hz
   ·rw [List.getElem?_set_ne (Ne.symm ej)] at hv
    rw [World.cell?_setCell_other _ _ _ _ (off_ne (by omega))]
    exact h1 j v hv
  ·rw [List.getElem?_set_ne e] at hq
   obtain ⟨cs, Md, Mr, C, S, F, h1, h2⟩ := h.row k q hk hq
   refine ⟨cs, Md, Mr, C, S, F, fun j v hv => ?_, keep q cs Md Mr C S F h2⟩
   have hj := (List.getElem?_eq_some_iff.1 hv).1
   rw [h2.pc.len] at hj
   rw [World.cell?_setCell_other _ _ _ _ (off_ne (by omega))]
   exact h1 j v hv
 ·rw [List.length_set] at hj
  by_cases e : j = i * 43
  ·subst e; rw [World.cell?_setCell_same _ _ _ hz]; rfl
  ·rw [World.cell?_setCell_other _ _ _ _ (off_ne (Ne.symm e))]; exact h.spot j hj
 ·rw [World.frozen?_setCell]; exact h.fr j
theorem PRow.pkl {base : Nat} {W : World} {L : Nat} {ps : List Pk} (h : PRow base W L ps ps.length) (hz : ∀ p ∈ ps, PkZ p) : Pkl W (.slice (some ⟨L, 0, none⟩) ps.length (ps.length + 1)) ps := by
 refine ⟨_, _, rfl, fun _ => ⟨L, 0, rfl, h.lt, fun i p hp => ?_⟩⟩
 obtain ⟨cs, Md, Mr, C, S, F, h1, h2⟩ := h.row i p (List.getElem?_eq_some_iff.1 hp).1 hp
 rw [Nat.zero_add]
 exact ⟨cs, _, _, _, _, _, h1, h2.pc, h2.lists (hz p (List.mem_of_getElem? hp))⟩
end
section
open Go.RowKit Go.Maps Go.Shelf
def pdK (p : Pk) : Pd := ⟨[], p.nm, p.vr, .slice none 0 0, p.pv⟩
theorem any_same {f : Pd → Bool} (hf : ∀ a b, same3 a b → f a = f b) : ∀ (xs ys : List Pd), xs.length = ys.length → (∀ (i : Nat) (a b : Pd), xs[i]? = some a → ys[i]? = some b → same3 a b) → xs.any f = ys.any f
 | [], [], _, _ => rfl
 | [], _ :: _, h, _ => by simp at h
 | _ :: _, [], h, _ => by simp at h
 | a :: xs, b :: ys, h, hs => by
   rw [List.any_cons, List.any_cons, hf a b (hs 0 a b rfl rfl), any_same hf xs ys (by simpa using h) fun i x y hx hy => hs (i + 1) x y (by simpa using hx) (by simpa using hy)]
theorem wantP_same {xs ys : List Pd} (h : xs.length = ys.length) (hs : ∀ (i : Nat) (a b : Pd), xs[i]? = some a → ys[i]? = some b → same3 a b) (kd : Int) (an : Nm) (op : Int) (bd : ByteArray) : wantP xs kd an op bd = wantP ys kd an op bd := by
 unfold wantP
 rw [any_same (f := fun q => meetsA an op bd q.nm q.vr q.pl) (fun a b e => by rw [e.1, e.2.1, e.2.2]) xs ys h hs, any_same (f := fun q => q.nm.toList == an.toList && fitsA op bd q.vr) (fun a b e => by rw [e.1, e.2.1]) xs ys h hs]
theorem unL_same {xs ys : List Pd} (h : xs.length = ys.length) (hs : ∀ (i : Nat) (a b : Pd), xs[i]? = some a → ys[i]? = some b → same3 a b) (ws : List Wd) : ∀ n, unL xs ws n = unL ys ws n
 | 0 => rfl
 | n + 1 => by
   unfold unL
   rw [unL_same h hs ws n]
   cases ws[n]? with
   | none => rfl
   | some x => simp only; unfold Wd.ok; rw [wantP_same h hs]
structure SmK (ps : List Pk) : Prop where
 l : ps.length ≤ 1000000000
 t : (ps.map fun p => p.pv.length).sum ≤ 1000000000
 z : ∀ p ∈ ps, p.nm.size ≤ maxLen ∧ p.vr.size ≤ maxLen ∧ ∀ n ∈ p.pv, n.size ≤ maxLen
theorem totP_le {xs : List Pd} {ps : List Pk} (h : ∀ (i : Nat) (x : Pd) (p : Pk), xs[i]? = some x → ps[i]? = some p → x.nm = p.nm ∧ x.vr = p.vr ∧ x.pl = p.pv) (hl : xs.length = ps.length) : ∀ n, totP xs n ≤ ((ps.take n).map fun p => p.pv.length).sum
 | 0 => Nat.zero_le _
 | n + 1 => by
   have ih := totP_le h hl n
   rw [List.take_add_one, List.map_append, List.sum_append]
   unfold totP
   cases e : xs[n]? with
   | none => simp only; omega
   | some x =>
     obtain ⟨p, hp⟩ : ∃ p, ps[n]? = some p := ⟨_, List.getElem?_eq_getElem (by rw [← hl]; exact (List.getElem?_eq_some_iff.1 e).1)⟩
     rw [hp]
     have e3 : ((some p).toList.map fun p => p.pv.length).sum = p.pv.length := by simp
     rw [e3]
     simp only
     rw [(h n x p e hp).2.2]
     omega
theorem sm_ofU {xs : List Pd} {ps : List Pk} (h : ∀ (i : Nat) (x : Pd) (p : Pk), xs[i]? = some x → ps[i]? = some p → x.nm = p.nm ∧ x.vr = p.vr ∧ x.pl = p.pv) (hl : xs.length = ps.length) (sm : SmK ps) : Sm xs := by
 refine ⟨by rw [hl]; exact sm.l, ?_, fun q hq => ?_⟩
 ·have := totP_le h hl xs.length
  rw [hl, List.take_length] at this
  rw [hl]
  exact Nat.le_trans this sm.t
 ·obtain ⟨i, hi, e⟩ := List.getElem_of_mem hq
  have e2 : xs[i]? = some q := by rw [List.getElem?_eq_getElem hi, e]
  have hp : ps[i]? = some ps[i] := List.getElem?_eq_getElem (by omega)
  have hh := h i q _ e2 hp
  have hz := sm.z _ (List.mem_of_getElem? hp)
  rw [hh.1, hh.2.2]
  exact ⟨hz.1, hz.2.2⟩
def unK (ps : List Pk) (ws : List Wd) : List Nat := unL (ps.map pdK) ws ws.length
theorem unK_len (ps : List Pk) (ws : List Wd) : (unK ps ws).length ≤ ws.length := unL_len _ _ _
theorem un_two {w : World} {v : Value} {ps : List Pk} (h : Pkl w v ps) (sm : SmK ps) (X : World) (hb : RowKit.Below w.heap.size w X) {wa : Option Addr} {ws : List Wd} (wcap : Nat) (hw : Wis X wa ws) (hok : ∀ x ∈ ws, WdOk x) (hl : ws.length ≤ 1099511627776) :
 (Calls Tryz.prog 36 #[v, .slice wa ws.length wcap] X fun e w' => ∃ r, e = .returned r ∧ w'.ownsRow X.heap.size 3 1 r (unK ps ws).length (ints (unK ps ws)) ∧ RowKit.Below X.heap.size X w') ∧
 (Calls Tryz.prog 35 #[v, .slice wa ws.length wcap] X fun e w' => ∃ r, e = .returned r ∧ w'.ownsRow X.heap.size 3 1 r (unK ps ws).length (ints (unK ps ws)) ∧ RowKit.Below X.heap.size X w') := by
 obtain ⟨xs, hx, hlen, hs⟩ := pks_of h fun p hp => (sm.z p hp).2.1
 have e : unL xs ws ws.length = unK ps ws := unL_same (by rw [hlen, List.length_map]) (fun i a b ha hb' => by
  rw [List.getElem?_map] at hb'
  cases hp : ps[i]? with
  | none => rw [hp] at hb'; cases hb'
  | some p =>
    rw [hp] at hb'
    cases hb'
    exact hs i a p ha hp) ws _
 have s := sm_ofU hs hlen sm
 rw [← e]
 exact ⟨Unmet_any wcap (hx.later hb) s hw hok hl, rUnmet_any wcap (hx.later hb) s.l hw hok hl⟩
end
end Go.Proofs.YtdkpglmdncjnbaaGreatDoor
