import Derived.Test.YtdkpglmdncjnbaaGreatDoorZf07
namespace Go.Proofs.YtdkpglmdncjnbaaGreatDoor
section
open Go.RowKit
abbrev y8_1 : Oper := ⟨some 21, .load 46 (.tmp 3), 46, "ref.go:375", #[⟨15, .guard⟩], some (15, true)⟩
abbrev y8_2 : Oper := ⟨some 14, .move (.tmp 0), 49, "ref.go:381", #[], none⟩
abbrev y8_3 : Oper := ⟨some 15, .move (.tmp 6), 3, "ref.go:381", #[], none⟩
abbrev y8_4 : Oper := ⟨some 16, .indexAddr 49 (.tmp 14) (.tmp 15), 0, "ref.go:381", #[⟨0, .data⟩, ⟨1, .data⟩], none⟩
abbrev y8_5 : Oper := ⟨some 17, .load 48 (.tmp 16), 48, "ref.go:381", #[⟨2, .data⟩], none⟩
abbrev y8_6 : Oper := ⟨some 18, .load 46 (.tmp 3), 46, "ref.go:381", #[], none⟩
abbrev y8_7 : Oper := ⟨some 19, .call { callee := .value (.func 77), args := #[.tmp 17, .tmp 18], argTypes := #[48, 46] }, 4, "ref.go:381", #[⟨3, .data⟩, ⟨4, .data⟩], none⟩
abbrev y8_8 : Oper := ⟨some 7, .assign (.tmp 19), 4, "ref.go:381", #[⟨5, .data⟩, ⟨5, .chain⟩, ⟨0, .phase⟩, ⟨1, .phase⟩, ⟨2, .phase⟩, ⟨3, .phase⟩, ⟨4, .phase⟩, ⟨5, .phase⟩], none⟩
theorem wpList_load_want {P : Program} {ops : Array Oper} {rest : List Oper} {op : Oper} {a : Act} {w : World} {Q : Exit → Act → World → Prop} (ty : TypeId) (x : Operand) (ho : op.op = .load ty x) (hw : Region.wanted op (yielded ops a.tmps) = true)
 (b o : Nat) (hx : a.eval x = .pointer (some ⟨b, o, none⟩)) (cs : List Value) (d : TypeDesc) (hc : w.rangeAt b o cs)
 (hu : P.underlying ty = some d) (hd : d.isRow = true) (hi : (P.info? ty).map (·.size) = some cs.length)
 (h : wpList P ops Q rest (a.put op.dst (.agg cs.toArray)) w) : wpList P ops Q (op :: rest) a w :=
 BigFrame.wpList_want hw fun _ hK => wp_load_mid ty x ho b o hx cs d hc hu hd hi (hK _ _ h)
theorem range_of {W : World} {c : Nat} {cs : List Value} (h : ∀ i v, cs[i]? = some v → W.cell? ⟨c, i, none⟩ = some v) : W.rangeAt c 0 cs := fun j v hj => by rw [Nat.zero_add]; exact h j v hj
theorem range_later {W W' : World} {c : Nat} {cs : List Value} (h : W.rangeAt c 0 cs) (hc : c < W.heap.size) (hb : Below W.heap.size W W') : W'.rangeAt c 0 cs := fun j v hj => (hb.cell (p := ⟨c, _, none⟩) hc).trans (h j v hj)
set_option maxRecDepth 20000 in
set_option maxHeartbeats 12000000 in
theorem rMeets_any (n : ByteArray) (op : Int) (bd nm vr : ByteArray) (pv : Value) (pl : List ByteArray) (cs : List Value) (hbd : bd.size ≤ maxLen) (hvr : vr.size ≤ maxLen) (w : World) (hp : Pkg cs nm vr pv) (h : Strs w pv pl) :
 Calls Tryz.prog 77 #[.agg #[.string n, .int .i64 op, .string bd], .agg cs.toArray] w fun e w' => e = .returned (.bool (meetsA n op bd nm vr pl)) ∧ Below w.heap.size w w' := by
 obtain ⟨W, hW, hbx, hcells, hB⟩ := boxes_new w n op bd nm vr pv cs hp
 have c1 := hide (fun w => rFitsA_any n op bd vr hbd hvr w)
 have HS := hide (fun (w' : World) (hb : Below w.heap.size w w') => rProvides_any cs nm vr pv pl n w' hp (h.later hb))
 have HB := hide hB
 have HX := hide hbx
 have hr0 := range_of hcells
 have HR0 := hide hr0
 have HI77 := hide (show (Tryz.prog.info? 46).map (·.size) = some cs.length by rw [hp.len]; kernel_rfl)
 obtain ⟨a0, a1, a2, p0, p1, p6, bl, cl⟩ := hbx
 clear hp h hbd hvr hB hcells
 cases hE : (nm.toList == n.toList)
 ·skip
  cases hO : (op == 0)
  ·skip
   have HM := hide (show meetsA n op bd nm vr pl = false by simp [meetsA, hE, hO])
   go_enter Tryz.func77, Tryz.ntmps77
   go_wp2_with (first
    | (with_reducible refine wpList_load_want (op := y8_1) 46 (.tmp 3) ?l0x2 ?l0x1 (w.heap.size + 1) 0 ?l0x3 cs _ ?l0x4 Tryz.underlying46 ?l0x5 (unhide HI77) ?l0x6
       case l0x2 => rfl
       case l0x1 => rfl
       case l0x3 => rfl
       case l0x4 => assumption
       case l0x5 => rfl)
    | (go_at_call 82; refine (unhide c1 _).mono ?_; rintro e w1 ⟨rfl, hb1⟩; have HB1 := hide ((unhide HB).trans (hb1.mono (unhide HB).size)); obtain ⟨a0', a1', a2', p0', p1', p6', bl', cl'⟩ := (unhide HX).later hb1; have hr1 := range_later (unhide HR0) (unhide HX).cl hb1; have HR1 := hide hb1; clear hb1)
    | (go_at_call 100; refine (unhide HS _ (by first | exact unhide HB1 | exact unhide HB)).mono ?_; rintro e w2 ⟨rfl, hb2⟩; have HB2 := hide hb2; clear hb2))
   go_ret
   exact ⟨ret_bool (unhide HM).symm, by first | exact (unhide HB1).trans ((unhide HB2).mono (unhide HB1).size) | exact (unhide HB).trans ((unhide HB2).mono (unhide HB).size) | exact unhide HB1 | exact unhide HB⟩
  ·cases hC : Lib.containsS pl n
   ·skip
    simp only [hC] at HS
    have HM := hide (show meetsA n op bd nm vr pl = false by simp [meetsA, hE, hO, hC])
    clear hC
    go_enter Tryz.func77, Tryz.ntmps77
    go_wp2_with (first
     | (with_reducible refine wpList_load_want (op := y8_1) 46 (.tmp 3) ?l1x2 ?l1x1 (w.heap.size + 1) 0 ?l1x3 cs _ ?l1x4 Tryz.underlying46 ?l1x5 (unhide HI77) ?l1x6
        case l1x2 => rfl
        case l1x1 => rfl
        case l1x3 => rfl
        case l1x4 => assumption
        case l1x5 => rfl)
     | (go_at_call 82; refine (unhide c1 _).mono ?_; rintro e w1 ⟨rfl, hb1⟩; have HB1 := hide ((unhide HB).trans (hb1.mono (unhide HB).size)); obtain ⟨a0', a1', a2', p0', p1', p6', bl', cl'⟩ := (unhide HX).later hb1; have hr1 := range_later (unhide HR0) (unhide HX).cl hb1; have HR1 := hide hb1; clear hb1)
     | (go_at_call 100; refine (unhide HS _ (by first | exact unhide HB1 | exact unhide HB)).mono ?_; rintro e w2 ⟨rfl, hb2⟩; have HB2 := hide hb2; clear hb2))
    go_ret
    exact ⟨ret_bool (unhide HM).symm, by first | exact (unhide HB1).trans ((unhide HB2).mono (unhide HB1).size) | exact (unhide HB).trans ((unhide HB2).mono (unhide HB).size) | exact unhide HB1 | exact unhide HB⟩
   ·skip
    simp only [hC] at HS
    have HM := hide (show meetsA n op bd nm vr pl = true by simp [meetsA, hE, hO, hC])
    clear hC
    go_enter Tryz.func77, Tryz.ntmps77
    go_wp2_with (first
     | (with_reducible refine wpList_load_want (op := y8_1) 46 (.tmp 3) ?l2x2 ?l2x1 (w.heap.size + 1) 0 ?l2x3 cs _ ?l2x4 Tryz.underlying46 ?l2x5 (unhide HI77) ?l2x6
        case l2x2 => rfl
        case l2x1 => rfl
        case l2x3 => rfl
        case l2x4 => assumption
        case l2x5 => rfl)
     | (go_at_call 82; refine (unhide c1 _).mono ?_; rintro e w1 ⟨rfl, hb1⟩; have HB1 := hide ((unhide HB).trans (hb1.mono (unhide HB).size)); obtain ⟨a0', a1', a2', p0', p1', p6', bl', cl'⟩ := (unhide HX).later hb1; have hr1 := range_later (unhide HR0) (unhide HX).cl hb1; have HR1 := hide hb1; clear hb1)
     | (go_at_call 100; refine (unhide HS _ (by first | exact unhide HB1 | exact unhide HB)).mono ?_; rintro e w2 ⟨rfl, hb2⟩; have HB2 := hide hb2; clear hb2))
    go_ret
    exact ⟨ret_bool (unhide HM).symm, by first | exact (unhide HB1).trans ((unhide HB2).mono (unhide HB1).size) | exact (unhide HB).trans ((unhide HB2).mono (unhide HB).size) | exact unhide HB1 | exact unhide HB⟩
 ·cases hF : fitsA op bd vr
  ·skip
   cases hO : (op == 0)
   ·skip
    rw [hF] at c1
    have HM := hide (show meetsA n op bd nm vr pl = false by simp [meetsA, hE, hF, hO])
    clear hF
    go_enter Tryz.func77, Tryz.ntmps77
    go_wp2_with (first
     | (with_reducible refine wpList_load_want (op := y8_1) 46 (.tmp 3) ?l3x2 ?l3x1 (w.heap.size + 1) 0 ?l3x3 cs _ ?l3x4 Tryz.underlying46 ?l3x5 (unhide HI77) ?l3x6
        case l3x2 => rfl
        case l3x1 => rfl
        case l3x3 => rfl
        case l3x4 => assumption
        case l3x5 => rfl)
     | (go_at_call 82; refine (unhide c1 _).mono ?_; rintro e w1 ⟨rfl, hb1⟩; have HB1 := hide ((unhide HB).trans (hb1.mono (unhide HB).size)); obtain ⟨a0', a1', a2', p0', p1', p6', bl', cl'⟩ := (unhide HX).later hb1; have hr1 := range_later (unhide HR0) (unhide HX).cl hb1; have HR1 := hide hb1; clear hb1)
     | (go_at_call 100; refine (unhide HS _ (by first | exact unhide HB1 | exact unhide HB)).mono ?_; rintro e w2 ⟨rfl, hb2⟩; have HB2 := hide hb2; clear hb2))
    go_ret
    exact ⟨ret_bool (unhide HM).symm, by first | exact (unhide HB1).trans ((unhide HB2).mono (unhide HB1).size) | exact (unhide HB).trans ((unhide HB2).mono (unhide HB).size) | exact unhide HB1 | exact unhide HB⟩
   ·cases hC : Lib.containsS pl n
    ·skip
     rw [hF] at c1
     simp only [hC] at HS
     have HM := hide (show meetsA n op bd nm vr pl = false by simp [meetsA, hE, hF, hO, hC])
     clear hF hC
     go_enter Tryz.func77, Tryz.ntmps77
     go_wp2_with (first
      | (with_reducible refine wpList_load_want (op := y8_1) 46 (.tmp 3) ?l4x2 ?l4x1 (w.heap.size + 1) 0 ?l4x3 cs _ ?l4x4 Tryz.underlying46 ?l4x5 (unhide HI77) ?l4x6
         case l4x2 => rfl
         case l4x1 => rfl
         case l4x3 => rfl
         case l4x4 => assumption
         case l4x5 => rfl)
      | (go_at_call 82; refine (unhide c1 _).mono ?_; rintro e w1 ⟨rfl, hb1⟩; have HB1 := hide ((unhide HB).trans (hb1.mono (unhide HB).size)); obtain ⟨a0', a1', a2', p0', p1', p6', bl', cl'⟩ := (unhide HX).later hb1; have hr1 := range_later (unhide HR0) (unhide HX).cl hb1; have HR1 := hide hb1; clear hb1)
      | (go_at_call 100; refine (unhide HS _ (by first | exact unhide HB1 | exact unhide HB)).mono ?_; rintro e w2 ⟨rfl, hb2⟩; have HB2 := hide hb2; clear hb2))
     go_ret
     exact ⟨ret_bool (unhide HM).symm, by first | exact (unhide HB1).trans ((unhide HB2).mono (unhide HB1).size) | exact (unhide HB).trans ((unhide HB2).mono (unhide HB).size) | exact unhide HB1 | exact unhide HB⟩
    ·skip
     rw [hF] at c1
     simp only [hC] at HS
     have HM := hide (show meetsA n op bd nm vr pl = true by simp [meetsA, hE, hF, hO, hC])
     clear hF hC
     go_enter Tryz.func77, Tryz.ntmps77
     go_wp2_with (first
      | (with_reducible refine wpList_load_want (op := y8_1) 46 (.tmp 3) ?l5x2 ?l5x1 (w.heap.size + 1) 0 ?l5x3 cs _ ?l5x4 Tryz.underlying46 ?l5x5 (unhide HI77) ?l5x6
         case l5x2 => rfl
         case l5x1 => rfl
         case l5x3 => rfl
         case l5x4 => assumption
         case l5x5 => rfl)
      | (go_at_call 82; refine (unhide c1 _).mono ?_; rintro e w1 ⟨rfl, hb1⟩; have HB1 := hide ((unhide HB).trans (hb1.mono (unhide HB).size)); obtain ⟨a0', a1', a2', p0', p1', p6', bl', cl'⟩ := (unhide HX).later hb1; have hr1 := range_later (unhide HR0) (unhide HX).cl hb1; have HR1 := hide hb1; clear hb1)
      | (go_at_call 100; refine (unhide HS _ (by first | exact unhide HB1 | exact unhide HB)).mono ?_; rintro e w2 ⟨rfl, hb2⟩; have HB2 := hide hb2; clear hb2))
     go_ret
     exact ⟨ret_bool (unhide HM).symm, by first | exact (unhide HB1).trans ((unhide HB2).mono (unhide HB1).size) | exact (unhide HB).trans ((unhide HB2).mono (unhide HB).size) | exact unhide HB1 | exact unhide HB⟩
  ·skip
   rw [hF] at c1
   have HM := hide (show meetsA n op bd nm vr pl = true by simp [meetsA, hE, hF])
   clear hF
   go_enter Tryz.func77, Tryz.ntmps77
   go_wp2_with (first
    | (with_reducible refine wpList_load_want (op := y8_1) 46 (.tmp 3) ?l6x2 ?l6x1 (w.heap.size + 1) 0 ?l6x3 cs _ ?l6x4 Tryz.underlying46 ?l6x5 (unhide HI77) ?l6x6
       case l6x2 => rfl
       case l6x1 => rfl
       case l6x3 => rfl
       case l6x4 => assumption
       case l6x5 => rfl)
    | (go_at_call 82; refine (unhide c1 _).mono ?_; rintro e w1 ⟨rfl, hb1⟩; have HB1 := hide ((unhide HB).trans (hb1.mono (unhide HB).size)); obtain ⟨a0', a1', a2', p0', p1', p6', bl', cl'⟩ := (unhide HX).later hb1; have hr1 := range_later (unhide HR0) (unhide HX).cl hb1; have HR1 := hide hb1; clear hb1)
    | (go_at_call 100; refine (unhide HS _ (by first | exact unhide HB1 | exact unhide HB)).mono ?_; rintro e w2 ⟨rfl, hb2⟩; have HB2 := hide hb2; clear hb2))
   go_ret
   exact ⟨ret_bool (unhide HM).symm, by first | exact (unhide HB1).trans ((unhide HB2).mono (unhide HB1).size) | exact (unhide HB).trans ((unhide HB2).mono (unhide HB).size) | exact unhide HB1 | exact unhide HB⟩
end
section
open Go.RowKit
theorem keepF {W w' : World} {b i c : Nat} {v0 v1 v2 : Value} {cs : List Value} (hb : b < W.heap.size) (hc : c < W.heap.size) (c0 : W.cell? ⟨b, i, none⟩ = some v0) (c1 : W.cell? ⟨b, i + 1, none⟩ = some v1) (c2 : W.cell? ⟨b, i + 2, none⟩ = some v2) (hr : W.rangeAt c 0 cs) (B : Below W.heap.size W w') :
 w'.cell? ⟨b, i, none⟩ = some v0 ∧ w'.cell? ⟨b, i + 1, none⟩ = some v1 ∧ w'.cell? ⟨b, i + 2, none⟩ = some v2 ∧ w'.rangeAt c 0 cs ∧ Below W.heap.size W w' :=
 ⟨(B.cell (p := ⟨b, i, none⟩) hb).trans c0, (B.cell (p := ⟨b, i + 1, none⟩) hb).trans c1, (B.cell (p := ⟨b, i + 2, none⟩) hb).trans c2, range_later1 hr hc B, B⟩
set_option maxRecDepth 20000 in
set_option maxHeartbeats 2000000 in
theorem rFirst_any (al : List At) (nm vr : ByteArray) (pv : Value) (pl : List ByteArray) (cs : List Value) (v : Value) (hsz : ∀ i (h : i < al.length), al[i].v.size ≤ maxLen) (hvr : vr.size ≤ maxLen) (w : World) (hp : Pkg cs nm vr pv) (h : Strs w pv pl) (ha : Ats w v al) :
 Calls Tryz.prog 63 #[v, .agg cs.toArray] w fun e w' => e = .returned (.tuple #[.int .i64 (firstA al nm vr pl).1, .bool (firstA al nm vr pl).2]) ∧ Below w.heap.size w w' := by
 obtain ⟨W, hW, hcells, hq, hB⟩ := pkgNew w cs 46
 have HR := hide (range_of1 hcells)
 have HI77 := hide (show (Tryz.prog.info? 46).map (·.size) = some cs.length by rw [hp.len]; kernel_rfl)
 have HM := hide (fun (i : Nat) (hi : i < al.length) (w' : World) (hb : Below w.heap.size w w') => rMeets_any al[i].n al[i].op al[i].v nm vr pv pl cs (hsz i hi) hvr w' hp (h.later hb))
 have HA := hide (ha.later hB)
 obtain ⟨xa, xc, rfl, hxb, -⟩ := ha
 have HB := hide hB
 clear hcells hp h hsz hvr hB
 go_enter Tryz.func63, Tryz.ntmps63
 go_wp2_with fail
 go_loopw [6, 7] (fun iv _ wr => ∃ k : Nat, k ≤ al.length ∧ iv = .int .i64 k ∧ Hid (Below W.heap.size W wr ∧ ∀ j (hj : j < al.length), j < k → meetsA al[j].n al[j].op al[j].v nm vr pl = false)) (fun iv _ _ => al.length - (intOf iv).toNat)
 case atStart => exact ⟨0, Nat.zero_le _, rfl, hide ⟨Below.refl _ _, fun j hj h => absurd h (Nat.not_lt_zero _)⟩⟩
 case round =>
  obtain ⟨k, hk, rfl, HQ⟩ := hrel
  by_cases hlt : k < al.length
  ·have HBw := hide ((unhide HB).trans ((unhide HQ).1.mono (unhide HB).size))
   obtain ⟨_, _, e0, -, hcc⟩ := unhide HA
   injection e0 with e1 e2 e3
   subst e1
   obtain ⟨b, o, rfl, hb, c0, c1, c2⟩ := hcc k hlt
   have HMk := hide (unhide HM k hlt)
   clear hcc e3 e2
   rcases hak : al[k] with ⟨q0, q1, q2⟩
   rw [hak] at c0 c1 c2 HMk
   have HK := hide hak
   clear hak
   simp only at c0 c1 c2
   have HF := hide (fun (w' : World) (B : Below W.heap.size W w') => keepF hb hq c0 c1 c2 (unhide HR) B)
   have HD := hide (unhide HQ).1.drew
   have HE := hide (unhide HBw).drew
   clear c0 c1 c2
   cases hm : meetsA q0 q1 q2 nm vr pl
   ·have HMk1 := hide hm
    rw [show meetsA (At.mk q0 q1 q2).n (At.mk q0 q1 q2).op (At.mk q0 q1 q2).v nm vr pl = false from hm] at HMk
    clear hm
    go_wp2_with fail
    have j1 : (0 : Int) ≤ (k : Int) := by omega
    have j2 : (k : Int) < (al.length : Int) := by omega
    refine wp_region_held_drew (S := (fun w' => w'.cell? ⟨b, o + k * 3, none⟩ = some (.string q0) ∧ w'.cell? ⟨b, o + k * 3 + 1, none⟩ = some (.int .i64 q1) ∧ w'.cell? ⟨b, o + k * 3 + 2, none⟩ = some (.string q2) ∧ w'.rangeAt w.heap.size 0 cs ∧ Below W.heap.size W w')) (by kernel_rfl) ?_ (fun hHeld => ?_)
    ·exact unhide HF _ (unhide HD)
    refine tk2 0 y8_2 ?_
    refine tk2 1 y8_3 ?_
    refine tk2 2 y8_4 ?_
    refine tk2 3 y8_5 ?_
    refine tkH 4 y8_6 (v := .agg cs.toArray) (yieldsIf_load_mid (by rfl) 46 (.tmp 3) rfl w.heap.size 0 rfl cs _ (fun _ h => h.2.2.2.1) Tryz.underlying46 rfl (unhide HI77)) ?_
    try simp only [Act.put, sqB, sq0, sq1]
    refine wpAnyH_ready (rs := [5]) (by kernel_rfl) (by simp) ?_
    refine AllReadyH.cons (o := y8_7) rfl (fun K hK => ?_) AllReadyH.nil
    go_simp
    refine (unhide HMk _ (unhide HE)).mono ?_
    rintro e w5 ⟨rfl, hb5⟩
    have HB6 := hide ((unhide HD).trans (hb5.mono (unhide HD).size))
    clear hb5
    go_wp2_with fail
    refine hK.out _ _ ?_ (fun hHeld0 => ?_)
    ·exact unhide HF _ (unhide HB6)
    clear hHeld
    clear hK K
    try simp only [Act.put, sqB, sq0, sq1]
    refine tk2 6 y8_8 ?_
    refine wpAnyH_done (by kernel_rfl) ?_ _
    go_wp2_with fail
    go_roundw
    case rel =>
     refine ⟨k + 1, by omega, by go_num, hide ⟨unhide HB6, fun j hj h => ?_⟩⟩
     by_cases e : j = k
     ·subst e; rw [unhide HK]; exact unhide HMk1
     ·exact (unhide HQ).2 j hj (by omega)
    case measure => simp [intOf]; omega
   ·have HMk1 := hide hm
    rw [show meetsA (At.mk q0 q1 q2).n (At.mk q0 q1 q2).op (At.mk q0 q1 q2).v nm vr pl = true from hm] at HMk
    clear hm
    go_wp2_with fail
    have j1 : (0 : Int) ≤ (k : Int) := by omega
    have j2 : (k : Int) < (al.length : Int) := by omega
    refine wp_region_held_drew (S := (fun w' => w'.cell? ⟨b, o + k * 3, none⟩ = some (.string q0) ∧ w'.cell? ⟨b, o + k * 3 + 1, none⟩ = some (.int .i64 q1) ∧ w'.cell? ⟨b, o + k * 3 + 2, none⟩ = some (.string q2) ∧ w'.rangeAt w.heap.size 0 cs ∧ Below W.heap.size W w')) (by kernel_rfl) ?_ (fun hHeld => ?_)
    ·exact unhide HF _ (unhide HD)
    refine tk2 0 y8_2 ?_
    refine tk2 1 y8_3 ?_
    refine tk2 2 y8_4 ?_
    refine tk2 3 y8_5 ?_
    refine tkH 4 y8_6 (v := .agg cs.toArray) (yieldsIf_load_mid (by rfl) 46 (.tmp 3) rfl w.heap.size 0 rfl cs _ (fun _ h => h.2.2.2.1) Tryz.underlying46 rfl (unhide HI77)) ?_
    try simp only [Act.put, sqB, sq0, sq1]
    refine wpAnyH_ready (rs := [5]) (by kernel_rfl) (by simp) ?_
    refine AllReadyH.cons (o := y8_7) rfl (fun K hK => ?_) AllReadyH.nil
    go_simp
    refine (unhide HMk _ (unhide HE)).mono ?_
    rintro e w5 ⟨rfl, hb5⟩
    have HB6 := hide ((unhide HD).trans (hb5.mono (unhide HD).size))
    clear hb5
    go_wp2_with fail
    refine hK.out _ _ ?_ (fun hHeld0 => ?_)
    ·exact unhide HF _ (unhide HB6)
    clear hHeld
    clear hK K
    try simp only [Act.put, sqB, sq0, sq1]
    refine tk2 6 y8_8 ?_
    refine wpAnyH_done (by kernel_rfl) ?_ _
    go_wp2_with fail
    exact bodyPost_ret (v := .tuple #[.int .i64 k, .bool true]) (by simp [results, Tryz.results63, go_sem]) rfl ⟨by rw [firstA_hit al nm vr pl k hlt (by rw [unhide HK]; exact unhide HMk1) (fun j hj h => (unhide HQ).2 j hj h)], (unhide HB).trans ((unhide HB6).mono (unhide HB).size)⟩
  ·go_wp2
   exact bodyPost_ret (v := .tuple #[.int .i64 0, .bool false]) (by simp [results, Tryz.results63, go_sem]) rfl ⟨by rw [firstA_miss al nm vr pl fun j hj => (unhide HQ).2 j hj (by omega)], (unhide HB).trans ((unhide HQ).1.mono (unhide HB).size)⟩
end
end Go.Proofs.YtdkpglmdncjnbaaGreatDoor
