import Derived.Test.YtmckmeoondlcpaaDoorMeetA
namespace Go.Proofs.YtmckmeoondlcpaaDoor
open Go.RowKit

theorem wpList_load_want {P : Program} {ops : Array Oper} {rest : List Oper} {op : Oper} {a : Act} {w : World} {Q : Exit → Act → World → Prop} (ty : TypeId) (x : Operand) (ho : op.op = .load ty x) (hw : Region.wanted op (yielded ops a.tmps) = true)
    (b o : Nat) (hx : a.eval x = .pointer (some ⟨b, o, none⟩)) (cs : List Value) (d : TypeDesc) (hc : w.rangeAt b o cs)
    (hu : P.underlying ty = some d) (hd : d.isRow = true) (hi : (P.info? ty).map (·.size) = some cs.length)
    (h : wpList P ops Q rest (a.put op.dst (.agg cs.toArray)) w) : wpList P ops Q (op :: rest) a w :=
  BigFrame.wpList_want hw fun _ hK => wp_load_mid ty x ho b o hx cs d hc hu hd hi (hK _ _ h)

theorem range_of {W : World} {c : Nat} {cs : List Value} (h : ∀ i v, cs[i]? = some v → W.cell? ⟨c, i, none⟩ = some v) : W.rangeAt c 0 cs := fun j v hj => by rw [Nat.zero_add]; exact h j v hj
theorem range_later {W W' : World} {c : Nat} {cs : List Value} (h : W.rangeAt c 0 cs) (hc : c < W.heap.size) (hb : Below W.heap.size W W') : W'.rangeAt c 0 cs := fun j v hj => (hb.cell (p := ⟨c, _, none⟩) hc).trans (h j v hj)


set_option maxRecDepth 20000 in
set_option maxHeartbeats 12000000 in
theorem rMeets_any (n : ByteArray) (op : Int) (bd nm vr : ByteArray) (pv : Value) (pl : List ByteArray) (cs : List Value) (hbd : bd.size ≤ maxLen) (hvr : vr.size ≤ maxLen) (w : World) (hp : Pkg cs nm vr pv) (h : Strs w pv pl) :
    Calls Tryd.prog 16 #[.agg #[.string n, .int .i64 op, .string bd], .agg cs.toArray] w fun e w' => e = .returned (.bool (meetsA n op bd nm vr pl)) ∧ Below w.heap.size w w' := by
  obtain ⟨W, hW, hbx, hcells, hB⟩ := boxes_new w n op bd nm vr pv cs hp
  have c1 := hide (fun w => rFitsA_any n op bd vr hbd hvr w)
  have HS := hide (fun (w' : World) (hb : Below w.heap.size w w') => rProvides_any cs nm vr pv pl n w' hp (h.later hb))
  have HB := hide hB
  have HX := hide hbx
  have hr0 := range_of hcells
  have HR0 := hide hr0
  have HI77 := hide (show (Tryd.prog.info? 38).map (·.size) = some cs.length by rw [hp.len]; kernel_rfl)
  obtain ⟨a0, a1, a2, p0, p1, p6, bl, cl⟩ := hbx
  clear hp h hbd hvr hB hcells
  cases hE : (nm.toList == n.toList)
  · skip
    cases hO : (op == 0)
    · skip
      have HM := hide (show meetsA n op bd nm vr pl = false by simp [meetsA, hE, hO])
      go_enter Tryd.func16, Tryd.ntmps16
      go_wp2_with (first
        | (with_reducible refine wpList_load_want (op := { dst := some 21, op := Op.load 38 (Operand.tmp 3), type := 38, pos := "ref.go:375", after := #[{ on := 15, ground := Ground.guard }], guard := some (15, true) }) 38 (.tmp 3) ?l0x2 ?l0x1 (w.heap.size + 1) 0 ?l0x3 cs _ ?l0x4 Tryd.underlying38 ?l0x5 (unhide HI77) ?l0x6
           case l0x2 => rfl
           case l0x1 => rfl
           case l0x3 => rfl
           case l0x4 => assumption
           case l0x5 => rfl)
        | (go_at_call 19; refine (unhide c1 _).mono ?_; rintro e w1 ⟨rfl, hb1⟩; have HB1 := hide ((unhide HB).trans (hb1.mono (unhide HB).size)); obtain ⟨a0', a1', a2', p0', p1', p6', bl', cl'⟩ := (unhide HX).later hb1; have hr1 := range_later (unhide HR0) (unhide HX).cl hb1; have HR1 := hide hb1; clear hb1)
        | (go_at_call 20; refine (unhide HS _ (by first | exact unhide HB1 | exact unhide HB)).mono ?_; rintro e w2 ⟨rfl, hb2⟩; have HB2 := hide hb2; clear hb2))
      go_ret
      exact ⟨ret_bool (unhide HM).symm, by first | exact (unhide HB1).trans ((unhide HB2).mono (unhide HB1).size) | exact (unhide HB).trans ((unhide HB2).mono (unhide HB).size) | exact unhide HB1 | exact unhide HB⟩
    · cases hC : Lib.containsS pl n
      · skip
        simp only [hC] at HS
        have HM := hide (show meetsA n op bd nm vr pl = false by simp [meetsA, hE, hO, hC])
        clear hC
        go_enter Tryd.func16, Tryd.ntmps16
        go_wp2_with (first
          | (with_reducible refine wpList_load_want (op := { dst := some 21, op := Op.load 38 (Operand.tmp 3), type := 38, pos := "ref.go:375", after := #[{ on := 15, ground := Ground.guard }], guard := some (15, true) }) 38 (.tmp 3) ?l1x2 ?l1x1 (w.heap.size + 1) 0 ?l1x3 cs _ ?l1x4 Tryd.underlying38 ?l1x5 (unhide HI77) ?l1x6
             case l1x2 => rfl
             case l1x1 => rfl
             case l1x3 => rfl
             case l1x4 => assumption
             case l1x5 => rfl)
          | (go_at_call 19; refine (unhide c1 _).mono ?_; rintro e w1 ⟨rfl, hb1⟩; have HB1 := hide ((unhide HB).trans (hb1.mono (unhide HB).size)); obtain ⟨a0', a1', a2', p0', p1', p6', bl', cl'⟩ := (unhide HX).later hb1; have hr1 := range_later (unhide HR0) (unhide HX).cl hb1; have HR1 := hide hb1; clear hb1)
          | (go_at_call 20; refine (unhide HS _ (by first | exact unhide HB1 | exact unhide HB)).mono ?_; rintro e w2 ⟨rfl, hb2⟩; have HB2 := hide hb2; clear hb2))
        go_ret
        exact ⟨ret_bool (unhide HM).symm, by first | exact (unhide HB1).trans ((unhide HB2).mono (unhide HB1).size) | exact (unhide HB).trans ((unhide HB2).mono (unhide HB).size) | exact unhide HB1 | exact unhide HB⟩
      · skip
        simp only [hC] at HS
        have HM := hide (show meetsA n op bd nm vr pl = true by simp [meetsA, hE, hO, hC])
        clear hC
        go_enter Tryd.func16, Tryd.ntmps16
        go_wp2_with (first
          | (with_reducible refine wpList_load_want (op := { dst := some 21, op := Op.load 38 (Operand.tmp 3), type := 38, pos := "ref.go:375", after := #[{ on := 15, ground := Ground.guard }], guard := some (15, true) }) 38 (.tmp 3) ?l2x2 ?l2x1 (w.heap.size + 1) 0 ?l2x3 cs _ ?l2x4 Tryd.underlying38 ?l2x5 (unhide HI77) ?l2x6
             case l2x2 => rfl
             case l2x1 => rfl
             case l2x3 => rfl
             case l2x4 => assumption
             case l2x5 => rfl)
          | (go_at_call 19; refine (unhide c1 _).mono ?_; rintro e w1 ⟨rfl, hb1⟩; have HB1 := hide ((unhide HB).trans (hb1.mono (unhide HB).size)); obtain ⟨a0', a1', a2', p0', p1', p6', bl', cl'⟩ := (unhide HX).later hb1; have hr1 := range_later (unhide HR0) (unhide HX).cl hb1; have HR1 := hide hb1; clear hb1)
          | (go_at_call 20; refine (unhide HS _ (by first | exact unhide HB1 | exact unhide HB)).mono ?_; rintro e w2 ⟨rfl, hb2⟩; have HB2 := hide hb2; clear hb2))
        go_ret
        exact ⟨ret_bool (unhide HM).symm, by first | exact (unhide HB1).trans ((unhide HB2).mono (unhide HB1).size) | exact (unhide HB).trans ((unhide HB2).mono (unhide HB).size) | exact unhide HB1 | exact unhide HB⟩
  · cases hF : fitsA op bd vr
    · skip
      cases hO : (op == 0)
      · skip
        rw [hF] at c1
        have HM := hide (show meetsA n op bd nm vr pl = false by simp [meetsA, hE, hF, hO])
        clear hF
        go_enter Tryd.func16, Tryd.ntmps16
        go_wp2_with (first
          | (with_reducible refine wpList_load_want (op := { dst := some 21, op := Op.load 38 (Operand.tmp 3), type := 38, pos := "ref.go:375", after := #[{ on := 15, ground := Ground.guard }], guard := some (15, true) }) 38 (.tmp 3) ?l3x2 ?l3x1 (w.heap.size + 1) 0 ?l3x3 cs _ ?l3x4 Tryd.underlying38 ?l3x5 (unhide HI77) ?l3x6
             case l3x2 => rfl
             case l3x1 => rfl
             case l3x3 => rfl
             case l3x4 => assumption
             case l3x5 => rfl)
          | (go_at_call 19; refine (unhide c1 _).mono ?_; rintro e w1 ⟨rfl, hb1⟩; have HB1 := hide ((unhide HB).trans (hb1.mono (unhide HB).size)); obtain ⟨a0', a1', a2', p0', p1', p6', bl', cl'⟩ := (unhide HX).later hb1; have hr1 := range_later (unhide HR0) (unhide HX).cl hb1; have HR1 := hide hb1; clear hb1)
          | (go_at_call 20; refine (unhide HS _ (by first | exact unhide HB1 | exact unhide HB)).mono ?_; rintro e w2 ⟨rfl, hb2⟩; have HB2 := hide hb2; clear hb2))
        go_ret
        exact ⟨ret_bool (unhide HM).symm, by first | exact (unhide HB1).trans ((unhide HB2).mono (unhide HB1).size) | exact (unhide HB).trans ((unhide HB2).mono (unhide HB).size) | exact unhide HB1 | exact unhide HB⟩
      · cases hC : Lib.containsS pl n
        · skip
          rw [hF] at c1
          simp only [hC] at HS
          have HM := hide (show meetsA n op bd nm vr pl = false by simp [meetsA, hE, hF, hO, hC])
          clear hF hC
          go_enter Tryd.func16, Tryd.ntmps16
          go_wp2_with (first
            | (with_reducible refine wpList_load_want (op := { dst := some 21, op := Op.load 38 (Operand.tmp 3), type := 38, pos := "ref.go:375", after := #[{ on := 15, ground := Ground.guard }], guard := some (15, true) }) 38 (.tmp 3) ?l4x2 ?l4x1 (w.heap.size + 1) 0 ?l4x3 cs _ ?l4x4 Tryd.underlying38 ?l4x5 (unhide HI77) ?l4x6
               case l4x2 => rfl
               case l4x1 => rfl
               case l4x3 => rfl
               case l4x4 => assumption
               case l4x5 => rfl)
            | (go_at_call 19; refine (unhide c1 _).mono ?_; rintro e w1 ⟨rfl, hb1⟩; have HB1 := hide ((unhide HB).trans (hb1.mono (unhide HB).size)); obtain ⟨a0', a1', a2', p0', p1', p6', bl', cl'⟩ := (unhide HX).later hb1; have hr1 := range_later (unhide HR0) (unhide HX).cl hb1; have HR1 := hide hb1; clear hb1)
            | (go_at_call 20; refine (unhide HS _ (by first | exact unhide HB1 | exact unhide HB)).mono ?_; rintro e w2 ⟨rfl, hb2⟩; have HB2 := hide hb2; clear hb2))
          go_ret
          exact ⟨ret_bool (unhide HM).symm, by first | exact (unhide HB1).trans ((unhide HB2).mono (unhide HB1).size) | exact (unhide HB).trans ((unhide HB2).mono (unhide HB).size) | exact unhide HB1 | exact unhide HB⟩
        · skip
          rw [hF] at c1
          simp only [hC] at HS
          have HM := hide (show meetsA n op bd nm vr pl = true by simp [meetsA, hE, hF, hO, hC])
          clear hF hC
          go_enter Tryd.func16, Tryd.ntmps16
          go_wp2_with (first
            | (with_reducible refine wpList_load_want (op := { dst := some 21, op := Op.load 38 (Operand.tmp 3), type := 38, pos := "ref.go:375", after := #[{ on := 15, ground := Ground.guard }], guard := some (15, true) }) 38 (.tmp 3) ?l5x2 ?l5x1 (w.heap.size + 1) 0 ?l5x3 cs _ ?l5x4 Tryd.underlying38 ?l5x5 (unhide HI77) ?l5x6
               case l5x2 => rfl
               case l5x1 => rfl
               case l5x3 => rfl
               case l5x4 => assumption
               case l5x5 => rfl)
            | (go_at_call 19; refine (unhide c1 _).mono ?_; rintro e w1 ⟨rfl, hb1⟩; have HB1 := hide ((unhide HB).trans (hb1.mono (unhide HB).size)); obtain ⟨a0', a1', a2', p0', p1', p6', bl', cl'⟩ := (unhide HX).later hb1; have hr1 := range_later (unhide HR0) (unhide HX).cl hb1; have HR1 := hide hb1; clear hb1)
            | (go_at_call 20; refine (unhide HS _ (by first | exact unhide HB1 | exact unhide HB)).mono ?_; rintro e w2 ⟨rfl, hb2⟩; have HB2 := hide hb2; clear hb2))
          go_ret
          exact ⟨ret_bool (unhide HM).symm, by first | exact (unhide HB1).trans ((unhide HB2).mono (unhide HB1).size) | exact (unhide HB).trans ((unhide HB2).mono (unhide HB).size) | exact unhide HB1 | exact unhide HB⟩
    · skip
      rw [hF] at c1
      have HM := hide (show meetsA n op bd nm vr pl = true by simp [meetsA, hE, hF])
      clear hF
      go_enter Tryd.func16, Tryd.ntmps16
      go_wp2_with (first
        | (with_reducible refine wpList_load_want (op := { dst := some 21, op := Op.load 38 (Operand.tmp 3), type := 38, pos := "ref.go:375", after := #[{ on := 15, ground := Ground.guard }], guard := some (15, true) }) 38 (.tmp 3) ?l6x2 ?l6x1 (w.heap.size + 1) 0 ?l6x3 cs _ ?l6x4 Tryd.underlying38 ?l6x5 (unhide HI77) ?l6x6
           case l6x2 => rfl
           case l6x1 => rfl
           case l6x3 => rfl
           case l6x4 => assumption
           case l6x5 => rfl)
        | (go_at_call 19; refine (unhide c1 _).mono ?_; rintro e w1 ⟨rfl, hb1⟩; have HB1 := hide ((unhide HB).trans (hb1.mono (unhide HB).size)); obtain ⟨a0', a1', a2', p0', p1', p6', bl', cl'⟩ := (unhide HX).later hb1; have hr1 := range_later (unhide HR0) (unhide HX).cl hb1; have HR1 := hide hb1; clear hb1)
        | (go_at_call 20; refine (unhide HS _ (by first | exact unhide HB1 | exact unhide HB)).mono ?_; rintro e w2 ⟨rfl, hb2⟩; have HB2 := hide hb2; clear hb2))
      go_ret
      exact ⟨ret_bool (unhide HM).symm, by first | exact (unhide HB1).trans ((unhide HB2).mono (unhide HB1).size) | exact (unhide HB).trans ((unhide HB2).mono (unhide HB).size) | exact unhide HB1 | exact unhide HB⟩

end Go.Proofs.YtmckmeoondlcpaaDoor
