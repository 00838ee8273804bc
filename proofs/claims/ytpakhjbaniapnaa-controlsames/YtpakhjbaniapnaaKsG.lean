import Derived.Test.YtpakhjbaniapnaaKsK
namespace Go.Proofs.Ytpakhjbaniapnaa
open Go.RowKit

theorem wpList_load_want1 {P : Program} {ops : Array Oper} {rest : List Oper} {op : Oper} {a : Act} {w : World} {Q : Exit → Act → World → Prop} (ty : TypeId) (x : Operand) (ho : op.op = .load ty x) (hw : Region.wanted op (yielded ops a.tmps) = true)
    (b o : Nat) (hx : a.eval x = .pointer (some ⟨b, o, none⟩)) (cs : List Value) (d : TypeDesc) (hc : w.rangeAt b o cs)
    (hu : P.underlying ty = some d) (hd : d.isRow = true) (hi : (P.info? ty).map (·.size) = some cs.length)
    (h : wpList P ops Q rest (a.put op.dst (.agg cs.toArray)) w) : wpList P ops Q (op :: rest) a w :=
  BigFrame.wpList_want hw fun _ hK => wp_load_mid ty x ho b o hx cs d hc hu hd hi (hK _ _ h)

theorem key26 : Try.prog.keyTypeAt 5 26 = true := by kernel_rfl
theorem cells26 : Try.prog.cellsOf 26 = 32 := by kernel_rfl
theorem info26 : (Try.prog.info? 26).map (·.size) = some 32 := by kernel_rfl
theorem form26 {x : Fl} (hx : isS x) : (Value.agg x.cs.toArray).formed Try.prog 26 = true := by
  unfold Value.formed
  rw [Try.underlying26, cells26]
  simp [hx.1]
theorem eql26 (x y : Fl) (hx : isS x) (hy : isS y) (w : World) : (binOp .eql 26 (.agg x.cs.toArray) (.agg y.cs.toArray)).run Try.prog w = .ok (.bool (eqF x y)) w := by
  obtain ⟨r, hr, hiff⟩ := run_equalIn_deep (P := Try.prog) (10000 - 5) 5 26 key26 w 6 6 (.agg x.cs.toArray) (.agg y.cs.toArray) x.ls y.ls (form26 hx) (form26 hy) (by simpa [Value.cells] using hx.2.1) (by simpa [Value.cells] using hy.2.1)
  have he : eqF x y = r := by
    have h := eqLits_iff x.ls y.ls hx.2.2 hy.2.2
    unfold eqF
    cases r
    · cases e : eqL eqLit x.ls y.ls
      · rfl
      · have := hiff.2 (h.1 e)
        cases this
    · exact h.2 (hiff.1 rfl)
  rw [run_eql_struct, he, show (10000 : Nat) = 10000 - 5 + 5 from rfl, hr]
  rfl
def eqFs (p q : Pk) : Bool := (p.ar.toList == q.ar.toList) && (p.sz == q.sz) && eqF p.sm q.sm && eqL eqF p.fs q.fs

set_option maxRecDepth 100000 in
set_option maxHeartbeats 8000000 in
theorem sameFiles_any (p q : Pk) (cs ds : List Value) (d r c v f d' r' c' v' f' : Value) (w : World) (h1 : PkC cs p d r c v f) (h2 : PkC ds q d' r' c' v' f') (l1 : PkL w p d r c v f) (l2 : PkL w q d' r' c' v' f') :
    Calls Try.prog 11 #[.agg cs.toArray, .agg ds.toArray] w fun e w' => e = .returned (.bool (eqFs p q)) ∧ Below w.heap.size w w' := by
  obtain ⟨W, hW, hc, hd, hlt, hB⟩ := two_new w cs ds 28
  have a7 := hc 7 f h1.c7
  have a8 := hc 8 _ h1.c8
  have a9 := hc 9 _ h1.c9
  have b7 := hd 7 f' h2.c7
  have b8 := hd 8 _ h2.c8
  have b9 := hd 9 _ h2.c9
  have ra : W.rangeAt w.heap.size 10 p.sm.cs := fun j x hx => hc (10 + j) x (h1.cs0 j x hx)
  have rb : W.rangeAt (w.heap.size + 1) 10 q.sm.cs := fun j x hx => hd (10 + j) x (h2.cs0 j x hx)
  have hs0 : w.heap.size < W.heap.size := by omega
  have ce := eql26 p.sm q.sm l1.sl l2.sl
  have i1 : (Try.prog.info? 26).map (·.size) = some p.sm.cs.length := by rw [l1.sl.1]; exact info26
  have i2 : (Try.prog.info? 26).map (·.size) = some q.sm.cs.length := by rw [l2.sl.1]; exact info26
  have c4 := hide (fun (w' : World) (hb : Below W.heap.size W w') => eqFiles_any p.fs q.fs f f' w' ((l1.later hB).later hb).fl ((l2.later hB).later hb).fl)
  have HF := hide (show eqFs p q = ((p.ar.toList == q.ar.toList) && (p.sz == q.sz) && eqF p.sm q.sm && eqL eqF p.fs q.fs) from rfl)
  generalize eqL eqF p.fs q.fs = e4 at *
  generalize eqF p.sm q.sm = e3 at *
  generalize eqFs p q = rr at *
  generalize p.ar = ap at *
  generalize q.ar = aq at *
  generalize p.sz = sp at *
  generalize q.sz = sq at *
  have HB := hide hB
  have RA := hide ra
  have RB := hide rb
  have I1 := hide i1
  have I2 := hide i2
  clear hc hd h1 h2 l1 l2 hB ra rb i1 i2
  by_cases e1 : ap.toList = aq.toList
  · have e1b : (ap.toList == aq.toList) = true := by simpa using e1
    rw [e1b] at HF
    by_cases e2 : sp = sq
    · have e2b : (sp == sq) = true := by simpa using e2
      rw [e2b] at HF
      cases e3
      · go_enter Try.func11, Try.ntmps11
        go_wp2_with (first | ((with_reducible refine wpList_load_want1 (op := { dst := some 19, op := Op.load 26 (Operand.tmp 18), type := 26, pos := "control.go:28", after := #[{ on := 13, ground := Ground.data }, { on := 12, ground := Ground.guard }], guard := some (12, true) }) 26 (.tmp 18) ?h1a ?h1b w.heap.size 10 ?h1c p.sm.cs _ (unhide RA) Try.underlying26 ?h1d (unhide I1) ?h1e); (case h1a => rfl); (case h1b => rfl); (case h1c => rfl); (case h1d => rfl)) | ((with_reducible refine wpList_load_want1 (op := { dst := some 21, op := Op.load 26 (Operand.tmp 20), type := 26, pos := "control.go:28", after := #[{ on := 15, ground := Ground.data }, { on := 12, ground := Ground.guard }], guard := some (12, true) }) 26 (.tmp 20) ?h2a ?h2b (w.heap.size + 1) 10 ?h2c q.sm.cs _ (unhide RB) Try.underlying26 ?h2d (unhide I2) ?h2e); (case h2a => rfl); (case h2b => rfl); (case h2c => rfl); (case h2d => rfl)))
        go_ret
        exact ⟨ret_bool (unhide HF).symm, unhide HB⟩
      · go_enter Try.func11, Try.ntmps11
        go_wp2_with (first | ((with_reducible refine wpList_load_want1 (op := { dst := some 19, op := Op.load 26 (Operand.tmp 18), type := 26, pos := "control.go:28", after := #[{ on := 13, ground := Ground.data }, { on := 12, ground := Ground.guard }], guard := some (12, true) }) 26 (.tmp 18) ?h3a ?h3b w.heap.size 10 ?h3c p.sm.cs _ (unhide RA) Try.underlying26 ?h3d (unhide I1) ?h3e); (case h3a => rfl); (case h3b => rfl); (case h3c => rfl); (case h3d => rfl)) | ((with_reducible refine wpList_load_want1 (op := { dst := some 21, op := Op.load 26 (Operand.tmp 20), type := 26, pos := "control.go:28", after := #[{ on := 15, ground := Ground.data }, { on := 12, ground := Ground.guard }], guard := some (12, true) }) 26 (.tmp 20) ?h4a ?h4b (w.heap.size + 1) 10 ?h4c q.sm.cs _ (unhide RB) Try.underlying26 ?h4d (unhide I2) ?h4e); (case h4a => rfl); (case h4b => rfl); (case h4c => rfl); (case h4d => rfl)))
        refine (unhide c4 _ (Below.refl _ _)).mono ?_
        rintro e w1 ⟨rfl, hb1⟩
        have HB1 := hide (bl_t (unhide HB) hb1)
        clear hb1
        go_wp2_with fail
        go_ret
        exact ⟨ret_bool (by rw [unhide HF]; simp), unhide HB1⟩
    · have e2b : (sp == sq) = false := by simpa using e2
      rw [e2b] at HF
      go_enter Try.func11, Try.ntmps11
      go_wp2_with fail
      go_ret
      exact ⟨ret_bool (by rw [unhide HF]; simp), unhide HB⟩
  · have e1b : (ap.toList == aq.toList) = false := by simpa using e1
    rw [e1b] at HF
    go_enter Try.func11, Try.ntmps11
    go_wp2_with fail
    go_ret
    exact ⟨ret_bool (by rw [unhide HF]; simp), unhide HB⟩

end Go.Proofs.Ytpakhjbaniapnaa
