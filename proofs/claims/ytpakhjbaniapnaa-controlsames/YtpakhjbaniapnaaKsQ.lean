import Derived.Test.YtpakhjbaniapnaaKsO
namespace Go.Proofs.Ytpakhjbaniapnaa
open Go.RowKit

theorem eqL_self {α : Type} (e : α → α → Bool) : ∀ (l : List α), (∀ x ∈ l, e x x = true) → eqL e l l = true
  | [], _ => rfl
  | a :: l, h => by
    show (e a a && eqL e l l) = true
    rw [h a List.mem_cons_self, eqL_self e l (fun x hx => h x (List.mem_cons_of_mem _ hx)), Bool.and_true]
theorem w64 (L : Nat) (h : L < 9223372036854775807) : wrap64 ((L : Int) + 1) = (L : Int) + 1 := by unfold wrap64; omega
theorem le64 (L k : Nat) (h : L + 1 ≤ k) : (0 : Int) ≤ (L : Int) + 1 ∧ (L : Int) + 1 ≤ (k : Int) ∧ (0 : Int) ≤ (L : Int) ∧ (L : Int) < (L : Int) + 1 := by omega
theorem eqA_self (a : Am) : eqA a a = true := by simp [eqA]
theorem eqF_self (f : Fl) (h : ∀ l ∈ f.ls, flatL l = true) : eqF f f = true := (eqLits_iff f.ls f.ls h h).2 rfl
theorem eqP_self (w : World) (p : Pk) (d r c v f : Value) (h : PkL w p d r c v f) : eqP p p = true := by
  have hf : ∀ x ∈ p.fs, eqF x x = true := fun x hx => by
    obtain ⟨i, hi, rfl⟩ := List.getElem_of_mem hx
    obtain ⟨a, c, e, _, h3⟩ := h.fl
    exact eqF_self _ (h3 i hi).1.2.2
  unfold eqP eqK eqR eqFs
  rw [eqL_self (eqL eqA) p.dp (fun x _ => eqL_self eqA x (fun a _ => eqA_self a)), eqL_self (eqL eqA) p.pr (fun x _ => eqL_self eqA x (fun a _ => eqA_self a)), eqL_self eqA p.cf (fun a _ => eqA_self a), eqL_self eqS p.pv (fun a _ => by simp [eqS]), eqF_self p.sm h.sl.2.2, eqL_self eqF p.fs hf]
  simp
/-- THE MARKS BEHIND A PACKAGE'S LISTS. -/
structure PkM (w : World) (p : Pk) (d r c v f : Value) : Prop where
  dm : ClM w d p.dp
  rm : ClM w r p.pr
  cm : Mk 3 w c p.cf.length
  vm : Mk 1 w v p.pv.length
  fm : Mk 34 w f p.fs.length
theorem PkM.later {w w' : World} {p : Pk} {d r c v f : Value} (h : PkM w p d r c v f) (hb : Below w.heap.size w w') : PkM w' p d r c v f :=
  ⟨h.dm.later hb, h.rm.later hb, h.cm.later hb, h.vm.later hb, h.fm.later hb⟩

theorem mk3 {w : World} {c : Value} {L : Nat} (h : Mk 3 w c L) : ∃ (s1 : Value) (b1 o1 : Nat), (∀ w, (Instr.sliceAt 23 c none (some (.int .i64 ((L : Int) + 1))) none).run Try.prog w = .ok s1 w) ∧ (∀ w, (Instr.indexAt 23 s1 (.int .i64 (L : Int))).run Try.prog w = .ok (.pointer (some ⟨b1, o1, none⟩)) w) ∧ ∀ w', Below w.heap.size w w' → w'.cell? ⟨b1, o1, none⟩ = some (.string bhd) := by
  obtain ⟨b, o, k, rfl, h1, h2, h3, h4⟩ := h
  obtain ⟨j1, j2, j3, j4⟩ := le64 L k h1
  refine ⟨.slice (some ⟨b, o, none⟩) (L + 1) k, b, o + L * 3, fun w => ?_, fun w => ?_, fun w' hb => ?_⟩
  · have hs := w64 L h2
    go_simp
  · go_simp
  · exact (hb.cell (p := ⟨b, o + L * 3, none⟩) h3).trans h4

theorem mk1 {w : World} {c : Value} {L : Nat} (h : Mk 1 w c L) : ∃ (s1 : Value) (b1 o1 : Nat), (∀ w, (Instr.sliceAt 24 c none (some (.int .i64 ((L : Int) + 1))) none).run Try.prog w = .ok s1 w) ∧ (∀ w, (Instr.indexAt 24 s1 (.int .i64 (L : Int))).run Try.prog w = .ok (.pointer (some ⟨b1, o1, none⟩)) w) ∧ ∀ w', Below w.heap.size w w' → w'.cell? ⟨b1, o1, none⟩ = some (.string bhd) := by
  obtain ⟨b, o, k, rfl, h1, h2, h3, h4⟩ := h
  obtain ⟨j1, j2, j3, j4⟩ := le64 L k h1
  refine ⟨.slice (some ⟨b, o, none⟩) (L + 1) k, b, o + L * 1, fun w => ?_, fun w => ?_, fun w' hb => ?_⟩
  · have hs := w64 L h2
    go_simp
  · go_simp
  · exact (hb.cell (p := ⟨b, o + L * 1, none⟩) h3).trans h4

theorem mk34 {w : World} {c : Value} {L : Nat} (h : Mk 34 w c L) : ∃ (s1 : Value) (b1 o1 : Nat), (∀ w, (Instr.sliceAt 25 c none (some (.int .i64 ((L : Int) + 1))) none).run Try.prog w = .ok s1 w) ∧ (∀ w, (Instr.indexAt 25 s1 (.int .i64 (L : Int))).run Try.prog w = .ok (.pointer (some ⟨b1, o1, none⟩)) w) ∧ ∀ w', Below w.heap.size w w' → w'.cell? ⟨b1, o1, none⟩ = some (.string bhd) := by
  obtain ⟨b, o, k, rfl, h1, h2, h3, h4⟩ := h
  obtain ⟨j1, j2, j3, j4⟩ := le64 L k h1
  refine ⟨.slice (some ⟨b, o, none⟩) (L + 1) k, b, o + L * 34, fun w => ?_, fun w => ?_, fun w' hb => ?_⟩
  · have hs := w64 L h2
    go_simp
  · go_simp
  · exact (hb.cell (p := ⟨b, o + L * 34, none⟩) h3).trans h4

set_option maxRecDepth 100000 in
set_option maxHeartbeats 8000000 in
theorem kept_any (p : Pk) (cs ds : List Value) (d r c v f d' r' c' v' f' : Value) (w : World) (h1 : PkC cs p d r c v f) (h2 : PkC ds p d' r' c' v' f') (l1 : PkL w p d r c v f) (l2 : PkL w p d' r' c' v' f') (m1 : PkM w p d r c v f) :
    Calls Try.prog 7 #[.agg cs.toArray, .agg ds.toArray] w fun e w' => e = .returned (.bool true) ∧ Below w.heap.size w w' := by
  obtain ⟨W, hW, hc, hd, hlt, hB⟩ := two_new w cs ds 28
  have ra : W.rangeAt w.heap.size 0 cs := fun j x hx => by rw [Nat.zero_add]; exact hc j x hx
  have rb : W.rangeAt (w.heap.size + 1) 0 ds := fun j x hx => by rw [Nat.zero_add]; exact hd j x hx
  have hs0 : w.heap.size < W.heap.size := by omega
  have I1 := hide (show (Try.prog.info? 28).map (·.size) = some cs.length by rw [h1.len]; kernel_rfl)
  have I2 := hide (show (Try.prog.info? 28).map (·.size) = some ds.length by rw [h2.len]; kernel_rfl)
  have RA := hide ra
  have RB := hide rb
  have c1 := hide (fun (w' : World) (hb : Below W.heap.size W w') => (eqP_self w p d r c v f l1) ▸ rSame_any p p cs ds d r c v f d' r' c' v' f' w' h1 h2 ((l1.later hB).later hb) ((l2.later hB).later hb))
  have c2 := hide (fun (w' : World) (hb : Below W.heap.size W w') => spared_any p.dp d w' ((m1.later hB).later hb).dm)
  have c3 := hide (fun (w' : World) (hb : Below W.heap.size W w') => spared_any p.pr r w' ((m1.later hB).later hb).rm)
  obtain ⟨lc, lv, lf⟩ : p.cf.length < 9223372036854775807 ∧ p.pv.length < 9223372036854775807 ∧ p.fs.length < 9223372036854775807 := by
    obtain ⟨_, _, _, _, _, x1, _⟩ := m1.cm
    obtain ⟨_, _, _, _, _, x2, _⟩ := m1.vm
    obtain ⟨_, _, _, _, _, x3, _⟩ := m1.fm
    exact ⟨x1, x2, x3⟩
  obtain ⟨s1, b1, o1, x1, x2, x4⟩ := mk3 (m1.later hB).cm
  obtain ⟨s2, b2, o2, y1, y2, y4⟩ := mk1 (m1.later hB).vm
  obtain ⟨s3, b3, o3, z1, z2, z4⟩ := mk34 (m1.later hB).fm
  obtain ⟨xc, yc, rfl⟩ := l2.cl.shape
  obtain ⟨xv, yv, rfl⟩ := l2.vl.shape
  obtain ⟨xf, yf, rfl⟩ := l2.fl.shape
  have b5 := hd 5 _ h2.c5
  have b6 := hd 6 _ h2.c6
  have b7 := hd 7 _ h2.c7
  have HP := hide (fun (w' : World) (hb : Below W.heap.size W w') => show w'.cell? ⟨w.heap.size, 3, none⟩ = some d ∧ w'.cell? ⟨w.heap.size, 4, none⟩ = some r ∧ w'.cell? ⟨w.heap.size, 5, none⟩ = some c ∧ w'.cell? ⟨w.heap.size, 6, none⟩ = some v ∧ w'.cell? ⟨w.heap.size, 7, none⟩ = some f from
    have k (i : Nat) (x : Value) (h : cs[i]? = some x) : w'.cell? ⟨w.heap.size, i, none⟩ = some x := (hb.cell (p := ⟨w.heap.size, i, none⟩) (by show w.heap.size < W.heap.size; omega)).trans (hc i x h)
    ⟨k 3 d h1.c3, k 4 r h1.c4, k 5 c h1.c5, k 6 v h1.c6, k 7 f h1.c7⟩)
  have HB := hide hB
  have HY := hide (fun (w' : World) (hb : Below W.heap.size W w') => And.intro (x4 w' hb) (And.intro (y4 w' hb) (z4 w' hb)))
  have HX := hide (And.intro x1 (And.intro x2 (And.intro y1 (And.intro y2 (And.intro z1 z2)))))
  have hbb : (bhd.toList == [98, 101, 104, 105, 110, 100]) = true := by rw [beq_iff_eq, ByteArray.toList_eq]; rfl
  clear hc hd h1 h2 l1 l2 m1 hB ra rb x1 x2 x4 y1 y2 y4 z1 z2 z4
  generalize p.cf.length = L1 at *
  generalize p.pv.length = L2 at *
  generalize p.fs.length = L3 at *
  generalize bhd = bb at *
  go_enter Try.func7, Try.ntmps7
  go_wp2_with (first | ((with_reducible refine wpList_load_mid (op := { dst := some 17, op := Op.load 28 (Operand.tmp 2), type := 28, pos := "law.go:129", after := #[], guard := none }) ?h1g 28 (.tmp 2) ?h1a w.heap.size 0 ?h1c cs _ (unhide RA) Try.underlying28 ?h1d (unhide I1) ?h1e); (case h1g => rfl); (case h1a => rfl); (case h1c => rfl); (case h1d => rfl)) | ((with_reducible refine wpList_load_mid (op := { dst := some 18, op := Op.load 28 (Operand.tmp 3), type := 28, pos := "law.go:129", after := #[], guard := none }) ?h2g 28 (.tmp 3) ?h2a (w.heap.size + 1) 0 ?h2c ds _ (unhide RB) Try.underlying28 ?h2d (unhide I2) ?h2e); (case h2g => rfl); (case h2a => rfl); (case h2c => rfl); (case h2d => rfl)))
  refine (unhide c1 _ (Below.refl _ _)).mono ?_
  rintro e w1 ⟨rfl, hb1⟩
  have HB1 := hide hb1
  obtain ⟨g31, g41, g51, g61, g71⟩ := unhide HP _ (unhide HB1)
  have ht1 := Nat.lt_of_lt_of_le hs0 hb1.size
  clear hb1 b5 b6 b7
  go_wp2_with fail
  refine (unhide c2 _ (unhide HB1)).mono ?_
  rintro e w2 ⟨rfl, hb2⟩
  have HB2 := hide (bl_t (unhide HB1) hb2)
  clear hb2 g31 g41 g51 g61 g71 ht1
  obtain ⟨g32, g42, g52, g62, g72⟩ := unhide HP _ (unhide HB2)
  have ht2 := Nat.lt_of_lt_of_le hs0 (unhide HB2).size
  go_wp2_with fail
  refine (unhide c3 _ (unhide HB2)).mono ?_
  rintro e w3 ⟨rfl, hb3⟩
  have HB3 := hide (bl_t (unhide HB2) hb3)
  clear hb3 g32 g42 g52 g62 g72 ht2
  obtain ⟨g33, g43, g53, g63, g73⟩ := unhide HP _ (unhide HB3)
  have ht3 := Nat.lt_of_lt_of_le hs0 (unhide HB3).size
  obtain ⟨k1, k2, k3⟩ := unhide HY _ (unhide HB3)
  obtain ⟨x1, x2, y1, y2, z1, z2⟩ := unhide HX
  clear g33 g43 c1 c2 c3 HP HY HX RA RB I1 I2
  go_wp2_with fail
  first | exact ⟨rfl, bl_t (unhide HB) (unhide HB3)⟩ | (go_ret; exact ⟨rfl, bl_t (unhide HB) (unhide HB3)⟩) | exact ⟨rfl, _, results_tmp (t := 4) (by kernel_rfl) _ _ _, rfl, bl_t (unhide HB) (unhide HB3)⟩

end Go.Proofs.Ytpakhjbaniapnaa
