import Derived.Test.YtfembjjpmjfklaaDoorLawMw
namespace Go.Proofs.YtfembjjpmjfklaaDoor
open Go.RowKit

theorem oneNew (w : World) (x : Value) (t : TypeId) : ∃ W, w.alloc (.cells #[x] t) = W ∧ One W (.slice (some ⟨w.heap.size, 0, none⟩) 1 1) x ∧ Below w.heap.size w W := by
  refine ⟨_, rfl, ⟨w.heap.size, 0, 1, rfl, by simp, ?_⟩, (Below.refl w.heap.size w).alloc (Nat.le_refl _) _⟩
  rw [World.cell?_alloc_new]
  rfl

theorem Strs.slice {w : World} {v : Value} {pl : List ByteArray} (h : Strs w v pl) : ∃ a c, v = .slice a pl.length c := by
  obtain ⟨a, c, e, -⟩ := h
  exact ⟨a, c, e⟩

theorem thereNew (u : World) (Z : Array Value) (t : TypeId) (b k : Nat) (hb : b = u.heap.size) (hk : k ≤ Z.size) : (u.alloc (.cells Z t)).there b 0 k := fun j hj => by
  subst hb
  rw [Nat.zero_add]
  refine ⟨?_, World.frozen?_alloc_at _ _ _ _ rfl⟩
  rw [World.cell?_alloc_at _ _ _ _ rfl, Array.getElem?_eq_getElem (by omega)]
  rfl

/-- A COPY OF A PACKAGE IN A BOX OF ITS OWN. -/
theorem boxed {u W : World} {Z : Array Value} {t : TypeId} {b : Nat} {cs : List Value} (h : (u.alloc (.cells Z t)).setCells b 0 cs.toArray.toList = W) (hb : b = u.heap.size) (hk : cs.length ≤ Z.size) :
    W.rangeAt b 0 cs ∧ W.there b 0 cs.length ∧ b < W.heap.size ∧ Below u.heap.size u W := by
  rw [List.toList_toArray] at h
  subst h
  have ht := thereNew u Z t b cs.length hb hk
  refine ⟨World.rangeAt_setCells_same _ _ _ _ ht, World.there_setCells ht _ _ _, ?_, ?_⟩
  · rw [size_setCells]; subst hb; simp
  · exact below_setCells _ (by omega) _ _ _ ((Below.refl u.heap.size u).alloc (Nat.le_refl _) _)

theorem wpList_load_want1 {P : Program} {ops : Array Oper} {rest : List Oper} {op : Oper} {a : Act} {w : World} {Q : Exit → Act → World → Prop} (ty : TypeId) (x : Operand) (ho : op.op = .load ty x) (hw : Region.wanted op (yielded ops a.tmps) = true)
    (b o : Nat) (hx : a.eval x = .pointer (some ⟨b, o, none⟩)) (cs : List Value) (d : TypeDesc) (hc : w.rangeAt b o cs)
    (hu : P.underlying ty = some d) (hd : d.isRow = true) (hi : (P.info? ty).map (·.size) = some cs.length)
    (h : wpList P ops Q rest (a.put op.dst (.agg cs.toArray)) w) : wpList P ops Q (op :: rest) a w :=
  BigFrame.wpList_want hw fun _ hK => wp_load_mid ty x ho b o hx cs d hc hu hd hi (hK _ _ h)

theorem range_cell {W : World} {b : Nat} {cs : List Value} (h : W.rangeAt b 0 cs) (i : Nat) (x : Value) (hx : cs[i]? = some x) : W.cell? ⟨b, i, none⟩ = some x := by
  have := h i x hx
  rwa [Nat.zero_add] at this

theorem still_at (al : List At) (hal : al.length ≤ 3518437208883) (M C K : Nat) (xa : Option Addr) (xc : Nat) (w' : World) {w1 : World} (hL : Lent w1 w' M C K al) (hA : Ats w' (.slice xa al.length xc) al) :
    Calls Tryd.prog 32 #[.slice (some ⟨M, 0, none⟩) 1 2, .slice (some ⟨w'.heap.size, 0, none⟩) 1 1] (w'.alloc (.cells #[.slice xa al.length xc] 52)) fun e w2 => e = .returned (.bool true) ∧ Below (w'.alloc (.cells #[.slice xa al.length xc] 52)).heap.size (w'.alloc (.cells #[.slice xa al.length xc] 52)) w2 := by
  have B := (Below.refl w'.heap.size w').alloc (Nat.le_refl _) (.cells #[.slice xa al.length xc] 52)
  have h := hL.later B
  exact still_one al hal M C K w'.heap.size 0 1 xa xc _ ⟨h.m0, h.m1, h.k0, h.k1, h.k2, h.l0, h.l1, h.l2, by rw [World.cell?_alloc_new]; rfl, h.ltM, h.ltC, h.ltK, by simp⟩ (h.ats (by omega)) (hA.later B)

set_option maxRecDepth 20000 in
set_option maxHeartbeats 4000000 in
theorem relationMeets_walk (n : ByteArray) (op : Int) (bd : ByteArray) (al : List At) (v : Value) (cs : List Value) (nm vr : ByteArray) (pv : Value) (pl : List ByteArray) (ver : ByteArray)
    (hbd : bd.size ≤ maxLen) (hsz : ∀ i (h : i < al.length), al[i].v.size ≤ maxLen) (hvr : vr.size ≤ maxLen) (hver : ver.size ≤ maxLen) (hal : al.length ≤ 3518437208883) (hpl : pl.length ≤ 8796093022207) (hone : ∀ v ∈ cs, v.oneCell' = true)
    (w : World) (hp : Pkg cs nm vr pv) (h : Strs w pv pl) (ha : Ats w v al) :
    Calls Tryd.prog 7 #[.agg #[.string n, .int .i64 op, .string bd], v, .agg cs.toArray, .string ver] w fun e w' => e = .returned (.bool true) ∧ Below w.heap.size w w' := by
  obtain ⟨W0, hW0, hbx, hcells, hB0⟩ := boxes_new w n op bd nm vr pv cs hp
  obtain ⟨W1, hW1, hO1, hB1⟩ := oneNew W0 v 52
  have HBX := hide hbx
  have HR0 := hide (range_of1 hcells)
  have HP := hide hp
  have HS := hide h
  have HA := hide ha
  have HB0 := hide hB0
  have HB1 := hide hB1
  have HO1 := hide hO1
  have HI77 := hide (show (Tryd.prog.info? 77).map (·.size) = some cs.length by rw [hp.len]; kernel_rfl)
  have HON := hide hone
  have HSZ := hide hsz
  obtain ⟨xa, xc, rfl, hxb, -⟩ := ha
  obtain ⟨ya, yc, rfl⟩ := h.slice
  have mk44 := make44 pl.length hpl
  clear hbx hcells hp h hB0 hB1 hO1 hone hsz
  go_enter Tryd.func7, Tryd.ntmps7
  go_wp2_with fail
  refine (lentField_one al hal _ _ _ (unhide HO1) ((unhide HA).later ((unhide HB0).trans ((unhide HB1).mono (unhide HB0).size)))).mono ?_
  rintro e W2 ⟨M, C, K, rfl, hL⟩
  have HL := hide hL
  have HB2 := hide ((unhide HB0).trans (((unhide HB1).trans (hL.bel.mono (unhide HB1).size)).mono (unhide HB0).size))
  have HB02 := hide ((unhide HB1).trans (hL.bel.mono (unhide HB1).size))
  clear hL
  obtain ⟨a0, a1, a2, p0, p1, p6, bl, cl⟩ := (unhide HBX).later (unhide HB02)
  have hcp0 : ∃ v', (Builtin.copy_ #[44, 44] 3 #[.slice (some ⟨W2.heap.size, 0, none⟩) (pl.length + 1) (pl.length + 1), .slice ya pl.length yc]).run Tryd.prog (W2.alloc (.cells (madeCells #[.string ⟨#[]⟩] (pl.length + 1)) 9)) = .ok v' ((W2.alloc (.cells (madeCells #[.string ⟨#[]⟩] (pl.length + 1)) 9)).setCells W2.heap.size 0 (pl.map Value.string)) := by
    refine copy_names pl _ 3 _ _ _ ((unhide HS).later ((unhide HB2).alloc (unhide HB2).size _)) (fun j hj => ?_) (fun j => ?_)
    · rw [World.cell?_alloc_at _ _ _ _ rfl]
      exact made_some _ _ _ (by omega)
    · rw [World.frozen?_alloc_at _ _ _ _ rfl]
  obtain ⟨v', hcp⟩ := hcp0
  obtain ⟨W3, hW3, hN3⟩ : ∃ W3, ((W2.alloc (.cells (madeCells #[.string ⟨#[]⟩] (pl.length + 1)) 9)).setCells W2.heap.size 0 (pl.map Value.string)) = W3 ∧ Nms W2 W3 W2.heap.size pl := ⟨_, rfl, nms_of W2 pl⟩
  rw [hW3] at hcp
  have HN3 := hide hN3
  obtain ⟨b0, b1, b2, q0, q1, q6, bl3, cl3⟩ := (unhide HBX).later ((unhide HB02).trans (hN3.bel.mono (unhide HB02).size))
  obtain ⟨z, hz⟩ := Option.isSome_iff_exists.1 hN3.last
  have hfz := hN3.fr pl.length
  clear hW3 hN3
  have i1 : (0 : Int) ≤ (pl.length : Int) := by omega
  have i2 : (pl.length : Int) < (pl.length : Int) + 1 := by omega
  have HB04 := hide (((unhide HB02).trans ((unhide HN3).bel.mono (unhide HB02).size)).setCell (p := ⟨W2.heap.size, pl.length, none⟩) (unhide HB02).size (.string ⟨#[77, 65, 82, 75]⟩))
  have i3 : (pl.length : Int) ≤ (pl.length : Int) + 1 := by omega
  have hr4 : Hid (∀ W4 : World, W4 = W3.setCell ⟨W2.heap.size, pl.length, none⟩ (.string ⟨#[77, 65, 82, 75]⟩) → W4.rangeAt (w.heap.size + 1) 0 cs) := fun W4 e => e ▸ range_later1 (unhide HR0) (unhide HBX).cl (((unhide HB02).trans ((unhide HN3).bel.mono (unhide HB02).size)).setCell (p := ⟨W2.heap.size, _, none⟩) (unhide HB02).size _)
  go_wp2_with (first
    | (with_reducible refine wpList_load_p (op := { dst := some 36, op := Op.load 77 (Operand.tmp 6), type := 77, pos := "law.go:241", after := #[], guard := none }) ?c1 77 (.tmp 6) ?c2 (w.heap.size + 1) 0 ?c3 cs _ ?c4 Tryd.underlying77 ?c5 (unhide HI77) ?c6
       case c1 => rfl
       case c2 => rfl
       case c3 => rfl
       case c4 => exact unhide hr4 _ rfl
       case c5 => rfl)
    | (with_reducible refine wpList_store_mid (op := { dst := none, op := Op.store 77 (Operand.tmp 11) (Operand.tmp 36), type := 0, pos := "law.go:241", after := #[{ on := 1, ground := Ground.data }, { on := 0, ground := Ground.data }, { on := 0, ground := Ground.phase }, { on := 1, ground := Ground.phase }], guard := none }) ?d1 77 (.tmp 11) (.tmp 36) ?d2 W3.heap.size 0 cs.toArray ?d3 ?d4 ?d5 ?d6 ?d8 ?d7
       case d1 => rfl
       case d2 => rfl
       case d3 => rfl
       case d4 => rfl
       case d5 => exact thereNew _ _ _ _ _ (by simp) (by rw [List.size_toArray, (unhide HP).len]; decide)
       case d6 => rw [List.size_toArray]; exact unhide HI77
       case d8 => exact all_oneCell_toArray (unhide HON)
       generalize hW5 : World.setCells _ _ _ _ = W5
       obtain ⟨hr5, ht5, hl5, hB5⟩ := boxed hW5 (by simp) (by rw [(unhide HP).len]; decide)
       clear hW5
       have HR5 := hide hr5
       have HT5 := hide ht5
       have HB5 := hide hB5
       have HB05 := hide ((unhide HB04).trans (hB5.mono (unhide HB04).size))
       obtain ⟨d0, d1, d2, f0, f1, f6, bl5, cl5⟩ := (unhide HBX).later (unhide HB05)
       have hs6 := ht5 6 (by rw [(unhide HP).len]; decide)
       obtain ⟨z6, hz6⟩ := Option.isSome_iff_exists.1 hs6.1
       have hf6 := hs6.2
       simp only [Nat.zero_add] at hz6 hf6
       clear hr5 ht5 hB5 hs6))
  have hLM := lm_start (.slice (some ⟨W2.heap.size, 0, none⟩) pl.length (pl.length + 1)) (unhide HBX) (unhide HR0) (unhide HB0) (unhide HB1) (unhide HL) (unhide HN3) (unhide HP).len (unhide HR5) hl5 (by simpa using unhide HB5)
  have hPq := (unhide HP).set (.slice (some ⟨W2.heap.size, 0, none⟩) pl.length (pl.length + 1))
  have hBw := hLM.bel
  obtain ⟨w1', hLe, -⟩ := hLM.lent
  have hNm := hLM.nms
  have hAts := hLe.ats (by omega)
  have hStr := hNm.strs (by omega) (pl.length + 1)
  have HLM := hide hLM
  clear hcp hz hfz a0 a1 a2 p0 p1 p6 bl cl b0 b1 b2 q0 q1 q6 bl3 cl3 d0 d1 d2 f0 f1 f6 bl5 cl5 hz6 hf6 hl5 HR5 HT5 HB5 HB05 hr4 HB04 HN3 HL HB02 HB2 HB1 HO1 HR0 HBX mk44 hLM hLe hNm w1'
  generalize W3.heap.size = Q at *
  generalize W2.heap.size = N at *
  generalize (W5.setCell ⟨Q, 6, none⟩ (.slice (some ⟨N, 0, none⟩) pl.length (pl.length + 1))) = W6 at *
  have HI77q := hide (show (Tryd.prog.info? 77).map (·.size) = some (cs.set 6 (.slice (some ⟨N, 0, none⟩) pl.length (pl.length + 1))).length by rw [List.length_set]; exact unhide HI77)
  generalize hqs : cs.set 6 (.slice (some ⟨N, 0, none⟩) pl.length (pl.length + 1)) = qs at *
  rcases hfa : firstA al nm vr pl with ⟨r1, r2⟩
  have kF := hide (fun (w' : World) (B : Below W6.heap.size W6 w') => First_any al nm vr _ pl qs _ (unhide HSZ) hvr w' hPq (hStr.later B) (hAts.later B))
  have kR := hide (fun (w' : World) (B : Below W6.heap.size W6 w') => rFirst_any al nm vr _ pl cs _ (unhide HSZ) hvr w' (unhide HP) ((unhide HS).later (hBw.trans (B.mono hBw.size))) ((unhide HA).later (hBw.trans (B.mono hBw.size))))
  simp only [hfa] at kF kR
  have HPQ := hide hPq
  have HBW := hide hBw
  have HAT := hide hAts
  have HST := hide hStr
  have F7 := hide (fun (w' : World) (B : Below W6.heap.size W6 w') => And.intro ((unhide HLM).later B).lent.choose_spec.1.m0 (And.intro ((unhide HLM).later B).rq B))
  have D6 := hide ((Below.refl W6.heap.size W6).drew)
  clear hPq hBw hAts hStr hfa hqs
  refine wp_region_held_drew (S := (fun w' => w'.cell? ⟨M, 0, none⟩ = some (.slice (some ⟨C, 0, none⟩) al.length (al.length + 1)) ∧ w'.rangeAt Q 0 qs ∧ Below W6.heap.size W6 w')) (by kernel_rfl) ?_ (fun hHeld => ?_)
  · exact unhide F7 _ (unhide D6)
  refine wpAnyH_take (i := 0) (oi := { dst := some 44, op := Op.move (Operand.tmp 9), type := 22, pos := "law.go:243", after := #[], guard := none }) (v := ?_) rfl (by kernel_rfl) (by kernel_rfl) (by kernel_rfl) (fun _ _ _ h => h) (Or.inl ⟨by rfl, ?_⟩) (by assumption) ?_
  rotate_left
  · intro w hSw; (try dsimp only at hSw); go_simp; (try with_reducible rfl)
  try simp only [Act.put, List.setIfInBounds_toArray, List.set_cons_zero, List.set_cons_succ]
  refine wpAnyH_take (i := 1) (oi := { dst := some 45, op := Op.indexAddr 22 (Operand.tmp 44) (Operand.const (Value.int IntKind.i64 0)), type := 0, pos := "law.go:243", after := #[{ on := 0, ground := Ground.data }], guard := none }) (v := ?_) rfl (by kernel_rfl) (by kernel_rfl) (by kernel_rfl) (fun _ _ _ h => h) (Or.inl ⟨by rfl, ?_⟩) (by assumption) ?_
  rotate_left
  · intro w hSw; (try dsimp only at hSw); go_simp; (try with_reducible rfl)
  try simp only [Act.put, List.setIfInBounds_toArray, List.set_cons_zero, List.set_cons_succ]
  refine wpAnyH_take (i := 2) (oi := { dst := some 46, op := Op.load 52 (Operand.tmp 45), type := 52, pos := "law.go:243", after := #[{ on := 1, ground := Ground.data }], guard := none }) (v := ?_) rfl (by kernel_rfl) (by kernel_rfl) (by kernel_rfl) (fun _ _ _ h => h) (Or.inl ⟨by rfl, ?_⟩) (by assumption) ?_
  rotate_left
  · intro w hSw; (try dsimp only at hSw); go_simp; (try with_reducible rfl)
  try simp only [Act.put, List.setIfInBounds_toArray, List.set_cons_zero, List.set_cons_succ]
  refine wpAnyH_take (i := 3) (oi := { dst := some 47, op := Op.load 77 (Operand.tmp 11), type := 77, pos := "law.go:243", after := #[], guard := none }) (v := .agg qs.toArray) rfl (by kernel_rfl) (by kernel_rfl) (by kernel_rfl) (fun _ _ _ h => h) (yieldsIf_load_mid (by rfl) 77 (.tmp 11) rfl Q 0 rfl qs _ (fun _ h => h.2.1) Tryd.underlying77 rfl (unhide HI77q)) (by assumption) ?_
  try simp only [Act.put, List.setIfInBounds_toArray, List.set_cons_zero, List.set_cons_succ]
  refine wpAnyH_ready (rs := [4]) (by kernel_rfl) (by simp) ?_
  refine AllReadyH.cons (o := { dst := some 48, op := Op.call { callee := Callee.value (Operand.func 40), args := #[Operand.tmp 46, Operand.tmp 47], argTypes := #[52, 77] }, type := 78, pos := "law.go:243", after := #[{ on := 2, ground := Ground.data }, { on := 3, ground := Ground.data }], guard := none }) rfl (fun K hK => ?_) AllReadyH.nil
  go_simp
  refine (unhide kF _ (unhide D6)).mono ?_
  rintro e w7 ⟨rfl, hb7⟩
  have B7 := hide ((unhide D6).trans (hb7.mono (unhide D6).size))
  clear hb7
  go_wp2_with fail
  refine hK.out _ _ ?_ (fun hHeld0 => ?_)
  · exact unhide F7 _ (unhide B7)
  clear hHeld
  clear hK K
  try simp only [Act.put, List.setIfInBounds_toArray, List.set_cons_zero, List.set_cons_succ]
  refine wpAnyH_take (i := 5) (oi := { dst := some 43, op := Op.move (Operand.tmp 48), type := 78, pos := "law.go:243", after := #[{ on := 4, ground := Ground.data }], guard := none }) (v := ?_) rfl (by kernel_rfl) (by kernel_rfl) (by kernel_rfl) (fun _ _ _ h => h) (Or.inl ⟨by rfl, ?_⟩) (by assumption) ?_
  rotate_left
  · intro w hSw; (try dsimp only at hSw); go_simp; (try with_reducible rfl)
  try simp only [Act.put, List.setIfInBounds_toArray, List.set_cons_zero, List.set_cons_succ]
  refine wpAnyH_take (i := 6) (oi := { dst := some 49, op := Op.extract (Operand.tmp 43) 0, type := 3, pos := "law.go:243", after := #[{ on := 5, ground := Ground.data }], guard := none }) (v := ?_) rfl (by kernel_rfl) (by kernel_rfl) (by kernel_rfl) (fun _ _ _ h => h) (Or.inl ⟨by rfl, ?_⟩) (by assumption) ?_
  rotate_left
  · intro w hSw; (try dsimp only at hSw); go_simp; (try with_reducible rfl)
  try simp only [Act.put, List.setIfInBounds_toArray, List.set_cons_zero, List.set_cons_succ]
  refine wpAnyH_take (i := 7) (oi := { dst := some 50, op := Op.extract (Operand.tmp 43) 1, type := 4, pos := "law.go:243", after := #[{ on := 5, ground := Ground.data }, { on := 8, ground := Ground.gcOnly Departure.lateStores }], guard := none }) (v := ?_) rfl (by kernel_rfl) (by kernel_rfl) (by kernel_rfl) (fun _ _ _ h => h) (Or.inl ⟨by rfl, ?_⟩) (by assumption) ?_
  rotate_left
  · intro w hSw; (try dsimp only at hSw); go_simp; (try with_reducible rfl)
  try simp only [Act.put, List.setIfInBounds_toArray, List.set_cons_zero, List.set_cons_succ]
  refine wpAnyH_take (i := 8) (oi := { dst := some 12, op := Op.assign (Operand.tmp 49), type := 3, pos := "law.go:243", after := #[{ on := 6, ground := Ground.data }, { on := 4, ground := Ground.chain }, { on := 0, ground := Ground.phase }, { on := 1, ground := Ground.phase }, { on := 2, ground := Ground.phase }, { on := 3, ground := Ground.phase }, { on := 4, ground := Ground.phase }, { on := 5, ground := Ground.phase }, { on := 6, ground := Ground.phase }, { on := 7, ground := Ground.textOnly Departure.lateStores }], guard := none }) (v := ?_) rfl (by kernel_rfl) (by kernel_rfl) (by kernel_rfl) (fun _ _ _ h => h) (Or.inl ⟨by rfl, ?_⟩) (by assumption) ?_
  rotate_left
  · intro w hSw; (try dsimp only at hSw); go_simp; (try with_reducible rfl)
  try simp only [Act.put, List.setIfInBounds_toArray, List.set_cons_zero, List.set_cons_succ]
  refine wpAnyH_take (i := 9) (oi := { dst := some 13, op := Op.assign (Operand.tmp 50), type := 4, pos := "law.go:243", after := #[{ on := 7, ground := Ground.data }, { on := 8, ground := Ground.chain }, { on := 0, ground := Ground.phase }, { on := 1, ground := Ground.phase }, { on := 2, ground := Ground.phase }, { on := 3, ground := Ground.phase }, { on := 4, ground := Ground.phase }, { on := 5, ground := Ground.phase }, { on := 6, ground := Ground.phase }, { on := 7, ground := Ground.phase }, { on := 8, ground := Ground.phase }], guard := none }) (v := ?_) rfl (by kernel_rfl) (by kernel_rfl) (by kernel_rfl) (fun _ _ _ h => h) (Or.inl ⟨by rfl, ?_⟩) (by assumption) ?_
  rotate_left
  · intro w hSw; (try dsimp only at hSw); go_simp; (try with_reducible rfl)
  try simp only [Act.put, List.setIfInBounds_toArray, List.set_cons_zero, List.set_cons_succ]
  refine wpAnyH_done (by kernel_rfl) ?_ _
  have RP7 := hide (((unhide HLM).later (unhide B7)).rp)
  go_wp2_with (first
    | (with_reducible refine wpList_load_p (op := { dst := some 53, op := Op.load 77 (Operand.tmp 6), type := 77, pos := "law.go:244", after := #[], guard := none }) ?e1 77 (.tmp 6) ?e2 (w.heap.size + 1) 0 ?e3 cs _ (unhide RP7) Tryd.underlying77 ?e5 (unhide HI77) ?e6
       case e1 => rfl
       case e2 => rfl
       case e3 => rfl
       case e5 => rfl)
    | (go_at_call 41; refine (unhide kR _ (unhide B7)).mono ?_; rintro e w8 ⟨rfl, hb8⟩; have B8 := hide ((unhide B7).trans (hb8.mono (unhide B7).size)); clear hb8))
  have kf1 := hide (fun w' => FitsA_any n op bd ver hbd hver w')
  have kf2 := hide (fun w' => rFitsA_any n op bd ver hbd hver w')
  generalize fitsA op bd ver = ft at kf1 kf2
  have F9 := hide (fun (w' : World) (B : Below W6.heap.size W6 w') => And.intro ((unhide HLM).later B).box.a0 (And.intro ((unhide HLM).later B).box.a1 (And.intro ((unhide HLM).later B).box.a2 B)))
  have D8 := hide (unhide B8).drew
  go_region_held3 (fun w' => w'.cell? ⟨w.heap.size, 0, none⟩ = some (.string n) ∧ w'.cell? ⟨w.heap.size, 1, none⟩ = some (.int .i64 op) ∧ w'.cell? ⟨w.heap.size, 2, none⟩ = some (.string bd) ∧ Below W6.heap.size W6 w') (first | exact unhide F9 _ (unhide D8) | exact unhide F9 _ (unhide B9) | exact unhide F9 _ (unhide B10))
    (first | (go_at_call 42; refine (unhide kf1 _).mono ?_; rintro e w9 ⟨rfl, hb9⟩; have B9 := hide ((unhide D8).trans (hb9.mono (unhide D8).size)); clear hb9) | (go_at_call 43; refine (unhide kf2 _).mono ?_; rintro e w10 ⟨rfl, hb10⟩; have B10 := hide ((unhide B9).trans (hb10.mono (unhide B9).size)); clear hb10))
  go_wp2_with fail
  have km1 := hide (fun (w' : World) (B : Below W6.heap.size W6 w') => Meets_any n op bd nm vr _ pl qs hbd hvr w' (unhide HPQ) ((unhide HST).later B))
  have km2 := hide (fun (w' : World) (B : Below W6.heap.size W6 w') => rMeets_any n op bd nm vr _ pl cs hbd hvr w' (unhide HP) ((unhide HS).later ((unhide HBW).trans (B.mono (unhide HBW).size))))
  generalize meetsA n op bd nm vr pl = mt at km1 km2
  have kst := hide (fun (w' : World) (B : Below W6.heap.size W6 w') => still_at al hal M C K xa xc w' ((unhide HLM).later B).lent.choose_spec.1 (((unhide HA).later ((unhide HBW).trans (B.mono (unhide HBW).size)))))
  have ksn := hide (fun (w' : World) (B : Below W6.heap.size W6 w') => sameNames_any pl _ _ w' ((unhide HST).later B) ((unhide HS).later ((unhide HBW).trans (B.mono (unhide HBW).size))))
  have F11 := hide (fun (w' : World) (B : Below W6.heap.size W6 w') => And.intro ((unhide HLM).later B).box.a0 (And.intro ((unhide HLM).later B).box.a1 (And.intro ((unhide HLM).later B).box.a2 (And.intro ((unhide HLM).later B).rq (And.intro ((unhide HLM).later B).rp (And.intro (range_cell ((unhide HLM).later B).rq 6 _ (unhide HPQ).p) (And.intro ((unhide HLM).later B).box.p6 (And.intro ((unhide HLM).later B).mark B))))))))
  have D10 := hide (unhide B10).drew
  clear kF kR kf1 kf2 F7 F9 D6 D8 B7 B8 B9 RP7
  have j1 : (0 : Int) ≤ (pl.length : Int) := by omega
  have j2 : (pl.length : Int) < (pl.length : Int) + 1 := by omega
  refine wp_region_held_drew (S := (fun w' => w'.cell? ⟨w.heap.size, 0, none⟩ = some (.string n) ∧ w'.cell? ⟨w.heap.size, 1, none⟩ = some (.int .i64 op) ∧ w'.cell? ⟨w.heap.size, 2, none⟩ = some (.string bd) ∧ w'.rangeAt Q 0 qs ∧ w'.rangeAt (w.heap.size + 1) 0 cs ∧ w'.cell? ⟨Q, 6, none⟩ = some (.slice (some ⟨N, 0, none⟩) pl.length (pl.length + 1)) ∧ w'.cell? ⟨w.heap.size + 1, 6, none⟩ = some (.slice ya pl.length yc) ∧ w'.cell? ⟨N, pl.length, none⟩ = some (.string ⟨#[77, 65, 82, 75]⟩) ∧ Below W6.heap.size W6 w')) (by kernel_rfl) ?_ (fun hHeld => ?_)
  · exact unhide F11 _ (unhide D10)
  refine wpAnyH_take (i := 0) (oi := { dst := some 74, op := Op.load 34 (Operand.tmp 4), type := 34, pos := "law.go:248", after := #[], guard := none }) (v := ?_) rfl (by kernel_rfl) (by kernel_rfl) (by kernel_rfl) (fun _ _ _ h => h) (Or.inl ⟨by rfl, ?_⟩) (by assumption) ?_
  rotate_left
  · intro w hSw; (try dsimp only at hSw); go_simp; (try with_reducible rfl)
  try simp only [Act.put, List.setIfInBounds_toArray, List.set_cons_zero, List.set_cons_succ]
  refine wpAnyH_take (i := 1) (oi := { dst := some 75, op := Op.load 77 (Operand.tmp 11), type := 77, pos := "law.go:248", after := #[], guard := none }) (v := .agg qs.toArray) rfl (by kernel_rfl) (by kernel_rfl) (by kernel_rfl) (fun _ _ _ h => h) (yieldsIf_load_mid (by rfl) 77 (.tmp 11) rfl Q 0 rfl qs _ (fun _ h => h.2.2.2.1) Tryd.underlying77 rfl (unhide HI77q)) (by assumption) ?_
  try simp only [Act.put, List.setIfInBounds_toArray, List.set_cons_zero, List.set_cons_succ]
  refine wpAnyH_take (i := 3) (oi := { dst := some 77, op := Op.load 34 (Operand.tmp 4), type := 34, pos := "law.go:248", after := #[], guard := none }) (v := ?_) rfl (by kernel_rfl) (by kernel_rfl) (by kernel_rfl) (fun _ _ _ h => h) (Or.inl ⟨by rfl, ?_⟩) (by assumption) ?_
  rotate_left
  · intro w hSw; (try dsimp only at hSw); go_simp; (try with_reducible rfl)
  try simp only [Act.put, List.setIfInBounds_toArray, List.set_cons_zero, List.set_cons_succ]
  refine wpAnyH_take (i := 4) (oi := { dst := some 78, op := Op.load 77 (Operand.tmp 6), type := 77, pos := "law.go:248", after := #[], guard := none }) (v := .agg cs.toArray) rfl (by kernel_rfl) (by kernel_rfl) (by kernel_rfl) (fun _ _ _ h => h) (yieldsIf_load_mid (by rfl) 77 (.tmp 6) rfl (w.heap.size + 1) 0 rfl cs _ (fun _ h => h.2.2.2.2.1) Tryd.underlying77 rfl (unhide HI77)) (by assumption) ?_
  try simp only [Act.put, List.setIfInBounds_toArray, List.set_cons_zero, List.set_cons_succ]
  refine wpAnyH_ready (rs := [2]) (by kernel_rfl) (by simp) ?_
  refine AllReadyH.cons (o := { dst := some 76, op := Op.call { callee := Callee.value (Operand.func 44), args := #[Operand.tmp 74, Operand.tmp 75], argTypes := #[34, 77] }, type := 4, pos := "law.go:248", after := #[{ on := 0, ground := Ground.data }, { on := 1, ground := Ground.data }], guard := none }) rfl (fun K hK => ?_) AllReadyH.nil
  go_simp
  refine (unhide km1 _ (unhide D10)).mono ?_
  rintro e w11 ⟨rfl, hb11⟩
  have B11 := hide ((unhide D10).trans (hb11.mono (unhide D10).size))
  clear hb11
  go_wp2_with fail
  refine hK.out _ _ ?_ (fun hHeld0 => ?_)
  · exact unhide F11 _ (unhide B11)
  clear hHeld
  clear hK K
  try simp only [Act.put, List.setIfInBounds_toArray, List.set_cons_zero, List.set_cons_succ]
  refine wpAnyH_ready (rs := [5]) (by kernel_rfl) (by simp) ?_
  refine AllReadyH.cons (o := { dst := some 79, op := Op.call { callee := Callee.value (Operand.func 45), args := #[Operand.tmp 77, Operand.tmp 78], argTypes := #[34, 77] }, type := 4, pos := "law.go:248", after := #[{ on := 3, ground := Ground.data }, { on := 4, ground := Ground.data }, { on := 2, ground := Ground.chain }], guard := none }) rfl (fun K hK => ?_) AllReadyH.nil
  go_simp
  refine (unhide km2 _ (unhide B11)).mono ?_
  rintro e w12 ⟨rfl, hb11⟩
  have B12 := hide ((unhide B11).trans (hb11.mono (unhide B11).size))
  clear hb11
  go_wp2_with fail
  refine hK.out _ _ ?_ (fun hHeld1 => ?_)
  · exact unhide F11 _ (unhide B12)
  clear hHeld0
  clear hK K
  try simp only [Act.put, List.setIfInBounds_toArray, List.set_cons_zero, List.set_cons_succ]
  refine wpAnyH_take (i := 6) (oi := { dst := some 80, op := Op.binOp BinOp.neq 4 (Operand.tmp 76) (Operand.tmp 79) 4, type := 4, pos := "law.go:248", after := #[{ on := 2, ground := Ground.data }, { on := 5, ground := Ground.data }], guard := none }) (v := ?_) rfl (by kernel_rfl) (by kernel_rfl) (by kernel_rfl) (fun _ _ _ h => h) (Or.inl ⟨by rfl, ?_⟩) (by assumption) ?_
  rotate_left
  · intro w hSw; (try dsimp only at hSw); go_simp; (try with_reducible rfl)
  try simp only [Act.put, List.setIfInBounds_toArray, List.set_cons_zero, List.set_cons_succ]
  refine wpAnyH_take (i := 7) (oi := { dst := some 81, op := Op.move (Operand.tmp 80), type := 4, pos := "law.go:248", after := #[{ on := 6, ground := Ground.data }, { on := 5, ground := Ground.chain }], guard := none }) (v := ?_) rfl (by kernel_rfl) (by kernel_rfl) (by kernel_rfl) (fun _ _ _ h => h) (Or.inl ⟨by rfl, ?_⟩) (by assumption) ?_
  rotate_left
  · intro w hSw; (try dsimp only at hSw); go_simp; (try with_reducible rfl)
  try simp only [Act.put, List.setIfInBounds_toArray, List.set_cons_zero, List.set_cons_succ]
  refine wpAnyH_take (i := 8) (oi := { dst := some 82, op := Op.move (Operand.tmp 9), type := 22, pos := "law.go:248", after := #[{ on := 7, ground := Ground.guard }], guard := some (7, false) }) (v := ?_) rfl (by kernel_rfl) (by kernel_rfl) (by kernel_rfl) (fun _ _ _ h => h) (Or.inl ⟨by rfl, ?_⟩) (by assumption) ?_
  rotate_left
  · intro w hSw; (try dsimp only at hSw); go_simp; (try with_reducible rfl)
  try simp only [Act.put, List.setIfInBounds_toArray, List.set_cons_zero, List.set_cons_succ]
  refine wpAnyH_take (i := 9) (oi := { dst := some 83, op := Op.move (Operand.tmp 1), type := 52, pos := "law.go:248", after := #[{ on := 7, ground := Ground.guard }], guard := some (7, false) }) (v := ?_) rfl (by kernel_rfl) (by kernel_rfl) (by kernel_rfl) (fun _ _ _ h => h) (Or.inl ⟨by rfl, ?_⟩) (by assumption) ?_
  rotate_left
  · intro w hSw; (try dsimp only at hSw); go_simp; (try with_reducible rfl)
  try simp only [Act.put, List.setIfInBounds_toArray, List.set_cons_zero, List.set_cons_succ]
  refine wpAnyH_ready (rs := [10]) (by kernel_rfl) (by simp) ?_
  refine AllReadyH.cons (o := { dst := some 84, op := Op.buildSlice 22 1 #[(0, Operand.tmp 83)], type := 22, pos := "law.go:248", after := #[{ on := 9, ground := Ground.data }, { on := 7, ground := Ground.guard }], guard := some (7, false) }) rfl (fun K hK => ?_) AllReadyH.nil
  go_simp
  have B13 := hide ((unhide B12).alloc (unhide B12).size (.cells #[.slice xa al.length xc] 52))
  refine hK.out _ _ ?_ (fun hHeld2 => ?_)
  · exact unhide F11 _ (unhide B13)
  clear hHeld1
  clear hK K
  try simp only [Act.put, List.setIfInBounds_toArray, List.set_cons_zero, List.set_cons_succ]
  refine wpAnyH_ready (rs := [11]) (by kernel_rfl) (by simp) ?_
  refine AllReadyH.cons (o := { dst := some 85, op := Op.call { callee := Callee.value (Operand.func 32), args := #[Operand.tmp 82, Operand.tmp 84], argTypes := #[22, 22] }, type := 4, pos := "law.go:248", after := #[{ on := 8, ground := Ground.data }, { on := 10, ground := Ground.data }, { on := 7, ground := Ground.chain }, { on := 7, ground := Ground.guard }], guard := some (7, false) }) rfl (fun K hK => ?_) AllReadyH.nil
  go_simp
  refine (unhide kst _ (unhide B12)).mono ?_
  rintro e w14 ⟨rfl, hb11⟩
  have B14 := hide ((unhide B13).trans (hb11.mono (unhide B13).size))
  clear hb11
  go_wp2_with fail
  refine hK.out _ _ ?_ (fun hHeld3 => ?_)
  · exact unhide F11 _ (unhide B14)
  clear hHeld2
  clear hK K
  try simp only [Act.put, List.setIfInBounds_toArray, List.set_cons_zero, List.set_cons_succ]
  refine wpAnyH_take (i := 12) (oi := { dst := some 86, op := Op.unOp UnOp.not 4 (Operand.tmp 85), type := 4, pos := "law.go:248", after := #[{ on := 11, ground := Ground.data }, { on := 7, ground := Ground.guard }], guard := some (7, false) }) (v := ?_) rfl (by kernel_rfl) (by kernel_rfl) (by kernel_rfl) (fun _ _ _ h => h) (Or.inl ⟨by rfl, ?_⟩) (by assumption) ?_
  rotate_left
  · intro w hSw; (try dsimp only at hSw); go_simp; (try with_reducible rfl)
  try simp only [Act.put, List.setIfInBounds_toArray, List.set_cons_zero, List.set_cons_succ]
  refine wpAnyH_take (i := 13) (oi := { dst := some 87, op := Op.pick (Operand.tmp 81) (Operand.const (Value.bool true)) (Operand.tmp 86), type := 4, pos := "law.go:248", after := #[{ on := 7, ground := Ground.data }, { on := 12, ground := Ground.data }], guard := none }) (v := ?_) rfl (by kernel_rfl) (by kernel_rfl) (by kernel_rfl) (fun _ _ _ h => h) (Or.inl ⟨by rfl, ?_⟩) (by assumption) ?_
  rotate_left
  · intro w hSw; (try dsimp only at hSw); go_simp; (try with_reducible rfl)
  try simp only [Act.put, List.setIfInBounds_toArray, List.set_cons_zero, List.set_cons_succ]
  refine wpAnyH_take (i := 14) (oi := { dst := some 88, op := Op.move (Operand.tmp 87), type := 4, pos := "law.go:248", after := #[{ on := 13, ground := Ground.data }, { on := 11, ground := Ground.chain }], guard := none }) (v := ?_) rfl (by kernel_rfl) (by kernel_rfl) (by kernel_rfl) (fun _ _ _ h => h) (Or.inl ⟨by rfl, ?_⟩) (by assumption) ?_
  rotate_left
  · intro w hSw; (try dsimp only at hSw); go_simp; (try with_reducible rfl)
  try simp only [Act.put, List.setIfInBounds_toArray, List.set_cons_zero, List.set_cons_succ]
  refine wpAnyH_take (i := 15) (oi := { dst := some 89, op := Op.fieldAddr 77 (Operand.tmp 11) 6, type := 0, pos := "law.go:248", after := #[{ on := 14, ground := Ground.guard }], guard := some (14, false) }) (v := ?_) rfl (by kernel_rfl) (by kernel_rfl) (by kernel_rfl) (fun _ _ _ h => h) (Or.inl ⟨by rfl, ?_⟩) (by assumption) ?_
  rotate_left
  · intro w hSw; (try dsimp only at hSw); go_simp; (try with_reducible rfl)
  try simp only [Act.put, List.setIfInBounds_toArray, List.set_cons_zero, List.set_cons_succ]
  refine wpAnyH_take (i := 16) (oi := { dst := some 90, op := Op.load 44 (Operand.tmp 89), type := 44, pos := "law.go:248", after := #[{ on := 15, ground := Ground.data }, { on := 14, ground := Ground.guard }], guard := some (14, false) }) (v := ?_) rfl (by kernel_rfl) (by kernel_rfl) (by kernel_rfl) (fun _ _ _ h => h) (Or.inl ⟨by rfl, ?_⟩) (by assumption) ?_
  rotate_left
  · intro w hSw; (try dsimp only at hSw); go_simp; (try with_reducible rfl)
  try simp only [Act.put, List.setIfInBounds_toArray, List.set_cons_zero, List.set_cons_succ]
  refine wpAnyH_take (i := 17) (oi := { dst := some 91, op := Op.fieldAddr 77 (Operand.tmp 6) 6, type := 0, pos := "law.go:248", after := #[{ on := 14, ground := Ground.guard }], guard := some (14, false) }) (v := ?_) rfl (by kernel_rfl) (by kernel_rfl) (by kernel_rfl) (fun _ _ _ h => h) (Or.inl ⟨by rfl, ?_⟩) (by assumption) ?_
  rotate_left
  · intro w hSw; (try dsimp only at hSw); go_simp; (try with_reducible rfl)
  try simp only [Act.put, List.setIfInBounds_toArray, List.set_cons_zero, List.set_cons_succ]
  refine wpAnyH_take (i := 18) (oi := { dst := some 92, op := Op.load 44 (Operand.tmp 91), type := 44, pos := "law.go:248", after := #[{ on := 17, ground := Ground.data }, { on := 14, ground := Ground.guard }], guard := some (14, false) }) (v := ?_) rfl (by kernel_rfl) (by kernel_rfl) (by kernel_rfl) (fun _ _ _ h => h) (Or.inl ⟨by rfl, ?_⟩) (by assumption) ?_
  rotate_left
  · intro w hSw; (try dsimp only at hSw); go_simp; (try with_reducible rfl)
  try simp only [Act.put, List.setIfInBounds_toArray, List.set_cons_zero, List.set_cons_succ]
  refine wpAnyH_ready (rs := [19]) (by kernel_rfl) (by simp) ?_
  refine AllReadyH.cons (o := { dst := some 93, op := Op.call { callee := Callee.value (Operand.func 21), args := #[Operand.tmp 90, Operand.tmp 92], argTypes := #[44, 44] }, type := 4, pos := "law.go:248", after := #[{ on := 16, ground := Ground.data }, { on := 18, ground := Ground.data }, { on := 14, ground := Ground.chain }, { on := 14, ground := Ground.guard }], guard := some (14, false) }) rfl (fun K hK => ?_) AllReadyH.nil
  go_simp
  refine (unhide ksn _ (unhide B14)).mono ?_
  rintro e w15 ⟨rfl, hb11⟩
  have B15 := hide ((unhide B14).trans (hb11.mono (unhide B14).size))
  clear hb11
  go_wp2_with fail
  refine hK.out _ _ ?_ (fun hHeld4 => ?_)
  · exact unhide F11 _ (unhide B15)
  clear hHeld3
  clear hK K
  try simp only [Act.put, List.setIfInBounds_toArray, List.set_cons_zero, List.set_cons_succ]
  refine wpAnyH_take (i := 20) (oi := { dst := some 94, op := Op.unOp UnOp.not 4 (Operand.tmp 93), type := 4, pos := "law.go:248", after := #[{ on := 19, ground := Ground.data }, { on := 14, ground := Ground.guard }], guard := some (14, false) }) (v := ?_) rfl (by kernel_rfl) (by kernel_rfl) (by kernel_rfl) (fun _ _ _ h => h) (Or.inl ⟨by rfl, ?_⟩) (by assumption) ?_
  rotate_left
  · intro w hSw; (try dsimp only at hSw); go_simp; (try with_reducible rfl)
  try simp only [Act.put, List.setIfInBounds_toArray, List.set_cons_zero, List.set_cons_succ]
  refine wpAnyH_take (i := 21) (oi := { dst := some 95, op := Op.pick (Operand.tmp 88) (Operand.const (Value.bool true)) (Operand.tmp 94), type := 4, pos := "law.go:248", after := #[{ on := 14, ground := Ground.data }, { on := 20, ground := Ground.data }], guard := none }) (v := ?_) rfl (by kernel_rfl) (by kernel_rfl) (by kernel_rfl) (fun _ _ _ h => h) (Or.inl ⟨by rfl, ?_⟩) (by assumption) ?_
  rotate_left
  · intro w hSw; (try dsimp only at hSw); go_simp; (try with_reducible rfl)
  try simp only [Act.put, List.setIfInBounds_toArray, List.set_cons_zero, List.set_cons_succ]
  refine wpAnyH_take (i := 22) (oi := { dst := some 96, op := Op.move (Operand.tmp 95), type := 4, pos := "law.go:248", after := #[{ on := 21, ground := Ground.data }, { on := 19, ground := Ground.chain }], guard := none }) (v := ?_) rfl (by kernel_rfl) (by kernel_rfl) (by kernel_rfl) (fun _ _ _ h => h) (Or.inl ⟨by rfl, ?_⟩) (by assumption) ?_
  rotate_left
  · intro w hSw; (try dsimp only at hSw); go_simp; (try with_reducible rfl)
  try simp only [Act.put, List.setIfInBounds_toArray, List.set_cons_zero, List.set_cons_succ]
  refine wpAnyH_take (i := 23) (oi := { dst := some 97, op := Op.move (Operand.tmp 10), type := 44, pos := "law.go:248", after := #[{ on := 22, ground := Ground.guard }], guard := some (22, false) }) (v := ?_) rfl (by kernel_rfl) (by kernel_rfl) (by kernel_rfl) (fun _ _ _ h => h) (Or.inl ⟨by rfl, ?_⟩) (by assumption) ?_
  rotate_left
  · intro w hSw; (try dsimp only at hSw); go_simp; (try with_reducible rfl)
  try simp only [Act.put, List.setIfInBounds_toArray, List.set_cons_zero, List.set_cons_succ]
  refine wpAnyH_take (i := 24) (oi := { dst := some 98, op := Op.fieldAddr 77 (Operand.tmp 6) 6, type := 0, pos := "law.go:248", after := #[{ on := 22, ground := Ground.guard }], guard := some (22, false) }) (v := ?_) rfl (by kernel_rfl) (by kernel_rfl) (by kernel_rfl) (fun _ _ _ h => h) (Or.inl ⟨by rfl, ?_⟩) (by assumption) ?_
  rotate_left
  · intro w hSw; (try dsimp only at hSw); go_simp; (try with_reducible rfl)
  try simp only [Act.put, List.setIfInBounds_toArray, List.set_cons_zero, List.set_cons_succ]
  refine wpAnyH_take (i := 25) (oi := { dst := some 99, op := Op.load 44 (Operand.tmp 98), type := 44, pos := "law.go:248", after := #[{ on := 24, ground := Ground.data }, { on := 22, ground := Ground.guard }], guard := some (22, false) }) (v := ?_) rfl (by kernel_rfl) (by kernel_rfl) (by kernel_rfl) (fun _ _ _ h => h) (Or.inl ⟨by rfl, ?_⟩) (by assumption) ?_
  rotate_left
  · intro w hSw; (try dsimp only at hSw); go_simp; (try with_reducible rfl)
  try simp only [Act.put, List.setIfInBounds_toArray, List.set_cons_zero, List.set_cons_succ]
  refine wpAnyH_take (i := 26) (oi := { dst := some 100, op := Op.call { callee := Callee.builtin Builtin.len, args := #[Operand.tmp 99], argTypes := #[44] }, type := 3, pos := "law.go:248", after := #[{ on := 25, ground := Ground.data }, { on := 22, ground := Ground.guard }], guard := some (22, false) }) (v := ?_) rfl (by kernel_rfl) (by kernel_rfl) (by kernel_rfl) (fun _ _ _ h => h) (Or.inl ⟨by rfl, ?_⟩) (by assumption) ?_
  rotate_left
  · intro w hSw; (try dsimp only at hSw); go_simp; (try with_reducible rfl)
  try simp only [Act.put, List.setIfInBounds_toArray, List.set_cons_zero, List.set_cons_succ]
  refine wpAnyH_take (i := 27) (oi := { dst := some 101, op := Op.indexAddr 44 (Operand.tmp 97) (Operand.tmp 100), type := 0, pos := "law.go:248", after := #[{ on := 23, ground := Ground.data }, { on := 26, ground := Ground.data }, { on := 22, ground := Ground.guard }], guard := some (22, false) }) (v := ?_) rfl (by kernel_rfl) (by kernel_rfl) (by kernel_rfl) (fun _ _ _ h => h) (Or.inl ⟨by rfl, ?_⟩) (by assumption) ?_
  rotate_left
  · intro w hSw; (try dsimp only at hSw); go_simp; (try with_reducible rfl)
  try simp only [Act.put, List.setIfInBounds_toArray, List.set_cons_zero, List.set_cons_succ]
  refine wpAnyH_take (i := 28) (oi := { dst := some 102, op := Op.load 9 (Operand.tmp 101), type := 9, pos := "law.go:248", after := #[{ on := 27, ground := Ground.data }, { on := 22, ground := Ground.guard }], guard := some (22, false) }) (v := ?_) rfl (by kernel_rfl) (by kernel_rfl) (by kernel_rfl) (fun _ _ _ h => h) (Or.inl ⟨by rfl, ?_⟩) (by assumption) ?_
  rotate_left
  · intro w hSw; (try dsimp only at hSw); go_simp; (try with_reducible rfl)
  try simp only [Act.put, List.setIfInBounds_toArray, List.set_cons_zero, List.set_cons_succ]
  refine wpAnyH_take (i := 29) (oi := { dst := some 103, op := Op.binOp BinOp.neq 9 (Operand.tmp 102) (Operand.const (Value.string { data := #[77, 65, 82, 75] })) 9, type := 4, pos := "law.go:248", after := #[{ on := 28, ground := Ground.data }, { on := 22, ground := Ground.guard }], guard := some (22, false) }) (v := ?_) rfl (by kernel_rfl) (by kernel_rfl) (by kernel_rfl) (fun _ _ _ h => h) (Or.inl ⟨by rfl, ?_⟩) (by assumption) ?_
  rotate_left
  · intro w hSw; (try dsimp only at hSw); go_simp; (try with_reducible rfl)
  try simp only [Act.put, List.setIfInBounds_toArray, List.set_cons_zero, List.set_cons_succ]
  refine wpAnyH_take (i := 30) (oi := { dst := some 104, op := Op.pick (Operand.tmp 96) (Operand.const (Value.bool true)) (Operand.tmp 103), type := 4, pos := "law.go:248", after := #[{ on := 22, ground := Ground.data }, { on := 29, ground := Ground.data }], guard := none }) (v := ?_) rfl (by kernel_rfl) (by kernel_rfl) (by kernel_rfl) (fun _ _ _ h => h) (Or.inl ⟨by rfl, ?_⟩) (by assumption) ?_
  rotate_left
  · intro w hSw; (try dsimp only at hSw); go_simp; (try with_reducible rfl)
  try simp only [Act.put, List.setIfInBounds_toArray, List.set_cons_zero, List.set_cons_succ]
  refine wpAnyH_done (by kernel_rfl) ?_ _
  have HL15 := hide ((unhide HLM).later (unhide B15))
  clear km1 km2 kst ksn F11 D10 B10 B11 B12 B13 B14 B15 HLM HAT HST
  go_wp2_with fail
  go_loopw [16] (fun iv wr => ∃ (k : Nat) (al' : List At), k ≤ al.length ∧ iv = .int .i64 k ∧ Hid (al'.length = al.length ∧ (∀ i (h : i < al'.length), al'[i].v.size ≤ maxLen) ∧ LM w wr n op bd nm vr (.slice ya pl.length yc) cs M C K N Q al' pl qs)) (fun iv _ => al.length - (intOf iv).toNat)
  case atStart => exact ⟨0, al, Nat.zero_le _, rfl, hide ⟨rfl, unhide HSZ, unhide HL15⟩⟩
  case round =>
    clear HL15
    obtain ⟨k, al', hk, rfl, HQ⟩ := hrel
    obtain ⟨w1', hLe, -⟩ := (unhide HQ).2.2.lent
    have hm0 := hLe.m0
    rw [(unhide HQ).1] at hm0
    by_cases hlt : k < al.length
    · obtain ⟨e0, e1, e2⟩ := hLe.elem k (by rw [(unhide HQ).1]; exact hlt)
      have g0 := hLe.frC (k * 3)
      have g1 := hLe.frC (k * 3 + 1)
      have g2 := hLe.frC (k * 3 + 2)
      clear hLe
      have u1 : (0 : Int) ≤ (k : Int) := by omega
      have u2 : (k : Int) < (al.length : Int) := by omega
      go_wp2_with fail
      go_roundw
      case rel =>
        refine ⟨k + 1, al'.set k ⟨provB, 0, nob⟩, by omega, by go_num, hide ⟨by rw [List.length_set]; exact (unhide HQ).1, fun i hi => ?_, (unhide HQ).2.2.put k (by rw [(unhide HQ).1]; exact hlt) ⟨provB, 0, nob⟩⟩⟩
        by_cases e : k = i
        · subst e; rw [List.getElem_set_self]; exact Nat.zero_le _
        · rw [List.getElem_set_ne e]; exact (unhide HQ).2.1 i (by simpa using hi)
      case measure => simp [intOf]; omega
    · clear hLe hm0
      have HS2 := hide (unhide HQ).2.1
      have HL2 := hide (unhide HQ).1
      have HQ2 := hide (unhide HQ).2.2
      clear HQ
      go_wp2_with fail
      go_loopw [17] (fun iv wr => ∃ (k : Nat) (pl' : List ByteArray), k ≤ pl.length ∧ iv = .int .i64 k ∧ Hid (pl'.length = pl.length ∧ LM w wr n op bd nm vr (.slice ya pl.length yc) cs M C K N Q al' pl' qs)) (fun iv _ => pl.length - (intOf iv).toNat)
      case atStart => exact ⟨0, pl, Nat.zero_le _, rfl, hide ⟨rfl, unhide HQ2⟩⟩
      case round =>
        clear HQ2 hlt hk
        obtain ⟨k, pl', hk, rfl, HQ⟩ := hrel
        have hq6 := range_cell (unhide HQ).2.rq 6 _ (unhide HPQ).p
        by_cases hlt : k < pl.length
        · have e0 := (unhide HQ).2.nms.elem k (by rw [(unhide HQ).1]; exact hlt)
          have g0 := (unhide HQ).2.nms.fr k
          have u1 : (0 : Int) ≤ (k : Int) := by omega
          have u2 : (k : Int) < (pl.length : Int) := by omega
          go_wp2_with fail
          go_roundw
          case rel => exact ⟨k + 1, pl'.set k provB, by omega, by go_num, hide ⟨by rw [List.length_set]; exact (unhide HQ).1, (unhide HQ).2.name k (by rw [(unhide HQ).1]; exact hlt) provB⟩⟩
          case measure => simp [intOf]; omega
        · have hStr2 := (unhide HQ).2.nms.strs (by rw [(unhide HQ).1]; omega) (pl.length + 1)
          rw [(unhide HQ).1] at hStr2
          obtain ⟨w1', hLe, -⟩ := (unhide HQ).2.lent
          have hAts2 := hLe.ats (by rw [unhide HL2]; omega)
          rw [unhide HL2] at hAts2
          rcases hfa2 : firstA al' nm vr pl' with ⟨s1, s2⟩
          have kF2 := hide (fun (w' : World) (B : Below wr.heap.size wr w') => First_any al' nm vr _ pl' qs _ (unhide HS2) hvr w' (unhide HPQ) (hStr2.later B) (hAts2.later B))
          have kR2 := hide (fun (w' : World) (B : Below wr.heap.size wr w') => rFirst_any al' nm vr _ pl' qs _ (unhide HS2) hvr w' (unhide HPQ) (hStr2.later B) (hAts2.later B))
          simp only [hfa2] at kF2 kR2
          have km3 := hide (fun (w' : World) (B : Below wr.heap.size wr w') => Meets_any n op bd nm vr _ pl' qs hbd hvr w' (unhide HPQ) (hStr2.later B))
          have km4 := hide (fun (w' : World) (B : Below wr.heap.size wr w') => rMeets_any n op bd nm vr _ pl' qs hbd hvr w' (unhide HPQ) (hStr2.later B))
          generalize meetsA n op bd nm vr pl' = mt2 at km3 km4
          have hm0 : ∀ (w' : World) (_ : Below wr.heap.size wr w'), w'.cell? ⟨M, 0, none⟩ = some (.slice (some ⟨C, 0, none⟩) al.length (al.length + 1)) := fun w' B => by
            obtain ⟨w2', h2', -⟩ := ((unhide HQ).2.later B).lent
            have := h2'.m0
            rwa [unhide HL2] at this
          have F21 := hide (fun (w' : World) (B : Below wr.heap.size wr w') => And.intro (hm0 w' B) (And.intro ((unhide HQ).2.later B).rq B))
          have HBQ := hide (unhide HQ).2.bel
          clear hStr2 hAts2 hLe w1' hfa2 hm0
          go_wp2_with fail
          have D21 := hide ((Below.refl wr.heap.size wr).drew)
          refine wp_region_held_drew (S := (fun w' => w'.cell? ⟨M, 0, none⟩ = some (.slice (some ⟨C, 0, none⟩) al.length (al.length + 1)) ∧ w'.rangeAt Q 0 qs ∧ Below wr.heap.size wr w')) (by kernel_rfl) ?_ (fun hHeld => ?_)
          · exact unhide F21 _ (unhide D21)
          refine wpAnyH_take (i := 0) (oi := { dst := some 129, op := Op.move (Operand.tmp 9), type := 22, pos := "law.go:257", after := #[], guard := none }) (v := ?_) rfl (by kernel_rfl) (by kernel_rfl) (by kernel_rfl) (fun _ _ _ h => h) (Or.inl ⟨by rfl, ?_⟩) (by assumption) ?_
          rotate_left
          · intro w hSw; (try dsimp only at hSw); go_simp; (try with_reducible rfl)
          try simp only [Act.put, List.setIfInBounds_toArray, List.set_cons_zero, List.set_cons_succ]
          refine wpAnyH_take (i := 1) (oi := { dst := some 130, op := Op.indexAddr 22 (Operand.tmp 129) (Operand.const (Value.int IntKind.i64 0)), type := 0, pos := "law.go:257", after := #[{ on := 0, ground := Ground.data }], guard := none }) (v := ?_) rfl (by kernel_rfl) (by kernel_rfl) (by kernel_rfl) (fun _ _ _ h => h) (Or.inl ⟨by rfl, ?_⟩) (by assumption) ?_
          rotate_left
          · intro w hSw; (try dsimp only at hSw); go_simp; (try with_reducible rfl)
          try simp only [Act.put, List.setIfInBounds_toArray, List.set_cons_zero, List.set_cons_succ]
          refine wpAnyH_take (i := 2) (oi := { dst := some 131, op := Op.load 52 (Operand.tmp 130), type := 52, pos := "law.go:257", after := #[{ on := 1, ground := Ground.data }], guard := none }) (v := ?_) rfl (by kernel_rfl) (by kernel_rfl) (by kernel_rfl) (fun _ _ _ h => h) (Or.inl ⟨by rfl, ?_⟩) (by assumption) ?_
          rotate_left
          · intro w hSw; (try dsimp only at hSw); go_simp; (try with_reducible rfl)
          try simp only [Act.put, List.setIfInBounds_toArray, List.set_cons_zero, List.set_cons_succ]
          refine wpAnyH_take (i := 3) (oi := { dst := some 132, op := Op.load 77 (Operand.tmp 11), type := 77, pos := "law.go:257", after := #[], guard := none }) (v := .agg qs.toArray) rfl (by kernel_rfl) (by kernel_rfl) (by kernel_rfl) (fun _ _ _ h => h) (yieldsIf_load_mid (by rfl) 77 (.tmp 11) rfl Q 0 rfl qs _ (fun _ h => h.2.1) Tryd.underlying77 rfl (unhide HI77q)) (by assumption) ?_
          try simp only [Act.put, List.setIfInBounds_toArray, List.set_cons_zero, List.set_cons_succ]
          refine wpAnyH_ready (rs := [4]) (by kernel_rfl) (by simp) ?_
          refine AllReadyH.cons (o := { dst := some 133, op := Op.call { callee := Callee.value (Operand.func 41), args := #[Operand.tmp 131, Operand.tmp 132], argTypes := #[52, 77] }, type := 78, pos := "law.go:257", after := #[{ on := 2, ground := Ground.data }, { on := 3, ground := Ground.data }], guard := none }) rfl (fun K hK => ?_) AllReadyH.nil
          go_simp
          refine (unhide kR2 _ (unhide D21)).mono ?_
          rintro e w21 ⟨rfl, hb7⟩
          have B21 := hide ((unhide D21).trans (hb7.mono (unhide D21).size))
          clear hb7
          go_wp2_with fail
          refine hK.out _ _ ?_ (fun hHeld0 => ?_)
          · exact unhide F21 _ (unhide B21)
          clear hHeld
          clear hK K
          try simp only [Act.put, List.setIfInBounds_toArray, List.set_cons_zero, List.set_cons_succ]
          refine wpAnyH_take (i := 5) (oi := { dst := some 128, op := Op.move (Operand.tmp 133), type := 78, pos := "law.go:257", after := #[{ on := 4, ground := Ground.data }], guard := none }) (v := ?_) rfl (by kernel_rfl) (by kernel_rfl) (by kernel_rfl) (fun _ _ _ h => h) (Or.inl ⟨by rfl, ?_⟩) (by assumption) ?_
          rotate_left
          · intro w hSw; (try dsimp only at hSw); go_simp; (try with_reducible rfl)
          try simp only [Act.put, List.setIfInBounds_toArray, List.set_cons_zero, List.set_cons_succ]
          refine wpAnyH_take (i := 6) (oi := { dst := some 134, op := Op.extract (Operand.tmp 128) 0, type := 3, pos := "law.go:257", after := #[{ on := 5, ground := Ground.data }], guard := none }) (v := ?_) rfl (by kernel_rfl) (by kernel_rfl) (by kernel_rfl) (fun _ _ _ h => h) (Or.inl ⟨by rfl, ?_⟩) (by assumption) ?_
          rotate_left
          · intro w hSw; (try dsimp only at hSw); go_simp; (try with_reducible rfl)
          try simp only [Act.put, List.setIfInBounds_toArray, List.set_cons_zero, List.set_cons_succ]
          refine wpAnyH_take (i := 7) (oi := { dst := some 135, op := Op.extract (Operand.tmp 128) 1, type := 4, pos := "law.go:257", after := #[{ on := 5, ground := Ground.data }, { on := 8, ground := Ground.gcOnly Departure.lateStores }], guard := none }) (v := ?_) rfl (by kernel_rfl) (by kernel_rfl) (by kernel_rfl) (fun _ _ _ h => h) (Or.inl ⟨by rfl, ?_⟩) (by assumption) ?_
          rotate_left
          · intro w hSw; (try dsimp only at hSw); go_simp; (try with_reducible rfl)
          try simp only [Act.put, List.setIfInBounds_toArray, List.set_cons_zero, List.set_cons_succ]
          refine wpAnyH_take (i := 8) (oi := { dst := some 14, op := Op.assign (Operand.tmp 134), type := 3, pos := "law.go:257", after := #[{ on := 6, ground := Ground.data }, { on := 4, ground := Ground.chain }, { on := 0, ground := Ground.phase }, { on := 1, ground := Ground.phase }, { on := 2, ground := Ground.phase }, { on := 3, ground := Ground.phase }, { on := 4, ground := Ground.phase }, { on := 5, ground := Ground.phase }, { on := 6, ground := Ground.phase }, { on := 7, ground := Ground.textOnly Departure.lateStores }], guard := none }) (v := ?_) rfl (by kernel_rfl) (by kernel_rfl) (by kernel_rfl) (fun _ _ _ h => h) (Or.inl ⟨by rfl, ?_⟩) (by assumption) ?_
          rotate_left
          · intro w hSw; (try dsimp only at hSw); go_simp; (try with_reducible rfl)
          try simp only [Act.put, List.setIfInBounds_toArray, List.set_cons_zero, List.set_cons_succ]
          refine wpAnyH_take (i := 9) (oi := { dst := some 15, op := Op.assign (Operand.tmp 135), type := 4, pos := "law.go:257", after := #[{ on := 7, ground := Ground.data }, { on := 8, ground := Ground.chain }, { on := 0, ground := Ground.phase }, { on := 1, ground := Ground.phase }, { on := 2, ground := Ground.phase }, { on := 3, ground := Ground.phase }, { on := 4, ground := Ground.phase }, { on := 5, ground := Ground.phase }, { on := 6, ground := Ground.phase }, { on := 7, ground := Ground.phase }, { on := 8, ground := Ground.phase }], guard := none }) (v := ?_) rfl (by kernel_rfl) (by kernel_rfl) (by kernel_rfl) (fun _ _ _ h => h) (Or.inl ⟨by rfl, ?_⟩) (by assumption) ?_
          rotate_left
          · intro w hSw; (try dsimp only at hSw); go_simp; (try with_reducible rfl)
          try simp only [Act.put, List.setIfInBounds_toArray, List.set_cons_zero, List.set_cons_succ]
          refine wpAnyH_done (by kernel_rfl) ?_ _
          have LM21 := (unhide HQ).2.later (unhide B21)
          obtain ⟨a0, a1, a2, -, -, -, bl, -⟩ := LM21.box
          have RQ21 := hide LM21.rq
          clear LM21
          go_wp2_with (first
            | (with_reducible refine wpList_load_p (op := { dst := some 137, op := Op.load 77 (Operand.tmp 11), type := 77, pos := "law.go:258", after := #[], guard := none }) ?g1 77 (.tmp 11) ?g2 Q 0 ?g3 qs _ (unhide RQ21) Tryd.underlying77 ?g5 (unhide HI77q) ?g6
               case g1 => rfl
               case g2 => rfl
               case g3 => rfl
               case g5 => rfl)
            | (go_at_call 45; refine (unhide km4 _ (unhide B21)).mono ?_; rintro e w22 ⟨rfl, hb22⟩; have B22 := hide ((unhide B21).trans (hb22.mono (unhide B21).size)); clear hb22))
          clear a0 a1 a2 bl
          have D23 := hide (unhide B22).drew
          refine wp_region_held_drew (S := (fun w' => w'.cell? ⟨M, 0, none⟩ = some (.slice (some ⟨C, 0, none⟩) al.length (al.length + 1)) ∧ w'.rangeAt Q 0 qs ∧ Below wr.heap.size wr w')) (by kernel_rfl) ?_ (fun hHeld => ?_)
          · exact unhide F21 _ (unhide D23)
          refine wpAnyH_take (i := 0) (oi := { dst := some 140, op := Op.move (Operand.tmp 9), type := 22, pos := "law.go:259", after := #[], guard := none }) (v := ?_) rfl (by kernel_rfl) (by kernel_rfl) (by kernel_rfl) (fun _ _ _ h => h) (Or.inl ⟨by rfl, ?_⟩) (by assumption) ?_
          rotate_left
          · intro w hSw; (try dsimp only at hSw); go_simp; (try with_reducible rfl)
          try simp only [Act.put, List.setIfInBounds_toArray, List.set_cons_zero, List.set_cons_succ]
          refine wpAnyH_take (i := 1) (oi := { dst := some 141, op := Op.indexAddr 22 (Operand.tmp 140) (Operand.const (Value.int IntKind.i64 0)), type := 0, pos := "law.go:259", after := #[{ on := 0, ground := Ground.data }], guard := none }) (v := ?_) rfl (by kernel_rfl) (by kernel_rfl) (by kernel_rfl) (fun _ _ _ h => h) (Or.inl ⟨by rfl, ?_⟩) (by assumption) ?_
          rotate_left
          · intro w hSw; (try dsimp only at hSw); go_simp; (try with_reducible rfl)
          try simp only [Act.put, List.setIfInBounds_toArray, List.set_cons_zero, List.set_cons_succ]
          refine wpAnyH_take (i := 2) (oi := { dst := some 142, op := Op.load 52 (Operand.tmp 141), type := 52, pos := "law.go:259", after := #[{ on := 1, ground := Ground.data }], guard := none }) (v := ?_) rfl (by kernel_rfl) (by kernel_rfl) (by kernel_rfl) (fun _ _ _ h => h) (Or.inl ⟨by rfl, ?_⟩) (by assumption) ?_
          rotate_left
          · intro w hSw; (try dsimp only at hSw); go_simp; (try with_reducible rfl)
          try simp only [Act.put, List.setIfInBounds_toArray, List.set_cons_zero, List.set_cons_succ]
          refine wpAnyH_take (i := 3) (oi := { dst := some 143, op := Op.load 77 (Operand.tmp 11), type := 77, pos := "law.go:259", after := #[], guard := none }) (v := .agg qs.toArray) rfl (by kernel_rfl) (by kernel_rfl) (by kernel_rfl) (fun _ _ _ h => h) (yieldsIf_load_mid (by rfl) 77 (.tmp 11) rfl Q 0 rfl qs _ (fun _ h => h.2.1) Tryd.underlying77 rfl (unhide HI77q)) (by assumption) ?_
          try simp only [Act.put, List.setIfInBounds_toArray, List.set_cons_zero, List.set_cons_succ]
          refine wpAnyH_ready (rs := [4]) (by kernel_rfl) (by simp) ?_
          refine AllReadyH.cons (o := { dst := some 144, op := Op.call { callee := Callee.value (Operand.func 40), args := #[Operand.tmp 142, Operand.tmp 143], argTypes := #[52, 77] }, type := 78, pos := "law.go:259", after := #[{ on := 2, ground := Ground.data }, { on := 3, ground := Ground.data }], guard := none }) rfl (fun K hK => ?_) AllReadyH.nil
          go_simp
          refine (unhide kF2 _ (unhide D23)).mono ?_
          rintro e w23 ⟨rfl, hb7⟩
          have B23 := hide ((unhide D23).trans (hb7.mono (unhide D23).size))
          clear hb7
          go_wp2_with fail
          refine hK.out _ _ ?_ (fun hHeld0 => ?_)
          · exact unhide F21 _ (unhide B23)
          clear hHeld
          clear hK K
          try simp only [Act.put, List.setIfInBounds_toArray, List.set_cons_zero, List.set_cons_succ]
          refine wpAnyH_take (i := 5) (oi := { dst := some 139, op := Op.move (Operand.tmp 144), type := 78, pos := "law.go:259", after := #[{ on := 4, ground := Ground.data }], guard := none }) (v := ?_) rfl (by kernel_rfl) (by kernel_rfl) (by kernel_rfl) (fun _ _ _ h => h) (Or.inl ⟨by rfl, ?_⟩) (by assumption) ?_
          rotate_left
          · intro w hSw; (try dsimp only at hSw); go_simp; (try with_reducible rfl)
          try simp only [Act.put, List.setIfInBounds_toArray, List.set_cons_zero, List.set_cons_succ]
          refine wpAnyH_take (i := 6) (oi := { dst := some 145, op := Op.extract (Operand.tmp 139) 0, type := 3, pos := "law.go:259", after := #[{ on := 5, ground := Ground.data }], guard := none }) (v := ?_) rfl (by kernel_rfl) (by kernel_rfl) (by kernel_rfl) (fun _ _ _ h => h) (Or.inl ⟨by rfl, ?_⟩) (by assumption) ?_
          rotate_left
          · intro w hSw; (try dsimp only at hSw); go_simp; (try with_reducible rfl)
          try simp only [Act.put, List.setIfInBounds_toArray, List.set_cons_zero, List.set_cons_succ]
          refine wpAnyH_take (i := 7) (oi := { dst := some 146, op := Op.extract (Operand.tmp 139) 1, type := 4, pos := "law.go:259", after := #[{ on := 5, ground := Ground.data }, { on := 8, ground := Ground.gcOnly Departure.lateStores }], guard := none }) (v := ?_) rfl (by kernel_rfl) (by kernel_rfl) (by kernel_rfl) (fun _ _ _ h => h) (Or.inl ⟨by rfl, ?_⟩) (by assumption) ?_
          rotate_left
          · intro w hSw; (try dsimp only at hSw); go_simp; (try with_reducible rfl)
          try simp only [Act.put, List.setIfInBounds_toArray, List.set_cons_zero, List.set_cons_succ]
          refine wpAnyH_take (i := 8) (oi := { dst := some 12, op := Op.assign (Operand.tmp 145), type := 3, pos := "law.go:259", after := #[{ on := 6, ground := Ground.data }, { on := 4, ground := Ground.chain }, { on := 0, ground := Ground.phase }, { on := 1, ground := Ground.phase }, { on := 2, ground := Ground.phase }, { on := 3, ground := Ground.phase }, { on := 4, ground := Ground.phase }, { on := 5, ground := Ground.phase }, { on := 6, ground := Ground.phase }, { on := 7, ground := Ground.textOnly Departure.lateStores }], guard := none }) (v := ?_) rfl (by kernel_rfl) (by kernel_rfl) (by kernel_rfl) (fun _ _ _ h => h) (Or.inl ⟨by rfl, ?_⟩) (by assumption) ?_
          rotate_left
          · intro w hSw; (try dsimp only at hSw); go_simp; (try with_reducible rfl)
          try simp only [Act.put, List.setIfInBounds_toArray, List.set_cons_zero, List.set_cons_succ]
          refine wpAnyH_take (i := 9) (oi := { dst := some 13, op := Op.assign (Operand.tmp 146), type := 4, pos := "law.go:259", after := #[{ on := 7, ground := Ground.data }, { on := 8, ground := Ground.chain }, { on := 0, ground := Ground.phase }, { on := 1, ground := Ground.phase }, { on := 2, ground := Ground.phase }, { on := 3, ground := Ground.phase }, { on := 4, ground := Ground.phase }, { on := 5, ground := Ground.phase }, { on := 6, ground := Ground.phase }, { on := 7, ground := Ground.phase }, { on := 8, ground := Ground.phase }], guard := none }) (v := ?_) rfl (by kernel_rfl) (by kernel_rfl) (by kernel_rfl) (fun _ _ _ h => h) (Or.inl ⟨by rfl, ?_⟩) (by assumption) ?_
          rotate_left
          · intro w hSw; (try dsimp only at hSw); go_simp; (try with_reducible rfl)
          try simp only [Act.put, List.setIfInBounds_toArray, List.set_cons_zero, List.set_cons_succ]
          refine wpAnyH_done (by kernel_rfl) ?_ _
          have LM23 := (unhide HQ).2.later (unhide B23)
          obtain ⟨a0, a1, a2, -, -, -, bl, -⟩ := LM23.box
          have RQ23 := hide LM23.rq
          clear LM23
          go_wp2_with (first
            | (with_reducible refine wpList_load_want1 (op := { dst := some 157, op := Op.load 77 (Operand.tmp 11), type := 77, pos := "law.go:260", after := #[{ on := 8, ground := Ground.guard }], guard := some (8, true) }) 77 (.tmp 11) ?h2 ?h1 Q 0 ?h3 qs _ (unhide RQ23) Tryd.underlying77 ?h5 (unhide HI77q) ?h6
               case h2 => rfl
               case h1 => rfl
               case h3 => rfl
               case h5 => rfl)
            | (go_at_call 44; refine (unhide km3 _ (unhide B23)).mono ?_; rintro e w24 ⟨rfl, hb24⟩; have B24 := hide ((unhide B23).trans (hb24.mono (unhide B23).size)); clear hb24))
          go_ret
          exact ⟨rfl, (unhide HBQ).trans ((unhide B24).mono (unhide HBQ).size)⟩

end Go.Proofs.YtfembjjpmjfklaaDoor
