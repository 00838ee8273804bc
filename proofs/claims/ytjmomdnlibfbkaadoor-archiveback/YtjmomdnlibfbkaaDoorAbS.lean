import Derived.Test.YtjmomdnlibfbkaaDoorAbR
namespace Go.Proofs.YtjmomdnlibfbkaaDoor
open Go.RowKit

theorem wp_app_run (w : World) {o : Oper} {a : Act} {K : Act → World → Prop} {Q : Exit → Act → World → Prop} (s x : Operand) (t tn : TypeId)
    (ho : o.op = .call { callee := .builtin .append, args := #[s, x], argTypes := #[t, tn] }) (vs vx : Value) (hs : a.eval s = vs) (hx : a.eval x = vx)
    (v' : Value) (w' : World) (hr : (Builtin.append_ #[t, tn] o.type #[vs, vx]).run Tryd.prog w = .ok v' w') (h : K (a.put o.dst v') w') : o.wp Tryd.prog a w K Q := by
  unfold Oper.wp execOp
  simp only [ho, resolve, invoke, builtin, Sem.run_bind, Sem.run_pure, Result.andThen_ok, List.map_toArray, List.map_cons, List.map_nil, hs, hx, hr]
  exact h
theorem cellsB_get : ∀ {fs : List Fl} {vs : List Value} (_ : vs.length = fs.length) (i : Nat) (f : Fl) (x : Value), fs[i]? = some f → vs[i]? = some x → (cellsB fs vs)[i * 2]? = some (.string f.1) ∧ (cellsB fs vs)[i * 2 + 1]? = some x
  | [], _, _, i, f, x, hf, _ => by cases hf
  | f0 :: fs, [], h, _, _, _, _, _ => by cases h
  | f0 :: fs, v0 :: vs, h, i, f, x, hf, hx => by
    have e : cellsB (f0 :: fs) (v0 :: vs) = .string f0.1 :: v0 :: cellsB fs vs := rfl
    rw [e]
    cases i with
    | zero =>
      cases hf
      cases hx
      exact ⟨rfl, rfl⟩
    | succ i =>
      have q := cellsB_get (fs := fs) (vs := vs) (by simpa using h) i f x hf hx
      rw [show (i + 1) * 2 = i * 2 + 1 + 1 by omega]
      exact q
theorem Fb.own {w : World} {lo : Nat} {v : Value} {fs : List Fl} (h : FlsO w lo v fs) : Fb w v fs := by
  obtain ⟨vs, h1, h2, h3⟩ := h
  obtain ⟨a, c, rfl⟩ := owns_form h2
  have hlt := World.ownsRow.lt h2
  rcases h2.2 with ⟨_, e0⟩ | ⟨g, cap, cur, e, hb, hg, hnc, hcm, hcs, htk⟩
  · have e1 : fs = [] := List.length_eq_zero_iff.1 e0
    subst e1
    exact ⟨a, c, rfl, Nat.zero_le _, fun i f hf => by cases hf⟩
  · cases e
    refine ⟨_, _, rfl, hnc, fun i f hf => ?_⟩
    have hi := (List.getElem?_eq_some_iff.1 hf).1
    have hx : vs[i]? = some vs[i] := List.getElem?_eq_getElem (by omega)
    obtain ⟨c0, c1⟩ := cellsB_get h1 i f _ hf hx
    refine ⟨g, 0, vs[i], rfl, (hlt g rfl).2, fun j u hj => ?_, Rb.own (h3 i f _ hf hx) rfl⟩
    match j, hj with
    | 0, hj =>
      cases hj
      have q := World.ownsRow.cellAt h2 (i * 2) (by omega)
      rw [c0] at q
      rw [Nat.zero_add, Nat.add_zero]
      exact q
    | 1, hj =>
      cases hj
      have q := World.ownsRow.cellAt h2 (i * 2 + 1) (by omega)
      rw [c1] at q
      rw [Nat.zero_add]
      exact q
    | j + 2, hj => cases hj
theorem Fb.front {w : World} {a : Option Addr} {n c : Nat} {fs gs : List Fl} (h : Fb w (.slice a n c) (fs ++ gs)) : Fb w (.slice a fs.length c) fs := by
  obtain ⟨a2, c2, e, hc, hh⟩ := h
  cases e
  rw [List.length_append] at hc
  exact ⟨_, _, rfl, by omega, fun i f hf => hh i f (by rw [List.getElem?_append_left (List.getElem?_eq_some_iff.1 hf).1]; exact hf)⟩
set_option maxRecDepth 100000 in
set_option maxHeartbeats 8000000 in
theorem twin_any {w : World} {v : Value} {fs : List Fl} (h : Fb w v fs) (hn : fs.length ≤ 3518437208780) (hb : ∀ f ∈ fs, f.2.length ≤ 140737488351232) :
    Calls Tryd.prog 7 #[v] w fun e w' => ∃ v', e = .returned v' ∧ Fb w' v' fs ∧ Below w.heap.size w w' := by
  obtain ⟨a, c, rfl, hc⟩ := h.form
  have HA := hide h
  have HBB := hide hb
  have F0 := hide (FlsO.nil w w.heap.size)
  have HFL := hide (show fs.take fs.length = fs from List.take_length)
  obtain ⟨N, hN⟩ : ∃ N, fs.length = N := ⟨_, rfl⟩
  have HN := hide hN
  rw [hN] at hn HA hc HFL ⊢
  clear h hb hN
  go_enter Tryd.func7, Tryd.ntmps7
  go_wp2_with fail
  go_loopg [3, 4] N (fun gq ov iv wr => ∃ i : Nat, iv = .int .i64 i ∧ i ≤ N ∧ N - i ≤ gq ∧ Hid (FlsO wr w.heap.size ov (fs.take i)) ∧ Hid (Below w.heap.size w wr))
  case atStart => exact ⟨0, by go_num, by omega, by omega, F0, hide (Below.refl _ _)⟩
  case round =>
    clear F0
    obtain ⟨i, rfl, hi, hgk, HF, HW⟩ := hrel
    by_cases hlt : i < N
    · have hin : (i : Int) < (N : Int) := by omega
      have hil : i < fs.length := by have := unhide HN; omega
      obtain ⟨b, o, x, y, rfl, hrg, hRb⟩ := (unhide HA).at2 hil
      have HTS := hide (List.take_succ_eq_append_getElem hil)
      have hbl := unhide HBB _ (List.getElem_mem hil)
      have htl : (fs.take i).length ≤ 3518437208780 := by rw [List.length_take]; omega
      generalize fs[i] = f at *
      have HS := hide (show ∀ X, Below w.heap.size w X → X.cell? ⟨b, o + i * 2, none⟩ = some (.string f.1) ∧ X.cell? ⟨b, o + i * 2 + 1, none⟩ = some (.slice x f.2.length y) from fun X hX => ⟨hrg X hX 0 _ rfl, hrg X hX 1 _ rfl⟩)
      have RM := hide (fun X (hX : Below w.heap.size w X) => roomy_any (hRb.later hX) hbl)
      have HLO := hide (unhide HW).size
      clear hrg hRb
      have hti : (fs.take i).length = i := by rw [List.length_take]; omega
      obtain ⟨oa, oc, eo⟩ := (unhide HF).form
      rw [hti] at eo
      subst eo
      have HTI := hide (show (fs.take i).length + 1 ≤ 3518437208883 by omega)
      clear hti htl
      have WD := hide (unhide HW).drew
      have FD := hide ((unhide HF).later (Below.refl wr.heap.size wr).drew)
      clear HW HF
      go_upto_region 5 with fail
      refine wp_region_held_drew (S := fun w' => w'.cell? ⟨b, o + i * 2, none⟩ = some (.string f.1) ∧ w'.cell? ⟨b, o + i * 2 + 1, none⟩ = some (.slice x f.2.length y)) (by kernel_rfl) ?_ (fun hHeld => ?_)
      · exact unhide HS _ (unhide WD)
      refine wpAnyH_take (i := 0) (oi := { dst := some 11, op := Op.move (Operand.tmp 3), type := 22, pos := "law.go:81", after := #[], guard := none }) (v := ?_) rfl (by kernel_rfl) (by kernel_rfl) (by kernel_rfl) (fun _ _ _ h => h) (Or.inl ⟨by rfl, ?_⟩) (by assumption) ?_
      rotate_left
      · intro w hSw; (try dsimp only at hSw); go_simp; (try with_reducible rfl)
      try simp only [Act.put, List.setIfInBounds_toArray, List.set_cons_zero, List.set_cons_succ]
      refine wpAnyH_take (i := 1) (oi := { dst := some 12, op := Op.move (Operand.tmp 0), type := 22, pos := "law.go:81", after := #[], guard := none }) (v := ?_) rfl (by kernel_rfl) (by kernel_rfl) (by kernel_rfl) (fun _ _ _ h => h) (Or.inl ⟨by rfl, ?_⟩) (by assumption) ?_
      rotate_left
      · intro w hSw; (try dsimp only at hSw); go_simp; (try with_reducible rfl)
      try simp only [Act.put, List.setIfInBounds_toArray, List.set_cons_zero, List.set_cons_succ]
      refine wpAnyH_take (i := 2) (oi := { dst := some 13, op := Op.move (Operand.tmp 4), type := 3, pos := "law.go:81", after := #[], guard := none }) (v := ?_) rfl (by kernel_rfl) (by kernel_rfl) (by kernel_rfl) (fun _ _ _ h => h) (Or.inl ⟨by rfl, ?_⟩) (by assumption) ?_
      rotate_left
      · intro w hSw; (try dsimp only at hSw); go_simp; (try with_reducible rfl)
      try simp only [Act.put, List.setIfInBounds_toArray, List.set_cons_zero, List.set_cons_succ]
      refine wpAnyH_take (i := 3) (oi := { dst := some 14, op := Op.indexAddr 22 (Operand.tmp 12) (Operand.tmp 13), type := 0, pos := "law.go:81", after := #[{ on := 1, ground := Ground.data }, { on := 2, ground := Ground.data }], guard := none }) (v := ?_) rfl (by kernel_rfl) (by kernel_rfl) (by kernel_rfl) (fun _ _ _ h => h) (Or.inl ⟨by rfl, ?_⟩) (by assumption) ?_
      rotate_left
      · intro w hSw; (try dsimp only at hSw); go_simp; (try with_reducible rfl)
      try simp only [Act.put, List.setIfInBounds_toArray, List.set_cons_zero, List.set_cons_succ]
      refine wpAnyH_take (i := 4) (oi := { dst := some 15, op := Op.fieldAddr 40 (Operand.tmp 14) 0, type := 0, pos := "law.go:81", after := #[{ on := 3, ground := Ground.data }], guard := none }) (v := ?_) rfl (by kernel_rfl) (by kernel_rfl) (by kernel_rfl) (fun _ _ _ h => h) (Or.inl ⟨by rfl, ?_⟩) (by assumption) ?_
      rotate_left
      · intro w hSw; (try dsimp only at hSw); go_simp; (try with_reducible rfl)
      try simp only [Act.put, List.setIfInBounds_toArray, List.set_cons_zero, List.set_cons_succ]
      refine wpAnyH_take (i := 5) (oi := { dst := some 16, op := Op.load 9 (Operand.tmp 15), type := 9, pos := "law.go:81", after := #[{ on := 4, ground := Ground.data }], guard := none }) (v := ?_) rfl (by kernel_rfl) (by kernel_rfl) (by kernel_rfl) (fun _ _ _ h => h) (Or.inl ⟨by rfl, ?_⟩) (by assumption) ?_
      rotate_left
      · intro w hSw; (try dsimp only at hSw); go_simp; (try with_reducible rfl)
      try simp only [Act.put, List.setIfInBounds_toArray, List.set_cons_zero, List.set_cons_succ]
      refine wpAnyH_take (i := 6) (oi := { dst := some 17, op := Op.move (Operand.tmp 0), type := 22, pos := "law.go:81", after := #[], guard := none }) (v := ?_) rfl (by kernel_rfl) (by kernel_rfl) (by kernel_rfl) (fun _ _ _ h => h) (Or.inl ⟨by rfl, ?_⟩) (by assumption) ?_
      rotate_left
      · intro w hSw; (try dsimp only at hSw); go_simp; (try with_reducible rfl)
      try simp only [Act.put, List.setIfInBounds_toArray, List.set_cons_zero, List.set_cons_succ]
      refine wpAnyH_take (i := 7) (oi := { dst := some 18, op := Op.move (Operand.tmp 4), type := 3, pos := "law.go:81", after := #[], guard := none }) (v := ?_) rfl (by kernel_rfl) (by kernel_rfl) (by kernel_rfl) (fun _ _ _ h => h) (Or.inl ⟨by rfl, ?_⟩) (by assumption) ?_
      rotate_left
      · intro w hSw; (try dsimp only at hSw); go_simp; (try with_reducible rfl)
      try simp only [Act.put, List.setIfInBounds_toArray, List.set_cons_zero, List.set_cons_succ]
      refine wpAnyH_take (i := 8) (oi := { dst := some 19, op := Op.indexAddr 22 (Operand.tmp 17) (Operand.tmp 18), type := 0, pos := "law.go:81", after := #[{ on := 6, ground := Ground.data }, { on := 7, ground := Ground.data }], guard := none }) (v := ?_) rfl (by kernel_rfl) (by kernel_rfl) (by kernel_rfl) (fun _ _ _ h => h) (Or.inl ⟨by rfl, ?_⟩) (by assumption) ?_
      rotate_left
      · intro w hSw; (try dsimp only at hSw); go_simp; (try with_reducible rfl)
      try simp only [Act.put, List.setIfInBounds_toArray, List.set_cons_zero, List.set_cons_succ]
      refine wpAnyH_take (i := 9) (oi := { dst := some 20, op := Op.fieldAddr 40 (Operand.tmp 19) 1, type := 0, pos := "law.go:81", after := #[{ on := 8, ground := Ground.data }], guard := none }) (v := ?_) rfl (by kernel_rfl) (by kernel_rfl) (by kernel_rfl) (fun _ _ _ h => h) (Or.inl ⟨by rfl, ?_⟩) (by assumption) ?_
      rotate_left
      · intro w hSw; (try dsimp only at hSw); go_simp; (try with_reducible rfl)
      try simp only [Act.put, List.setIfInBounds_toArray, List.set_cons_zero, List.set_cons_succ]
      refine wpAnyH_take (i := 10) (oi := { dst := some 21, op := Op.load 23 (Operand.tmp 20), type := 23, pos := "law.go:81", after := #[{ on := 9, ground := Ground.data }], guard := none }) (v := ?_) rfl (by kernel_rfl) (by kernel_rfl) (by kernel_rfl) (fun _ _ _ h => h) (Or.inl ⟨by rfl, ?_⟩) (by assumption) ?_
      rotate_left
      · intro w hSw; (try dsimp only at hSw); go_simp; (try with_reducible rfl)
      try simp only [Act.put, List.setIfInBounds_toArray, List.set_cons_zero, List.set_cons_succ]
      refine wpAnyH_ready (rs := [11]) (by kernel_rfl) (by simp) ?_
      refine AllReadyH.cons (o := { dst := some 22, op := Op.call { callee := Callee.value (Operand.func 10), args := #[Operand.tmp 21], argTypes := #[23] }, type := 23, pos := "law.go:81", after := #[{ on := 10, ground := Ground.data }], guard := none }) rfl (fun K hK => ?_) AllReadyH.nil
      go_simp
      refine (unhide RM _ (unhide WD)).mono ?_
      rintro e w1 ⟨da, dc, rfl, o1, b1⟩
      have W1 := hide ((unhide WD).trans (b1.mono (unhide HLO)))
      have F1 := hide ((unhide FD).later b1)
      obtain ⟨v9, w9, hap, HF9, HB9⟩ := (unhide F1).app (unhide W1).size (f := f) (o1.mono (unhide HLO)) (unhide HTI)
      have F9 := hide HF9
      have W9 := hide ((unhide W1).trans HB9)
      clear o1 b1 HF9 HB9 F1 FD WD RM
      go_wp2_with fail
      refine hK.out _ _ (unhide HS _ (unhide W1)) (fun hHeld => ?_)
      clear hK K
      try simp only [Act.put, List.setIfInBounds_toArray, List.set_cons_zero, List.set_cons_succ]
      refine wpAnyH_take (i := 12) (oi := { dst := some 23, op := Op.build 40 #[(0, Operand.tmp 16), (1, Operand.tmp 22)], type := 40, pos := "law.go:81", after := #[{ on := 5, ground := Ground.data }, { on := 11, ground := Ground.data }], guard := none }) (v := ?_) rfl (by kernel_rfl) (by kernel_rfl) (by kernel_rfl) (fun _ _ _ h => h) (Or.inl ⟨by rfl, ?_⟩) (by assumption) ?_
      rotate_left
      · intro w hSw; (try dsimp only at hSw); go_simp; (try with_reducible rfl)
      try simp only [Act.put, List.setIfInBounds_toArray, List.set_cons_zero, List.set_cons_succ]
      refine wpAnyH_ready (rs := [13]) (by kernel_rfl) (by simp) ?_
      refine AllReadyH.cons (o := { dst := some 24, op := Op.buildSlice 22 1 #[(0, Operand.tmp 23)], type := 22, pos := "law.go:81", after := #[{ on := 12, ground := Ground.data }], guard := none }) rfl (fun K hK => ?_) AllReadyH.nil
      go_simp
      refine hK.out _ _ (unhide HS _ ((unhide W1).alloc (unhide W1).size _)) (fun hHeld => ?_)
      clear hK K
      try simp only [Act.put, List.setIfInBounds_toArray, List.set_cons_zero, List.set_cons_succ]
      refine wpAnyH_ready (rs := [14]) (by kernel_rfl) (by simp) ?_
      refine AllReadyH.cons (o := { dst := some 25, op := Op.call { callee := Callee.builtin Builtin.append, args := #[Operand.tmp 11, Operand.tmp 24], argTypes := #[22, 22] }, type := 22, pos := "law.go:81", after := #[{ on := 0, ground := Ground.data }, { on := 13, ground := Ground.data }, { on := 11, ground := Ground.chain }], guard := none }) rfl (fun K hK => ?_) AllReadyH.nil
      refine wp_app_run _ _ _ 22 22 rfl _ _ rfl rfl _ _ hap ?_
      refine hK.out _ _ (unhide HS _ (unhide W9)) (fun hHeld => ?_)
      clear hK K
      try simp only [Act.put, List.setIfInBounds_toArray, List.set_cons_zero, List.set_cons_succ]
      refine wpAnyH_take (i := 15) (oi := { dst := some 3, op := Op.assign (Operand.tmp 25), type := 22, pos := "law.go:81", after := #[{ on := 14, ground := Ground.data }, { on := 14, ground := Ground.chain }, { on := 0, ground := Ground.phase }, { on := 1, ground := Ground.phase }, { on := 2, ground := Ground.phase }, { on := 3, ground := Ground.phase }, { on := 4, ground := Ground.phase }, { on := 5, ground := Ground.phase }, { on := 6, ground := Ground.phase }, { on := 7, ground := Ground.phase }, { on := 8, ground := Ground.phase }, { on := 9, ground := Ground.phase }, { on := 10, ground := Ground.phase }, { on := 11, ground := Ground.phase }, { on := 12, ground := Ground.phase }, { on := 13, ground := Ground.phase }, { on := 14, ground := Ground.phase }], guard := none }) (v := ?_) rfl (by kernel_rfl) (by kernel_rfl) (by kernel_rfl) (fun _ _ _ h => h) (Or.inl ⟨by rfl, ?_⟩) (by assumption) ?_
      rotate_left
      · intro w hSw; (try dsimp only at hSw); go_simp; (try with_reducible rfl)
      try simp only [Act.put, List.setIfInBounds_toArray, List.set_cons_zero, List.set_cons_succ]
      refine wpAnyH_done (by kernel_rfl) ?_ _
      rw [← unhide HTS] at F9
      clear hap
      go_wp2_with fail
      go_roundg (N - (i + 1))
      case measure => omega
      case rel => exact ⟨i + 1, by go_num, by omega, by omega, F9, W9⟩
    · obtain rfl : i = N := by omega
      rw [unhide HFL] at HF
      obtain ⟨oa, oc, eo⟩ := (unhide HF).form
      rw [unhide HN] at eo
      subst eo
      obtain ⟨v9, w9, hap, HF9, HB9⟩ := (unhide HF).app (unhide HW).size (f := (⟨#[98, 101, 104, 105, 110, 100]⟩, [])) (x := .slice none 0 0) (World.ownsRow_nil _ _ _ _) (by have := unhide HN; omega)
      have FB := hide (Fb.own HF9)
      have W9 := hide ((unhide HW).trans HB9)
      obtain ⟨a9, c9, rfl, hc9⟩ := (unhide FB).form
      clear HF9 HB9 HF HW
      rw [List.length_append, unhide HN, List.length_singleton] at FB hap hc9
      dsimp only at hap
      have hc9i : (i : Int) ≤ (c9 : Int) := by omega
      have hc9n : i ≤ c9 := by omega
      have FF := hide (unhide FB).front
      rw [unhide HN] at FF
      go_wp2_with (at_builtin; refine wpList_append_run rfl _ _ 22 rfl _ _ rfl rfl hap ?_; clear hap)
      go_ret
      exact ⟨_, rfl, unhide FF, unhide W9⟩
end Go.Proofs.YtjmomdnlibfbkaaDoor
