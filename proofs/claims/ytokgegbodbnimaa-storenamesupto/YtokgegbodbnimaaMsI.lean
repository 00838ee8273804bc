import Derived.Test.YtokgegbodbnimaaMsH
namespace Go.Proofs.Ytokgegbodbnimaa
open Go.RowKit Go.Maps

theorem wp_append_run {P : Program} {o : Oper} {a : Act} {w w' : World} {v' : Value} {K : Act → World → Prop} {Q : Exit → Act → World → Prop} (s x : Operand) (t : TypeId)
    (ho : o.op = .call { callee := .builtin .append, args := #[s, x], argTypes := #[t, t] }) (vs vx : Value) (hs : a.eval s = vs) (hx : a.eval x = vx)
    (hr : (Builtin.append_ #[t, t] o.type #[vs, vx]).run P w = .ok v' w') (h : K (a.put o.dst v') w') : o.wp P a w K Q := by
  unfold Oper.wp execOp
  simp only [ho, resolve, invoke, builtin, Sem.run_bind, Sem.run_pure, Result.andThen_ok, List.map_toArray, List.map_cons, List.map_nil, hs, hx, hr]
  exact h
set_option maxRecDepth 100000 in
set_option maxHeartbeats 8000000 in
theorem on_tr {W : World} {B k : Nat} {cur : Array Value} {d : Value} {u : Int} {H : Nm → Option Hd} {m : Cn} {x : Nm} {n : Int} (hB : W.heap[B]? = some (.cells cur 75 (0, 0))) (hd : cur[0]? = some d) (hu : cur[1]? = some (.int .i64 u)) (s : Sd W d H m k) (hk : k < maxLen) (ok : (Opn.tr x n).Ok W) (hz : ∀ f, H x = some f → f.n ≤ 70368744177664) :
    Calls Try.prog 101 #[.agg #[.string x, .int .i64 n], .pointer (some ⟨B, 0, none⟩)] W fun v W' => v = .returned (.tuple #[]) ∧ ∃ d2 H2, On W W' B cur d u H m k (Opn.tr x n) d2 H2 := by
  obtain ⟨W0, hW0⟩ : ∃ w, w = W.alloc (.cells #[.string x, .int .i64 n] 93) := ⟨_, rfl⟩
  have b0 : Below W.heap.size W W0 := by rw [hW0]; exact (Below.refl _ W).alloc (Nat.le_refl _) _
  have B0 := (b0.block B (blk_lt hB)).trans hB
  have s0 := s.later b0
  have c0 : W0.cell? ⟨W.heap.size, 0, none⟩ = some (.string x) := by rw [hW0]; go_simp
  have c1 : W0.cell? ⟨W.heap.size, 1, none⟩ = some (.int .i64 n) := by rw [hW0]; go_simp
  have hl0 : W.heap.size < W0.heap.size := by rw [hW0, World.size_alloc]; omega
  have cd := (cell_blk B0 0).1.trans hd
  have lk := fun t => look2 (s0.dm.later (bl_drewN W0 t)) (Nat.le_trans ok.1 (by decide) : x.size ≤ maxLen)
  have HP := hide (And.intro b0 (And.intro B0 (And.intro s0 (And.intro ok (And.intro hd (And.intro hu (And.intro s hB)))))))
  clear hB s ok b0 B0 s0 hd hu
  cases hH : H x with
  | none =>
    simp only [hH, hv0, Option.isSome_none] at lk
    go_enter Try.func101, Try.ntmps101
    go_upto_region 1 with fail
    rw [← hW0]
    clear hW0
    go_quiet (fail)
    go_wp2_with fail
    go_end0
    obtain ⟨b0, B0, s0, ok, hd, hu, s, hB⟩ := unhide HP
    refine ⟨rfl, d, H, on_same hB hd hu s (bl_t b0 (bl_drewN _ _)) ?_⟩
    simp only [Opn.e, Ope.on, s.sc.non x hH]
  | some f =>
    simp only [hH, hv0, hv, Option.isSome_some] at lk
    go_enter Try.func101, Try.ntmps101
    go_upto_region 1 with fail
    rw [← hW0]
    clear hW0
    go_quiet (fail)
    obtain ⟨b0, B0, s0, ok, hd, hu, s, hB⟩ := unhide HP
    clear HP
    obtain ⟨W3, hW3⟩ : ∃ w, w = W0.drewN nq := ⟨_, rfl⟩
    have b3 : Below W0.heap.size W0 W3.drew := by rw [hW3]; exact (bl_drewN _ _).drew
    have B3 := (b3.block B (blk_lt B0)).trans B0
    have s3 := s0.later b3
    have c03 : W3.cell? ⟨W.heap.size, 0, none⟩ = some (.string x) := by rw [hW3]; exact c0
    have c13 : W3.cell? ⟨W.heap.size, 1, none⟩ = some (.int .i64 n) := by rw [hW3]; exact c1
    have hl3 : W.heap.size < W3.drew.heap.size := Nat.lt_of_lt_of_le hl0 b3.size
    rw [← hW3]
    clear hW3 lk c0 c1 cd
    obtain ⟨bs, em, bf⟩ := s.sc.con x f hH
    have bf3 := (bf.later b0).later b3
    have e1 : ∀ f : Hd, hv f = .slice f.a f.n f.c := fun _ => rfl
    have C := first_any bf3 n ok.2 (hz f hH)
    have NX : ∀ (h : Hd) W1, Bt W1 h (tk bs n) → (∀ g, bk h = some g → W3.drew.heap.size ≤ g) → Below W3.drew.heap.size W3.drew W1 → W1.cell? ⟨W.heap.size, 0, none⟩ = some (.string x) ∧ Calls Try.prog 51 #[.pointer (some ⟨B, 0, none⟩), .string x, hv h] W1 fun v W2 => v = .returned (.tuple #[]) ∧ ∃ d2 H2, On W W2 B cur d u H m k (.tr x n) d2 H2 := fun h W1 q1 q2 q3 => by
      have B1 := (q3.block B (blk_lt B3)).trans B3
      have s1 := s3.later q3
      refine ⟨(q3.cell (p := ⟨W.heap.size, 0, none⟩) hl3).trans c03, ?_⟩
      refine (put_any (x := x) (f := h) (o := 0) B1 hd hu s1.dm hk ok.1).mono fun v W2 ⟨d', p0, p1, p2, p3, p4⟩ => ⟨p0, d', up H x (some h), ?_⟩
      have bb := bl_t b0 (bl_t b3 q3)
      have k2 : ∀ g cs, Bt W g cs → Bt W2 g cs := fun g cs b => (b.later bb).far B1 s1.dm p4
      have eo : (Opn.tr x n).e.on (m, u) = (up m x (some (tk bs n)), usP u (tk bs n).length bs.length) := by simp only [Opn.e, Ope.on, em]
      have l1 : ln0 (H x) = bs.length := by rw [hH]; exact bf.len.symm
      refine ⟨?_, ?_, ?_, ?_, fun g cs b _ => k2 g cs b, fun z h' hz => ?_, fun z hz => ?_⟩
      · rw [eo, p1, l1, ← q1.len]
      · rw [eo]
        refine ⟨p2, (s.sc.same (W2 := W2) fun _ g cs _ b => k2 g cs b).put (q1.far B1 s1.dm p4) fun z g c _ hz e2 e3 => ?_⟩
        obtain ⟨cs, _, bg⟩ := s.sc.con z g hz
        have a1 := bg.lt e2
        have a2 := q2 c e3
        omega
      · rcases p3 with p3 | p3
        · exact .inl p3
        · exact .inr ⟨_, p3, bb.size⟩
      · exact (Fx.of bb).next p4 fun c _ e => by
          rcases e with e | e
          · exact .inl e
          · exact .inr (.inl e)
      · rcases up_some hz with ⟨_, e⟩ | ⟨_, e⟩
        · exact .inr (.inl fun b eb => by
            have := q2 b (by rw [← e]; exact eb)
            omega)
        · exact .inl ⟨z, h', e, rfl, Nat.le_refl _⟩
      · exact up_other _ _ fun e => hz (by rw [e]; exact List.mem_singleton.2 rfl)
    have HN := hide NX
    have HC := hide C
    clear NX C hB B0 B3 s s0 s3 hd hu ok b0 b3 hk bf bf3 hz
    go_upto_region 3 with fail
    go_region_with (first | (go_at_call 53; refine (unhide HC).mono ?_; rintro x1 W1 ⟨h, rfl, q1, q2, q3⟩; obtain ⟨c5, C2⟩ := unhide HN h W1 q1 q2 q3; rw [e1] at C2 ⊢; clear q1 q2 q3) | (go_at_call 51; refine C2.mono ?_; rintro x1 W2 ⟨rfl, HE⟩; have HE := hide HE))
    all_goals
      go_end0
      exact ⟨rfl, unhide HE⟩
set_option maxRecDepth 100000 in
set_option maxHeartbeats 8000000 in
theorem on_ap {W : World} {B k : Nat} {cur : Array Value} {d : Value} {u : Int} {H : Nm → Option Hd} {m : Cn} {x : Nm} {fd : Hd} {cs : List Int} (hB : W.heap[B]? = some (.cells cur 75 (0, 0))) (hd : cur[0]? = some d) (hu : cur[1]? = some (.int .i64 u)) (s : Sd W d H m k) (hk : k < maxLen) (ok : (Opn.ap x fd cs).Ok W) (hz : ∀ f, H x = some f → f.n + cs.length ≤ 70368744177664) :
    Calls Try.prog 97 #[.agg #[.string x, .slice fd.a fd.n fd.c], .pointer (some ⟨B, 0, none⟩)] W fun v W' => v = .returned (.tuple #[]) ∧ ∃ d2 H2, On W W' B cur d u H m k (Opn.ap x fd cs) d2 H2 := by
  obtain ⟨W0, hW0⟩ : ∃ w, w = W.alloc (.cells #[.string x, .slice fd.a fd.n fd.c] 87) := ⟨_, rfl⟩
  have b0 : Below W.heap.size W W0 := by rw [hW0]; exact (Below.refl _ W).alloc (Nat.le_refl _) _
  have B0 := (b0.block B (blk_lt hB)).trans hB
  have s0 := s.later b0
  have c0 : W0.cell? ⟨W.heap.size, 0, none⟩ = some (.string x) := by rw [hW0]; go_simp
  have c1 : W0.cell? ⟨W.heap.size, 1, none⟩ = some (.slice fd.a fd.n fd.c) := by rw [hW0]; go_simp
  have hl0 : W.heap.size < W0.heap.size := by rw [hW0, World.size_alloc]; omega
  have cd := (cell_blk B0 0).1.trans hd
  have lk := fun t => look2 (s0.dm.later (bl_drewN W0 t)) (Nat.le_trans ok.1 (by decide) : x.size ≤ maxLen)
  have HP := hide (And.intro b0 (And.intro B0 (And.intro s0 (And.intro ok (And.intro hd (And.intro hu (And.intro s hB)))))))
  clear hB s ok b0 B0 s0 hd hu
  cases hH : H x with
  | none =>
    simp only [hH, hv0, Option.isSome_none] at lk
    go_enter Try.func97, Try.ntmps97
    go_upto_region 1 with fail
    rw [← hW0]
    clear hW0
    go_quiet (fail)
    go_wp2_with fail
    go_end0
    obtain ⟨b0, B0, s0, ok, hd, hu, s, hB⟩ := unhide HP
    refine ⟨rfl, d, H, on_same hB hd hu s (bl_t b0 (bl_drewN _ _)) ?_⟩
    simp only [Opn.e, Ope.on, s.sc.non x hH]
  | some f =>
    simp only [hH, hv0, hv, Option.isSome_some] at lk
    go_enter Try.func97, Try.ntmps97
    go_upto_region 1 with fail
    rw [← hW0]
    clear hW0
    go_quiet (fail)
    obtain ⟨b0, B0, s0, ok, hd, hu, s, hB⟩ := unhide HP
    clear HP
    obtain ⟨W3, hW3⟩ : ∃ w, w = W0.drewN nq := ⟨_, rfl⟩
    have b3 : Below W0.heap.size W0 W3.drew := by rw [hW3]; exact (bl_drewN _ _).drew
    have B3 := (b3.block B (blk_lt B0)).trans B0
    have s3 := s0.later b3
    have c03 : W3.cell? ⟨W.heap.size, 0, none⟩ = some (.string x) := by rw [hW3]; exact c0
    have c13 : W3.cell? ⟨W.heap.size, 1, none⟩ = some (.slice fd.a fd.n fd.c) := by rw [hW3]; exact c1
    have hl3 : W.heap.size < W3.drew.heap.size := Nat.lt_of_lt_of_le hl0 b3.size
    rw [← hW3]
    clear hW3 lk c0 c1 cd
    obtain ⟨bs, em, bf⟩ := s.sc.con x f hH
    have bf3 := (bf.later b0).later b3
    have e1 : ∀ f : Hd, hv f = .slice f.a f.n f.c := fun _ => rfl
    have hcl := ok.2.len
    obtain ⟨h, W1, hr, q1, q2, q3, q4, q5⟩ := app_in bf3 fd.a fd.c ((ok.2.later b0).later b3).rb (hz f hH) 22
    rw [hcl, e1, e1] at hr
    have NX : (W1.cell? ⟨W.heap.size, 0, none⟩ = some (.string x) ∧ W1.cell? ⟨W.heap.size, 1, none⟩ = some (.slice fd.a fd.n fd.c)) ∧ Calls Try.prog 51 #[.pointer (some ⟨B, 0, none⟩), .string x, .slice h.a h.n h.c] W1 fun v W2 => v = .returned (.tuple #[]) ∧ (W2.cell? ⟨W.heap.size, 0, none⟩ = some (.string x) ∧ W2.cell? ⟨W.heap.size, 1, none⟩ = some (.slice fd.a fd.n fd.c)) ∧ ∃ d2 H2, On W W2 B cur d u H m k (.ap x fd cs) d2 H2 := by
      have B1 := (q4.blk B (blk_lt B3) (fun e => bf3.neC e (by decide) B3)).trans B3
      have D1 := s3.dm.fx q4 fun b e q => bf3.neM q s3.dm e
      have CC : W1.cell? ⟨W.heap.size, 0, none⟩ = some (.string x) ∧ W1.cell? ⟨W.heap.size, 1, none⟩ = some (.slice fd.a fd.n fd.c) := by
        have eb : W1.heap[W.heap.size]? = W3.heap[W.heap.size]? := q4.blk W.heap.size hl3 fun q => by
          have := bf.lt q
          omega
        rw [← c03, ← c13]
        unfold World.cell?
        simp only [eb]
        exact ⟨trivial, trivial⟩
      refine ⟨CC, ?_⟩
      rw [← e1]
      refine (put_any (x := x) (f := h) (o := 0) B1 hd hu D1 hk ok.1).mono fun v W2 ⟨d', p0, p1, p2, p3, p4⟩ => ⟨p0, ?_, d', up H x (some h), ?_⟩
      · have eb : W2.heap[W.heap.size]? = W1.heap[W.heap.size]? := p4.blk W.heap.size (Nat.lt_of_lt_of_le hl3 q4.size) fun q => by
          rcases q with q | q
          · have := blk_lt hB
            omega
          · have := s.dm.lt q
            omega
        rw [← CC.1, ← CC.2]
        unfold World.cell?
        simp only [eb]
        exact ⟨trivial, trivial⟩
      have bb := bl_t b0 b3
      have k2 : ∀ g cs, Bt W g cs → Blw H g → Bt W2 g cs := fun g cs b hb => (q5 g cs (b.later bb) fun c e2 e3 => hb x f c hH e3 e2).far B1 D1 p4
      have eo : (Opn.ap x fd cs).e.on (m, u) = (up m x (some (bs ++ cs)), usP u (bs ++ cs).length bs.length) := by simp only [Opn.e, Ope.on, em]
      have l1 : ln0 (H x) = bs.length := by rw [hH]; exact bf.len.symm
      refine ⟨?_, ?_, ?_, ?_, k2, fun z h' hz => ?_, fun z hz => ?_⟩
      · rw [eo, p1, l1, ← q1.len]
      · rw [eo]
        refine ⟨p2, (s.sc.same (W2 := W2) fun _ g cs hg b => k2 g cs b (s.sc.blw hg)).put (q1.far B1 D1 p4) fun z g c hne hz e2 e3 => ?_⟩
        rcases q3 with q3 | q3
        · exact hne (s.sc.inj z x g f c hz hH e2 (by rw [← q3]; exact e3))
        · obtain ⟨cs2, _, bg⟩ := s.sc.con z g hz
          have a1 := bg.lt e2
          rw [q3] at e3
          cases e3
          have := b3.size
          have := b0.size
          omega
      · rcases p3 with p3 | p3
        · exact .inl p3
        · refine .inr ⟨_, p3, ?_⟩
          have := q4.size
          have := bb.size
          omega
      · refine ((Fx.of bb).next q4 fun c _ e => .inr (.inr ⟨x, f, hH, e⟩)).next p4 fun c _ e => ?_
        rcases e with e | e
        · exact .inl e
        · exact .inr (.inl e)
      · rcases up_some hz with ⟨_, e⟩ | ⟨_, e⟩
        · rcases q3 with q3 | q3
          · exact .inl ⟨x, f, hH, by rw [e]; exact q3, by rw [e, q2]; omega⟩
          · exact .inr (.inl fun b eb => by
              rw [e, q3] at eb
              cases eb
              exact bb.size)
        · exact .inl ⟨z, h', e, rfl, Nat.le_refl _⟩
      · exact up_other _ _ fun e => hz (by rw [e]; exact List.mem_singleton.2 rfl)
    obtain ⟨⟨c5, c6⟩, C2⟩ := NX
    clear hB B0 B3 s s0 s3 hd hu ok b0 b3 hk bf bf3 hz q1 q2 q3 q4 q5 e1
    go_upto_region 3 with fail
    refine wp_region_held_drew (S := fun w' => w'.cell? ⟨W.heap.size, 0, none⟩ = some (.string x) ∧ w'.cell? ⟨W.heap.size, 1, none⟩ = some (.slice fd.a fd.n fd.c)) (by kernel_rfl) ?_ (fun hHeld => ?_)
    · exact ⟨c03, c13⟩
    refine wpAnyH_take (i := 0) (oi := { dst := some 17, op := Op.move (Operand.tmp 1), type := 82, pos := "operation.go:37", after := #[], guard := none }) (v := ?_) rfl (by kernel_rfl) (by kernel_rfl) (by kernel_rfl) (fun _ _ _ h => h) (Or.inl ⟨by rfl, ?_⟩) (by assumption) ?_
    rotate_left
    · intro w hSw; (try dsimp only at hSw); go_simp; (try with_reducible rfl)
    try simp only [Act.put, List.setIfInBounds_toArray, List.set_cons_zero, List.set_cons_succ]
    refine wpAnyH_take (i := 1) (oi := { dst := some 18, op := Op.fieldAddr 87 (Operand.tmp 2) 0, type := 0, pos := "operation.go:37", after := #[], guard := none }) (v := ?_) rfl (by kernel_rfl) (by kernel_rfl) (by kernel_rfl) (fun _ _ _ h => h) (Or.inl ⟨by rfl, ?_⟩) (by assumption) ?_
    rotate_left
    · intro w hSw; (try dsimp only at hSw); go_simp; (try with_reducible rfl)
    try simp only [Act.put, List.setIfInBounds_toArray, List.set_cons_zero, List.set_cons_succ]
    refine wpAnyH_take (i := 2) (oi := { dst := some 19, op := Op.load 9 (Operand.tmp 18), type := 9, pos := "operation.go:37", after := #[{ on := 1, ground := Ground.data }], guard := none }) (v := ?_) rfl (by kernel_rfl) (by kernel_rfl) (by kernel_rfl) (fun _ _ _ h => h) (Or.inl ⟨by rfl, ?_⟩) (by assumption) ?_
    rotate_left
    · intro w hSw; (try dsimp only at hSw); go_simp; (try with_reducible rfl)
    try simp only [Act.put, List.setIfInBounds_toArray, List.set_cons_zero, List.set_cons_succ]
    refine wpAnyH_take (i := 3) (oi := { dst := some 20, op := Op.move (Operand.tmp 4), type := 22, pos := "operation.go:37", after := #[], guard := none }) (v := ?_) rfl (by kernel_rfl) (by kernel_rfl) (by kernel_rfl) (fun _ _ _ h => h) (Or.inl ⟨by rfl, ?_⟩) (by assumption) ?_
    rotate_left
    · intro w hSw; (try dsimp only at hSw); go_simp; (try with_reducible rfl)
    try simp only [Act.put, List.setIfInBounds_toArray, List.set_cons_zero, List.set_cons_succ]
    refine wpAnyH_take (i := 4) (oi := { dst := some 21, op := Op.fieldAddr 87 (Operand.tmp 2) 1, type := 0, pos := "operation.go:37", after := #[], guard := none }) (v := ?_) rfl (by kernel_rfl) (by kernel_rfl) (by kernel_rfl) (fun _ _ _ h => h) (Or.inl ⟨by rfl, ?_⟩) (by assumption) ?_
    rotate_left
    · intro w hSw; (try dsimp only at hSw); go_simp; (try with_reducible rfl)
    try simp only [Act.put, List.setIfInBounds_toArray, List.set_cons_zero, List.set_cons_succ]
    refine wpAnyH_take (i := 5) (oi := { dst := some 22, op := Op.load 22 (Operand.tmp 21), type := 22, pos := "operation.go:37", after := #[{ on := 4, ground := Ground.data }], guard := none }) (v := ?_) rfl (by kernel_rfl) (by kernel_rfl) (by kernel_rfl) (fun _ _ _ h => h) (Or.inl ⟨by rfl, ?_⟩) (by assumption) ?_
    rotate_left
    · intro w hSw; (try dsimp only at hSw); go_simp; (try with_reducible rfl)
    try simp only [Act.put, List.setIfInBounds_toArray, List.set_cons_zero, List.set_cons_succ]
    refine wpAnyH_ready (rs := [6]) (by kernel_rfl) (by simp) ?_
    refine AllReadyH.cons (o := { dst := some 23, op := Op.call { callee := Callee.builtin Builtin.append, args := #[Operand.tmp 20, Operand.tmp 22], argTypes := #[22, 22] }, type := 22, pos := "operation.go:37", after := #[{ on := 3, ground := Ground.data }, { on := 5, ground := Ground.data }], guard := none }) rfl (fun K hK => ?_) AllReadyH.nil
    refine wp_append_run _ _ 22 rfl _ _ rfl rfl hr ?_
    refine hK.out _ _ ?_ (fun hHeld0 => ?_)
    · exact ⟨c5, c6⟩
    clear hHeld
    clear hK K
    try simp only [Act.put, List.setIfInBounds_toArray, List.set_cons_zero, List.set_cons_succ]
    refine wpAnyH_ready (rs := [7]) (by kernel_rfl) (by simp) ?_
    refine AllReadyH.cons (o := { dst := some 24, op := Op.call { callee := Callee.value (Operand.func 51), args := #[Operand.tmp 17, Operand.tmp 19, Operand.tmp 23], argTypes := #[82, 9, 22] }, type := 0, pos := "operation.go:37", after := #[{ on := 0, ground := Ground.data }, { on := 2, ground := Ground.data }, { on := 6, ground := Ground.data }, { on := 6, ground := Ground.chain }], guard := none }) rfl (fun K hK => ?_) AllReadyH.nil
    go_simp
    refine C2.mono ?_
    rintro x1 W2 ⟨rfl, HS, HE⟩
    have HE := hide HE
    have HS := hide HS
    go_wp2_with fail
    refine hK.out _ _ (unhide HS) (fun hHeld1 => ?_)
    clear hK K
    try simp only [Act.put, List.setIfInBounds_toArray, List.set_cons_zero, List.set_cons_succ]
    refine wpAnyH_done (by kernel_rfl) ?_ _
    go_end0
    exact ⟨rfl, unhide HE⟩
end Go.Proofs.Ytokgegbodbnimaa
