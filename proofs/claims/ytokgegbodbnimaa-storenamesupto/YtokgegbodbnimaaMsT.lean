import Derived.Test.YtokgegbodbnimaaMsS
namespace Go.Proofs.Ytokgegbodbnimaa
open Go.RowKit Go.Maps

/-- WHAT A CRASH LEAVES OF AN OPERATION. -/
def Ope.rem (o : Ope) (k : Int) : Option Ope := if k < 1 then none else if k = 1 then some o else (match o with | .wr x bs => some (.wr x (tk bs (k - 2))) | .ap x bs => some (.ap x (tk bs (k - 2))) | _ => none)
def ifv : Option Opn → Value
  | none => .nilIface
  | some o => .iface o.ty o.ag
/-- WHAT IS LEFT, AS IT LIES. -/
structure Rm (W W2 : World) (o : Opn) (k : Int) (r : Option Opn) : Prop where
  e : r.map Opn.e = o.e.rem k
  ok : ∀ o', r = some o' → o'.Ok W2
  fr : ∀ o', r = some o' → o' = o ∨ ∀ f b, o'.od = some f → bk f = some b → W.heap.size ≤ b
  nm : ∀ o', r = some o' → o'.nms = o.nms
  by_ : ∀ o', r = some o' → o'.e.bytes ≤ o.e.bytes
  bel : Below W.heap.size W W2
theorem as80_80 (v : Value) (w : World) : (Instr.typeAssert (.iface 80 v) 84 80 true).run Try.prog w = .ok (.tuple #[v, .bool true]) w := by kernel_rfl
theorem as87_80 (v : Value) (w : World) : (Instr.typeAssert (.iface 87 v) 84 80 true).run Try.prog w = .ok (.tuple #[.agg #[.string ⟨#[]⟩, .slice none 0 0], .bool false]) w := by kernel_rfl
theorem as91_80 (v : Value) (w : World) : (Instr.typeAssert (.iface 91 v) 84 80 true).run Try.prog w = .ok (.tuple #[.agg #[.string ⟨#[]⟩, .slice none 0 0], .bool false]) w := by kernel_rfl
theorem as93_80 (v : Value) (w : World) : (Instr.typeAssert (.iface 93 v) 84 80 true).run Try.prog w = .ok (.tuple #[.agg #[.string ⟨#[]⟩, .slice none 0 0], .bool false]) w := by kernel_rfl
theorem as95_80 (v : Value) (w : World) : (Instr.typeAssert (.iface 95 v) 84 80 true).run Try.prog w = .ok (.tuple #[.agg #[.string ⟨#[]⟩, .slice none 0 0], .bool false]) w := by kernel_rfl
theorem as80_87 (v : Value) (w : World) : (Instr.typeAssert (.iface 80 v) 84 87 true).run Try.prog w = .ok (.tuple #[.agg #[.string ⟨#[]⟩, .slice none 0 0], .bool false]) w := by kernel_rfl
theorem as87_87 (v : Value) (w : World) : (Instr.typeAssert (.iface 87 v) 84 87 true).run Try.prog w = .ok (.tuple #[v, .bool true]) w := by kernel_rfl
theorem as91_87 (v : Value) (w : World) : (Instr.typeAssert (.iface 91 v) 84 87 true).run Try.prog w = .ok (.tuple #[.agg #[.string ⟨#[]⟩, .slice none 0 0], .bool false]) w := by kernel_rfl
theorem as93_87 (v : Value) (w : World) : (Instr.typeAssert (.iface 93 v) 84 87 true).run Try.prog w = .ok (.tuple #[.agg #[.string ⟨#[]⟩, .slice none 0 0], .bool false]) w := by kernel_rfl
theorem as95_87 (v : Value) (w : World) : (Instr.typeAssert (.iface 95 v) 84 87 true).run Try.prog w = .ok (.tuple #[.agg #[.string ⟨#[]⟩, .slice none 0 0], .bool false]) w := by kernel_rfl
theorem tk_len (bs : List Int) (n : Int) : (tk bs n).length ≤ bs.length := by
  unfold tk
  rw [List.length_take]
  omega
set_option maxRecDepth 100000 in
set_option maxHeartbeats 8000000 in
theorem remnant_any {W : World} (o : Opn) (k : Int) (hk : k ≤ 9223372036854775807) (ok : o.Ok W) (hz : o.e.bytes ≤ 70368744177664) :
    Calls Try.prog 45 #[.iface o.ty o.ag, .int .i64 k] W fun v W' => ∃ r, v = .returned (ifv r) ∧ Rm W W' o k r := by
  by_cases h1 : k < 1
  · have er : o.e.rem k = none := by unfold Ope.rem; rw [if_pos h1]
    have HR := hide (show Rm W W o k none from ⟨er.symm, fun _ q => (by cases q), fun _ q => (by cases q), fun _ q => (by cases q), fun _ q => (by cases q), Below.refl _ _⟩)
    clear er
    go_enter Try.func45, Try.ntmps45
    go_wp2_with fail
    go_ret
    exact ⟨none, rfl, unhide HR⟩
  · by_cases h2 : k = 1
    · subst h2
      have er : o.e.rem 1 = some o.e := by unfold Ope.rem; rw [if_neg (by decide), if_pos rfl]
      have HR := hide (show Rm W W o 1 (some o) from ⟨er.symm, fun _ q => (by cases q; exact ok), fun _ q => (by cases q; exact .inl rfl), fun _ q => (by cases q; rfl), fun _ q => (by cases q; exact Nat.le_refl _), Below.refl _ _⟩)
      clear er
      go_enter Try.func45, Try.ntmps45
      go_wp2_with fail
      go_ret
      exact ⟨some o, rfl, unhide HR⟩
    · have e0 : ∀ q : Ope, q.rem k = (match q with | .wr x bs => some (.wr x (tk bs (k - 2))) | .ap x bs => some (.ap x (tk bs (k - 2))) | _ => none) := fun q => by unfold Ope.rem; rw [if_neg h1, if_neg h2]
      have hw : wrap64 (k - 2) = k - 2 := wrap64_id (by omega) (by omega)
      cases o with
      | wr x f bs =>
        show Calls Try.prog 45 #[.iface 80 (.agg #[.string x, .slice f.a f.n f.c]), .int .i64 k] W _
        obtain ⟨W0, hW0⟩ : ∃ w, w = (W.alloc (.cells #[.string x, .slice f.a f.n f.c] 80)) := ⟨_, rfl⟩
        have b0 : Below W.heap.size W W0.drew := by rw [hW0]; exact ((Below.refl _ W).alloc (Nat.le_refl _) _).drew
        have c0 : W0.cell? ⟨W.heap.size, 0, none⟩ = some (.string x) := by rw [hW0]; go_simp
        have c1 : W0.cell? ⟨W.heap.size, 1, none⟩ = some (.slice f.a f.n f.c) := by rw [hW0]; go_simp
        have hl0 : W.heap.size < W0.drew.heap.size := by rw [hW0]; show _ < (W.alloc _).heap.size; rw [World.size_alloc]; omega
        have C := first_any (ok.2.later b0) (k - 2) (by omega) (by rw [← ok.2.len]; exact hz)
        have NX : ∀ (h : Hd) W1, Bt W1 h (tk bs (k - 2)) → (∀ g, bk h = some g → W0.drew.heap.size ≤ g) → Below W0.drew.heap.size W0.drew W1 → (W1.cell? ⟨W.heap.size, 0, none⟩ = some (.string x) ∧ W1.cell? ⟨W.heap.size, 1, none⟩ = some (.slice f.a f.n f.c)) ∧ Rm W W1 (.wr x f bs) k (some (.wr x h (tk bs (k - 2)))) := fun h W1 q1 q2 q3 => ⟨⟨(q3.cell (p := ⟨W.heap.size, 0, none⟩) hl0).trans c0, (q3.cell (p := ⟨W.heap.size, 1, none⟩) hl0).trans c1⟩, (e0 (Ope.wr x bs)).symm, fun _ q => (by cases q; exact ⟨ok.1, q1⟩), fun _ q => (by
          cases q
          refine .inr fun g b e1 e2 => ?_
          cases e1
          have := q2 b e2
          omega), fun _ q => (by cases q; rfl), fun _ q => (by cases q; exact tk_len _ _), bl_t b0 q3⟩
        have HN := hide NX
        have e1 : ∀ f : Hd, hv f = .slice f.a f.n f.c := fun _ => rfl
        have HC := hide C
        have ay := as80_80
        clear NX C b0 ok e0 hl0
        go_enter Try.func45, Try.ntmps45
        go_upto_region 10 with fail
        rw [← hW0]
        clear hW0
        refine wp_region_held_drew (S := fun w' => w'.cell? ⟨W.heap.size, 0, none⟩ = some (.string x) ∧ w'.cell? ⟨W.heap.size, 1, none⟩ = some (.slice f.a f.n f.c)) (by kernel_rfl) ?_ (fun hHeld => ?_)
        · exact ⟨c0, c1⟩
        refine wpAnyH_take (i := 0) (oi := { dst := some 17, op := Op.fieldAddr 80 (Operand.tmp 5) 0, type := 0, pos := "operation.go:72", after := #[], guard := none }) (v := ?_) rfl (by kernel_rfl) (by kernel_rfl) (by kernel_rfl) (fun _ _ _ h => h) (Or.inl ⟨by rfl, ?_⟩) (by assumption) ?_
        rotate_left
        · intro w hSw; (try dsimp only at hSw); go_simp; (try with_reducible rfl)
        try simp only [Act.put, List.setIfInBounds_toArray, List.set_cons_zero, List.set_cons_succ]
        refine wpAnyH_take (i := 1) (oi := { dst := some 18, op := Op.load 9 (Operand.tmp 17), type := 9, pos := "operation.go:72", after := #[{ on := 0, ground := Ground.data }], guard := none }) (v := ?_) rfl (by kernel_rfl) (by kernel_rfl) (by kernel_rfl) (fun _ _ _ h => h) (Or.inl ⟨by rfl, ?_⟩) (by assumption) ?_
        rotate_left
        · intro w hSw; (try dsimp only at hSw); go_simp; (try with_reducible rfl)
        try simp only [Act.put, List.setIfInBounds_toArray, List.set_cons_zero, List.set_cons_succ]
        refine wpAnyH_take (i := 2) (oi := { dst := some 19, op := Op.fieldAddr 80 (Operand.tmp 5) 1, type := 0, pos := "operation.go:72", after := #[], guard := none }) (v := ?_) rfl (by kernel_rfl) (by kernel_rfl) (by kernel_rfl) (fun _ _ _ h => h) (Or.inl ⟨by rfl, ?_⟩) (by assumption) ?_
        rotate_left
        · intro w hSw; (try dsimp only at hSw); go_simp; (try with_reducible rfl)
        try simp only [Act.put, List.setIfInBounds_toArray, List.set_cons_zero, List.set_cons_succ]
        refine wpAnyH_take (i := 3) (oi := { dst := some 20, op := Op.load 22 (Operand.tmp 19), type := 22, pos := "operation.go:72", after := #[{ on := 2, ground := Ground.data }], guard := none }) (v := ?_) rfl (by kernel_rfl) (by kernel_rfl) (by kernel_rfl) (fun _ _ _ h => h) (Or.inl ⟨by rfl, ?_⟩) (by assumption) ?_
        rotate_left
        · intro w hSw; (try dsimp only at hSw); go_simp; (try with_reducible rfl)
        try simp only [Act.put, List.setIfInBounds_toArray, List.set_cons_zero, List.set_cons_succ]
        refine wpAnyH_take (i := 4) (oi := { dst := some 21, op := Op.move (Operand.tmp 1), type := 3, pos := "operation.go:72", after := #[], guard := none }) (v := ?_) rfl (by kernel_rfl) (by kernel_rfl) (by kernel_rfl) (fun _ _ _ h => h) (Or.inl ⟨by rfl, ?_⟩) (by assumption) ?_
        rotate_left
        · intro w hSw; (try dsimp only at hSw); go_simp; (try with_reducible rfl)
        try simp only [Act.put, List.setIfInBounds_toArray, List.set_cons_zero, List.set_cons_succ]
        refine wpAnyH_take (i := 5) (oi := { dst := some 22, op := Op.binOp BinOp.sub 3 (Operand.tmp 21) (Operand.const (Value.int IntKind.i64 2)) 3, type := 3, pos := "operation.go:72", after := #[{ on := 4, ground := Ground.data }], guard := none }) (v := .int .i64 (k - 2)) rfl (by kernel_rfl) (by kernel_rfl) (by kernel_rfl) (fun _ _ _ h => h) (Or.inl ⟨by rfl, ?_⟩) (by assumption) ?_
        · intro w hSw; go_simp; unfold IntKind.wrap; simp [IntKind.bits, IntKind.signed]; omega
        try simp only [Act.put, List.setIfInBounds_toArray, List.set_cons_zero, List.set_cons_succ]
        refine wpAnyH_ready (rs := [6]) (by kernel_rfl) (by simp) ?_
        refine AllReadyH.cons (o := { dst := some 23, op := Op.call { callee := Callee.value (Operand.func 53), args := #[Operand.tmp 20, Operand.tmp 22], argTypes := #[22, 3] }, type := 22, pos := "operation.go:72", after := #[{ on := 3, ground := Ground.data }, { on := 5, ground := Ground.data }], guard := none }) rfl (fun K hK => ?_) AllReadyH.nil
        go_simp
        refine (unhide HC).mono ?_
        rintro x1 W1 ⟨h, rfl, q1, q2, q3⟩
        obtain ⟨c5, HE⟩ := unhide HN h W1 q1 q2 q3
        have HE := hide HE
        rw [e1]
        clear q1 q2 q3
        go_wp2_with fail
        refine hK.out _ _ c5 (fun hHeld1 => ?_)
        clear hHeld
        clear hK K
        try simp only [Act.put, List.setIfInBounds_toArray, List.set_cons_zero, List.set_cons_succ]
        refine wpAnyH_take (i := 7) (oi := { dst := some 24, op := Op.build 80 #[(0, Operand.tmp 18), (1, Operand.tmp 23)], type := 80, pos := "operation.go:72", after := #[{ on := 1, ground := Ground.data }, { on := 6, ground := Ground.data }], guard := none }) (v := ?_) rfl (by kernel_rfl) (by kernel_rfl) (by kernel_rfl) (fun _ _ _ h => h) (Or.inl ⟨by rfl, ?_⟩) (by assumption) ?_
        rotate_left
        · intro w hSw; (try dsimp only at hSw); go_simp; (try with_reducible rfl)
        try simp only [Act.put, List.setIfInBounds_toArray, List.set_cons_zero, List.set_cons_succ]
        refine wpAnyH_take (i := 8) (oi := { dst := some 25, op := Op.makeInterface 80 (Operand.tmp 24), type := 84, pos := "operation.go:72", after := #[{ on := 7, ground := Ground.data }], guard := none }) (v := ?_) rfl (by kernel_rfl) (by kernel_rfl) (by kernel_rfl) (fun _ _ _ h => h) (Or.inl ⟨by rfl, ?_⟩) (by assumption) ?_
        rotate_left
        · intro w hSw; (try dsimp only at hSw); go_simp; (try with_reducible rfl)
        try simp only [Act.put, List.setIfInBounds_toArray, List.set_cons_zero, List.set_cons_succ]
        refine wpAnyH_take (i := 9) (oi := { dst := some 4, op := Op.assign (Operand.tmp 25), type := 84, pos := "operation.go:72", after := #[{ on := 8, ground := Ground.data }, { on := 6, ground := Ground.chain }, { on := 0, ground := Ground.phase }, { on := 1, ground := Ground.phase }, { on := 2, ground := Ground.phase }, { on := 3, ground := Ground.phase }, { on := 4, ground := Ground.phase }, { on := 5, ground := Ground.phase }, { on := 6, ground := Ground.phase }, { on := 7, ground := Ground.phase }, { on := 8, ground := Ground.phase }], guard := none }) (v := ?_) rfl (by kernel_rfl) (by kernel_rfl) (by kernel_rfl) (fun _ _ _ h => h) (Or.inl ⟨by rfl, ?_⟩) (by assumption) ?_
        rotate_left
        · intro w hSw; (try dsimp only at hSw); go_simp; (try with_reducible rfl)
        try simp only [Act.put, List.setIfInBounds_toArray, List.set_cons_zero, List.set_cons_succ]
        refine wpAnyH_done (by kernel_rfl) ?_ _
        go_wp2_with fail
        go_ret
        exact ⟨some (.wr x h (tk bs (k - 2))), rfl, unhide HE⟩
      | ap x f bs =>
        show Calls Try.prog 45 #[.iface 87 (.agg #[.string x, .slice f.a f.n f.c]), .int .i64 k] W _
        obtain ⟨W0, hW0⟩ : ∃ w, w = (W.alloc (.cells #[.string x, .slice f.a f.n f.c] 87)) := ⟨_, rfl⟩
        have b0 : Below W.heap.size W W0.drew := by rw [hW0]; exact ((Below.refl _ W).alloc (Nat.le_refl _) _).drew
        have c0 : W0.cell? ⟨W.heap.size, 0, none⟩ = some (.string x) := by rw [hW0]; go_simp
        have c1 : W0.cell? ⟨W.heap.size, 1, none⟩ = some (.slice f.a f.n f.c) := by rw [hW0]; go_simp
        have hl0 : W.heap.size < W0.drew.heap.size := by rw [hW0]; show _ < (W.alloc _).heap.size; rw [World.size_alloc]; omega
        have C := first_any (ok.2.later b0) (k - 2) (by omega) (by rw [← ok.2.len]; exact hz)
        have NX : ∀ (h : Hd) W1, Bt W1 h (tk bs (k - 2)) → (∀ g, bk h = some g → W0.drew.heap.size ≤ g) → Below W0.drew.heap.size W0.drew W1 → (W1.cell? ⟨W.heap.size, 0, none⟩ = some (.string x) ∧ W1.cell? ⟨W.heap.size, 1, none⟩ = some (.slice f.a f.n f.c)) ∧ Rm W W1 (.ap x f bs) k (some (.ap x h (tk bs (k - 2)))) := fun h W1 q1 q2 q3 => ⟨⟨(q3.cell (p := ⟨W.heap.size, 0, none⟩) hl0).trans c0, (q3.cell (p := ⟨W.heap.size, 1, none⟩) hl0).trans c1⟩, (e0 (Ope.ap x bs)).symm, fun _ q => (by cases q; exact ⟨ok.1, q1⟩), fun _ q => (by
          cases q
          refine .inr fun g b e1 e2 => ?_
          cases e1
          have := q2 b e2
          omega), fun _ q => (by cases q; rfl), fun _ q => (by cases q; exact tk_len _ _), bl_t b0 q3⟩
        have HN := hide NX
        have e1 : ∀ f : Hd, hv f = .slice f.a f.n f.c := fun _ => rfl
        have HC := hide C
        have ay := as87_87
        have a80 := as87_80
        clear NX C b0 ok e0 hl0
        go_enter Try.func45, Try.ntmps45
        go_upto_region 13 with fail
        rw [← hW0]
        clear hW0
        refine wp_region_held_drew (S := fun w' => w'.cell? ⟨W.heap.size, 0, none⟩ = some (.string x) ∧ w'.cell? ⟨W.heap.size, 1, none⟩ = some (.slice f.a f.n f.c)) (by kernel_rfl) ?_ (fun hHeld => ?_)
        · exact ⟨c0, c1⟩
        refine wpAnyH_take (i := 0) (oi := { dst := some 29, op := Op.fieldAddr 87 (Operand.tmp 6) 0, type := 0, pos := "operation.go:74", after := #[], guard := none }) (v := ?_) rfl (by kernel_rfl) (by kernel_rfl) (by kernel_rfl) (fun _ _ _ h => h) (Or.inl ⟨by rfl, ?_⟩) (by assumption) ?_
        rotate_left
        · intro w hSw; (try dsimp only at hSw); go_simp; (try with_reducible rfl)
        try simp only [Act.put, List.setIfInBounds_toArray, List.set_cons_zero, List.set_cons_succ]
        refine wpAnyH_take (i := 1) (oi := { dst := some 30, op := Op.load 9 (Operand.tmp 29), type := 9, pos := "operation.go:74", after := #[{ on := 0, ground := Ground.data }], guard := none }) (v := ?_) rfl (by kernel_rfl) (by kernel_rfl) (by kernel_rfl) (fun _ _ _ h => h) (Or.inl ⟨by rfl, ?_⟩) (by assumption) ?_
        rotate_left
        · intro w hSw; (try dsimp only at hSw); go_simp; (try with_reducible rfl)
        try simp only [Act.put, List.setIfInBounds_toArray, List.set_cons_zero, List.set_cons_succ]
        refine wpAnyH_take (i := 2) (oi := { dst := some 31, op := Op.fieldAddr 87 (Operand.tmp 6) 1, type := 0, pos := "operation.go:74", after := #[], guard := none }) (v := ?_) rfl (by kernel_rfl) (by kernel_rfl) (by kernel_rfl) (fun _ _ _ h => h) (Or.inl ⟨by rfl, ?_⟩) (by assumption) ?_
        rotate_left
        · intro w hSw; (try dsimp only at hSw); go_simp; (try with_reducible rfl)
        try simp only [Act.put, List.setIfInBounds_toArray, List.set_cons_zero, List.set_cons_succ]
        refine wpAnyH_take (i := 3) (oi := { dst := some 32, op := Op.load 22 (Operand.tmp 31), type := 22, pos := "operation.go:74", after := #[{ on := 2, ground := Ground.data }], guard := none }) (v := ?_) rfl (by kernel_rfl) (by kernel_rfl) (by kernel_rfl) (fun _ _ _ h => h) (Or.inl ⟨by rfl, ?_⟩) (by assumption) ?_
        rotate_left
        · intro w hSw; (try dsimp only at hSw); go_simp; (try with_reducible rfl)
        try simp only [Act.put, List.setIfInBounds_toArray, List.set_cons_zero, List.set_cons_succ]
        refine wpAnyH_take (i := 4) (oi := { dst := some 33, op := Op.move (Operand.tmp 1), type := 3, pos := "operation.go:74", after := #[], guard := none }) (v := ?_) rfl (by kernel_rfl) (by kernel_rfl) (by kernel_rfl) (fun _ _ _ h => h) (Or.inl ⟨by rfl, ?_⟩) (by assumption) ?_
        rotate_left
        · intro w hSw; (try dsimp only at hSw); go_simp; (try with_reducible rfl)
        try simp only [Act.put, List.setIfInBounds_toArray, List.set_cons_zero, List.set_cons_succ]
        refine wpAnyH_take (i := 5) (oi := { dst := some 34, op := Op.binOp BinOp.sub 3 (Operand.tmp 33) (Operand.const (Value.int IntKind.i64 2)) 3, type := 3, pos := "operation.go:74", after := #[{ on := 4, ground := Ground.data }], guard := none }) (v := .int .i64 (k - 2)) rfl (by kernel_rfl) (by kernel_rfl) (by kernel_rfl) (fun _ _ _ h => h) (Or.inl ⟨by rfl, ?_⟩) (by assumption) ?_
        · intro w hSw; go_simp; unfold IntKind.wrap; simp [IntKind.bits, IntKind.signed]; omega
        try simp only [Act.put, List.setIfInBounds_toArray, List.set_cons_zero, List.set_cons_succ]
        refine wpAnyH_ready (rs := [6]) (by kernel_rfl) (by simp) ?_
        refine AllReadyH.cons (o := { dst := some 35, op := Op.call { callee := Callee.value (Operand.func 53), args := #[Operand.tmp 32, Operand.tmp 34], argTypes := #[22, 3] }, type := 22, pos := "operation.go:74", after := #[{ on := 3, ground := Ground.data }, { on := 5, ground := Ground.data }], guard := none }) rfl (fun K hK => ?_) AllReadyH.nil
        go_simp
        refine (unhide HC).mono ?_
        rintro x1 W1 ⟨h, rfl, q1, q2, q3⟩
        obtain ⟨c5, HE⟩ := unhide HN h W1 q1 q2 q3
        have HE := hide HE
        rw [e1]
        clear q1 q2 q3
        go_wp2_with fail
        refine hK.out _ _ c5 (fun hHeld1 => ?_)
        clear hHeld
        clear hK K
        try simp only [Act.put, List.setIfInBounds_toArray, List.set_cons_zero, List.set_cons_succ]
        refine wpAnyH_take (i := 7) (oi := { dst := some 36, op := Op.build 87 #[(0, Operand.tmp 30), (1, Operand.tmp 35)], type := 87, pos := "operation.go:74", after := #[{ on := 1, ground := Ground.data }, { on := 6, ground := Ground.data }], guard := none }) (v := ?_) rfl (by kernel_rfl) (by kernel_rfl) (by kernel_rfl) (fun _ _ _ h => h) (Or.inl ⟨by rfl, ?_⟩) (by assumption) ?_
        rotate_left
        · intro w hSw; (try dsimp only at hSw); go_simp; (try with_reducible rfl)
        try simp only [Act.put, List.setIfInBounds_toArray, List.set_cons_zero, List.set_cons_succ]
        refine wpAnyH_take (i := 8) (oi := { dst := some 37, op := Op.makeInterface 87 (Operand.tmp 36), type := 84, pos := "operation.go:74", after := #[{ on := 7, ground := Ground.data }], guard := none }) (v := ?_) rfl (by kernel_rfl) (by kernel_rfl) (by kernel_rfl) (fun _ _ _ h => h) (Or.inl ⟨by rfl, ?_⟩) (by assumption) ?_
        rotate_left
        · intro w hSw; (try dsimp only at hSw); go_simp; (try with_reducible rfl)
        try simp only [Act.put, List.setIfInBounds_toArray, List.set_cons_zero, List.set_cons_succ]
        refine wpAnyH_take (i := 9) (oi := { dst := some 4, op := Op.assign (Operand.tmp 37), type := 84, pos := "operation.go:74", after := #[{ on := 8, ground := Ground.data }, { on := 6, ground := Ground.chain }, { on := 0, ground := Ground.phase }, { on := 1, ground := Ground.phase }, { on := 2, ground := Ground.phase }, { on := 3, ground := Ground.phase }, { on := 4, ground := Ground.phase }, { on := 5, ground := Ground.phase }, { on := 6, ground := Ground.phase }, { on := 7, ground := Ground.phase }, { on := 8, ground := Ground.phase }], guard := none }) (v := ?_) rfl (by kernel_rfl) (by kernel_rfl) (by kernel_rfl) (fun _ _ _ h => h) (Or.inl ⟨by rfl, ?_⟩) (by assumption) ?_
        rotate_left
        · intro w hSw; (try dsimp only at hSw); go_simp; (try with_reducible rfl)
        try simp only [Act.put, List.setIfInBounds_toArray, List.set_cons_zero, List.set_cons_succ]
        refine wpAnyH_done (by kernel_rfl) ?_ _
        go_wp2_with fail
        go_ret
        exact ⟨some (.ap x h (tk bs (k - 2))), rfl, unhide HE⟩
      | tr x n =>
        have HR := hide (show Rm W W (.tr x n) k none from ⟨(e0 (Ope.tr x n)).symm, fun _ q => (by cases q), fun _ q => (by cases q), fun _ q => (by cases q), fun _ q => (by cases q), Below.refl _ _⟩)
        clear e0
        have a80 := as93_80
        have a87 := as93_87
        show Calls Try.prog 45 #[.iface 93 (.agg #[.string x, .int .i64 n]), .int .i64 k] W _
        go_enter Try.func45, Try.ntmps45
        go_wp2_with fail
        go_ret
        exact ⟨none, rfl, unhide HR⟩
      | rn x y =>
        have HR := hide (show Rm W W (.rn x y) k none from ⟨(e0 (Ope.rn x y)).symm, fun _ q => (by cases q), fun _ q => (by cases q), fun _ q => (by cases q), fun _ q => (by cases q), Below.refl _ _⟩)
        clear e0
        have a80 := as95_80
        have a87 := as95_87
        show Calls Try.prog 45 #[.iface 95 (.agg #[.string x, .string y]), .int .i64 k] W _
        go_enter Try.func45, Try.ntmps45
        go_wp2_with fail
        go_ret
        exact ⟨none, rfl, unhide HR⟩
      | rm x =>
        have HR := hide (show Rm W W (.rm x) k none from ⟨(e0 (Ope.rm x)).symm, fun _ q => (by cases q), fun _ q => (by cases q), fun _ q => (by cases q), fun _ q => (by cases q), Below.refl _ _⟩)
        clear e0
        have a80 := as91_80
        have a87 := as91_87
        show Calls Try.prog 45 #[.iface 91 (.agg #[.string x]), .int .i64 k] W _
        go_enter Try.func45, Try.ntmps45
        go_wp2_with fail
        go_ret
        exact ⟨none, rfl, unhide HR⟩
end Go.Proofs.Ytokgegbodbnimaa
