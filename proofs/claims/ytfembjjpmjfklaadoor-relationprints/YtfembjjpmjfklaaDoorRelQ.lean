import Derived.Test.YtfembjjpmjfklaaDoorRelF
import Derived.Deep.RegionHeld3
namespace Go.Proofs.YtfembjjpmjfklaaDoor
open Go.RowKit

/-- AN ATOM'S TEXT. -/
def printA (a : Am) : ByteArray × Int :=
  if ckAtom a.n a.op a.v ≠ 0 then (nob, ckAtom a.n a.op a.v) else if a.op = 0 then (a.n, 0) else (a.n ++ ⟨#[32, 40]⟩ ++ sg a.op.toNat ++ ⟨#[32]⟩ ++ a.v ++ ⟨#[41]⟩, 0)

theorem ckAtom_op {n : ByteArray} {op : Int} {v : ByteArray} (h : ckAtom n op v = 0) : 0 ≤ op ∧ op ≤ 5 := by
  unfold ckAtom at h
  split at h
  · cases h
  · split at h
    · cases h
    · rename_i h1 h2
      simp at h2
      omega

theorem add_str (a b : ByteArray) (h : a.size + b.size ≤ 9223372036854775807) (w : World) : (binOp .add 9 (.string a) (.string b)).run Tryd.prog w = .ok (.string (a ++ b)) w := by
  have h1 : ¬ (9223372036854775807 < (a.size : Int) + (b.size : Int)) := by omega
  have h2 : ¬ (9223372036854775807 < a.size + b.size) := by omega
  go_simp

theorem okName_size {n : ByteArray} (h : okName n = true) : n.size ≤ 128 := by
  unfold okName at h
  simp at h
  exact h.1.1.2
theorem parse_ok_size {v : ByteArray} (h : (parse v).2 = 0) : v.size ≤ 256 := by
  unfold parse at h
  split at h
  · cases h
  · omega

theorem ckAtom_sizes {n : ByteArray} {op : Int} {v : ByteArray} (h : ckAtom n op v = 0) : n.size ≤ 128 ∧ v.size ≤ 256 := by
  unfold ckAtom at h
  split at h
  · cases h
  · split at h
    · cases h
    · split at h
      · cases h
      · rename_i h1 h2 h3
        refine ⟨okName_size (by simpa using h1), ?_⟩
        by_cases h0 : op = 0
        · subst h0
          simp at h3
          rw [Lib.toList_data] at h3
          have := size_list v
          rw [h3] at this
          simp at this
          omega
        · have h0' : (op == 0) = false := by simpa using h0
          rw [h0'] at h3
          simp at h3
          exact parse_ok_size h3
theorem sg_size (k : Nat) : (sg k).size ≤ 2 := by
  unfold sg
  split <;> decide

set_option maxHeartbeats 2000000 in
theorem PrintAtom_any (n : ByteArray) (op : Int) (v : ByteArray) (w : World) (hn : n.size ≤ maxLen) (hv : v.size ≤ maxLen) (hg : Glob w) :
    Calls Tryd.prog 28 #[.agg #[.string n, .int .i64 op, .string v]] w fun e w' => e = .returned (.tuple #[.string (printA ⟨n, op, v⟩).1, .int .i64 (printA ⟨n, op, v⟩).2]) ∧ Below w.heap.size w w' := by
  have hB := hide ((Below.refl w.heap.size w).alloc (Nat.le_refl _) (.cells #[.string n, .int .i64 op, .string v] 34))
  have c1 := hide (fun w => CheckA_any n op v hn hv w)
  have HF := hide (show printA ⟨n, op, v⟩ = if ckAtom n op v ≠ 0 then (nob, ckAtom n op v) else if op = 0 then (n, 0) else (n ++ ⟨#[32, 40]⟩ ++ sg op.toNat ++ ⟨#[32]⟩ ++ v ++ ⟨#[41]⟩, 0) from rfl)
  have HO := hide (fun h : ckAtom n op v = 0 => And.intro (ckAtom_op h) (ckAtom_sizes h))
  have HG := hide hg
  generalize ckAtom n op v = e0 at *
  clear hn hv hg
  by_cases he : e0 = 0
  · subst he
    obtain ⟨⟨o1, o2⟩, z1, z2⟩ := unhide HO rfl
    by_cases h0 : op = 0
    · subst h0
      have HH := hide (show printA ⟨n, 0, v⟩ = (n, 0) by rw [unhide HF, if_neg (by simp), if_pos rfl])
      go_enter Tryd.func28, Tryd.ntmps28
      go_wp2_with fail
      refine (unhide c1 _).mono ?_
      rintro e w1 ⟨rfl, hb1⟩
      have HB1 := hide hb1
      obtain ⟨hc1, hf1⟩ := bcell hb1
      have hq1 := hb1.size
      simp at hq1
      clear hb1
      go_wp2_with fail
      go_ret2
      rw [unhide HH]
      exact ⟨rfl, (unhide hB).trans ((unhide HB1).mono (unhide hB).size)⟩
    · obtain ⟨k, rfl⟩ : ∃ k : Nat, op = k := ⟨op.toNat, by omega⟩
      have HH := hide (show printA ⟨n, k, v⟩ = (n ++ ⟨#[32, 40]⟩ ++ sg k ++ ⟨#[32]⟩ ++ v ++ ⟨#[41]⟩, 0) by rw [unhide HF, if_neg (by simp), if_neg h0]; rfl)
      have hk6 : k < 6 := by omega
      have hk0 : ((k : Int) == 0) = false := by simpa using h0
      have hkA : (0 : Int) ≤ (k : Int) := by omega
      have hkB : (k : Int) < 6 := by omega
      have z3 := sg_size k
      have e1 : (⟨#[32, 40]⟩ : ByteArray).size = 2 := rfl
      have e2 : (⟨#[32]⟩ : ByteArray).size = 1 := rfl
      have e3 : (⟨#[41]⟩ : ByteArray).size = 1 := rfl
      have k1 : n.size ≤ 9223372036854775805 := by omega
      have k2 : n.size + 2 + (sg k).size ≤ 9223372036854775807 := by omega
      have k3 : n.size + 2 + (sg k).size ≤ 9223372036854775806 := by omega
      have k4 : n.size + 2 + (sg k).size + 1 + v.size ≤ 9223372036854775807 := by omega
      have k5 : n.size + 2 + (sg k).size + 1 + v.size ≤ 9223372036854775806 := by omega
      have k6 : n.size + 2 ≤ 9223372036854775807 := by omega
      have k7 : n.size + 2 + (sg k).size + 1 ≤ 9223372036854775807 := by omega
      have k8 : n.size + 2 + (sg k).size + 1 + v.size + 1 ≤ 9223372036854775807 := by omega
      clear e1 e2 e3 z1 z2 z3 o1 o2 h0
      go_enter Tryd.func28, Tryd.ntmps28
      go_wp2_with fail
      refine (unhide c1 _).mono ?_
      rintro e w1 ⟨rfl, hb1⟩
      have HB1 := hide hb1
      obtain ⟨hc1, hf1⟩ := bcell hb1
      have hq1 := hb1.size
      simp at hq1
      have HBw := hide ((unhide hB).trans (hb1.mono (unhide hB).size))
      have hs1 := ((unhide HG).later (unhide HBw)).sg k hk6
      clear hb1 HG HO c1 HF
      go_wp2_with fail
      have S1 := hide (show w1.cell? ⟨w.heap.size, 0, none⟩ = some (.string n) ∧ w1.cell? ⟨w.heap.size, 1, none⟩ = some (.int .i64 k) ∧ w1.cell? ⟨w.heap.size, 2, none⟩ = some (.string v) ∧ w1.cell? ⟨0, k, none⟩ = some (.string (sg k)) ∧ Below w.heap.size w w1 from ⟨by rw [hc1 _ _ (by simp)]; simp, by rw [hc1 _ _ (by simp)]; simp, by rw [hc1 _ _ (by simp)]; simp, hs1, unhide HBw⟩)
      clear hc1 hf1 hs1 hq1 HBw HB1 hB
      refine wp_region_held_drew (S := fun w' => w'.cell? ⟨w.heap.size, 0, none⟩ = some (.string n) ∧ w'.cell? ⟨w.heap.size, 1, none⟩ = some (.int .i64 k) ∧ w'.cell? ⟨w.heap.size, 2, none⟩ = some (.string v) ∧ w'.cell? ⟨0, k, none⟩ = some (.string (sg k)) ∧ Below w.heap.size w w') (by kernel_rfl) ?_ (fun hHeld => ?_)
      · (try dsimp only); exact ⟨(unhide S1).1, (unhide S1).2.1, (unhide S1).2.2.1, (unhide S1).2.2.2.1, (unhide S1).2.2.2.2.drew⟩
      refine wpAnyH_take (i := 0) (oi := { dst := some 15, op := Op.fieldAddr 34 (Operand.tmp 1) 0, type := 0, pos := "print.go:17", after := #[], guard := none }) (v := ?_) rfl (by kernel_rfl) (by kernel_rfl) (by kernel_rfl) (fun _ _ _ h => h) (Or.inl ⟨by rfl, ?_⟩) (by assumption) ?_
      rotate_left
      · intro w hSw; (try dsimp only at hSw); go_simp; (try with_reducible rfl)
      try simp only [Act.put, List.setIfInBounds_toArray, List.set_cons_zero, List.set_cons_succ]
      refine wpAnyH_take (i := 1) (oi := { dst := some 16, op := Op.load 9 (Operand.tmp 15), type := 9, pos := "print.go:17", after := #[{ on := 0, ground := Ground.data }], guard := none }) (v := ?_) rfl (by kernel_rfl) (by kernel_rfl) (by kernel_rfl) (fun _ _ _ h => h) (Or.inl ⟨by rfl, ?_⟩) (by assumption) ?_
      rotate_left
      · intro w hSw; (try dsimp only at hSw); go_simp; (try with_reducible rfl)
      try simp only [Act.put, List.setIfInBounds_toArray, List.set_cons_zero, List.set_cons_succ]
      refine wpAnyH_take (i := 2) (oi := { dst := some 17, op := Op.binOp BinOp.add 9 (Operand.tmp 16) (Operand.const (Value.string { data := #[32, 40] })) 9, type := 9, pos := "print.go:17", after := #[{ on := 1, ground := Ground.data }], guard := none }) (v := .string (n ++ ⟨#[32, 40]⟩)) rfl (by kernel_rfl) (by kernel_rfl) (by kernel_rfl) (fun _ _ _ h => h) (Or.inl ⟨by rfl, by intro w hSw; (try dsimp only at hSw); go_simp <;> omega⟩) (by assumption) ?_
      try simp only [Act.put, List.setIfInBounds_toArray, List.set_cons_zero, List.set_cons_succ]
      refine wpAnyH_take (i := 3) (oi := { dst := some 18, op := Op.fieldAddr 34 (Operand.tmp 1) 1, type := 0, pos := "print.go:17", after := #[], guard := none }) (v := ?_) rfl (by kernel_rfl) (by kernel_rfl) (by kernel_rfl) (fun _ _ _ h => h) (Or.inl ⟨by rfl, ?_⟩) (by assumption) ?_
      rotate_left
      · intro w hSw; (try dsimp only at hSw); go_simp; (try with_reducible rfl)
      try simp only [Act.put, List.setIfInBounds_toArray, List.set_cons_zero, List.set_cons_succ]
      refine wpAnyH_take (i := 4) (oi := { dst := some 19, op := Op.load 3 (Operand.tmp 18), type := 3, pos := "print.go:17", after := #[{ on := 3, ground := Ground.data }], guard := none }) (v := ?_) rfl (by kernel_rfl) (by kernel_rfl) (by kernel_rfl) (fun _ _ _ h => h) (Or.inl ⟨by rfl, ?_⟩) (by assumption) ?_
      rotate_left
      · intro w hSw; (try dsimp only at hSw); go_simp; (try with_reducible rfl)
      try simp only [Act.put, List.setIfInBounds_toArray, List.set_cons_zero, List.set_cons_succ]
      refine wpAnyH_take (i := 5) (oi := { dst := some 20, op := Op.indexAddr 102 (Operand.global 0) (Operand.tmp 19), type := 0, pos := "print.go:17", after := #[{ on := 4, ground := Ground.data }], guard := none }) (v := ?_) rfl (by kernel_rfl) (by kernel_rfl) (by kernel_rfl) (fun _ _ _ h => h) (Or.inl ⟨by rfl, ?_⟩) (by assumption) ?_
      rotate_left
      · intro w hSw; (try dsimp only at hSw); go_simp; (try with_reducible rfl)
      try simp only [Act.put, List.setIfInBounds_toArray, List.set_cons_zero, List.set_cons_succ]
      refine wpAnyH_take (i := 6) (oi := { dst := some 21, op := Op.load 9 (Operand.tmp 20), type := 9, pos := "print.go:17", after := #[{ on := 5, ground := Ground.data }], guard := none }) (v := ?_) rfl (by kernel_rfl) (by kernel_rfl) (by kernel_rfl) (fun _ _ _ h => h) (Or.inl ⟨by rfl, ?_⟩) (by assumption) ?_
      rotate_left
      · intro w hSw; (try dsimp only at hSw); go_simp; (try with_reducible rfl)
      try simp only [Act.put, List.setIfInBounds_toArray, List.set_cons_zero, List.set_cons_succ]
      refine wpAnyH_take (i := 7) (oi := { dst := some 22, op := Op.binOp BinOp.add 9 (Operand.tmp 17) (Operand.tmp 21) 9, type := 9, pos := "print.go:17", after := #[{ on := 2, ground := Ground.data }, { on := 6, ground := Ground.data }], guard := none }) (v := .string (n ++ ⟨#[32, 40]⟩ ++ sg k)) rfl (by kernel_rfl) (by kernel_rfl) (by kernel_rfl) (fun _ _ _ h => h) (Or.inl ⟨by rfl, by intro w hSw; (try dsimp only at hSw); go_simp <;> omega⟩) (by assumption) ?_
      try simp only [Act.put, List.setIfInBounds_toArray, List.set_cons_zero, List.set_cons_succ]
      refine wpAnyH_take (i := 8) (oi := { dst := some 23, op := Op.binOp BinOp.add 9 (Operand.tmp 22) (Operand.const (Value.string { data := #[32] })) 9, type := 9, pos := "print.go:17", after := #[{ on := 7, ground := Ground.data }], guard := none }) (v := .string (n ++ ⟨#[32, 40]⟩ ++ sg k ++ ⟨#[32]⟩)) rfl (by kernel_rfl) (by kernel_rfl) (by kernel_rfl) (fun _ _ _ h => h) (Or.inl ⟨by rfl, by intro w hSw; (try dsimp only at hSw); go_simp <;> omega⟩) (by assumption) ?_
      try simp only [Act.put, List.setIfInBounds_toArray, List.set_cons_zero, List.set_cons_succ]
      refine wpAnyH_take (i := 9) (oi := { dst := some 24, op := Op.fieldAddr 34 (Operand.tmp 1) 2, type := 0, pos := "print.go:17", after := #[], guard := none }) (v := ?_) rfl (by kernel_rfl) (by kernel_rfl) (by kernel_rfl) (fun _ _ _ h => h) (Or.inl ⟨by rfl, ?_⟩) (by assumption) ?_
      rotate_left
      · intro w hSw; (try dsimp only at hSw); go_simp; (try with_reducible rfl)
      try simp only [Act.put, List.setIfInBounds_toArray, List.set_cons_zero, List.set_cons_succ]
      refine wpAnyH_take (i := 10) (oi := { dst := some 25, op := Op.load 9 (Operand.tmp 24), type := 9, pos := "print.go:17", after := #[{ on := 9, ground := Ground.data }], guard := none }) (v := ?_) rfl (by kernel_rfl) (by kernel_rfl) (by kernel_rfl) (fun _ _ _ h => h) (Or.inl ⟨by rfl, ?_⟩) (by assumption) ?_
      rotate_left
      · intro w hSw; (try dsimp only at hSw); go_simp; (try with_reducible rfl)
      try simp only [Act.put, List.setIfInBounds_toArray, List.set_cons_zero, List.set_cons_succ]
      refine wpAnyH_take (i := 11) (oi := { dst := some 26, op := Op.binOp BinOp.add 9 (Operand.tmp 23) (Operand.tmp 25) 9, type := 9, pos := "print.go:17", after := #[{ on := 8, ground := Ground.data }, { on := 10, ground := Ground.data }], guard := none }) (v := .string (n ++ ⟨#[32, 40]⟩ ++ sg k ++ ⟨#[32]⟩ ++ v)) rfl (by kernel_rfl) (by kernel_rfl) (by kernel_rfl) (fun _ _ _ h => h) (Or.inl ⟨by rfl, by intro w hSw; (try dsimp only at hSw); go_simp <;> omega⟩) (by assumption) ?_
      try simp only [Act.put, List.setIfInBounds_toArray, List.set_cons_zero, List.set_cons_succ]
      refine wpAnyH_take (i := 12) (oi := { dst := some 27, op := Op.binOp BinOp.add 9 (Operand.tmp 26) (Operand.const (Value.string { data := #[41] })) 9, type := 9, pos := "print.go:17", after := #[{ on := 11, ground := Ground.data }], guard := none }) (v := .string (n ++ ⟨#[32, 40]⟩ ++ sg k ++ ⟨#[32]⟩ ++ v ++ ⟨#[41]⟩)) rfl (by kernel_rfl) (by kernel_rfl) (by kernel_rfl) (fun _ _ _ h => h) (Or.inl ⟨by rfl, by intro w hSw; (try dsimp only at hSw); go_simp <;> omega⟩) (by assumption) ?_
      try simp only [Act.put, List.setIfInBounds_toArray, List.set_cons_zero, List.set_cons_succ]
      refine wpAnyH_take (i := 13) (oi := { dst := some 2, op := Op.assign (Operand.tmp 27), type := 9, pos := "print.go:17", after := #[{ on := 12, ground := Ground.data }, { on := 0, ground := Ground.phase }, { on := 1, ground := Ground.phase }, { on := 2, ground := Ground.phase }, { on := 3, ground := Ground.phase }, { on := 4, ground := Ground.phase }, { on := 5, ground := Ground.phase }, { on := 6, ground := Ground.phase }, { on := 7, ground := Ground.phase }, { on := 8, ground := Ground.phase }, { on := 9, ground := Ground.phase }, { on := 10, ground := Ground.phase }, { on := 11, ground := Ground.phase }, { on := 12, ground := Ground.phase }], guard := none }) (v := ?_) rfl (by kernel_rfl) (by kernel_rfl) (by kernel_rfl) (fun _ _ _ h => h) (Or.inl ⟨by rfl, ?_⟩) (by assumption) ?_
      rotate_left
      · intro w hSw; (try dsimp only at hSw); go_simp; (try with_reducible rfl)
      try simp only [Act.put, List.setIfInBounds_toArray, List.set_cons_zero, List.set_cons_succ]
      refine wpAnyH_take (i := 14) (oi := { dst := some 3, op := Op.assign (Operand.const (Value.int IntKind.i64 0)), type := 23, pos := "print.go:17", after := #[{ on := 13, ground := Ground.chain }, { on := 0, ground := Ground.phase }, { on := 1, ground := Ground.phase }, { on := 2, ground := Ground.phase }, { on := 3, ground := Ground.phase }, { on := 4, ground := Ground.phase }, { on := 5, ground := Ground.phase }, { on := 6, ground := Ground.phase }, { on := 7, ground := Ground.phase }, { on := 8, ground := Ground.phase }, { on := 9, ground := Ground.phase }, { on := 10, ground := Ground.phase }, { on := 11, ground := Ground.phase }, { on := 12, ground := Ground.phase }, { on := 13, ground := Ground.phase }], guard := none }) (v := ?_) rfl (by kernel_rfl) (by kernel_rfl) (by kernel_rfl) (fun _ _ _ h => h) (Or.inl ⟨by rfl, ?_⟩) (by assumption) ?_
      rotate_left
      · intro w hSw; (try dsimp only at hSw); go_simp; (try with_reducible rfl)
      try simp only [Act.put, List.setIfInBounds_toArray, List.set_cons_zero, List.set_cons_succ]
      refine wpAnyH_done (by kernel_rfl) ?_ _
      all_goals
        go_split_ands
        have HB9 := hide (show Below w.heap.size w _ by assumption)
        go_wp2_with fail
        go_ret2
        rw [unhide HH]
        exact ⟨rfl, unhide HB9⟩
  · have HH := hide (show printA ⟨n, op, v⟩ = (nob, e0) by rw [unhide HF, if_pos he])
    have he' : (e0 == 0) = false := by simpa using he
    go_enter Tryd.func28, Tryd.ntmps28
    go_wp2_with fail
    refine (unhide c1 _).mono ?_
    rintro e w1 ⟨rfl, hb1⟩
    have HB1 := hide hb1
    clear hb1
    go_wp2_with fail
    go_ret2
    rw [unhide HH]
    exact ⟨rfl, (unhide hB).trans ((unhide HB1).mono (unhide hB).size)⟩

end Go.Proofs.YtfembjjpmjfklaaDoor
