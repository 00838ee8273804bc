import Derived.Test.YtfembjjpmjfklaaDoorSlim
import Derived.Deep.RegionHeld3
import Derived.Handy
namespace Go.Proofs.YtfembjjpmjfklaaDoor
open Go.RowKit

/-! ### A row printed step by step -/
theorem join_snoc (sep t : List UInt8) : ∀ (l : List (List UInt8)), l ≠ [] → Lib.join (l ++ [t]) sep = Lib.join l sep ++ sep ++ t
  | [], h => absurd rfl h
  | [a], _ => by
    show Lib.join [a, t] sep = _
    rw [join_two, Lib.join_one, Lib.join_one]
  | a :: b :: l, _ => by
    have ih := join_snoc sep t (b :: l) (by simp)
    show Lib.join (a :: b :: (l ++ [t])) sep = _
    rw [join_two a b (l ++ [t]), join_two a b l]
    show a ++ sep ++ Lib.join ((b :: l) ++ [t]) sep = _
    rw [ih]
    simp [List.append_assoc]
/-- THE FIRST k OF A ROW, PRINTED. -/
def prK {α : Type} (tx : α → ByteArray) (al : List α) (sep : ByteArray) (k : Nat) : ByteArray := prJ tx (al.take k) sep
theorem prK_zero {α : Type} (tx : α → ByteArray) (al : List α) (sep : ByteArray) : prK tx al sep 0 = ⟨#[]⟩ := by
  unfold prK prJ
  rw [List.take_zero]
  rfl
theorem prK_one {α : Type} (tx : α → ByteArray) (al : List α) (sep : ByteArray) (h : 0 < al.length) : prK tx al sep (0 + 1) = ⟨#[]⟩ ++ tx al[0] := by
  unfold prK prJ
  rw [List.take_succ_eq_append_getElem h, List.take_zero]
  show ba (Lib.join [(tx al[0]).data.toList] _) = _
  rw [Lib.join_one]
  apply ba_inj
  rw [ba_list, pj_toList_append]
  rfl
theorem prK_next {α : Type} (tx : α → ByteArray) (al : List α) (sep : ByteArray) (k : Nat) (hk : k < al.length) (h0 : 0 < k) : prK tx al sep (k + 1) = prK tx al sep k ++ sep ++ tx al[k] := by
  unfold prK prJ
  rw [List.take_succ_eq_append_getElem hk, List.map_append]
  show ba (Lib.join (List.map _ (al.take k) ++ [(tx al[k]).data.toList]) _) = _
  rw [join_snoc _ _ _ (fun e => by
    have := congrArg List.length e
    simp at this
    rcases this with h | h
    · omega
    · rw [h] at hk; simp at hk)]
  apply ba_inj
  rw [ba_list, pj_toList_append, pj_toList_append, ba_list]
theorem prK_all {α : Type} (tx : α → ByteArray) (al : List α) (sep : ByteArray) : prK tx al sep al.length = prJ tx al sep := by
  unfold prK
  rw [List.take_length]
theorem prJ_le {α : Type} (tx : α → ByteArray) (al : List α) (sep : ByteArray) (M : Nat) (h : ∀ a ∈ al, (tx a).size ≤ M) : (prJ tx al sep).size ≤ al.length * (M + sep.size) := by
  unfold prJ
  rw [ba_size]
  have := join_le sep.data.toList M (al.map fun a => (tx a).data.toList) (fun x hx => by
    obtain ⟨a, ha, rfl⟩ := List.mem_map.1 hx
    rw [size_list]
    exact h a ha)
  rw [List.length_map, size_list] at this
  exact this
theorem prK_le {α : Type} (tx : α → ByteArray) (al : List α) (sep : ByteArray) (k M : Nat) (h : ∀ a ∈ al, (tx a).size ≤ M) : (prK tx al sep k).size ≤ k * (M + sep.size) := by
  unfold prK
  refine Nat.le_trans (prJ_le tx (al.take k) sep M (fun a ha => h a (List.mem_of_mem_take ha))) (Nat.mul_le_mul_right _ ?_)
  rw [List.length_take]
  exact Nat.min_le_left _ _

theorem printA_small (a : Am) : (printA a).1.size ≤ 1000 := by
  unfold printA
  split
  · exact Nat.zero_le _
  · rename_i h
    have h' : ckAtom a.n a.op a.v = 0 := by simpa using h
    obtain ⟨z1, z2⟩ := ckAtom_sizes h'
    split
    · show a.n.size ≤ 1000
      omega
    · have z3 := sg_size a.op.toNat
      have e1 : (⟨#[32, 40]⟩ : ByteArray).size = 2 := rfl
      have e2 : (⟨#[32]⟩ : ByteArray).size = 1 := rfl
      have e3 : (⟨#[41]⟩ : ByteArray).size = 1 := rfl
      simp only [ByteArray.size_append]
      omega

set_option maxHeartbeats 2000000 in
theorem rsign_any (op : Int) (w : World) (h0 : 0 ≤ op) (h5 : op ≤ 5) :
    Calls Tryd.prog 64 #[.int .i64 op] w fun e w' => e = .returned (.string (sg op.toNat)) ∧ Below w.heap.size w w' := by
  obtain ⟨n, rfl⟩ : ∃ n : Nat, op = n := ⟨op.toNat, by omega⟩
  have hn : n ≤ 5 := by omega
  clear h0 h5
  rcases (by omega : n = 0 ∨ n = 1 ∨ n = 2 ∨ n = 3 ∨ n = 4 ∨ n = 5) with rfl | rfl | rfl | rfl | rfl | rfl
  all_goals
    go_enter Tryd.func64, Tryd.ntmps64
    go_wp2
    go_ret
    exact ⟨rfl, (Below.refl _ _).alloc (Nat.le_refl _) _⟩

theorem par3 {w w1 : World} {a b c : Value} {t : TypeId} (hb : Below (w.alloc (.cells #[a, b, c] t)).heap.size (w.alloc (.cells #[a, b, c] t)) w1) : w1.cell? ⟨w.heap.size, 0, none⟩ = some a ∧ w1.cell? ⟨w.heap.size, 1, none⟩ = some b ∧ w1.cell? ⟨w.heap.size, 2, none⟩ = some c ∧ w.heap.size < w1.heap.size := by
  have h : ∀ j u, [a, b, c][j]? = some u → w1.cell? ⟨w.heap.size, j, none⟩ = some u := fun j u hj => by
    have := cells3_new w a b c t j u hj
    rw [Go.WideShapes.add_plain] at this
    simp only [Nat.zero_add] at this
    exact (hb.cell (p := ⟨w.heap.size, j, none⟩) (by simp)).trans this
  exact ⟨h 0 a rfl, h 1 b rfl, h 2 c rfl, Nat.lt_of_lt_of_le (by simp) hb.size⟩

set_option maxHeartbeats 4000000 in
theorem rPrintAtom_any (n : ByteArray) (op : Int) (v : ByteArray) (w : World) (hn : n.size ≤ maxLen) (hv : v.size ≤ maxLen) :
    Calls Tryd.prog 29 #[.agg #[.string n, .int .i64 op, .string v]] w fun e w' => e = .returned (.tuple #[.string (printA ⟨n, op, v⟩).1, .int .i64 (printA ⟨n, op, v⟩).2]) ∧ Below w.heap.size w w' := by
  have hB := hide ((Below.refl w.heap.size w).alloc (Nat.le_refl _) (.cells #[.string n, .int .i64 op, .string v] 34))
  have c1 := hide (fun w => rCheckA_any n op v hn hv w)
  by_cases hc : ckAtom n op v = 0
  · obtain ⟨o1, o2⟩ := ckAtom_op hc
    obtain ⟨z1, z2⟩ := ckAtom_sizes hc
    rw [hc] at c1
    by_cases h0 : op = 0
    · subst h0
      have HF := hide (show printA ⟨n, 0, v⟩ = (n, 0) by unfold printA; rw [if_neg (by simp [hc]), if_pos rfl])
      clear hc
      go_enter Tryd.func29, Tryd.ntmps29
      go_wp2_with fail
      refine (unhide c1 _).mono ?_
      rintro e w1 ⟨rfl, hb1⟩
      have HB1 := hide ((unhide hB).trans (hb1.mono (unhide hB).size))
      obtain ⟨p0, p1, p2, plt⟩ := par3 hb1
      clear hb1
      go_wp2_with fail
      go_ret2
      rw [unhide HF]
      exact ⟨rfl, unhide HB1⟩
    · have h0b : (op == 0) = false := by simpa using h0
      have HF := hide (show printA ⟨n, op, v⟩ = (n ++ ⟨#[32, 40]⟩ ++ sg op.toNat ++ ⟨#[32]⟩ ++ v ++ ⟨#[41]⟩, 0) by unfold printA; rw [if_neg (by simp [hc]), if_neg h0])
      have c2 := hide (fun w => rsign_any op w o1 o2)
      have z3 := sg_size op.toNat
      clear hc
      go_enter Tryd.func29, Tryd.ntmps29
      go_wp2_with fail
      refine (unhide c1 _).mono ?_
      rintro e w1 ⟨rfl, hb1⟩
      have HB1 := hide ((unhide hB).trans (hb1.mono (unhide hB).size))
      have HP := hide (fun (w' : World) (hb : Below w1.heap.size w1 w') => par3 (hb1.trans (hb.mono hb1.size)))
      obtain ⟨p0, p1, p2, plt⟩ := par3 hb1
      have B0 := hide ((Below.refl w1.heap.size w1).drew)
      clear hb1
      go_wp2_with fail
      generalize sg op.toNat = sn at *
      have k1 : n.size ≤ 9223372036854775805 := by omega
      have k2 : n.size + 2 + sn.size ≤ 9223372036854775807 := by omega
      have k3 : n.size + 2 + sn.size ≤ 9223372036854775806 := by omega
      have k4 : n.size + 2 + sn.size + 1 + v.size ≤ 9223372036854775807 := by omega
      have k5 : n.size + 2 + sn.size + 1 + v.size ≤ 9223372036854775806 := by omega
      have k6 : n.size + 2 ≤ 9223372036854775807 := by omega
      have k7 : n.size + 2 + sn.size + 1 ≤ 9223372036854775807 := by omega
      have k8 : n.size + 2 + sn.size + 1 + v.size + 1 ≤ 9223372036854775807 := by omega
      refine wp_region_held_drew (S := fun w' => w'.cell? ⟨w.heap.size, 0, none⟩ = some (.string n) ∧ w'.cell? ⟨w.heap.size, 1, none⟩ = some (.int .i64 op) ∧ w'.cell? ⟨w.heap.size, 2, none⟩ = some (.string v) ∧ w.heap.size < w'.heap.size) (by kernel_rfl) ?_ (fun hHeld => ?_)
      · exact unhide HP _ (unhide B0)
      refine wpAnyH_take (i := 0) (oi := { dst := some 15, op := Op.fieldAddr 34 (Operand.tmp 1) 0, type := 0, pos := "ref.go:269", after := #[], guard := none }) (v := ?_) rfl (by kernel_rfl) (by kernel_rfl) (by kernel_rfl) (fun _ _ _ h => h) (Or.inl ⟨by rfl, ?_⟩) (by assumption) ?_
      rotate_left
      · intro w hSw; (try dsimp only at hSw); go_simp; (try with_reducible rfl)
      try simp only [Act.put, List.setIfInBounds_toArray, List.set_cons_zero, List.set_cons_succ]
      refine wpAnyH_take (i := 1) (oi := { dst := some 16, op := Op.load 9 (Operand.tmp 15), type := 9, pos := "ref.go:269", after := #[{ on := 0, ground := Ground.data }], guard := none }) (v := ?_) rfl (by kernel_rfl) (by kernel_rfl) (by kernel_rfl) (fun _ _ _ h => h) (Or.inl ⟨by rfl, ?_⟩) (by assumption) ?_
      rotate_left
      · intro w hSw; (try dsimp only at hSw); go_simp; (try with_reducible rfl)
      try simp only [Act.put, List.setIfInBounds_toArray, List.set_cons_zero, List.set_cons_succ]
      refine wpAnyH_take (i := 2) (oi := { dst := some 17, op := Op.binOp BinOp.add 9 (Operand.tmp 16) (Operand.const (Value.string { data := #[32, 40] })) 9, type := 9, pos := "ref.go:269", after := #[{ on := 1, ground := Ground.data }], guard := none }) (v := .string (n ++ ⟨#[32, 40]⟩)) rfl (by kernel_rfl) (by kernel_rfl) (by kernel_rfl) (fun _ _ _ h => h) (Or.inl ⟨by rfl, by intro w hSw; (try dsimp only at hSw); go_simp <;> omega⟩) (by assumption) ?_
      try simp only [Act.put, List.setIfInBounds_toArray, List.set_cons_zero, List.set_cons_succ]
      refine wpAnyH_take (i := 3) (oi := { dst := some 18, op := Op.fieldAddr 34 (Operand.tmp 1) 1, type := 0, pos := "ref.go:269", after := #[], guard := none }) (v := ?_) rfl (by kernel_rfl) (by kernel_rfl) (by kernel_rfl) (fun _ _ _ h => h) (Or.inl ⟨by rfl, ?_⟩) (by assumption) ?_
      rotate_left
      · intro w hSw; (try dsimp only at hSw); go_simp; (try with_reducible rfl)
      try simp only [Act.put, List.setIfInBounds_toArray, List.set_cons_zero, List.set_cons_succ]
      refine wpAnyH_take (i := 4) (oi := { dst := some 19, op := Op.load 3 (Operand.tmp 18), type := 3, pos := "ref.go:269", after := #[{ on := 3, ground := Ground.data }], guard := none }) (v := ?_) rfl (by kernel_rfl) (by kernel_rfl) (by kernel_rfl) (fun _ _ _ h => h) (Or.inl ⟨by rfl, ?_⟩) (by assumption) ?_
      rotate_left
      · intro w hSw; (try dsimp only at hSw); go_simp; (try with_reducible rfl)
      try simp only [Act.put, List.setIfInBounds_toArray, List.set_cons_zero, List.set_cons_succ]
      refine wpAnyH_take (i := 8) (oi := { dst := some 23, op := Op.fieldAddr 34 (Operand.tmp 1) 2, type := 0, pos := "ref.go:269", after := #[], guard := none }) (v := ?_) rfl (by kernel_rfl) (by kernel_rfl) (by kernel_rfl) (fun _ _ _ h => h) (Or.inl ⟨by rfl, ?_⟩) (by assumption) ?_
      rotate_left
      · intro w hSw; (try dsimp only at hSw); go_simp; (try with_reducible rfl)
      try simp only [Act.put, List.setIfInBounds_toArray, List.set_cons_zero, List.set_cons_succ]
      refine wpAnyH_take (i := 9) (oi := { dst := some 24, op := Op.load 9 (Operand.tmp 23), type := 9, pos := "ref.go:269", after := #[{ on := 8, ground := Ground.data }], guard := none }) (v := ?_) rfl (by kernel_rfl) (by kernel_rfl) (by kernel_rfl) (fun _ _ _ h => h) (Or.inl ⟨by rfl, ?_⟩) (by assumption) ?_
      rotate_left
      · intro w hSw; (try dsimp only at hSw); go_simp; (try with_reducible rfl)
      try simp only [Act.put, List.setIfInBounds_toArray, List.set_cons_zero, List.set_cons_succ]
      refine wpAnyH_ready (rs := [5]) (by kernel_rfl) (by simp) ?_
      refine AllReadyH.cons (o := { dst := some 20, op := Op.call { callee := Callee.value (Operand.func 64), args := #[Operand.tmp 19], argTypes := #[3] }, type := 9, pos := "ref.go:269", after := #[{ on := 4, ground := Ground.data }], guard := none }) rfl (fun K hK => ?_) AllReadyH.nil
      go_simp
      refine (unhide c2 _).mono ?_
      rintro x w11 ⟨rfl, hb11⟩
      have B1 := hide ((unhide B0).trans (hb11.mono (unhide B0).size))
      clear hb11
      go_wp2_with fail
      refine hK.out _ _ ?_ (fun hHeld2 => ?_)
      · exact unhide HP _ (unhide B1)
      clear hHeld
      clear hK K
      try simp only [Act.put, List.setIfInBounds_toArray, List.set_cons_zero, List.set_cons_succ]
      refine wpAnyH_take (i := 6) (oi := { dst := some 21, op := Op.binOp BinOp.add 9 (Operand.tmp 17) (Operand.tmp 20) 9, type := 9, pos := "ref.go:269", after := #[{ on := 2, ground := Ground.data }, { on := 5, ground := Ground.data }], guard := none }) (v := .string (n ++ ⟨#[32, 40]⟩ ++ sn)) rfl (by kernel_rfl) (by kernel_rfl) (by kernel_rfl) (fun _ _ _ h => h) (Or.inl ⟨by rfl, by intro w hSw; (try dsimp only at hSw); go_simp <;> omega⟩) (by assumption) ?_
      try simp only [Act.put, List.setIfInBounds_toArray, List.set_cons_zero, List.set_cons_succ]
      refine wpAnyH_take (i := 7) (oi := { dst := some 22, op := Op.binOp BinOp.add 9 (Operand.tmp 21) (Operand.const (Value.string { data := #[32] })) 9, type := 9, pos := "ref.go:269", after := #[{ on := 6, ground := Ground.data }], guard := none }) (v := .string (n ++ ⟨#[32, 40]⟩ ++ sn ++ ⟨#[32]⟩)) rfl (by kernel_rfl) (by kernel_rfl) (by kernel_rfl) (fun _ _ _ h => h) (Or.inl ⟨by rfl, by intro w hSw; (try dsimp only at hSw); go_simp <;> omega⟩) (by assumption) ?_
      try simp only [Act.put, List.setIfInBounds_toArray, List.set_cons_zero, List.set_cons_succ]
      refine wpAnyH_take (i := 10) (oi := { dst := some 25, op := Op.binOp BinOp.add 9 (Operand.tmp 22) (Operand.tmp 24) 9, type := 9, pos := "ref.go:269", after := #[{ on := 7, ground := Ground.data }, { on := 9, ground := Ground.data }], guard := none }) (v := .string (n ++ ⟨#[32, 40]⟩ ++ sn ++ ⟨#[32]⟩ ++ v)) rfl (by kernel_rfl) (by kernel_rfl) (by kernel_rfl) (fun _ _ _ h => h) (Or.inl ⟨by rfl, by intro w hSw; (try dsimp only at hSw); go_simp <;> omega⟩) (by assumption) ?_
      try simp only [Act.put, List.setIfInBounds_toArray, List.set_cons_zero, List.set_cons_succ]
      refine wpAnyH_take (i := 11) (oi := { dst := some 26, op := Op.binOp BinOp.add 9 (Operand.tmp 25) (Operand.const (Value.string { data := #[41] })) 9, type := 9, pos := "ref.go:269", after := #[{ on := 10, ground := Ground.data }], guard := none }) (v := .string (n ++ ⟨#[32, 40]⟩ ++ sn ++ ⟨#[32]⟩ ++ v ++ ⟨#[41]⟩)) rfl (by kernel_rfl) (by kernel_rfl) (by kernel_rfl) (fun _ _ _ h => h) (Or.inl ⟨by rfl, by intro w hSw; (try dsimp only at hSw); go_simp <;> omega⟩) (by assumption) ?_
      try simp only [Act.put, List.setIfInBounds_toArray, List.set_cons_zero, List.set_cons_succ]
      refine wpAnyH_take (i := 12) (oi := { dst := some 2, op := Op.assign (Operand.tmp 26), type := 9, pos := "ref.go:269", after := #[{ on := 11, ground := Ground.data }, { on := 5, ground := Ground.chain }, { on := 0, ground := Ground.phase }, { on := 1, ground := Ground.phase }, { on := 2, ground := Ground.phase }, { on := 3, ground := Ground.phase }, { on := 4, ground := Ground.phase }, { on := 5, ground := Ground.phase }, { on := 6, ground := Ground.phase }, { on := 7, ground := Ground.phase }, { on := 8, ground := Ground.phase }, { on := 9, ground := Ground.phase }, { on := 10, ground := Ground.phase }, { on := 11, ground := Ground.phase }], guard := none }) (v := ?_) rfl (by kernel_rfl) (by kernel_rfl) (by kernel_rfl) (fun _ _ _ h => h) (Or.inl ⟨by rfl, ?_⟩) (by assumption) ?_
      rotate_left
      · intro w hSw; (try dsimp only at hSw); go_simp; (try with_reducible rfl)
      try simp only [Act.put, List.setIfInBounds_toArray, List.set_cons_zero, List.set_cons_succ]
      refine wpAnyH_take (i := 13) (oi := { dst := some 3, op := Op.assign (Operand.const (Value.int IntKind.i64 0)), type := 3, pos := "ref.go:269", after := #[{ on := 12, ground := Ground.chain }, { on := 0, ground := Ground.phase }, { on := 1, ground := Ground.phase }, { on := 2, ground := Ground.phase }, { on := 3, ground := Ground.phase }, { on := 4, ground := Ground.phase }, { on := 5, ground := Ground.phase }, { on := 6, ground := Ground.phase }, { on := 7, ground := Ground.phase }, { on := 8, ground := Ground.phase }, { on := 9, ground := Ground.phase }, { on := 10, ground := Ground.phase }, { on := 11, ground := Ground.phase }, { on := 12, ground := Ground.phase }], guard := none }) (v := ?_) rfl (by kernel_rfl) (by kernel_rfl) (by kernel_rfl) (fun _ _ _ h => h) (Or.inl ⟨by rfl, ?_⟩) (by assumption) ?_
      rotate_left
      · intro w hSw; (try dsimp only at hSw); go_simp; (try with_reducible rfl)
      try simp only [Act.put, List.setIfInBounds_toArray, List.set_cons_zero, List.set_cons_succ]
      refine wpAnyH_done (by kernel_rfl) ?_ _
      go_wp2_with fail
      go_ret2
      rw [unhide HF]
      exact ⟨rfl, (unhide HB1).trans ((unhide B1).mono (unhide HB1).size)⟩
  · have hcb : (ckAtom n op v == 0) = false := by simpa using hc
    have HF := hide (show printA ⟨n, op, v⟩ = (⟨#[]⟩, ckAtom n op v) by unfold printA; rw [if_pos hc]; rfl)
    generalize ckAtom n op v = e0 at *
    go_enter Tryd.func29, Tryd.ntmps29
    go_wp2_with fail
    refine (unhide c1 _).mono ?_
    rintro e w1 ⟨rfl, hb1⟩
    have HB1 := hide ((unhide hB).trans (hb1.mono (unhide hB).size))
    clear hb1
    go_wp2_with fail
    go_ret2
    rw [unhide HF]
    exact ⟨rfl, unhide HB1⟩

end Go.Proofs.YtfembjjpmjfklaaDoor
