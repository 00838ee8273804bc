import Derived.Test.YtpakhjbaniapnaaKsU
namespace Go.Proofs.Ytpakhjbaniapnaa
open Go.RowKit

theorem info9 : (Try.prog.info? 9).map (fun i => (i.zero, i.size, i.bytes)) = some (some (.string ⟨#[]⟩), 1, 16) := by kernel_rfl
theorem strCells_one (al : List ByteArray) : ∀ v ∈ al.map Value.string, v.oneCell' = true := fun v hv => by
  obtain ⟨a, _, rfl⟩ := List.mem_map.1 hv
  rfl
theorem Sts.src {w : World} {xa : Option Addr} {n c : Nat} {al : List ByteArray} (h : Sts w (.slice xa n c) al) : al.length = 0 ∨ ∃ b o, xa = some ⟨b, o, none⟩ ∧ b < w.heap.size ∧ ∀ j u, (al.map Value.string)[j]? = some u → w.cell? ⟨b, o + j, none⟩ = some u := by
  by_cases e : al.length = 0
  · exact .inl e
  · obtain ⟨a, c', e1, _, h3⟩ := h
    cases e1
    obtain ⟨b, o, rfl, hb, _⟩ := h3 0 (by omega)
    refine .inr ⟨b, o, rfl, hb, fun j u hj => ?_⟩
    have hl : j < al.length := by have := (List.getElem?_eq_some_iff.1 hj).1; simpa using this
    obtain ⟨b', o', e2, _, e3⟩ := h3 j hl
    cases e2
    rw [e3, ← hj]
    simp [hl]
theorem Kp.sts {W : World} {g c : Nat} {al : List ByteArray} (h : Kp 1 W g c al.length (al.map Value.string)) : Sts W (.slice (some ⟨g, 0, none⟩) al.length c) al := by
  have hs := h.sm
  refine ⟨_, _, rfl, by omega, fun i hi => ⟨g, 0, rfl, h.lt, ?_⟩⟩
  rw [Nat.zero_add]
  exact h.ce i _ (by simp [hi])

set_option maxRecDepth 100000 in
set_option maxHeartbeats 8000000 in
theorem reg5 (Q : Exit → Act → World → Prop) (u0 u2 u4 u5 u6 u7 u8 u9 u10 u11 u12 u13 u14 u15 u16 u17 u18 u19 u20 u21 u22 u23 u24 u25 u26 u27 u28 u29 u30 u31 u32 u33 u34 u35 u36 u37 u38 u39 u40 u41 u42 u43 u44 u45 u46 u47 u48 : Value) (w W : World) (ps qs : List Value) (hCS : Cs w W ps qs) (xa : Option Addr) (n xc : Nat) (hc : ps[6]? = some (.slice xa n xc)) (al : List ByteArray) (hn : al.length = n) (hA : Sts W (.slice xa n xc) al) (hsm : n ≤ 8796093021952) (hP : ∀ x (a : Act) (d : Option Tmp) (v : Value) (w : World), Q (.panic x) (a.put d v) w → Q (.panic x) a w)
    (hQ : ∀ W' t1 t2 t3 g cap, (Cs w W' ps (qs.set 6 (.slice (some ⟨g, 0, none⟩) n cap)) ∧ Nw (w.heap.size + 1 + 1 + 1) W' (fun X => Sts X (.slice (some ⟨g, 0, none⟩) n cap) al ∧ Mk 1 X (.slice (some ⟨g, 0, none⟩) n cap) n) ∧ (∀ k, k < W.heap.size → k ≠ w.heap.size + 1 + 1 → W'.heap[k]? = W.heap[k]?) ∧ W.heap.size ≤ W'.heap.size) →
      Q .normal { tmps := #[u0, .pointer (some ⟨w.heap.size, 0, none⟩), u2, .pointer (some ⟨w.heap.size + 1 + 1, 0, none⟩), u4, u5, u6, u7, u8, u9, u10, u11, u12, u13, u14, u15, u16, u17, u18, u19, u20, u21, u22, u23, u24, t1, .pointer (some ⟨w.heap.size, 6, none⟩), .slice xa n xc, t2, t3, .slice (some ⟨g, 0, none⟩) (n + 1) cap, .pointer (some ⟨w.heap.size, 6, none⟩), .slice xa n xc, .int .i64 n, .slice (some ⟨g, 0, none⟩) n cap, .pointer (some ⟨w.heap.size + 1 + 1, 6, none⟩), u36, u37, u38, u39, u40, u41, u42, u43, u44, u45, u46, u47, u48], defers := [] } W') :
    (Code.region 5 #[{ dst := some 25, op := Op.buildSlice 24 0 #[], type := 24, pos := "law.go:119", after := #[], guard := none }, { dst := some 26, op := Op.fieldAddr 28 (Operand.tmp 1) 6, type := 0, pos := "law.go:119", after := #[], guard := none }, { dst := some 27, op := Op.load 24 (Operand.tmp 26), type := 24, pos := "law.go:119", after := #[{ on := 1, ground := Ground.data }], guard := none }, { dst := some 28, op := Op.call { callee := Callee.builtin Builtin.append, args := #[Operand.tmp 25, Operand.tmp 27], argTypes := #[24, 24] }, type := 24, pos := "law.go:119", after := #[{ on := 0, ground := Ground.data }, { on := 2, ground := Ground.data }], guard := none }, { dst := some 29, op := Op.buildSlice 24 1 #[(0, Operand.const (Value.string { data := #[98, 101, 104, 105, 110, 100] }))], type := 24, pos := "law.go:119", after := #[], guard := none }, { dst := some 30, op := Op.call { callee := Callee.builtin Builtin.append, args := #[Operand.tmp 28, Operand.tmp 29], argTypes := #[24, 24] }, type := 24, pos := "law.go:119", after := #[{ on := 3, ground := Ground.data }, { on := 4, ground := Ground.data }, { on := 3, ground := Ground.chain }], guard := none }, { dst := some 31, op := Op.fieldAddr 28 (Operand.tmp 1) 6, type := 0, pos := "law.go:119", after := #[], guard := none }, { dst := some 32, op := Op.load 24 (Operand.tmp 31), type := 24, pos := "law.go:119", after := #[{ on := 6, ground := Ground.data }], guard := none }, { dst := some 33, op := Op.call { callee := Callee.builtin Builtin.len, args := #[Operand.tmp 32], argTypes := #[24] }, type := 3, pos := "law.go:119", after := #[{ on := 7, ground := Ground.data }], guard := none }, { dst := some 34, op := Op.slice 24 (Operand.tmp 30) none (some (Operand.tmp 33)) none, type := 24, pos := "law.go:119", after := #[{ on := 5, ground := Ground.data }, { on := 8, ground := Ground.data }], guard := none }, { dst := some 35, op := Op.fieldAddr 28 (Operand.tmp 3) 6, type := 0, pos := "law.go:119", after := #[{ on := 0, ground := Ground.phase }, { on := 1, ground := Ground.phase }, { on := 2, ground := Ground.phase }, { on := 3, ground := Ground.phase }, { on := 4, ground := Ground.phase }, { on := 5, ground := Ground.phase }, { on := 6, ground := Ground.phase }, { on := 7, ground := Ground.phase }, { on := 8, ground := Ground.phase }, { on := 9, ground := Ground.phase }], guard := none }, { dst := none, op := Op.store 24 (Operand.tmp 35) (Operand.tmp 34), type := 0, pos := "law.go:119", after := #[{ on := 10, ground := Ground.data }, { on := 9, ground := Ground.data }, { on := 5, ground := Ground.chain }, { on := 0, ground := Ground.phase }, { on := 1, ground := Ground.phase }, { on := 2, ground := Ground.phase }, { on := 3, ground := Ground.phase }, { on := 4, ground := Ground.phase }, { on := 5, ground := Ground.phase }, { on := 6, ground := Ground.phase }, { on := 7, ground := Ground.phase }, { on := 8, ground := Ground.phase }, { on := 9, ground := Ground.phase }], guard := none }] true).wp Try.prog Q { tmps := #[u0, .pointer (some ⟨w.heap.size, 0, none⟩), u2, .pointer (some ⟨w.heap.size + 1 + 1, 0, none⟩), u4, u5, u6, u7, u8, u9, u10, u11, u12, u13, u14, u15, u16, u17, u18, u19, u20, u21, u22, u23, u24, u25, u26, u27, u28, u29, u30, u31, u32, u33, u34, u35, u36, u37, u38, u39, u40, u41, u42, u43, u44, u45, u46, u47, u48], defers := [] } W := by
  obtain ⟨i0, hi, hz0, hz1, hz2⟩ := info_parts info9
  have hbd : Below W.heap.size W W.drew := (Below.refl _ W).drew
  have CSD := hide (hCS.later hbd)
  have LT := hide (show w.heap.size < W.drew.heap.size from (unhide CSD).pb.lt)
  have EC := hide ((unhide CSD).pb.cell hc)
  have hax := app2x (P := Try.prog) 24 24 9 i0 _ 1 16 Try.underlying24 hi hz0 hz1 hz2 rfl (by omega) n (al.map Value.string) [.string bhd] (by rw [List.length_map, hn, Nat.mul_one]) (strCells_one al) rfl (by simp [Value.oneCell']) (by omega) (by unfold maxLen; omega) xa xc W.drew ((by rw [← hn]; exact (hA.later hbd).src : n = 0 ∨ _))
  have AA := hide (app2 (P := Try.prog) 24 24 9 i0 _ 1 16 Try.underlying24 hi hz0 hz1 hz2 rfl (by omega) n (al.map Value.string) [.string bhd] (by rw [List.length_map, hn, Nat.mul_one]) (strCells_one al) rfl (by simp [Value.oneCell']) (by omega) (by unfold maxLen; omega) xa xc W.drew ((by rw [← hn]; exact (hA.later hbd).src : n = 0 ∨ _)))
  have BB := hide hax.1
  have CC := hide hax.2
  have FIN := hide (show ∀ (W2 : World) (g cap : Nat), W2.ownsRow W.drew.heap.size 9 1 (.slice (some ⟨g, 0, none⟩) (n + 1) cap) (n + 1) ((al.map Value.string) ++ [.string bhd]) → Below W.drew.heap.size W.drew W2 → (Cs w (W2.setCell ⟨w.heap.size + 1 + 1, 6, none⟩ (.slice (some ⟨g, 0, none⟩) n cap)) ps (qs.set 6 (.slice (some ⟨g, 0, none⟩) n cap)) ∧ Nw (w.heap.size + 1 + 1 + 1) (W2.setCell ⟨w.heap.size + 1 + 1, 6, none⟩ (.slice (some ⟨g, 0, none⟩) n cap)) (fun X => Sts X (.slice (some ⟨g, 0, none⟩) n cap) al ∧ Mk 1 X (.slice (some ⟨g, 0, none⟩) n cap) n) ∧ (∀ k, k < W.heap.size → k ≠ w.heap.size + 1 + 1 → (W2.setCell ⟨w.heap.size + 1 + 1, 6, none⟩ (.slice (some ⟨g, 0, none⟩) n cap)).heap[k]? = W.heap[k]?) ∧ W.heap.size ≤ (W2.setCell ⟨w.heap.size + 1 + 1, 6, none⟩ (.slice (some ⟨g, 0, none⟩) n cap)).heap.size) from fun W2 g cap ho hb => by
    have hK := Kp.of_row ho (Nat.le_trans hsm (by decide)) (by rw [List.length_map, hn, Nat.mul_one]) (by omega) rfl
    have hg : W.drew.heap.size ≤ g := (ho.lt g rfl).1
    have hbig := (unhide CSD).big
    have hs : (W2.setCell ⟨w.heap.size + 1 + 1, 6, none⟩ (.slice (some ⟨g, 0, none⟩) n cap)).heap.size = W2.heap.size := by simp
    have hoth : ∀ k, k ≠ w.heap.size + 1 + 1 → (W2.setCell ⟨w.heap.size + 1 + 1, 6, none⟩ (.slice (some ⟨g, 0, none⟩) n cap)).heap[k]? = W2.heap[k]? := fun k hk => Below.heap_setCell W2 ⟨w.heap.size + 1 + 1, 6, none⟩ _ k hk
    have hcs := ((unhide CSD).later hb).put (i := 6) (v := .slice (some ⟨g, 0, none⟩) n cap) (((unhide CSD).later hb).qb.set 6 _ rfl) hoth (fun B hB => (Below.refl _ _).setCell (p := ⟨w.heap.size + 1 + 1, 6, none⟩) hB _) hs
    refine ⟨hcs, fun X hX hXs => ?_, fun k hk hne => ((hoth k hne).trans (hb.block k hk)), by rw [hs]; exact hb.size⟩
    have hK2 := hK.at (W' := X) ((hX g (by omega) (by rw [hs]; exact hK.lt)).trans (hoth g (by omega))) (by omega)
    rw [← hn] at hK2 ⊢
    exact ⟨hK2.sts, hK2.mkd⟩)
  have HQ := hide hQ
  have HPN := hide hP
  clear hP hA hsm hax hQ hCS hc hbd
  refine wp_region_held_drew (S := fun w' => w'.cell? ⟨w.heap.size, 6, none⟩ = some (.slice xa n xc)) (by kernel_rfl) ?_ (fun hHeld => ?_)
  · exact unhide EC
  refine wpAnyH_take (i := 1) (oi := { dst := some 26, op := Op.fieldAddr 28 (Operand.tmp 1) 6, type := 0, pos := "law.go:119", after := #[], guard := none }) (v := ?_) rfl (by kernel_rfl) (by kernel_rfl) (by kernel_rfl) (fun _ _ _ h => unhide HPN _ _ _ _ _ h) (Or.inl ⟨by rfl, ?_⟩) (by assumption) ?_
  rotate_left
  · intro w hSw; (try dsimp only at hSw); go_simp; (try with_reducible rfl)
  try simp only [Act.put, List.setIfInBounds_toArray, List.set_cons_zero, List.set_cons_succ]
  refine wpAnyH_take (i := 2) (oi := { dst := some 27, op := Op.load 24 (Operand.tmp 26), type := 24, pos := "law.go:119", after := #[{ on := 1, ground := Ground.data }], guard := none }) (v := ?_) rfl (by kernel_rfl) (by kernel_rfl) (by kernel_rfl) (fun _ _ _ h => unhide HPN _ _ _ _ _ h) (Or.inl ⟨by rfl, ?_⟩) (by assumption) ?_
  rotate_left
  · intro w hSw; (try dsimp only at hSw); go_simp; (try with_reducible rfl)
  try simp only [Act.put, List.setIfInBounds_toArray, List.set_cons_zero, List.set_cons_succ]
  refine wpAnyH_take (i := 6) (oi := { dst := some 31, op := Op.fieldAddr 28 (Operand.tmp 1) 6, type := 0, pos := "law.go:119", after := #[], guard := none }) (v := ?_) rfl (by kernel_rfl) (by kernel_rfl) (by kernel_rfl) (fun _ _ _ h => unhide HPN _ _ _ _ _ h) (Or.inl ⟨by rfl, ?_⟩) (by assumption) ?_
  rotate_left
  · intro w hSw; (try dsimp only at hSw); go_simp; (try with_reducible rfl)
  try simp only [Act.put, List.setIfInBounds_toArray, List.set_cons_zero, List.set_cons_succ]
  refine wpAnyH_take (i := 7) (oi := { dst := some 32, op := Op.load 24 (Operand.tmp 31), type := 24, pos := "law.go:119", after := #[{ on := 6, ground := Ground.data }], guard := none }) (v := ?_) rfl (by kernel_rfl) (by kernel_rfl) (by kernel_rfl) (fun _ _ _ h => unhide HPN _ _ _ _ _ h) (Or.inl ⟨by rfl, ?_⟩) (by assumption) ?_
  rotate_left
  · intro w hSw; (try dsimp only at hSw); go_simp; (try with_reducible rfl)
  try simp only [Act.put, List.setIfInBounds_toArray, List.set_cons_zero, List.set_cons_succ]
  refine wpAnyH_take (i := 8) (oi := { dst := some 33, op := Op.call { callee := Callee.builtin Builtin.len, args := #[Operand.tmp 32], argTypes := #[24] }, type := 3, pos := "law.go:119", after := #[{ on := 7, ground := Ground.data }], guard := none }) (v := ?_) rfl (by kernel_rfl) (by kernel_rfl) (by kernel_rfl) (fun _ _ _ h => unhide HPN _ _ _ _ _ h) (Or.inl ⟨by rfl, ?_⟩) (by assumption) ?_
  rotate_left
  · intro w hSw; (try dsimp only at hSw); go_simp; (try with_reducible rfl)
  try simp only [Act.put, List.setIfInBounds_toArray, List.set_cons_zero, List.set_cons_succ]
  refine wpAnyH_ready (rs := [0, 4]) (by kernel_rfl) (by simp) ?_
  refine AllReadyH.cons (o := { dst := some 25, op := Op.buildSlice 24 0 #[], type := 24, pos := "law.go:119", after := #[], guard := none }) rfl (fun K hK => ?_) (AllReadyH.cons (o := { dst := some 29, op := Op.buildSlice 24 1 #[(0, Operand.const (Value.string { data := #[98, 101, 104, 105, 110, 100] }))], type := 24, pos := "law.go:119", after := #[], guard := none }) rfl (fun K hK => ?_) AllReadyH.nil)
  · go_simp
    refine hK.out _ _ ((Below.cell ((((Below.refl _ W.drew)).alloc (by simp) _)) (p := ⟨w.heap.size, 6, none⟩) (unhide LT)).trans (unhide EC)) (fun hHeld2 => ?_)
    clear hHeld
    have hHeld := hHeld2
    clear hHeld2 hK K
    try simp only [Act.put, List.setIfInBounds_toArray, List.set_cons_zero, List.set_cons_succ]
    refine wpAnyH_ready (rs := [3, 4]) (by kernel_rfl) (by simp) ?_
    refine AllReadyH.cons (o := { dst := some 28, op := Op.call { callee := Callee.builtin Builtin.append, args := #[Operand.tmp 25, Operand.tmp 27], argTypes := #[24, 24] }, type := 24, pos := "law.go:119", after := #[{ on := 0, ground := Ground.data }, { on := 2, ground := Ground.data }], guard := none }) rfl (fun K hK => ?_) (AllReadyH.cons (o := { dst := some 29, op := Op.buildSlice 24 1 #[(0, Operand.const (Value.string { data := #[98, 101, 104, 105, 110, 100] }))], type := 24, pos := "law.go:119", after := #[], guard := none }) rfl (fun K hK => ?_) AllReadyH.nil)
    · obtain ⟨v1, W1, g, cap, W2, r1, r2, oA, bA2, bA1⟩ := unhide AA
      have NC := hide (show n ≤ cap from row_cap oA)
      have NCI := hide (show (n : Int) ≤ (cap : Int) by have := unhide NC; omega)
      have OA := hide oA
      have BA2 := hide bA2
      have BA1 := hide bA1
      clear oA bA2 bA1
      refine step_run (by rfl) (.tmp 25) (.tmp 27) 24 rfl _ _ rfl rfl _ _ r1 ?_
      refine hK.out _ _ ((Below.cell (unhide BA1) (p := ⟨w.heap.size, 6, none⟩) (unhide LT)).trans (unhide EC)) (fun hHeld2 => ?_)
      clear hHeld
      have hHeld := hHeld2
      clear hHeld2 hK K
      try simp only [Act.put, List.setIfInBounds_toArray, List.set_cons_zero, List.set_cons_succ]
      refine wpAnyH_ready (rs := [4]) (by kernel_rfl) (by simp) ?_
      refine AllReadyH.cons (o := { dst := some 29, op := Op.buildSlice 24 1 #[(0, Operand.const (Value.string { data := #[98, 101, 104, 105, 110, 100] }))], type := 24, pos := "law.go:119", after := #[], guard := none }) rfl (fun K hK => ?_) AllReadyH.nil
      go_simp
      refine hK.out _ _ ((Below.cell (((unhide BA1).alloc (unhide BA1).size _)) (p := ⟨w.heap.size, 6, none⟩) (unhide LT)).trans (unhide EC)) (fun hHeld2 => ?_)
      clear hHeld
      have hHeld := hHeld2
      clear hHeld2 hK K
      try simp only [Act.put, List.setIfInBounds_toArray, List.set_cons_zero, List.set_cons_succ]
      refine wpAnyH_ready (rs := [5]) (by kernel_rfl) (by simp) ?_
      refine AllReadyH.cons (o := { dst := some 30, op := Op.call { callee := Callee.builtin Builtin.append, args := #[Operand.tmp 28, Operand.tmp 29], argTypes := #[24, 24] }, type := 24, pos := "law.go:119", after := #[{ on := 3, ground := Ground.data }, { on := 4, ground := Ground.data }, { on := 3, ground := Ground.chain }], guard := none }) rfl (fun K hK => ?_) AllReadyH.nil
      refine step_run (by rfl) (.tmp 28) (.tmp 29) 24 rfl _ _ rfl rfl _ _ r2 ?_
      refine hK.out _ _ ((Below.cell (unhide BA2) (p := ⟨w.heap.size, 6, none⟩) (unhide LT)).trans (unhide EC)) (fun hHeld2 => ?_)
      clear hHeld
      have hHeld := hHeld2
      clear hHeld2 hK K
      try simp only [Act.put, List.setIfInBounds_toArray, List.set_cons_zero, List.set_cons_succ]
      refine wpAnyH_take (i := 9) (oi := { dst := some 34, op := Op.slice 24 (Operand.tmp 30) none (some (Operand.tmp 33)) none, type := 24, pos := "law.go:119", after := #[{ on := 5, ground := Ground.data }, { on := 8, ground := Ground.data }], guard := none }) (v := .slice (some ⟨g, 0, none⟩) n cap) rfl (by kernel_rfl) (by kernel_rfl) (by kernel_rfl) (fun _ _ _ h => unhide HPN _ _ _ _ _ h) (Or.inl ⟨by rfl, by intro w hSw; have q1 := unhide NC; have q2 := unhide NCI; go_simp⟩) (by assumption) ?_
      try simp only [Act.put, List.setIfInBounds_toArray, List.set_cons_zero, List.set_cons_succ]
      refine wpAnyH_take (i := 10) (oi := { dst := some 35, op := Op.fieldAddr 28 (Operand.tmp 3) 6, type := 0, pos := "law.go:119", after := #[{ on := 0, ground := Ground.phase }, { on := 1, ground := Ground.phase }, { on := 2, ground := Ground.phase }, { on := 3, ground := Ground.phase }, { on := 4, ground := Ground.phase }, { on := 5, ground := Ground.phase }, { on := 6, ground := Ground.phase }, { on := 7, ground := Ground.phase }, { on := 8, ground := Ground.phase }, { on := 9, ground := Ground.phase }], guard := none }) (v := ?_) rfl (by kernel_rfl) (by kernel_rfl) (by kernel_rfl) (fun _ _ _ h => unhide HPN _ _ _ _ _ h) (Or.inl ⟨by rfl, ?_⟩) (by assumption) ?_
      rotate_left
      · intro w hSw; (try dsimp only at hSw); go_simp; (try with_reducible rfl)
      try simp only [Act.put, List.setIfInBounds_toArray, List.set_cons_zero, List.set_cons_succ]
      refine wpAnyH_ready (rs := [11]) (by kernel_rfl) (by simp) ?_
      refine AllReadyH.cons (o := { dst := none, op := Op.store 24 (Operand.tmp 35) (Operand.tmp 34), type := 0, pos := "law.go:119", after := #[{ on := 10, ground := Ground.data }, { on := 9, ground := Ground.data }, { on := 5, ground := Ground.chain }, { on := 0, ground := Ground.phase }, { on := 1, ground := Ground.phase }, { on := 2, ground := Ground.phase }, { on := 3, ground := Ground.phase }, { on := 4, ground := Ground.phase }, { on := 5, ground := Ground.phase }, { on := 6, ground := Ground.phase }, { on := 7, ground := Ground.phase }, { on := 8, ground := Ground.phase }, { on := 9, ground := Ground.phase }], guard := none }) rfl (fun K hK => ?_) AllReadyH.nil
      have CS2 := hide ((unhide CSD).later (unhide BA2))
      refine step_set (by rfl) 24 (.tmp 35) (.tmp 34) rfl (w.heap.size + 1 + 1) 6 rfl (.slice (some ⟨g, 0, none⟩) n cap) rfl (stS _ _ _ _ _ _ _ ((unhide CS2).qb.cell (List.getElem?_eq_getElem (by rw [(unhide CS2).qb.len]; decide))) ((unhide CS2).qb.free _)) ?_
      refine hK.out _ _ ?_ (fun _ => ?_)
      · exact (World.cell?_setCell_far _ _ _ _ (show w.heap.size + 1 + 1 ≠ w.heap.size by omega)).trans hHeld
      clear hK K
      try simp only [Act.put]
      refine wpAnyH_done (by kernel_rfl) ?_ _
      exact unhide HQ _ _ _ _ _ _ (unhide FIN W2 g cap (unhide OA) (unhide BA2))
    · obtain ⟨v1, W1, g, cap, W2, r3, r4, oB, bB2, bB1⟩ := unhide BB
      have NC := hide (show n ≤ cap from row_cap oB)
      have NCI := hide (show (n : Int) ≤ (cap : Int) by have := unhide NC; omega)
      have OB := hide oB
      have BB2 := hide bB2
      have BB1 := hide bB1
      clear oB bB2 bB1
      go_simp
      refine hK.out _ _ ((Below.cell ((((((Below.refl _ W.drew)).alloc (by simp) _)).alloc (by simp) _)) (p := ⟨w.heap.size, 6, none⟩) (unhide LT)).trans (unhide EC)) (fun hHeld2 => ?_)
      clear hHeld
      have hHeld := hHeld2
      clear hHeld2 hK K
      try simp only [Act.put, List.setIfInBounds_toArray, List.set_cons_zero, List.set_cons_succ]
      refine wpAnyH_ready (rs := [3]) (by kernel_rfl) (by simp) ?_
      refine AllReadyH.cons (o := { dst := some 28, op := Op.call { callee := Callee.builtin Builtin.append, args := #[Operand.tmp 25, Operand.tmp 27], argTypes := #[24, 24] }, type := 24, pos := "law.go:119", after := #[{ on := 0, ground := Ground.data }, { on := 2, ground := Ground.data }], guard := none }) rfl (fun K hK => ?_) AllReadyH.nil
      refine step_run (by rfl) (.tmp 25) (.tmp 27) 24 rfl _ _ rfl rfl _ _ r3 ?_
      refine hK.out _ _ ((Below.cell (unhide BB1) (p := ⟨w.heap.size, 6, none⟩) (unhide LT)).trans (unhide EC)) (fun hHeld2 => ?_)
      clear hHeld
      have hHeld := hHeld2
      clear hHeld2 hK K
      try simp only [Act.put, List.setIfInBounds_toArray, List.set_cons_zero, List.set_cons_succ]
      refine wpAnyH_ready (rs := [5]) (by kernel_rfl) (by simp) ?_
      refine AllReadyH.cons (o := { dst := some 30, op := Op.call { callee := Callee.builtin Builtin.append, args := #[Operand.tmp 28, Operand.tmp 29], argTypes := #[24, 24] }, type := 24, pos := "law.go:119", after := #[{ on := 3, ground := Ground.data }, { on := 4, ground := Ground.data }, { on := 3, ground := Ground.chain }], guard := none }) rfl (fun K hK => ?_) AllReadyH.nil
      refine step_run (by rfl) (.tmp 28) (.tmp 29) 24 rfl _ _ rfl rfl _ _ r4 ?_
      refine hK.out _ _ ((Below.cell (unhide BB2) (p := ⟨w.heap.size, 6, none⟩) (unhide LT)).trans (unhide EC)) (fun hHeld2 => ?_)
      clear hHeld
      have hHeld := hHeld2
      clear hHeld2 hK K
      try simp only [Act.put, List.setIfInBounds_toArray, List.set_cons_zero, List.set_cons_succ]
      refine wpAnyH_take (i := 9) (oi := { dst := some 34, op := Op.slice 24 (Operand.tmp 30) none (some (Operand.tmp 33)) none, type := 24, pos := "law.go:119", after := #[{ on := 5, ground := Ground.data }, { on := 8, ground := Ground.data }], guard := none }) (v := .slice (some ⟨g, 0, none⟩) n cap) rfl (by kernel_rfl) (by kernel_rfl) (by kernel_rfl) (fun _ _ _ h => unhide HPN _ _ _ _ _ h) (Or.inl ⟨by rfl, by intro w hSw; have q1 := unhide NC; have q2 := unhide NCI; go_simp⟩) (by assumption) ?_
      try simp only [Act.put, List.setIfInBounds_toArray, List.set_cons_zero, List.set_cons_succ]
      refine wpAnyH_take (i := 10) (oi := { dst := some 35, op := Op.fieldAddr 28 (Operand.tmp 3) 6, type := 0, pos := "law.go:119", after := #[{ on := 0, ground := Ground.phase }, { on := 1, ground := Ground.phase }, { on := 2, ground := Ground.phase }, { on := 3, ground := Ground.phase }, { on := 4, ground := Ground.phase }, { on := 5, ground := Ground.phase }, { on := 6, ground := Ground.phase }, { on := 7, ground := Ground.phase }, { on := 8, ground := Ground.phase }, { on := 9, ground := Ground.phase }], guard := none }) (v := ?_) rfl (by kernel_rfl) (by kernel_rfl) (by kernel_rfl) (fun _ _ _ h => unhide HPN _ _ _ _ _ h) (Or.inl ⟨by rfl, ?_⟩) (by assumption) ?_
      rotate_left
      · intro w hSw; (try dsimp only at hSw); go_simp; (try with_reducible rfl)
      try simp only [Act.put, List.setIfInBounds_toArray, List.set_cons_zero, List.set_cons_succ]
      refine wpAnyH_ready (rs := [11]) (by kernel_rfl) (by simp) ?_
      refine AllReadyH.cons (o := { dst := none, op := Op.store 24 (Operand.tmp 35) (Operand.tmp 34), type := 0, pos := "law.go:119", after := #[{ on := 10, ground := Ground.data }, { on := 9, ground := Ground.data }, { on := 5, ground := Ground.chain }, { on := 0, ground := Ground.phase }, { on := 1, ground := Ground.phase }, { on := 2, ground := Ground.phase }, { on := 3, ground := Ground.phase }, { on := 4, ground := Ground.phase }, { on := 5, ground := Ground.phase }, { on := 6, ground := Ground.phase }, { on := 7, ground := Ground.phase }, { on := 8, ground := Ground.phase }, { on := 9, ground := Ground.phase }], guard := none }) rfl (fun K hK => ?_) AllReadyH.nil
      have CS2 := hide ((unhide CSD).later (unhide BB2))
      refine step_set (by rfl) 24 (.tmp 35) (.tmp 34) rfl (w.heap.size + 1 + 1) 6 rfl (.slice (some ⟨g, 0, none⟩) n cap) rfl (stS _ _ _ _ _ _ _ ((unhide CS2).qb.cell (List.getElem?_eq_getElem (by rw [(unhide CS2).qb.len]; decide))) ((unhide CS2).qb.free _)) ?_
      refine hK.out _ _ ?_ (fun _ => ?_)
      · exact (World.cell?_setCell_far _ _ _ _ (show w.heap.size + 1 + 1 ≠ w.heap.size by omega)).trans hHeld
      clear hK K
      try simp only [Act.put]
      refine wpAnyH_done (by kernel_rfl) ?_ _
      exact unhide HQ _ _ _ _ _ _ (unhide FIN W2 g cap (unhide OB) (unhide BB2))
  · go_simp
    refine hK.out _ _ ((Below.cell ((((Below.refl _ W.drew)).alloc (by simp) _)) (p := ⟨w.heap.size, 6, none⟩) (unhide LT)).trans (unhide EC)) (fun hHeld2 => ?_)
    clear hHeld
    have hHeld := hHeld2
    clear hHeld2 hK K
    try simp only [Act.put, List.setIfInBounds_toArray, List.set_cons_zero, List.set_cons_succ]
    refine wpAnyH_ready (rs := [0]) (by kernel_rfl) (by simp) ?_
    refine AllReadyH.cons (o := { dst := some 25, op := Op.buildSlice 24 0 #[], type := 24, pos := "law.go:119", after := #[], guard := none }) rfl (fun K hK => ?_) AllReadyH.nil
    go_simp
    refine hK.out _ _ ((Below.cell ((((((Below.refl _ W.drew)).alloc (by simp) _)).alloc (by simp) _)) (p := ⟨w.heap.size, 6, none⟩) (unhide LT)).trans (unhide EC)) (fun hHeld2 => ?_)
    clear hHeld
    have hHeld := hHeld2
    clear hHeld2 hK K
    try simp only [Act.put, List.setIfInBounds_toArray, List.set_cons_zero, List.set_cons_succ]
    refine wpAnyH_ready (rs := [3]) (by kernel_rfl) (by simp) ?_
    refine AllReadyH.cons (o := { dst := some 28, op := Op.call { callee := Callee.builtin Builtin.append, args := #[Operand.tmp 25, Operand.tmp 27], argTypes := #[24, 24] }, type := 24, pos := "law.go:119", after := #[{ on := 0, ground := Ground.data }, { on := 2, ground := Ground.data }], guard := none }) rfl (fun K hK => ?_) AllReadyH.nil
    obtain ⟨v1, W1, g, cap, W2, r5, r6, oC, bC2, bC1⟩ := unhide CC
    have NC := hide (show n ≤ cap from row_cap oC)
    have NCI := hide (show (n : Int) ≤ (cap : Int) by have := unhide NC; omega)
    have OC := hide oC
    have BC2 := hide bC2
    have BC1 := hide bC1
    clear oC bC2 bC1
    refine step_run (by rfl) (.tmp 25) (.tmp 27) 24 rfl _ _ rfl rfl _ _ r5 ?_
    refine hK.out _ _ ((Below.cell (unhide BC1) (p := ⟨w.heap.size, 6, none⟩) (unhide LT)).trans (unhide EC)) (fun hHeld2 => ?_)
    clear hHeld
    have hHeld := hHeld2
    clear hHeld2 hK K
    try simp only [Act.put, List.setIfInBounds_toArray, List.set_cons_zero, List.set_cons_succ]
    refine wpAnyH_ready (rs := [5]) (by kernel_rfl) (by simp) ?_
    refine AllReadyH.cons (o := { dst := some 30, op := Op.call { callee := Callee.builtin Builtin.append, args := #[Operand.tmp 28, Operand.tmp 29], argTypes := #[24, 24] }, type := 24, pos := "law.go:119", after := #[{ on := 3, ground := Ground.data }, { on := 4, ground := Ground.data }, { on := 3, ground := Ground.chain }], guard := none }) rfl (fun K hK => ?_) AllReadyH.nil
    refine step_run (by rfl) (.tmp 28) (.tmp 29) 24 rfl _ _ rfl rfl _ _ r6 ?_
    refine hK.out _ _ ((Below.cell (unhide BC2) (p := ⟨w.heap.size, 6, none⟩) (unhide LT)).trans (unhide EC)) (fun hHeld2 => ?_)
    clear hHeld
    have hHeld := hHeld2
    clear hHeld2 hK K
    try simp only [Act.put, List.setIfInBounds_toArray, List.set_cons_zero, List.set_cons_succ]
    refine wpAnyH_take (i := 9) (oi := { dst := some 34, op := Op.slice 24 (Operand.tmp 30) none (some (Operand.tmp 33)) none, type := 24, pos := "law.go:119", after := #[{ on := 5, ground := Ground.data }, { on := 8, ground := Ground.data }], guard := none }) (v := .slice (some ⟨g, 0, none⟩) n cap) rfl (by kernel_rfl) (by kernel_rfl) (by kernel_rfl) (fun _ _ _ h => unhide HPN _ _ _ _ _ h) (Or.inl ⟨by rfl, by intro w hSw; have q1 := unhide NC; have q2 := unhide NCI; go_simp⟩) (by assumption) ?_
    try simp only [Act.put, List.setIfInBounds_toArray, List.set_cons_zero, List.set_cons_succ]
    refine wpAnyH_take (i := 10) (oi := { dst := some 35, op := Op.fieldAddr 28 (Operand.tmp 3) 6, type := 0, pos := "law.go:119", after := #[{ on := 0, ground := Ground.phase }, { on := 1, ground := Ground.phase }, { on := 2, ground := Ground.phase }, { on := 3, ground := Ground.phase }, { on := 4, ground := Ground.phase }, { on := 5, ground := Ground.phase }, { on := 6, ground := Ground.phase }, { on := 7, ground := Ground.phase }, { on := 8, ground := Ground.phase }, { on := 9, ground := Ground.phase }], guard := none }) (v := ?_) rfl (by kernel_rfl) (by kernel_rfl) (by kernel_rfl) (fun _ _ _ h => unhide HPN _ _ _ _ _ h) (Or.inl ⟨by rfl, ?_⟩) (by assumption) ?_
    rotate_left
    · intro w hSw; (try dsimp only at hSw); go_simp; (try with_reducible rfl)
    try simp only [Act.put, List.setIfInBounds_toArray, List.set_cons_zero, List.set_cons_succ]
    refine wpAnyH_ready (rs := [11]) (by kernel_rfl) (by simp) ?_
    refine AllReadyH.cons (o := { dst := none, op := Op.store 24 (Operand.tmp 35) (Operand.tmp 34), type := 0, pos := "law.go:119", after := #[{ on := 10, ground := Ground.data }, { on := 9, ground := Ground.data }, { on := 5, ground := Ground.chain }, { on := 0, ground := Ground.phase }, { on := 1, ground := Ground.phase }, { on := 2, ground := Ground.phase }, { on := 3, ground := Ground.phase }, { on := 4, ground := Ground.phase }, { on := 5, ground := Ground.phase }, { on := 6, ground := Ground.phase }, { on := 7, ground := Ground.phase }, { on := 8, ground := Ground.phase }, { on := 9, ground := Ground.phase }], guard := none }) rfl (fun K hK => ?_) AllReadyH.nil
    have CS2 := hide ((unhide CSD).later (unhide BC2))
    refine step_set (by rfl) 24 (.tmp 35) (.tmp 34) rfl (w.heap.size + 1 + 1) 6 rfl (.slice (some ⟨g, 0, none⟩) n cap) rfl (stS _ _ _ _ _ _ _ ((unhide CS2).qb.cell (List.getElem?_eq_getElem (by rw [(unhide CS2).qb.len]; decide))) ((unhide CS2).qb.free _)) ?_
    refine hK.out _ _ ?_ (fun _ => ?_)
    · exact (World.cell?_setCell_far _ _ _ _ (show w.heap.size + 1 + 1 ≠ w.heap.size by omega)).trans hHeld
    clear hK K
    try simp only [Act.put]
    refine wpAnyH_done (by kernel_rfl) ?_ _
    exact unhide HQ _ _ _ _ _ _ (unhide FIN W2 g cap (unhide OC) (unhide BC2))


end Go.Proofs.Ytpakhjbaniapnaa
