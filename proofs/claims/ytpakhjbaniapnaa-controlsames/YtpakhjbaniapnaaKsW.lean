import Derived.Test.YtpakhjbaniapnaaKsV
namespace Go.Proofs.Ytpakhjbaniapnaa
open Go.RowKit

def mkF : List Value := .string bhd :: .int .i64 0 :: List.replicate 32 (.int .u8 0)
def zrF : List Value := .string ⟨#[]⟩ :: .int .i64 0 :: List.replicate 32 (.int .u8 0)
theorem mkF_one : ∀ u ∈ mkF, u.oneCell' = true := by
  have h : mkF.all (·.oneCell') = true := by kernel_rfl
  exact List.all_eq_true.1 h
theorem infoF3 : (Try.prog.info? 35).map (fun i => (i.zero, i.size, i.bytes)) = some (some (.agg zrF.toArray), 34, 56) := by kernel_rfl
theorem fillF (iF : TypeInfo) (h1 : iF.size = 34) (L : List (Nat × Value)) (hL : L = [(0, .agg mkF.toArray)]) :
    Instr.fill (fun i => some (i * iF.size, iF.size)) ((Array.range (1 * iF.size)).map ((Value.agg zrF.toArray).cells[· % (Value.agg zrF.toArray).cells.size]!)) L = some mkF.toArray := by
  rw [h1, hL]
  kernel_rfl
theorem ex_buildF (a : Act) (o : Oper) (ho : o.op = .build 35 #[(0, Operand.const (Value.string { data := #[98, 101, 104, 105, 110, 100] }))]) (w : World) : (execOp a.eval o).run Try.prog w = .ok (.value (.agg mkF.toArray)) w := by
  have hb : Try.prog.built 35 [(0, .string { data := #[98, 101, 104, 105, 110, 100] })] = some mkF.toArray := by kernel_rfl
  have hr := run_build (P := Try.prog) w 35 #[(0, .string { data := #[98, 101, 104, 105, 110, 100] })] mkF.toArray hb
  unfold execOp
  simp only [ho, List.map_toArray, List.map_cons, List.map_nil]
  show ((Instr.build 35 #[(0, .string { data := #[98, 101, 104, 105, 110, 100] })] >>= fun v => pure (Next.value v)) : Sem Next).run Try.prog w = _
  rw [Sem.run_bind, hr]
  rfl
theorem flat_len2 (z : Nat) : ∀ (l : List Fl), (∀ a ∈ l, a.cs.length = z) → (l.flatMap (·.cs)).length = l.length * z
  | [], _ => by simp
  | a :: l, h => by rw [List.flatMap_cons, List.length_append, flat_len2 z l (fun b hb => h b (List.mem_cons_of_mem _ hb)), h a List.mem_cons_self, List.length_cons, Nat.succ_mul, Nat.add_comm]
theorem flat_at2 (z : Nat) : ∀ (l : List Fl), (∀ a ∈ l, a.cs.length = z) → ∀ (i r : Nat) (hi : i < l.length), r < z → (l.flatMap (·.cs))[i * z + r]? = l[i].cs[r]?
  | [], _, i, r, hi, _ => absurd hi (Nat.not_lt_zero _)
  | a :: l, h, 0, r, _, hr => by
    rw [List.flatMap_cons, Nat.zero_mul, Nat.zero_add, List.getElem?_append_left (by rw [h a List.mem_cons_self]; exact hr)]
    rfl
  | a :: l, h, i + 1, r, hi, hr => by
    rw [List.flatMap_cons, List.getElem?_append_right (by rw [h a List.mem_cons_self, Nat.succ_mul]; omega), h a List.mem_cons_self]
    have e : (i + 1) * z + r - z = i * z + r := by rw [Nat.succ_mul]; omega
    rw [e]
    exact flat_at2 z l (fun b hb => h b (List.mem_cons_of_mem _ hb)) i r (Nat.lt_of_succ_lt_succ hi) hr
theorem Fls.each {w : World} {v : Value} {al : List Fl} (h : Fls w v al) : ∀ i (hi : i < al.length), isF al[i] := fun i hi => by
  obtain ⟨a, c, _, _, h3⟩ := h
  exact (h3 i hi).1
theorem Fls.lens {w : World} {v : Value} {al : List Fl} (h : Fls w v al) : ∀ a ∈ al, a.cs.length = 34 := fun a ha => by
  obtain ⟨i, hi, rfl⟩ := List.getElem_of_mem ha
  exact (h.each i hi).1
theorem Fls.src {w : World} {xa : Option Addr} {n c : Nat} {al : List Fl} (h : Fls w (.slice xa n c) al) : al.length = 0 ∨ ∃ b o, xa = some ⟨b, o, none⟩ ∧ b < w.heap.size ∧ ∀ j u, (al.flatMap (·.cs))[j]? = some u → w.cell? ⟨b, o + j, none⟩ = some u := by
  have hl := h.lens
  by_cases e : al.length = 0
  · exact .inl e
  · obtain ⟨a, c', e1, _, h3⟩ := h
    cases e1
    obtain ⟨_, b, o, rfl, hb, _⟩ := h3 0 (by omega)
    refine .inr ⟨b, o, rfl, hb, fun j u hj => ?_⟩
    have hj2 : j < al.length * 34 := by have := (List.getElem?_eq_some_iff.1 hj).1; rw [flat_len2 34 al hl] at this; exact this
    have hi : j / 34 < al.length := by omega
    obtain ⟨_, b', o', e2, _, e3⟩ := h3 (j / 34) hi
    cases e2
    have hf := flat_at2 34 al hl (j / 34) (j % 34) hi (by omega)
    rw [show j / 34 * 34 + j % 34 = j by omega, hj] at hf
    have := e3 (j % 34) u hf.symm
    rw [show o + j / 34 * 34 + j % 34 = o + j by omega] at this
    exact this
theorem Kp.fls {W : World} {g c : Nat} {al : List Fl} (h : Kp 34 W g c al.length (al.flatMap (·.cs))) (hF : ∀ i (hi : i < al.length), isF al[i]) : Fls W (.slice (some ⟨g, 0, none⟩) al.length c) al := by
  have hs := h.sm
  have hl : ∀ a ∈ al, a.cs.length = 34 := fun a ha => by
    obtain ⟨i, hi, rfl⟩ := List.getElem_of_mem ha
    exact (hF i hi).1
  refine ⟨_, _, rfl, by omega, fun i hi => ⟨hF i hi, g, 0, rfl, h.lt, fun j v hv => ?_⟩⟩
  have hj : j < 34 := by have := (List.getElem?_eq_some_iff.1 hv).1; rw [hl _ (List.getElem_mem hi)] at this; exact this
  have := h.ce (i * 34 + j) v ((flat_at2 34 al hl i j hi hj).trans hv)
  rw [show 0 + i * 34 + j = i * 34 + j by omega]
  exact this

set_option maxRecDepth 100000 in
set_option maxHeartbeats 8000000 in
theorem reg6 (Q : Exit → Act → World → Prop) (u0 u2 u4 u5 u6 u7 u8 u9 u10 u11 u12 u13 u14 u15 u16 u17 u18 u19 u20 u21 u22 u23 u24 u25 u26 u27 u28 u29 u30 u31 u32 u33 u34 u35 u36 u37 u38 u39 u40 u41 u42 u43 u44 u45 u46 u47 u48 : Value) (w W : World) (ps qs : List Value) (hCS : Cs w W ps qs) (xa : Option Addr) (n xc : Nat) (hc : ps[7]? = some (.slice xa n xc)) (al : List Fl) (hn : al.length = n) (hA : Fls W (.slice xa n xc) al) (hsm : n ≤ 2513169434843) (h1c : ∀ a ∈ al, ∀ u ∈ a.cs, u.oneCell' = true) (hP : ∀ x (a : Act) (d : Option Tmp) (v : Value) (w : World), Q (.panic x) (a.put d v) w → Q (.panic x) a w)
    (hQ : ∀ W' t1 t2 t3 g cap, (Cs w W' ps (qs.set 7 (.slice (some ⟨g, 0, none⟩) n cap)) ∧ Nw (w.heap.size + 1 + 1 + 1) W' (fun X => Fls X (.slice (some ⟨g, 0, none⟩) n cap) al ∧ Mk 34 X (.slice (some ⟨g, 0, none⟩) n cap) n) ∧ (∀ k, k < W.heap.size → k ≠ w.heap.size + 1 + 1 → W'.heap[k]? = W.heap[k]?) ∧ W.heap.size ≤ W'.heap.size) →
      Q .normal { tmps := #[u0, .pointer (some ⟨w.heap.size, 0, none⟩), u2, .pointer (some ⟨w.heap.size + 1 + 1, 0, none⟩), u4, u5, u6, u7, u8, u9, u10, u11, u12, u13, u14, u15, u16, u17, u18, u19, u20, u21, u22, u23, u24, u25, u26, u27, u28, u29, u30, u31, u32, u33, u34, u35, t1, .pointer (some ⟨w.heap.size, 7, none⟩), .slice xa n xc, t2, .agg mkF.toArray, t3, .slice (some ⟨g, 0, none⟩) (n + 1) cap, .pointer (some ⟨w.heap.size, 7, none⟩), .slice xa n xc, .int .i64 n, .slice (some ⟨g, 0, none⟩) n cap, .pointer (some ⟨w.heap.size + 1 + 1, 7, none⟩), u48], defers := [] } W') :
    (Code.region 6 #[{ dst := some 36, op := Op.buildSlice 25 0 #[], type := 25, pos := "law.go:120", after := #[], guard := none }, { dst := some 37, op := Op.fieldAddr 28 (Operand.tmp 1) 7, type := 0, pos := "law.go:120", after := #[], guard := none }, { dst := some 38, op := Op.load 25 (Operand.tmp 37), type := 25, pos := "law.go:120", after := #[{ on := 1, ground := Ground.data }], guard := none }, { dst := some 39, op := Op.call { callee := Callee.builtin Builtin.append, args := #[Operand.tmp 36, Operand.tmp 38], argTypes := #[25, 25] }, type := 25, pos := "law.go:120", after := #[{ on := 0, ground := Ground.data }, { on := 2, ground := Ground.data }], guard := none }, { dst := some 40, op := Op.build 35 #[(0, Operand.const (Value.string { data := #[98, 101, 104, 105, 110, 100] }))], type := 35, pos := "law.go:120", after := #[], guard := none }, { dst := some 41, op := Op.buildSlice 25 1 #[(0, Operand.tmp 40)], type := 25, pos := "law.go:120", after := #[{ on := 4, ground := Ground.data }], guard := none }, { dst := some 42, op := Op.call { callee := Callee.builtin Builtin.append, args := #[Operand.tmp 39, Operand.tmp 41], argTypes := #[25, 25] }, type := 25, pos := "law.go:120", after := #[{ on := 3, ground := Ground.data }, { on := 5, ground := Ground.data }, { on := 3, ground := Ground.chain }], guard := none }, { dst := some 43, op := Op.fieldAddr 28 (Operand.tmp 1) 7, type := 0, pos := "law.go:120", after := #[], guard := none }, { dst := some 44, op := Op.load 25 (Operand.tmp 43), type := 25, pos := "law.go:120", after := #[{ on := 7, ground := Ground.data }], guard := none }, { dst := some 45, op := Op.call { callee := Callee.builtin Builtin.len, args := #[Operand.tmp 44], argTypes := #[25] }, type := 3, pos := "law.go:120", after := #[{ on := 8, ground := Ground.data }], guard := none }, { dst := some 46, op := Op.slice 25 (Operand.tmp 42) none (some (Operand.tmp 45)) none, type := 25, pos := "law.go:120", after := #[{ on := 6, ground := Ground.data }, { on := 9, ground := Ground.data }], guard := none }, { dst := some 47, op := Op.fieldAddr 28 (Operand.tmp 3) 7, type := 0, pos := "law.go:120", after := #[{ on := 0, ground := Ground.phase }, { on := 1, ground := Ground.phase }, { on := 2, ground := Ground.phase }, { on := 3, ground := Ground.phase }, { on := 4, ground := Ground.phase }, { on := 5, ground := Ground.phase }, { on := 6, ground := Ground.phase }, { on := 7, ground := Ground.phase }, { on := 8, ground := Ground.phase }, { on := 9, ground := Ground.phase }, { on := 10, ground := Ground.phase }], guard := none }, { dst := none, op := Op.store 25 (Operand.tmp 47) (Operand.tmp 46), type := 0, pos := "law.go:120", after := #[{ on := 11, ground := Ground.data }, { on := 10, ground := Ground.data }, { on := 6, ground := Ground.chain }, { on := 0, ground := Ground.phase }, { on := 1, ground := Ground.phase }, { on := 2, ground := Ground.phase }, { on := 3, ground := Ground.phase }, { on := 4, ground := Ground.phase }, { on := 5, ground := Ground.phase }, { on := 6, ground := Ground.phase }, { on := 7, ground := Ground.phase }, { on := 8, ground := Ground.phase }, { on := 9, ground := Ground.phase }, { on := 10, ground := Ground.phase }], guard := none }] true).wp Try.prog Q { tmps := #[u0, .pointer (some ⟨w.heap.size, 0, none⟩), u2, .pointer (some ⟨w.heap.size + 1 + 1, 0, none⟩), u4, u5, u6, u7, u8, u9, u10, u11, u12, u13, u14, u15, u16, u17, u18, u19, u20, u21, u22, u23, u24, u25, u26, u27, u28, u29, u30, u31, u32, u33, u34, u35, u36, u37, u38, u39, u40, u41, u42, u43, u44, u45, u46, u47, u48], defers := [] } W := by
  obtain ⟨i0, hi, hz0, hz1, hz2⟩ := info_parts infoF3
  obtain ⟨iF, hiF, hzF0, hzF1, hzF2⟩ := info_parts infoF3
  have FILL := hide (fun L hL => fillF iF hzF1 L hL)
  have hlen : ∀ a ∈ al, a.cs.length = 34 := hA.lens
  have BLD := hide (fun (w : World) (a : Act) (o : Oper) (ho : o.op = .build 35 #[(0, Operand.const (Value.string { data := #[98, 101, 104, 105, 110, 100] }))]) => ex_buildF a o ho w)
  have hbd : Below W.heap.size W W.drew := (Below.refl _ W).drew
  have CSD := hide (hCS.later hbd)
  have LT := hide (show w.heap.size < W.drew.heap.size from (unhide CSD).pb.lt)
  have EC := hide ((unhide CSD).pb.cell hc)
  have hax := app2x (P := Try.prog) 25 25 35 i0 _ 34 56 Try.underlying25 hi hz0 hz1 hz2 rfl (by omega) n (al.flatMap (·.cs)) mkF (by rw [← hn]; exact flat_len2 34 al hlen) (fun u hu => by obtain ⟨a, ha, hu2⟩ := List.mem_flatMap.1 hu; exact h1c a ha u hu2) rfl mkF_one (by omega) (by unfold maxLen; omega) xa xc W.drew ((by rw [← hn]; exact (hA.later hbd).src : n = 0 ∨ _))
  have AA := hide (app2 (P := Try.prog) 25 25 35 i0 _ 34 56 Try.underlying25 hi hz0 hz1 hz2 rfl (by omega) n (al.flatMap (·.cs)) mkF (by rw [← hn]; exact flat_len2 34 al hlen) (fun u hu => by obtain ⟨a, ha, hu2⟩ := List.mem_flatMap.1 hu; exact h1c a ha u hu2) rfl mkF_one (by omega) (by unfold maxLen; omega) xa xc W.drew ((by rw [← hn]; exact (hA.later hbd).src : n = 0 ∨ _)))
  have BB := hide hax.1
  have CC := hide hax.2
  have FIN := hide (show ∀ (W2 : World) (g cap : Nat), W2.ownsRow W.drew.heap.size 35 34 (.slice (some ⟨g, 0, none⟩) (n + 1) cap) (n + 1) ((al.flatMap (·.cs)) ++ mkF) → Below W.drew.heap.size W.drew W2 → (Cs w (W2.setCell ⟨w.heap.size + 1 + 1, 7, none⟩ (.slice (some ⟨g, 0, none⟩) n cap)) ps (qs.set 7 (.slice (some ⟨g, 0, none⟩) n cap)) ∧ Nw (w.heap.size + 1 + 1 + 1) (W2.setCell ⟨w.heap.size + 1 + 1, 7, none⟩ (.slice (some ⟨g, 0, none⟩) n cap)) (fun X => Fls X (.slice (some ⟨g, 0, none⟩) n cap) al ∧ Mk 34 X (.slice (some ⟨g, 0, none⟩) n cap) n) ∧ (∀ k, k < W.heap.size → k ≠ w.heap.size + 1 + 1 → (W2.setCell ⟨w.heap.size + 1 + 1, 7, none⟩ (.slice (some ⟨g, 0, none⟩) n cap)).heap[k]? = W.heap[k]?) ∧ W.heap.size ≤ (W2.setCell ⟨w.heap.size + 1 + 1, 7, none⟩ (.slice (some ⟨g, 0, none⟩) n cap)).heap.size) from fun W2 g cap ho hb => by
    have hK := Kp.of_row ho (Nat.le_trans hsm (by decide)) (by rw [← hn]; exact flat_len2 34 al hlen) (by omega) rfl
    have hg : W.drew.heap.size ≤ g := (ho.lt g rfl).1
    have hbig := (unhide CSD).big
    have hs : (W2.setCell ⟨w.heap.size + 1 + 1, 7, none⟩ (.slice (some ⟨g, 0, none⟩) n cap)).heap.size = W2.heap.size := by simp
    have hoth : ∀ k, k ≠ w.heap.size + 1 + 1 → (W2.setCell ⟨w.heap.size + 1 + 1, 7, none⟩ (.slice (some ⟨g, 0, none⟩) n cap)).heap[k]? = W2.heap[k]? := fun k hk => Below.heap_setCell W2 ⟨w.heap.size + 1 + 1, 7, none⟩ _ k hk
    have hcs := ((unhide CSD).later hb).put (i := 7) (v := .slice (some ⟨g, 0, none⟩) n cap) (((unhide CSD).later hb).qb.set 7 _ rfl) hoth (fun B hB => (Below.refl _ _).setCell (p := ⟨w.heap.size + 1 + 1, 7, none⟩) hB _) hs
    refine ⟨hcs, fun X hX hXs => ?_, fun k hk hne => ((hoth k hne).trans (hb.block k hk)), by rw [hs]; exact hb.size⟩
    have hK2 := hK.at (W' := X) ((hX g (by omega) (by rw [hs]; exact hK.lt)).trans (hoth g (by omega))) (by omega)
    rw [← hn] at hK2 ⊢
    exact ⟨hK2.fls hA.each, hK2.mkd⟩)
  have HQ := hide hQ
  have HPN := hide hP
  clear hP hA hsm hax hQ hCS hc hbd
  refine wp_region_held_drew (S := fun w' => w'.cell? ⟨w.heap.size, 7, none⟩ = some (.slice xa n xc)) (by kernel_rfl) ?_ (fun hHeld => ?_)
  · exact unhide EC
  refine wpAnyH_take (i := 1) (oi := { dst := some 37, op := Op.fieldAddr 28 (Operand.tmp 1) 7, type := 0, pos := "law.go:120", after := #[], guard := none }) (v := ?_) rfl (by kernel_rfl) (by kernel_rfl) (by kernel_rfl) (fun _ _ _ h => unhide HPN _ _ _ _ _ h) (Or.inl ⟨by rfl, ?_⟩) (by assumption) ?_
  rotate_left
  · intro w hSw; (try dsimp only at hSw); go_simp; (try with_reducible rfl)
  try simp only [Act.put, List.setIfInBounds_toArray, List.set_cons_zero, List.set_cons_succ]
  refine wpAnyH_take (i := 2) (oi := { dst := some 38, op := Op.load 25 (Operand.tmp 37), type := 25, pos := "law.go:120", after := #[{ on := 1, ground := Ground.data }], guard := none }) (v := ?_) rfl (by kernel_rfl) (by kernel_rfl) (by kernel_rfl) (fun _ _ _ h => unhide HPN _ _ _ _ _ h) (Or.inl ⟨by rfl, ?_⟩) (by assumption) ?_
  rotate_left
  · intro w hSw; (try dsimp only at hSw); go_simp; (try with_reducible rfl)
  try simp only [Act.put, List.setIfInBounds_toArray, List.set_cons_zero, List.set_cons_succ]
  refine wpAnyH_take (i := 4) (oi := { dst := some 40, op := Op.build 35 #[(0, Operand.const (Value.string { data := #[98, 101, 104, 105, 110, 100] }))], type := 35, pos := "law.go:120", after := #[], guard := none }) (v := .agg mkF.toArray) rfl (by kernel_rfl) (by kernel_rfl) (by kernel_rfl) (fun _ _ _ h => unhide HPN _ _ _ _ _ h) (Or.inl ⟨by rfl, by intro w hSw; exact unhide BLD w _ _ rfl⟩) (by assumption) ?_
  try simp only [Act.put, List.setIfInBounds_toArray, List.set_cons_zero, List.set_cons_succ]
  refine wpAnyH_take (i := 7) (oi := { dst := some 43, op := Op.fieldAddr 28 (Operand.tmp 1) 7, type := 0, pos := "law.go:120", after := #[], guard := none }) (v := ?_) rfl (by kernel_rfl) (by kernel_rfl) (by kernel_rfl) (fun _ _ _ h => unhide HPN _ _ _ _ _ h) (Or.inl ⟨by rfl, ?_⟩) (by assumption) ?_
  rotate_left
  · intro w hSw; (try dsimp only at hSw); go_simp; (try with_reducible rfl)
  try simp only [Act.put, List.setIfInBounds_toArray, List.set_cons_zero, List.set_cons_succ]
  refine wpAnyH_take (i := 8) (oi := { dst := some 44, op := Op.load 25 (Operand.tmp 43), type := 25, pos := "law.go:120", after := #[{ on := 7, ground := Ground.data }], guard := none }) (v := ?_) rfl (by kernel_rfl) (by kernel_rfl) (by kernel_rfl) (fun _ _ _ h => unhide HPN _ _ _ _ _ h) (Or.inl ⟨by rfl, ?_⟩) (by assumption) ?_
  rotate_left
  · intro w hSw; (try dsimp only at hSw); go_simp; (try with_reducible rfl)
  try simp only [Act.put, List.setIfInBounds_toArray, List.set_cons_zero, List.set_cons_succ]
  refine wpAnyH_take (i := 9) (oi := { dst := some 45, op := Op.call { callee := Callee.builtin Builtin.len, args := #[Operand.tmp 44], argTypes := #[25] }, type := 3, pos := "law.go:120", after := #[{ on := 8, ground := Ground.data }], guard := none }) (v := ?_) rfl (by kernel_rfl) (by kernel_rfl) (by kernel_rfl) (fun _ _ _ h => unhide HPN _ _ _ _ _ h) (Or.inl ⟨by rfl, ?_⟩) (by assumption) ?_
  rotate_left
  · intro w hSw; (try dsimp only at hSw); go_simp; (try with_reducible rfl)
  try simp only [Act.put, List.setIfInBounds_toArray, List.set_cons_zero, List.set_cons_succ]
  refine wpAnyH_ready (rs := [0, 5]) (by kernel_rfl) (by simp) ?_
  refine AllReadyH.cons (o := { dst := some 36, op := Op.buildSlice 25 0 #[], type := 25, pos := "law.go:120", after := #[], guard := none }) rfl (fun K hK => ?_) (AllReadyH.cons (o := { dst := some 41, op := Op.buildSlice 25 1 #[(0, Operand.tmp 40)], type := 25, pos := "law.go:120", after := #[{ on := 4, ground := Ground.data }], guard := none }) rfl (fun K hK => ?_) AllReadyH.nil)
  · go_simp
    refine hK.out _ _ ((Below.cell ((((Below.refl _ W.drew)).alloc (by simp) _)) (p := ⟨w.heap.size, 7, none⟩) (unhide LT)).trans (unhide EC)) (fun hHeld2 => ?_)
    clear hHeld
    have hHeld := hHeld2
    clear hHeld2 hK K
    try simp only [Act.put, List.setIfInBounds_toArray, List.set_cons_zero, List.set_cons_succ]
    refine wpAnyH_ready (rs := [3, 5]) (by kernel_rfl) (by simp) ?_
    refine AllReadyH.cons (o := { dst := some 39, op := Op.call { callee := Callee.builtin Builtin.append, args := #[Operand.tmp 36, Operand.tmp 38], argTypes := #[25, 25] }, type := 25, pos := "law.go:120", after := #[{ on := 0, ground := Ground.data }, { on := 2, ground := Ground.data }], guard := none }) rfl (fun K hK => ?_) (AllReadyH.cons (o := { dst := some 41, op := Op.buildSlice 25 1 #[(0, Operand.tmp 40)], type := 25, pos := "law.go:120", after := #[{ on := 4, ground := Ground.data }], guard := none }) rfl (fun K hK => ?_) AllReadyH.nil)
    · obtain ⟨v1, W1, g, cap, W2, r1, r2, oA, bA2, bA1⟩ := unhide AA
      have NC := hide (show n ≤ cap from row_cap oA)
      have NCI := hide (show (n : Int) ≤ (cap : Int) by have := unhide NC; omega)
      have OA := hide oA
      have BA2 := hide bA2
      have BA1 := hide bA1
      clear oA bA2 bA1
      refine step_run (by rfl) (.tmp 36) (.tmp 38) 25 rfl _ _ rfl rfl _ _ r1 ?_
      refine hK.out _ _ ((Below.cell (unhide BA1) (p := ⟨w.heap.size, 7, none⟩) (unhide LT)).trans (unhide EC)) (fun hHeld2 => ?_)
      clear hHeld
      have hHeld := hHeld2
      clear hHeld2 hK K
      try simp only [Act.put, List.setIfInBounds_toArray, List.set_cons_zero, List.set_cons_succ]
      refine wpAnyH_ready (rs := [5]) (by kernel_rfl) (by simp) ?_
      refine AllReadyH.cons (o := { dst := some 41, op := Op.buildSlice 25 1 #[(0, Operand.tmp 40)], type := 25, pos := "law.go:120", after := #[{ on := 4, ground := Ground.data }], guard := none }) rfl (fun K hK => ?_) AllReadyH.nil
      rw [if_pos (by rfl)]
      refine wp_buildSlice 25 35 1 _ rfl mkF.toArray iF (.agg zrF.toArray) Try.underlying25 hiF hzF0 (by rw [hzF1]; decide) (by rw [hzF1]; decide) (unhide FILL _ (by simp only [List.map_toArray, List.map_cons, List.map_nil]; rfl)) ?_
      refine hK.out _ _ ((Below.cell (((unhide BA1).alloc (unhide BA1).size _)) (p := ⟨w.heap.size, 7, none⟩) (unhide LT)).trans (unhide EC)) (fun hHeld2 => ?_)
      clear hHeld
      have hHeld := hHeld2
      clear hHeld2 hK K
      try simp only [Act.put, List.setIfInBounds_toArray, List.set_cons_zero, List.set_cons_succ]
      refine wpAnyH_ready (rs := [6]) (by kernel_rfl) (by simp) ?_
      refine AllReadyH.cons (o := { dst := some 42, op := Op.call { callee := Callee.builtin Builtin.append, args := #[Operand.tmp 39, Operand.tmp 41], argTypes := #[25, 25] }, type := 25, pos := "law.go:120", after := #[{ on := 3, ground := Ground.data }, { on := 5, ground := Ground.data }, { on := 3, ground := Ground.chain }], guard := none }) rfl (fun K hK => ?_) AllReadyH.nil
      refine step_run (by rfl) (.tmp 39) (.tmp 41) 25 rfl _ _ rfl rfl _ _ r2 ?_
      refine hK.out _ _ ((Below.cell (unhide BA2) (p := ⟨w.heap.size, 7, none⟩) (unhide LT)).trans (unhide EC)) (fun hHeld2 => ?_)
      clear hHeld
      have hHeld := hHeld2
      clear hHeld2 hK K
      try simp only [Act.put, List.setIfInBounds_toArray, List.set_cons_zero, List.set_cons_succ]
      refine wpAnyH_take (i := 10) (oi := { dst := some 46, op := Op.slice 25 (Operand.tmp 42) none (some (Operand.tmp 45)) none, type := 25, pos := "law.go:120", after := #[{ on := 6, ground := Ground.data }, { on := 9, ground := Ground.data }], guard := none }) (v := .slice (some ⟨g, 0, none⟩) n cap) rfl (by kernel_rfl) (by kernel_rfl) (by kernel_rfl) (fun _ _ _ h => unhide HPN _ _ _ _ _ h) (Or.inl ⟨by rfl, by intro w hSw; have q1 := unhide NC; have q2 := unhide NCI; go_simp⟩) (by assumption) ?_
      try simp only [Act.put, List.setIfInBounds_toArray, List.set_cons_zero, List.set_cons_succ]
      refine wpAnyH_take (i := 11) (oi := { dst := some 47, op := Op.fieldAddr 28 (Operand.tmp 3) 7, type := 0, pos := "law.go:120", after := #[{ on := 0, ground := Ground.phase }, { on := 1, ground := Ground.phase }, { on := 2, ground := Ground.phase }, { on := 3, ground := Ground.phase }, { on := 4, ground := Ground.phase }, { on := 5, ground := Ground.phase }, { on := 6, ground := Ground.phase }, { on := 7, ground := Ground.phase }, { on := 8, ground := Ground.phase }, { on := 9, ground := Ground.phase }, { on := 10, ground := Ground.phase }], guard := none }) (v := ?_) rfl (by kernel_rfl) (by kernel_rfl) (by kernel_rfl) (fun _ _ _ h => unhide HPN _ _ _ _ _ h) (Or.inl ⟨by rfl, ?_⟩) (by assumption) ?_
      rotate_left
      · intro w hSw; (try dsimp only at hSw); go_simp; (try with_reducible rfl)
      try simp only [Act.put, List.setIfInBounds_toArray, List.set_cons_zero, List.set_cons_succ]
      refine wpAnyH_ready (rs := [12]) (by kernel_rfl) (by simp) ?_
      refine AllReadyH.cons (o := { dst := none, op := Op.store 25 (Operand.tmp 47) (Operand.tmp 46), type := 0, pos := "law.go:120", after := #[{ on := 11, ground := Ground.data }, { on := 10, ground := Ground.data }, { on := 6, ground := Ground.chain }, { on := 0, ground := Ground.phase }, { on := 1, ground := Ground.phase }, { on := 2, ground := Ground.phase }, { on := 3, ground := Ground.phase }, { on := 4, ground := Ground.phase }, { on := 5, ground := Ground.phase }, { on := 6, ground := Ground.phase }, { on := 7, ground := Ground.phase }, { on := 8, ground := Ground.phase }, { on := 9, ground := Ground.phase }, { on := 10, ground := Ground.phase }], guard := none }) rfl (fun K hK => ?_) AllReadyH.nil
      have CS2 := hide ((unhide CSD).later (unhide BA2))
      refine step_set (by rfl) 25 (.tmp 47) (.tmp 46) rfl (w.heap.size + 1 + 1) 7 rfl (.slice (some ⟨g, 0, none⟩) n cap) rfl (stG _ _ _ _ _ _ _ ((unhide CS2).qb.cell (List.getElem?_eq_getElem (by rw [(unhide CS2).qb.len]; decide))) ((unhide CS2).qb.free _)) ?_
      refine hK.out _ _ ?_ (fun _ => ?_)
      · exact (World.cell?_setCell_far _ _ _ _ (show w.heap.size + 1 + 1 ≠ w.heap.size by omega)).trans hHeld
      clear hK K
      try simp only [Act.put]
      refine wpAnyH_done (by kernel_rfl) ?_ _
      exact unhide HQ _ _ _ _ _ _ (unhide FIN W2 g cap (unhide OA) (unhide BA2))
    · obtain ⟨v1, W1, g, cap, W2, r3, r4, oB, bB2, bB1⟩ := unhide BB
      have NC := hide (show n ≤ cap from row_cap oB)
      have NCI := hide (show (n : Int) ≤ (cap : Int) by have := unhide NC; omega)
      have OB := hide oB
      have BB2 := hide bB2
      have BB1 := hide bB1
      clear oB bB2 bB1
      rw [if_pos (by rfl)]
      refine wp_buildSlice 25 35 1 _ rfl mkF.toArray iF (.agg zrF.toArray) Try.underlying25 hiF hzF0 (by rw [hzF1]; decide) (by rw [hzF1]; decide) (unhide FILL _ (by simp only [List.map_toArray, List.map_cons, List.map_nil]; rfl)) ?_
      simp only [drew_size, World.size_alloc]
      refine hK.out _ _ ((Below.cell ((((((Below.refl _ W.drew)).alloc (by simp) _)).alloc (by simp) _)) (p := ⟨w.heap.size, 7, none⟩) (unhide LT)).trans (unhide EC)) (fun hHeld2 => ?_)
      clear hHeld
      have hHeld := hHeld2
      clear hHeld2 hK K
      try simp only [Act.put, List.setIfInBounds_toArray, List.set_cons_zero, List.set_cons_succ]
      refine wpAnyH_ready (rs := [3]) (by kernel_rfl) (by simp) ?_
      refine AllReadyH.cons (o := { dst := some 39, op := Op.call { callee := Callee.builtin Builtin.append, args := #[Operand.tmp 36, Operand.tmp 38], argTypes := #[25, 25] }, type := 25, pos := "law.go:120", after := #[{ on := 0, ground := Ground.data }, { on := 2, ground := Ground.data }], guard := none }) rfl (fun K hK => ?_) AllReadyH.nil
      refine step_run (by rfl) (.tmp 36) (.tmp 38) 25 rfl _ _ rfl rfl _ _ r3 ?_
      refine hK.out _ _ ((Below.cell (unhide BB1) (p := ⟨w.heap.size, 7, none⟩) (unhide LT)).trans (unhide EC)) (fun hHeld2 => ?_)
      clear hHeld
      have hHeld := hHeld2
      clear hHeld2 hK K
      try simp only [Act.put, List.setIfInBounds_toArray, List.set_cons_zero, List.set_cons_succ]
      refine wpAnyH_ready (rs := [6]) (by kernel_rfl) (by simp) ?_
      refine AllReadyH.cons (o := { dst := some 42, op := Op.call { callee := Callee.builtin Builtin.append, args := #[Operand.tmp 39, Operand.tmp 41], argTypes := #[25, 25] }, type := 25, pos := "law.go:120", after := #[{ on := 3, ground := Ground.data }, { on := 5, ground := Ground.data }, { on := 3, ground := Ground.chain }], guard := none }) rfl (fun K hK => ?_) AllReadyH.nil
      refine step_run (by rfl) (.tmp 39) (.tmp 41) 25 rfl _ _ rfl rfl _ _ r4 ?_
      refine hK.out _ _ ((Below.cell (unhide BB2) (p := ⟨w.heap.size, 7, none⟩) (unhide LT)).trans (unhide EC)) (fun hHeld2 => ?_)
      clear hHeld
      have hHeld := hHeld2
      clear hHeld2 hK K
      try simp only [Act.put, List.setIfInBounds_toArray, List.set_cons_zero, List.set_cons_succ]
      refine wpAnyH_take (i := 10) (oi := { dst := some 46, op := Op.slice 25 (Operand.tmp 42) none (some (Operand.tmp 45)) none, type := 25, pos := "law.go:120", after := #[{ on := 6, ground := Ground.data }, { on := 9, ground := Ground.data }], guard := none }) (v := .slice (some ⟨g, 0, none⟩) n cap) rfl (by kernel_rfl) (by kernel_rfl) (by kernel_rfl) (fun _ _ _ h => unhide HPN _ _ _ _ _ h) (Or.inl ⟨by rfl, by intro w hSw; have q1 := unhide NC; have q2 := unhide NCI; go_simp⟩) (by assumption) ?_
      try simp only [Act.put, List.setIfInBounds_toArray, List.set_cons_zero, List.set_cons_succ]
      refine wpAnyH_take (i := 11) (oi := { dst := some 47, op := Op.fieldAddr 28 (Operand.tmp 3) 7, type := 0, pos := "law.go:120", after := #[{ on := 0, ground := Ground.phase }, { on := 1, ground := Ground.phase }, { on := 2, ground := Ground.phase }, { on := 3, ground := Ground.phase }, { on := 4, ground := Ground.phase }, { on := 5, ground := Ground.phase }, { on := 6, ground := Ground.phase }, { on := 7, ground := Ground.phase }, { on := 8, ground := Ground.phase }, { on := 9, ground := Ground.phase }, { on := 10, ground := Ground.phase }], guard := none }) (v := ?_) rfl (by kernel_rfl) (by kernel_rfl) (by kernel_rfl) (fun _ _ _ h => unhide HPN _ _ _ _ _ h) (Or.inl ⟨by rfl, ?_⟩) (by assumption) ?_
      rotate_left
      · intro w hSw; (try dsimp only at hSw); go_simp; (try with_reducible rfl)
      try simp only [Act.put, List.setIfInBounds_toArray, List.set_cons_zero, List.set_cons_succ]
      refine wpAnyH_ready (rs := [12]) (by kernel_rfl) (by simp) ?_
      refine AllReadyH.cons (o := { dst := none, op := Op.store 25 (Operand.tmp 47) (Operand.tmp 46), type := 0, pos := "law.go:120", after := #[{ on := 11, ground := Ground.data }, { on := 10, ground := Ground.data }, { on := 6, ground := Ground.chain }, { on := 0, ground := Ground.phase }, { on := 1, ground := Ground.phase }, { on := 2, ground := Ground.phase }, { on := 3, ground := Ground.phase }, { on := 4, ground := Ground.phase }, { on := 5, ground := Ground.phase }, { on := 6, ground := Ground.phase }, { on := 7, ground := Ground.phase }, { on := 8, ground := Ground.phase }, { on := 9, ground := Ground.phase }, { on := 10, ground := Ground.phase }], guard := none }) rfl (fun K hK => ?_) AllReadyH.nil
      have CS2 := hide ((unhide CSD).later (unhide BB2))
      refine step_set (by rfl) 25 (.tmp 47) (.tmp 46) rfl (w.heap.size + 1 + 1) 7 rfl (.slice (some ⟨g, 0, none⟩) n cap) rfl (stG _ _ _ _ _ _ _ ((unhide CS2).qb.cell (List.getElem?_eq_getElem (by rw [(unhide CS2).qb.len]; decide))) ((unhide CS2).qb.free _)) ?_
      refine hK.out _ _ ?_ (fun _ => ?_)
      · exact (World.cell?_setCell_far _ _ _ _ (show w.heap.size + 1 + 1 ≠ w.heap.size by omega)).trans hHeld
      clear hK K
      try simp only [Act.put]
      refine wpAnyH_done (by kernel_rfl) ?_ _
      exact unhide HQ _ _ _ _ _ _ (unhide FIN W2 g cap (unhide OB) (unhide BB2))
  · rw [if_pos (by rfl)]
    refine wp_buildSlice 25 35 1 _ rfl mkF.toArray iF (.agg zrF.toArray) Try.underlying25 hiF hzF0 (by rw [hzF1]; decide) (by rw [hzF1]; decide) (unhide FILL _ (by simp only [List.map_toArray, List.map_cons, List.map_nil]; rfl)) ?_
    refine hK.out _ _ ((Below.cell ((((Below.refl _ W.drew)).alloc (by simp) _)) (p := ⟨w.heap.size, 7, none⟩) (unhide LT)).trans (unhide EC)) (fun hHeld2 => ?_)
    clear hHeld
    have hHeld := hHeld2
    clear hHeld2 hK K
    try simp only [Act.put, List.setIfInBounds_toArray, List.set_cons_zero, List.set_cons_succ]
    refine wpAnyH_ready (rs := [0]) (by kernel_rfl) (by simp) ?_
    refine AllReadyH.cons (o := { dst := some 36, op := Op.buildSlice 25 0 #[], type := 25, pos := "law.go:120", after := #[], guard := none }) rfl (fun K hK => ?_) AllReadyH.nil
    go_simp
    refine hK.out _ _ ((Below.cell ((((((Below.refl _ W.drew)).alloc (by simp) _)).alloc (by simp) _)) (p := ⟨w.heap.size, 7, none⟩) (unhide LT)).trans (unhide EC)) (fun hHeld2 => ?_)
    clear hHeld
    have hHeld := hHeld2
    clear hHeld2 hK K
    try simp only [Act.put, List.setIfInBounds_toArray, List.set_cons_zero, List.set_cons_succ]
    refine wpAnyH_ready (rs := [3]) (by kernel_rfl) (by simp) ?_
    refine AllReadyH.cons (o := { dst := some 39, op := Op.call { callee := Callee.builtin Builtin.append, args := #[Operand.tmp 36, Operand.tmp 38], argTypes := #[25, 25] }, type := 25, pos := "law.go:120", after := #[{ on := 0, ground := Ground.data }, { on := 2, ground := Ground.data }], guard := none }) rfl (fun K hK => ?_) AllReadyH.nil
    obtain ⟨v1, W1, g, cap, W2, r5, r6, oC, bC2, bC1⟩ := unhide CC
    have NC := hide (show n ≤ cap from row_cap oC)
    have NCI := hide (show (n : Int) ≤ (cap : Int) by have := unhide NC; omega)
    have OC := hide oC
    have BC2 := hide bC2
    have BC1 := hide bC1
    clear oC bC2 bC1
    refine step_run (by rfl) (.tmp 36) (.tmp 38) 25 rfl _ _ rfl rfl _ _ r5 ?_
    refine hK.out _ _ ((Below.cell (unhide BC1) (p := ⟨w.heap.size, 7, none⟩) (unhide LT)).trans (unhide EC)) (fun hHeld2 => ?_)
    clear hHeld
    have hHeld := hHeld2
    clear hHeld2 hK K
    try simp only [Act.put, List.setIfInBounds_toArray, List.set_cons_zero, List.set_cons_succ]
    refine wpAnyH_ready (rs := [6]) (by kernel_rfl) (by simp) ?_
    refine AllReadyH.cons (o := { dst := some 42, op := Op.call { callee := Callee.builtin Builtin.append, args := #[Operand.tmp 39, Operand.tmp 41], argTypes := #[25, 25] }, type := 25, pos := "law.go:120", after := #[{ on := 3, ground := Ground.data }, { on := 5, ground := Ground.data }, { on := 3, ground := Ground.chain }], guard := none }) rfl (fun K hK => ?_) AllReadyH.nil
    refine step_run (by rfl) (.tmp 39) (.tmp 41) 25 rfl _ _ rfl rfl _ _ r6 ?_
    refine hK.out _ _ ((Below.cell (unhide BC2) (p := ⟨w.heap.size, 7, none⟩) (unhide LT)).trans (unhide EC)) (fun hHeld2 => ?_)
    clear hHeld
    have hHeld := hHeld2
    clear hHeld2 hK K
    try simp only [Act.put, List.setIfInBounds_toArray, List.set_cons_zero, List.set_cons_succ]
    refine wpAnyH_take (i := 10) (oi := { dst := some 46, op := Op.slice 25 (Operand.tmp 42) none (some (Operand.tmp 45)) none, type := 25, pos := "law.go:120", after := #[{ on := 6, ground := Ground.data }, { on := 9, ground := Ground.data }], guard := none }) (v := .slice (some ⟨g, 0, none⟩) n cap) rfl (by kernel_rfl) (by kernel_rfl) (by kernel_rfl) (fun _ _ _ h => unhide HPN _ _ _ _ _ h) (Or.inl ⟨by rfl, by intro w hSw; have q1 := unhide NC; have q2 := unhide NCI; go_simp⟩) (by assumption) ?_
    try simp only [Act.put, List.setIfInBounds_toArray, List.set_cons_zero, List.set_cons_succ]
    refine wpAnyH_take (i := 11) (oi := { dst := some 47, op := Op.fieldAddr 28 (Operand.tmp 3) 7, type := 0, pos := "law.go:120", after := #[{ on := 0, ground := Ground.phase }, { on := 1, ground := Ground.phase }, { on := 2, ground := Ground.phase }, { on := 3, ground := Ground.phase }, { on := 4, ground := Ground.phase }, { on := 5, ground := Ground.phase }, { on := 6, ground := Ground.phase }, { on := 7, ground := Ground.phase }, { on := 8, ground := Ground.phase }, { on := 9, ground := Ground.phase }, { on := 10, ground := Ground.phase }], guard := none }) (v := ?_) rfl (by kernel_rfl) (by kernel_rfl) (by kernel_rfl) (fun _ _ _ h => unhide HPN _ _ _ _ _ h) (Or.inl ⟨by rfl, ?_⟩) (by assumption) ?_
    rotate_left
    · intro w hSw; (try dsimp only at hSw); go_simp; (try with_reducible rfl)
    try simp only [Act.put, List.setIfInBounds_toArray, List.set_cons_zero, List.set_cons_succ]
    refine wpAnyH_ready (rs := [12]) (by kernel_rfl) (by simp) ?_
    refine AllReadyH.cons (o := { dst := none, op := Op.store 25 (Operand.tmp 47) (Operand.tmp 46), type := 0, pos := "law.go:120", after := #[{ on := 11, ground := Ground.data }, { on := 10, ground := Ground.data }, { on := 6, ground := Ground.chain }, { on := 0, ground := Ground.phase }, { on := 1, ground := Ground.phase }, { on := 2, ground := Ground.phase }, { on := 3, ground := Ground.phase }, { on := 4, ground := Ground.phase }, { on := 5, ground := Ground.phase }, { on := 6, ground := Ground.phase }, { on := 7, ground := Ground.phase }, { on := 8, ground := Ground.phase }, { on := 9, ground := Ground.phase }, { on := 10, ground := Ground.phase }], guard := none }) rfl (fun K hK => ?_) AllReadyH.nil
    have CS2 := hide ((unhide CSD).later (unhide BC2))
    refine step_set (by rfl) 25 (.tmp 47) (.tmp 46) rfl (w.heap.size + 1 + 1) 7 rfl (.slice (some ⟨g, 0, none⟩) n cap) rfl (stG _ _ _ _ _ _ _ ((unhide CS2).qb.cell (List.getElem?_eq_getElem (by rw [(unhide CS2).qb.len]; decide))) ((unhide CS2).qb.free _)) ?_
    refine hK.out _ _ ?_ (fun _ => ?_)
    · exact (World.cell?_setCell_far _ _ _ _ (show w.heap.size + 1 + 1 ≠ w.heap.size by omega)).trans hHeld
    clear hK K
    try simp only [Act.put]
    refine wpAnyH_done (by kernel_rfl) ?_ _
    exact unhide HQ _ _ _ _ _ _ (unhide FIN W2 g cap (unhide OC) (unhide BC2))


end Go.Proofs.Ytpakhjbaniapnaa
