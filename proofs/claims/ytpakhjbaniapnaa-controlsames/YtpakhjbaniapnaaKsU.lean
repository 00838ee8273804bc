import Derived.Test.YtpakhjbaniapnaaKsT
import Derived.OrdersHeld
import Derived.Deep.RegionHeld3
namespace Go.Proofs.Ytpakhjbaniapnaa
open Go.RowKit

theorem app2x {P : Program} (t ty e : TypeId) (i : TypeInfo) (z : Value) (size bytes : Nat) (ht : P.underlying t = some (.slice e)) (hi : P.info? e = some i) (hz : i.zero = some z) (hsize : i.size = size) (hby : i.bytes = bytes) (hzs : z.cells.size = size) (hsz : 0 < size)
    (n : Nat) (xs mk : List Value) (hx : xs.length = n * size) (h1 : ∀ u ∈ xs, u.oneCell' = true) (hmk : mk.length = 1 * size) (hm1 : ∀ u ∈ mk, u.oneCell' = true) (hn : (n + 1) * bytes ≤ 140737488355328) (h63 : n + 1 ≤ maxLen)
    (xa : Option Addr) (xc : Nat) (wr : World) (hsrc : n = 0 ∨ ∃ b o, xa = some ⟨b, o, none⟩ ∧ b < wr.heap.size ∧ ∀ j u, xs[j]? = some u → wr.cell? ⟨b, o + j, none⟩ = some u) :
    (∃ v1 W1 g cap W2, (Builtin.append_ #[t, t] ty #[.slice (some ⟨wr.heap.size, 0, none⟩) 0 0, .slice xa n xc]).run P ((wr.alloc (.cells #[] e)).alloc (.cells mk.toArray e)) = .ok v1 W1 ∧
      (Builtin.append_ #[t, t] ty #[v1, .slice (some ⟨wr.heap.size + 1, 0, none⟩) 1 1]).run P W1 = .ok (.slice (some ⟨g, 0, none⟩) (n + 1) cap) W2 ∧
      W2.ownsRow wr.heap.size e size (.slice (some ⟨g, 0, none⟩) (n + 1) cap) (n + 1) (xs ++ mk) ∧ Below wr.heap.size wr W2 ∧ Below wr.heap.size wr W1) ∧
    (∃ v1 W1 g cap W2, (Builtin.append_ #[t, t] ty #[.slice (some ⟨wr.heap.size + 1, 0, none⟩) 0 0, .slice xa n xc]).run P ((wr.alloc (.cells mk.toArray e)).alloc (.cells #[] e)) = .ok v1 W1 ∧
      (Builtin.append_ #[t, t] ty #[v1, .slice (some ⟨wr.heap.size, 0, none⟩) 1 1]).run P W1 = .ok (.slice (some ⟨g, 0, none⟩) (n + 1) cap) W2 ∧
      W2.ownsRow wr.heap.size e size (.slice (some ⟨g, 0, none⟩) (n + 1) cap) (n + 1) (xs ++ mk) ∧ Below wr.heap.size wr W2 ∧ Below wr.heap.size wr W1) := by
  constructor
  · have hb0 : Below wr.heap.size wr (wr.alloc (.cells #[] e)) := (Below.refl _ wr).alloc (Nat.le_refl _) _
    have hbA := hb0.alloc hb0.size (.cells mk.toArray e)
    have hr0 : (wr.alloc (.cells #[] e)).ownsRow wr.heap.size e size (.slice (some ⟨wr.heap.size, 0, none⟩) 0 0) 0 [] := World.ownsRow_lit wr #[] 0 (Nat.le_refl _) (Nat.zero_le _) (by simp)
    obtain ⟨v1, W1, g, cap, W2, e1, e2, e3, e4, e5⟩ := app2b (P := P) t ty e i z size bytes ht hi hz hsize hby hzs hsz n xs mk hx h1 hmk hm1 hn h63 xa xc wr.heap.size ((wr.alloc (.cells #[] e)).alloc (.cells mk.toArray e)) wr.heap.size (wr.heap.size + 1) hbA.size
      (hr0.alloc _) (fun j u hj => by rw [show wr.heap.size + 1 = (wr.alloc (.cells #[] e)).heap.size by simp, World.cell?_alloc_new]; simpa using hj) (by omega) (by simp)
      (hsrc.imp id fun ⟨b, o, q1, q2, q3⟩ => ⟨b, o, q1, fun j u hj => (hbA.cell (p := ⟨b, o + j, none⟩) q2).trans (q3 j u hj)⟩)
    exact ⟨v1, W1, g, cap, W2, e1, e2, e3, hbA.trans e4, hbA.trans e5⟩
  · have hb0 : Below wr.heap.size wr (wr.alloc (.cells mk.toArray e)) := (Below.refl _ wr).alloc (Nat.le_refl _) _
    have hbA := hb0.alloc hb0.size (.cells #[] e)
    have hr0 : ((wr.alloc (.cells mk.toArray e)).alloc (.cells #[] e)).ownsRow wr.heap.size e size (.slice (some ⟨wr.heap.size + 1, 0, none⟩) 0 0) 0 [] := by
      have := World.ownsRow_lit (base := wr.heap.size) (e := e) (size := size) (wr.alloc (.cells mk.toArray e)) #[] 0 hb0.size (Nat.zero_le _) (by simp)
      simpa using this
    have hm0 : ∀ (j : Nat) u, mk[j]? = some u → (wr.alloc (.cells mk.toArray e)).cell? ⟨wr.heap.size, j, none⟩ = some u := fun j u hj => by rw [World.cell?_alloc_new]; simpa using hj
    obtain ⟨v1, W1, g, cap, W2, e1, e2, e3, e4, e5⟩ := app2b (P := P) t ty e i z size bytes ht hi hz hsize hby hzs hsz n xs mk hx h1 hmk hm1 hn h63 xa xc wr.heap.size ((wr.alloc (.cells mk.toArray e)).alloc (.cells #[] e)) (wr.heap.size + 1) wr.heap.size hbA.size
      hr0 (fun j u hj => (((Below.refl _ (wr.alloc (.cells mk.toArray e))).alloc (Nat.le_refl _) _).cell (p := ⟨wr.heap.size, j, none⟩) (by simp)).trans (hm0 j u hj)) (by omega) (by simp; omega)
      (hsrc.imp id fun ⟨b, o, q1, q2, q3⟩ => ⟨b, o, q1, fun j u hj => (hbA.cell (p := ⟨b, o + j, none⟩) q2).trans (q3 j u hj)⟩)
    exact ⟨v1, W1, g, cap, W2, e1, e2, e3, hbA.trans e4, hbA.trans e5⟩

theorem step_run {P : Program} {ops : Array Oper} {o : Oper} {a : Act} {w : World} {K : Act → World → Prop} {Q : Exit → Act → World → Prop} {E : Prop}
    (hg : o.guard = none) (s x : Operand) (t : TypeId) (hop : o.op = Op.call { callee := Callee.builtin Builtin.append, args := #[s, x], argTypes := #[t, t] }) (vs vx : Value) (hs : a.eval s = vs) (hx : a.eval x = vx) (v' : Value) (w' : World)
    (hr : (Builtin.append_ #[t, t] o.type #[vs, vx]).run P w = .ok v' w') (hK : K (a.put o.dst v') w') :
    if Region.wanted o (yielded ops a.tmps) = true then Oper.wp P o a w K Q else E := by
  have hw : Region.wanted o (yielded ops a.tmps) = true := by simp [Region.wanted, hg]
  rw [if_pos hw]
  unfold Oper.wp
  simp [execOp, hop, resolve, invoke, builtin, hs, hx, hr, Result.andThen]
  exact hK
theorem step_set {ops : Array Oper} {o : Oper} {a : Act} {w : World} {K : Act → World → Prop} {Q : Exit → Act → World → Prop} {E : Prop}
    (hg : o.guard = none) (ty : TypeId) (x y : Operand) (ho : o.op = .store ty x y) (g i : Nat) (hx : a.eval x = .pointer (some ⟨g, i, none⟩)) (v : Value) (hy : a.eval y = v)
    (hst : (storeVar ty ⟨g, i, none⟩ v).run Try.prog w = .ok () (w.setCell ⟨g, i, none⟩ v)) (hK : K (a.put o.dst undef) (w.setCell ⟨g, i, none⟩ v)) :
    if Region.wanted o (yielded ops a.tmps) = true then Oper.wp Try.prog o a w K Q else E := by
  have hw : Region.wanted o (yielded ops a.tmps) = true := by simp [Region.wanted, hg]
  rw [if_pos hw]
  unfold Oper.wp execOp
  simp only [ho, hx, hy, Instr.storeAt, Instr.sureAddr, Sem.run_bind, Sem.run_pure, Result.andThen_ok, hst]
  exact hK

theorem drew_size (X : World) : X.drew.heap.size = X.heap.size := rfl
theorem row_cap {W : World} {B : Nat} {e : TypeId} {s g n cap : Nat} {xs : List Value} (h : W.ownsRow B e s (.slice (some ⟨g, 0, none⟩) (n + 1) cap) (n + 1) xs) : n ≤ cap := by
  rcases h.2 with ⟨e, _⟩ | ⟨g', cap', cur, e, _, _, hnc, _⟩
  · cases e
  · cases e; omega

set_option maxRecDepth 100000 in
set_option maxHeartbeats 8000000 in
theorem reg4 (Q : Exit → Act → World → Prop) (u0 u2 u4 u5 u6 u7 u8 u9 u10 u11 u12 u13 u14 u15 u16 u17 u18 u19 u20 u21 u22 u23 u24 u25 u26 u27 u28 u29 u30 u31 u32 u33 u34 u35 u36 u37 u38 u39 u40 u41 u42 u43 u44 u45 u46 u47 u48 : Value) (w W : World) (ps qs : List Value) (hCS : Cs w W ps qs) (xa : Option Addr) (n xc : Nat) (hc : ps[5]? = some (.slice xa n xc)) (al : List Am) (hn : al.length = n) (hA : Ams W (.slice xa n xc) al) (hsm : n ≤ 3518437208780) (hP : ∀ x (a : Act) (d : Option Tmp) (v : Value) (w : World), Q (.panic x) (a.put d v) w → Q (.panic x) a w)
    (hQ : ∀ W' t1 t2 t3 g cap, (Cs w W' ps (qs.set 5 (.slice (some ⟨g, 0, none⟩) n cap)) ∧ Nw (w.heap.size + 1 + 1 + 1) W' (fun X => Ams X (.slice (some ⟨g, 0, none⟩) n cap) al ∧ Mk 3 X (.slice (some ⟨g, 0, none⟩) n cap) n) ∧ (∀ k, k < W.heap.size → k ≠ w.heap.size + 1 + 1 → W'.heap[k]? = W.heap[k]?) ∧ W.heap.size ≤ W'.heap.size) →
      Q .normal { tmps := #[u0, .pointer (some ⟨w.heap.size, 0, none⟩), u2, .pointer (some ⟨w.heap.size + 1 + 1, 0, none⟩), u4, u5, u6, u7, u8, u9, u10, u11, u12, t1, .pointer (some ⟨w.heap.size, 5, none⟩), .slice xa n xc, t2, .agg #[.string ⟨#[98, 101, 104, 105, 110, 100]⟩, .int .i64 0, .string ⟨#[]⟩], t3, .slice (some ⟨g, 0, none⟩) (n + 1) cap, .pointer (some ⟨w.heap.size, 5, none⟩), .slice xa n xc, .int .i64 n, .slice (some ⟨g, 0, none⟩) n cap, .pointer (some ⟨w.heap.size + 1 + 1, 5, none⟩), u25, u26, u27, u28, u29, u30, u31, u32, u33, u34, u35, u36, u37, u38, u39, u40, u41, u42, u43, u44, u45, u46, u47, u48], defers := [] } W') :
    (Code.region 4 #[{ dst := some 13, op := Op.buildSlice 23 0 #[], type := 23, pos := "law.go:118", after := #[], guard := none }, { dst := some 14, op := Op.fieldAddr 28 (Operand.tmp 1) 5, type := 0, pos := "law.go:118", after := #[], guard := none }, { dst := some 15, op := Op.load 23 (Operand.tmp 14), type := 23, pos := "law.go:118", after := #[{ on := 1, ground := Ground.data }], guard := none }, { dst := some 16, op := Op.call { callee := Callee.builtin Builtin.append, args := #[Operand.tmp 13, Operand.tmp 15], argTypes := #[23, 23] }, type := 23, pos := "law.go:118", after := #[{ on := 0, ground := Ground.data }, { on := 2, ground := Ground.data }], guard := none }, { dst := some 17, op := Op.build 33 #[(0, Operand.const (Value.string { data := #[98, 101, 104, 105, 110, 100] }))], type := 33, pos := "law.go:118", after := #[], guard := none }, { dst := some 18, op := Op.buildSlice 23 1 #[(0, Operand.tmp 17)], type := 23, pos := "law.go:118", after := #[{ on := 4, ground := Ground.data }], guard := none }, { dst := some 19, op := Op.call { callee := Callee.builtin Builtin.append, args := #[Operand.tmp 16, Operand.tmp 18], argTypes := #[23, 23] }, type := 23, pos := "law.go:118", after := #[{ on := 3, ground := Ground.data }, { on := 5, ground := Ground.data }, { on := 3, ground := Ground.chain }], guard := none }, { dst := some 20, op := Op.fieldAddr 28 (Operand.tmp 1) 5, type := 0, pos := "law.go:118", after := #[], guard := none }, { dst := some 21, op := Op.load 23 (Operand.tmp 20), type := 23, pos := "law.go:118", after := #[{ on := 7, ground := Ground.data }], guard := none }, { dst := some 22, op := Op.call { callee := Callee.builtin Builtin.len, args := #[Operand.tmp 21], argTypes := #[23] }, type := 3, pos := "law.go:118", after := #[{ on := 8, ground := Ground.data }], guard := none }, { dst := some 23, op := Op.slice 23 (Operand.tmp 19) none (some (Operand.tmp 22)) none, type := 23, pos := "law.go:118", after := #[{ on := 6, ground := Ground.data }, { on := 9, ground := Ground.data }], guard := none }, { dst := some 24, op := Op.fieldAddr 28 (Operand.tmp 3) 5, type := 0, pos := "law.go:118", after := #[{ on := 0, ground := Ground.phase }, { on := 1, ground := Ground.phase }, { on := 2, ground := Ground.phase }, { on := 3, ground := Ground.phase }, { on := 4, ground := Ground.phase }, { on := 5, ground := Ground.phase }, { on := 6, ground := Ground.phase }, { on := 7, ground := Ground.phase }, { on := 8, ground := Ground.phase }, { on := 9, ground := Ground.phase }, { on := 10, ground := Ground.phase }], guard := none }, { dst := none, op := Op.store 23 (Operand.tmp 24) (Operand.tmp 23), type := 0, pos := "law.go:118", after := #[{ on := 11, ground := Ground.data }, { on := 10, ground := Ground.data }, { on := 6, ground := Ground.chain }, { on := 0, ground := Ground.phase }, { on := 1, ground := Ground.phase }, { on := 2, ground := Ground.phase }, { on := 3, ground := Ground.phase }, { on := 4, ground := Ground.phase }, { on := 5, ground := Ground.phase }, { on := 6, ground := Ground.phase }, { on := 7, ground := Ground.phase }, { on := 8, ground := Ground.phase }, { on := 9, ground := Ground.phase }, { on := 10, ground := Ground.phase }], guard := none }] true).wp Try.prog Q { tmps := #[u0, .pointer (some ⟨w.heap.size, 0, none⟩), u2, .pointer (some ⟨w.heap.size + 1 + 1, 0, none⟩), u4, u5, u6, u7, u8, u9, u10, u11, u12, u13, u14, u15, u16, u17, u18, u19, u20, u21, u22, u23, u24, u25, u26, u27, u28, u29, u30, u31, u32, u33, u34, u35, u36, u37, u38, u39, u40, u41, u42, u43, u44, u45, u46, u47, u48], defers := [] } W := by
  obtain ⟨i0, hi, hz0, hz1, hz2⟩ := info_parts infoA
  have hbd : Below W.heap.size W W.drew := (Below.refl _ W).drew
  have CSD := hide (hCS.later hbd)
  have LT := hide (show w.heap.size < W.drew.heap.size from (unhide CSD).pb.lt)
  have EC := hide ((unhide CSD).pb.cell hc)
  have hax := app2x (P := Try.prog) 23 23 33 i0 _ 3 40 Try.underlying23 hi hz0 hz1 hz2 rfl (by omega) n (al.flatMap amCells) [.string bhd, .int .i64 0, .string ⟨#[]⟩] (by rw [← hn]; exact flat_len 3 amCells (fun _ => rfl) al) (amCells_one al) rfl (by simp [Value.oneCell']) (by omega) (by unfold maxLen; omega) xa xc W.drew ((by rw [← hn]; exact (hA.later hbd).src : n = 0 ∨ _))
  have AA := hide (app2 (P := Try.prog) 23 23 33 i0 _ 3 40 Try.underlying23 hi hz0 hz1 hz2 rfl (by omega) n (al.flatMap amCells) [.string bhd, .int .i64 0, .string ⟨#[]⟩] (by rw [← hn]; exact flat_len 3 amCells (fun _ => rfl) al) (amCells_one al) rfl (by simp [Value.oneCell']) (by omega) (by unfold maxLen; omega) xa xc W.drew ((by rw [← hn]; exact (hA.later hbd).src : n = 0 ∨ _)))
  have BB := hide hax.1
  have CC := hide hax.2
  have FIN := hide (show ∀ (W2 : World) (g cap : Nat), W2.ownsRow W.drew.heap.size 33 3 (.slice (some ⟨g, 0, none⟩) (n + 1) cap) (n + 1) ((al.flatMap amCells) ++ [.string bhd, .int .i64 0, .string ⟨#[]⟩]) → Below W.drew.heap.size W.drew W2 → (Cs w (W2.setCell ⟨w.heap.size + 1 + 1, 5, none⟩ (.slice (some ⟨g, 0, none⟩) n cap)) ps (qs.set 5 (.slice (some ⟨g, 0, none⟩) n cap)) ∧ Nw (w.heap.size + 1 + 1 + 1) (W2.setCell ⟨w.heap.size + 1 + 1, 5, none⟩ (.slice (some ⟨g, 0, none⟩) n cap)) (fun X => Ams X (.slice (some ⟨g, 0, none⟩) n cap) al ∧ Mk 3 X (.slice (some ⟨g, 0, none⟩) n cap) n) ∧ (∀ k, k < W.heap.size → k ≠ w.heap.size + 1 + 1 → (W2.setCell ⟨w.heap.size + 1 + 1, 5, none⟩ (.slice (some ⟨g, 0, none⟩) n cap)).heap[k]? = W.heap[k]?) ∧ W.heap.size ≤ (W2.setCell ⟨w.heap.size + 1 + 1, 5, none⟩ (.slice (some ⟨g, 0, none⟩) n cap)).heap.size) from fun W2 g cap ho hb => by
    have hK := Kp.of_row ho (Nat.le_trans hsm (by decide)) (by rw [← hn]; exact flat_len 3 amCells (fun _ => rfl) al) (by omega) rfl
    have hg : W.drew.heap.size ≤ g := (ho.lt g rfl).1
    have hbig := (unhide CSD).big
    have hs : (W2.setCell ⟨w.heap.size + 1 + 1, 5, none⟩ (.slice (some ⟨g, 0, none⟩) n cap)).heap.size = W2.heap.size := by simp
    have hoth : ∀ k, k ≠ w.heap.size + 1 + 1 → (W2.setCell ⟨w.heap.size + 1 + 1, 5, none⟩ (.slice (some ⟨g, 0, none⟩) n cap)).heap[k]? = W2.heap[k]? := fun k hk => Below.heap_setCell W2 ⟨w.heap.size + 1 + 1, 5, none⟩ _ k hk
    have hcs := ((unhide CSD).later hb).put (i := 5) (v := .slice (some ⟨g, 0, none⟩) n cap) (((unhide CSD).later hb).qb.set 5 _ rfl) hoth (fun B hB => (Below.refl _ _).setCell (p := ⟨w.heap.size + 1 + 1, 5, none⟩) hB _) hs
    refine ⟨hcs, fun X hX hXs => ?_, fun k hk hne => ((hoth k hne).trans (hb.block k hk)), by rw [hs]; exact hb.size⟩
    have hK2 := hK.at (W' := X) ((hX g (by omega) (by rw [hs]; exact hK.lt)).trans (hoth g (by omega))) (by omega)
    rw [← hn] at hK2 ⊢
    exact ⟨hK2.ams, hK2.mkd⟩)
  have HQ := hide hQ
  have HPN := hide hP
  clear hP hA hsm hax hQ hCS hc hbd
  refine wp_region_held_drew (S := fun w' => w'.cell? ⟨w.heap.size, 5, none⟩ = some (.slice xa n xc)) (by kernel_rfl) ?_ (fun hHeld => ?_)
  · exact unhide EC
  refine wpAnyH_take (i := 1) (oi := { dst := some 14, op := Op.fieldAddr 28 (Operand.tmp 1) 5, type := 0, pos := "law.go:118", after := #[], guard := none }) (v := ?_) rfl (by kernel_rfl) (by kernel_rfl) (by kernel_rfl) (fun _ _ _ h => unhide HPN _ _ _ _ _ h) (Or.inl ⟨by rfl, ?_⟩) (by assumption) ?_
  rotate_left
  · intro w hSw; (try dsimp only at hSw); go_simp; (try with_reducible rfl)
  try simp only [Act.put, List.setIfInBounds_toArray, List.set_cons_zero, List.set_cons_succ]
  refine wpAnyH_take (i := 2) (oi := { dst := some 15, op := Op.load 23 (Operand.tmp 14), type := 23, pos := "law.go:118", after := #[{ on := 1, ground := Ground.data }], guard := none }) (v := ?_) rfl (by kernel_rfl) (by kernel_rfl) (by kernel_rfl) (fun _ _ _ h => unhide HPN _ _ _ _ _ h) (Or.inl ⟨by rfl, ?_⟩) (by assumption) ?_
  rotate_left
  · intro w hSw; (try dsimp only at hSw); go_simp; (try with_reducible rfl)
  try simp only [Act.put, List.setIfInBounds_toArray, List.set_cons_zero, List.set_cons_succ]
  refine wpAnyH_take (i := 4) (oi := { dst := some 17, op := Op.build 33 #[(0, Operand.const (Value.string { data := #[98, 101, 104, 105, 110, 100] }))], type := 33, pos := "law.go:118", after := #[], guard := none }) (v := ?_) rfl (by kernel_rfl) (by kernel_rfl) (by kernel_rfl) (fun _ _ _ h => unhide HPN _ _ _ _ _ h) (Or.inl ⟨by rfl, ?_⟩) (by assumption) ?_
  rotate_left
  · intro w hSw; (try dsimp only at hSw); go_simp; (try with_reducible rfl)
  try simp only [Act.put, List.setIfInBounds_toArray, List.set_cons_zero, List.set_cons_succ]
  refine wpAnyH_take (i := 7) (oi := { dst := some 20, op := Op.fieldAddr 28 (Operand.tmp 1) 5, type := 0, pos := "law.go:118", after := #[], guard := none }) (v := ?_) rfl (by kernel_rfl) (by kernel_rfl) (by kernel_rfl) (fun _ _ _ h => unhide HPN _ _ _ _ _ h) (Or.inl ⟨by rfl, ?_⟩) (by assumption) ?_
  rotate_left
  · intro w hSw; (try dsimp only at hSw); go_simp; (try with_reducible rfl)
  try simp only [Act.put, List.setIfInBounds_toArray, List.set_cons_zero, List.set_cons_succ]
  refine wpAnyH_take (i := 8) (oi := { dst := some 21, op := Op.load 23 (Operand.tmp 20), type := 23, pos := "law.go:118", after := #[{ on := 7, ground := Ground.data }], guard := none }) (v := ?_) rfl (by kernel_rfl) (by kernel_rfl) (by kernel_rfl) (fun _ _ _ h => unhide HPN _ _ _ _ _ h) (Or.inl ⟨by rfl, ?_⟩) (by assumption) ?_
  rotate_left
  · intro w hSw; (try dsimp only at hSw); go_simp; (try with_reducible rfl)
  try simp only [Act.put, List.setIfInBounds_toArray, List.set_cons_zero, List.set_cons_succ]
  refine wpAnyH_take (i := 9) (oi := { dst := some 22, op := Op.call { callee := Callee.builtin Builtin.len, args := #[Operand.tmp 21], argTypes := #[23] }, type := 3, pos := "law.go:118", after := #[{ on := 8, ground := Ground.data }], guard := none }) (v := ?_) rfl (by kernel_rfl) (by kernel_rfl) (by kernel_rfl) (fun _ _ _ h => unhide HPN _ _ _ _ _ h) (Or.inl ⟨by rfl, ?_⟩) (by assumption) ?_
  rotate_left
  · intro w hSw; (try dsimp only at hSw); go_simp; (try with_reducible rfl)
  try simp only [Act.put, List.setIfInBounds_toArray, List.set_cons_zero, List.set_cons_succ]
  refine wpAnyH_ready (rs := [0, 5]) (by kernel_rfl) (by simp) ?_
  refine AllReadyH.cons (o := { dst := some 13, op := Op.buildSlice 23 0 #[], type := 23, pos := "law.go:118", after := #[], guard := none }) rfl (fun K hK => ?_) (AllReadyH.cons (o := { dst := some 18, op := Op.buildSlice 23 1 #[(0, Operand.tmp 17)], type := 23, pos := "law.go:118", after := #[{ on := 4, ground := Ground.data }], guard := none }) rfl (fun K hK => ?_) AllReadyH.nil)
  · go_simp
    refine hK.out _ _ ((Below.cell ((((Below.refl _ W.drew)).alloc (by simp) _)) (p := ⟨w.heap.size, 5, none⟩) (unhide LT)).trans (unhide EC)) (fun hHeld2 => ?_)
    clear hHeld
    have hHeld := hHeld2
    clear hHeld2 hK K
    try simp only [Act.put, List.setIfInBounds_toArray, List.set_cons_zero, List.set_cons_succ]
    refine wpAnyH_ready (rs := [3, 5]) (by kernel_rfl) (by simp) ?_
    refine AllReadyH.cons (o := { dst := some 16, op := Op.call { callee := Callee.builtin Builtin.append, args := #[Operand.tmp 13, Operand.tmp 15], argTypes := #[23, 23] }, type := 23, pos := "law.go:118", after := #[{ on := 0, ground := Ground.data }, { on := 2, ground := Ground.data }], guard := none }) rfl (fun K hK => ?_) (AllReadyH.cons (o := { dst := some 18, op := Op.buildSlice 23 1 #[(0, Operand.tmp 17)], type := 23, pos := "law.go:118", after := #[{ on := 4, ground := Ground.data }], guard := none }) rfl (fun K hK => ?_) AllReadyH.nil)
    · obtain ⟨v1, W1, g, cap, W2, r1, r2, oA, bA2, bA1⟩ := unhide AA
      have NC := hide (show n ≤ cap from row_cap oA)
      have NCI := hide (show (n : Int) ≤ (cap : Int) by have := unhide NC; omega)
      have OA := hide oA
      have BA2 := hide bA2
      have BA1 := hide bA1
      clear oA bA2 bA1
      refine step_run (by rfl) (.tmp 13) (.tmp 15) 23 rfl _ _ rfl rfl _ _ r1 ?_
      refine hK.out _ _ ((Below.cell (unhide BA1) (p := ⟨w.heap.size, 5, none⟩) (unhide LT)).trans (unhide EC)) (fun hHeld2 => ?_)
      clear hHeld
      have hHeld := hHeld2
      clear hHeld2 hK K
      try simp only [Act.put, List.setIfInBounds_toArray, List.set_cons_zero, List.set_cons_succ]
      refine wpAnyH_ready (rs := [5]) (by kernel_rfl) (by simp) ?_
      refine AllReadyH.cons (o := { dst := some 18, op := Op.buildSlice 23 1 #[(0, Operand.tmp 17)], type := 23, pos := "law.go:118", after := #[{ on := 4, ground := Ground.data }], guard := none }) rfl (fun K hK => ?_) AllReadyH.nil
      go_simp
      refine hK.out _ _ ((Below.cell (((unhide BA1).alloc (unhide BA1).size _)) (p := ⟨w.heap.size, 5, none⟩) (unhide LT)).trans (unhide EC)) (fun hHeld2 => ?_)
      clear hHeld
      have hHeld := hHeld2
      clear hHeld2 hK K
      try simp only [Act.put, List.setIfInBounds_toArray, List.set_cons_zero, List.set_cons_succ]
      refine wpAnyH_ready (rs := [6]) (by kernel_rfl) (by simp) ?_
      refine AllReadyH.cons (o := { dst := some 19, op := Op.call { callee := Callee.builtin Builtin.append, args := #[Operand.tmp 16, Operand.tmp 18], argTypes := #[23, 23] }, type := 23, pos := "law.go:118", after := #[{ on := 3, ground := Ground.data }, { on := 5, ground := Ground.data }, { on := 3, ground := Ground.chain }], guard := none }) rfl (fun K hK => ?_) AllReadyH.nil
      refine step_run (by rfl) (.tmp 16) (.tmp 18) 23 rfl _ _ rfl rfl _ _ r2 ?_
      refine hK.out _ _ ((Below.cell (unhide BA2) (p := ⟨w.heap.size, 5, none⟩) (unhide LT)).trans (unhide EC)) (fun hHeld2 => ?_)
      clear hHeld
      have hHeld := hHeld2
      clear hHeld2 hK K
      try simp only [Act.put, List.setIfInBounds_toArray, List.set_cons_zero, List.set_cons_succ]
      refine wpAnyH_take (i := 10) (oi := { dst := some 23, op := Op.slice 23 (Operand.tmp 19) none (some (Operand.tmp 22)) none, type := 23, pos := "law.go:118", after := #[{ on := 6, ground := Ground.data }, { on := 9, ground := Ground.data }], guard := none }) (v := .slice (some ⟨g, 0, none⟩) n cap) rfl (by kernel_rfl) (by kernel_rfl) (by kernel_rfl) (fun _ _ _ h => unhide HPN _ _ _ _ _ h) (Or.inl ⟨by rfl, by intro w hSw; have q1 := unhide NC; have q2 := unhide NCI; go_simp⟩) (by assumption) ?_
      try simp only [Act.put, List.setIfInBounds_toArray, List.set_cons_zero, List.set_cons_succ]
      refine wpAnyH_take (i := 11) (oi := { dst := some 24, op := Op.fieldAddr 28 (Operand.tmp 3) 5, type := 0, pos := "law.go:118", after := #[{ on := 0, ground := Ground.phase }, { on := 1, ground := Ground.phase }, { on := 2, ground := Ground.phase }, { on := 3, ground := Ground.phase }, { on := 4, ground := Ground.phase }, { on := 5, ground := Ground.phase }, { on := 6, ground := Ground.phase }, { on := 7, ground := Ground.phase }, { on := 8, ground := Ground.phase }, { on := 9, ground := Ground.phase }, { on := 10, ground := Ground.phase }], guard := none }) (v := ?_) rfl (by kernel_rfl) (by kernel_rfl) (by kernel_rfl) (fun _ _ _ h => unhide HPN _ _ _ _ _ h) (Or.inl ⟨by rfl, ?_⟩) (by assumption) ?_
      rotate_left
      · intro w hSw; (try dsimp only at hSw); go_simp; (try with_reducible rfl)
      try simp only [Act.put, List.setIfInBounds_toArray, List.set_cons_zero, List.set_cons_succ]
      refine wpAnyH_ready (rs := [12]) (by kernel_rfl) (by simp) ?_
      refine AllReadyH.cons (o := { dst := none, op := Op.store 23 (Operand.tmp 24) (Operand.tmp 23), type := 0, pos := "law.go:118", after := #[{ on := 11, ground := Ground.data }, { on := 10, ground := Ground.data }, { on := 6, ground := Ground.chain }, { on := 0, ground := Ground.phase }, { on := 1, ground := Ground.phase }, { on := 2, ground := Ground.phase }, { on := 3, ground := Ground.phase }, { on := 4, ground := Ground.phase }, { on := 5, ground := Ground.phase }, { on := 6, ground := Ground.phase }, { on := 7, ground := Ground.phase }, { on := 8, ground := Ground.phase }, { on := 9, ground := Ground.phase }, { on := 10, ground := Ground.phase }], guard := none }) rfl (fun K hK => ?_) AllReadyH.nil
      have CS2 := hide ((unhide CSD).later (unhide BA2))
      refine step_set (by rfl) 23 (.tmp 24) (.tmp 23) rfl (w.heap.size + 1 + 1) 5 rfl (.slice (some ⟨g, 0, none⟩) n cap) rfl (stR _ _ _ _ _ _ _ ((unhide CS2).qb.cell (List.getElem?_eq_getElem (by rw [(unhide CS2).qb.len]; decide))) ((unhide CS2).qb.free _)) ?_
      refine hK.out _ _ ?_ (fun _ => ?_)
      · exact (World.cell?_setCell_far _ _ _ _ (show w.heap.size + 1 + 1 ≠ w.heap.size by omega)).trans hHeld
      clear hK K
      try simp only [Act.put]
      refine wpAnyH_done (by kernel_rfl) ?_ _
      exact unhide HQ _ _ _ _ _ _ (unhide FIN W2 g cap (unhide OA) (unhide BA2))
    · obtain ⟨v1, W1, g, cap, W2, r3, r4, oB, bB2, bB1⟩ := unhide BB
      have NC := hide (show n ≤ cap from row_cap oB)
      have NCI := hide (show (n : Int) ≤ (cap : Int) by have := unhide NC; omega)
      have OB := hide oB
      have BB2 := hide bB2
      have BB1 := hide bB1
      clear oB bB2 bB1
      go_simp
      refine hK.out _ _ ((Below.cell ((((((Below.refl _ W.drew)).alloc (by simp) _)).alloc (by simp) _)) (p := ⟨w.heap.size, 5, none⟩) (unhide LT)).trans (unhide EC)) (fun hHeld2 => ?_)
      clear hHeld
      have hHeld := hHeld2
      clear hHeld2 hK K
      try simp only [Act.put, List.setIfInBounds_toArray, List.set_cons_zero, List.set_cons_succ]
      refine wpAnyH_ready (rs := [3]) (by kernel_rfl) (by simp) ?_
      refine AllReadyH.cons (o := { dst := some 16, op := Op.call { callee := Callee.builtin Builtin.append, args := #[Operand.tmp 13, Operand.tmp 15], argTypes := #[23, 23] }, type := 23, pos := "law.go:118", after := #[{ on := 0, ground := Ground.data }, { on := 2, ground := Ground.data }], guard := none }) rfl (fun K hK => ?_) AllReadyH.nil
      refine step_run (by rfl) (.tmp 13) (.tmp 15) 23 rfl _ _ rfl rfl _ _ r3 ?_
      refine hK.out _ _ ((Below.cell (unhide BB1) (p := ⟨w.heap.size, 5, none⟩) (unhide LT)).trans (unhide EC)) (fun hHeld2 => ?_)
      clear hHeld
      have hHeld := hHeld2
      clear hHeld2 hK K
      try simp only [Act.put, List.setIfInBounds_toArray, List.set_cons_zero, List.set_cons_succ]
      refine wpAnyH_ready (rs := [6]) (by kernel_rfl) (by simp) ?_
      refine AllReadyH.cons (o := { dst := some 19, op := Op.call { callee := Callee.builtin Builtin.append, args := #[Operand.tmp 16, Operand.tmp 18], argTypes := #[23, 23] }, type := 23, pos := "law.go:118", after := #[{ on := 3, ground := Ground.data }, { on := 5, ground := Ground.data }, { on := 3, ground := Ground.chain }], guard := none }) rfl (fun K hK => ?_) AllReadyH.nil
      refine step_run (by rfl) (.tmp 16) (.tmp 18) 23 rfl _ _ rfl rfl _ _ r4 ?_
      refine hK.out _ _ ((Below.cell (unhide BB2) (p := ⟨w.heap.size, 5, none⟩) (unhide LT)).trans (unhide EC)) (fun hHeld2 => ?_)
      clear hHeld
      have hHeld := hHeld2
      clear hHeld2 hK K
      try simp only [Act.put, List.setIfInBounds_toArray, List.set_cons_zero, List.set_cons_succ]
      refine wpAnyH_take (i := 10) (oi := { dst := some 23, op := Op.slice 23 (Operand.tmp 19) none (some (Operand.tmp 22)) none, type := 23, pos := "law.go:118", after := #[{ on := 6, ground := Ground.data }, { on := 9, ground := Ground.data }], guard := none }) (v := .slice (some ⟨g, 0, none⟩) n cap) rfl (by kernel_rfl) (by kernel_rfl) (by kernel_rfl) (fun _ _ _ h => unhide HPN _ _ _ _ _ h) (Or.inl ⟨by rfl, by intro w hSw; have q1 := unhide NC; have q2 := unhide NCI; go_simp⟩) (by assumption) ?_
      try simp only [Act.put, List.setIfInBounds_toArray, List.set_cons_zero, List.set_cons_succ]
      refine wpAnyH_take (i := 11) (oi := { dst := some 24, op := Op.fieldAddr 28 (Operand.tmp 3) 5, type := 0, pos := "law.go:118", after := #[{ on := 0, ground := Ground.phase }, { on := 1, ground := Ground.phase }, { on := 2, ground := Ground.phase }, { on := 3, ground := Ground.phase }, { on := 4, ground := Ground.phase }, { on := 5, ground := Ground.phase }, { on := 6, ground := Ground.phase }, { on := 7, ground := Ground.phase }, { on := 8, ground := Ground.phase }, { on := 9, ground := Ground.phase }, { on := 10, ground := Ground.phase }], guard := none }) (v := ?_) rfl (by kernel_rfl) (by kernel_rfl) (by kernel_rfl) (fun _ _ _ h => unhide HPN _ _ _ _ _ h) (Or.inl ⟨by rfl, ?_⟩) (by assumption) ?_
      rotate_left
      · intro w hSw; (try dsimp only at hSw); go_simp; (try with_reducible rfl)
      try simp only [Act.put, List.setIfInBounds_toArray, List.set_cons_zero, List.set_cons_succ]
      refine wpAnyH_ready (rs := [12]) (by kernel_rfl) (by simp) ?_
      refine AllReadyH.cons (o := { dst := none, op := Op.store 23 (Operand.tmp 24) (Operand.tmp 23), type := 0, pos := "law.go:118", after := #[{ on := 11, ground := Ground.data }, { on := 10, ground := Ground.data }, { on := 6, ground := Ground.chain }, { on := 0, ground := Ground.phase }, { on := 1, ground := Ground.phase }, { on := 2, ground := Ground.phase }, { on := 3, ground := Ground.phase }, { on := 4, ground := Ground.phase }, { on := 5, ground := Ground.phase }, { on := 6, ground := Ground.phase }, { on := 7, ground := Ground.phase }, { on := 8, ground := Ground.phase }, { on := 9, ground := Ground.phase }, { on := 10, ground := Ground.phase }], guard := none }) rfl (fun K hK => ?_) AllReadyH.nil
      have CS2 := hide ((unhide CSD).later (unhide BB2))
      refine step_set (by rfl) 23 (.tmp 24) (.tmp 23) rfl (w.heap.size + 1 + 1) 5 rfl (.slice (some ⟨g, 0, none⟩) n cap) rfl (stR _ _ _ _ _ _ _ ((unhide CS2).qb.cell (List.getElem?_eq_getElem (by rw [(unhide CS2).qb.len]; decide))) ((unhide CS2).qb.free _)) ?_
      refine hK.out _ _ ?_ (fun _ => ?_)
      · exact (World.cell?_setCell_far _ _ _ _ (show w.heap.size + 1 + 1 ≠ w.heap.size by omega)).trans hHeld
      clear hK K
      try simp only [Act.put]
      refine wpAnyH_done (by kernel_rfl) ?_ _
      exact unhide HQ _ _ _ _ _ _ (unhide FIN W2 g cap (unhide OB) (unhide BB2))
  · go_simp
    refine hK.out _ _ ((Below.cell ((((Below.refl _ W.drew)).alloc (by simp) _)) (p := ⟨w.heap.size, 5, none⟩) (unhide LT)).trans (unhide EC)) (fun hHeld2 => ?_)
    clear hHeld
    have hHeld := hHeld2
    clear hHeld2 hK K
    try simp only [Act.put, List.setIfInBounds_toArray, List.set_cons_zero, List.set_cons_succ]
    refine wpAnyH_ready (rs := [0]) (by kernel_rfl) (by simp) ?_
    refine AllReadyH.cons (o := { dst := some 13, op := Op.buildSlice 23 0 #[], type := 23, pos := "law.go:118", after := #[], guard := none }) rfl (fun K hK => ?_) AllReadyH.nil
    go_simp
    refine hK.out _ _ ((Below.cell ((((((Below.refl _ W.drew)).alloc (by simp) _)).alloc (by simp) _)) (p := ⟨w.heap.size, 5, none⟩) (unhide LT)).trans (unhide EC)) (fun hHeld2 => ?_)
    clear hHeld
    have hHeld := hHeld2
    clear hHeld2 hK K
    try simp only [Act.put, List.setIfInBounds_toArray, List.set_cons_zero, List.set_cons_succ]
    refine wpAnyH_ready (rs := [3]) (by kernel_rfl) (by simp) ?_
    refine AllReadyH.cons (o := { dst := some 16, op := Op.call { callee := Callee.builtin Builtin.append, args := #[Operand.tmp 13, Operand.tmp 15], argTypes := #[23, 23] }, type := 23, pos := "law.go:118", after := #[{ on := 0, ground := Ground.data }, { on := 2, ground := Ground.data }], guard := none }) rfl (fun K hK => ?_) AllReadyH.nil
    obtain ⟨v1, W1, g, cap, W2, r5, r6, oC, bC2, bC1⟩ := unhide CC
    have NC := hide (show n ≤ cap from row_cap oC)
    have NCI := hide (show (n : Int) ≤ (cap : Int) by have := unhide NC; omega)
    have OC := hide oC
    have BC2 := hide bC2
    have BC1 := hide bC1
    clear oC bC2 bC1
    refine step_run (by rfl) (.tmp 13) (.tmp 15) 23 rfl _ _ rfl rfl _ _ r5 ?_
    refine hK.out _ _ ((Below.cell (unhide BC1) (p := ⟨w.heap.size, 5, none⟩) (unhide LT)).trans (unhide EC)) (fun hHeld2 => ?_)
    clear hHeld
    have hHeld := hHeld2
    clear hHeld2 hK K
    try simp only [Act.put, List.setIfInBounds_toArray, List.set_cons_zero, List.set_cons_succ]
    refine wpAnyH_ready (rs := [6]) (by kernel_rfl) (by simp) ?_
    refine AllReadyH.cons (o := { dst := some 19, op := Op.call { callee := Callee.builtin Builtin.append, args := #[Operand.tmp 16, Operand.tmp 18], argTypes := #[23, 23] }, type := 23, pos := "law.go:118", after := #[{ on := 3, ground := Ground.data }, { on := 5, ground := Ground.data }, { on := 3, ground := Ground.chain }], guard := none }) rfl (fun K hK => ?_) AllReadyH.nil
    refine step_run (by rfl) (.tmp 16) (.tmp 18) 23 rfl _ _ rfl rfl _ _ r6 ?_
    refine hK.out _ _ ((Below.cell (unhide BC2) (p := ⟨w.heap.size, 5, none⟩) (unhide LT)).trans (unhide EC)) (fun hHeld2 => ?_)
    clear hHeld
    have hHeld := hHeld2
    clear hHeld2 hK K
    try simp only [Act.put, List.setIfInBounds_toArray, List.set_cons_zero, List.set_cons_succ]
    refine wpAnyH_take (i := 10) (oi := { dst := some 23, op := Op.slice 23 (Operand.tmp 19) none (some (Operand.tmp 22)) none, type := 23, pos := "law.go:118", after := #[{ on := 6, ground := Ground.data }, { on := 9, ground := Ground.data }], guard := none }) (v := .slice (some ⟨g, 0, none⟩) n cap) rfl (by kernel_rfl) (by kernel_rfl) (by kernel_rfl) (fun _ _ _ h => unhide HPN _ _ _ _ _ h) (Or.inl ⟨by rfl, by intro w hSw; have q1 := unhide NC; have q2 := unhide NCI; go_simp⟩) (by assumption) ?_
    try simp only [Act.put, List.setIfInBounds_toArray, List.set_cons_zero, List.set_cons_succ]
    refine wpAnyH_take (i := 11) (oi := { dst := some 24, op := Op.fieldAddr 28 (Operand.tmp 3) 5, type := 0, pos := "law.go:118", after := #[{ on := 0, ground := Ground.phase }, { on := 1, ground := Ground.phase }, { on := 2, ground := Ground.phase }, { on := 3, ground := Ground.phase }, { on := 4, ground := Ground.phase }, { on := 5, ground := Ground.phase }, { on := 6, ground := Ground.phase }, { on := 7, ground := Ground.phase }, { on := 8, ground := Ground.phase }, { on := 9, ground := Ground.phase }, { on := 10, ground := Ground.phase }], guard := none }) (v := ?_) rfl (by kernel_rfl) (by kernel_rfl) (by kernel_rfl) (fun _ _ _ h => unhide HPN _ _ _ _ _ h) (Or.inl ⟨by rfl, ?_⟩) (by assumption) ?_
    rotate_left
    · intro w hSw; (try dsimp only at hSw); go_simp; (try with_reducible rfl)
    try simp only [Act.put, List.setIfInBounds_toArray, List.set_cons_zero, List.set_cons_succ]
    refine wpAnyH_ready (rs := [12]) (by kernel_rfl) (by simp) ?_
    refine AllReadyH.cons (o := { dst := none, op := Op.store 23 (Operand.tmp 24) (Operand.tmp 23), type := 0, pos := "law.go:118", after := #[{ on := 11, ground := Ground.data }, { on := 10, ground := Ground.data }, { on := 6, ground := Ground.chain }, { on := 0, ground := Ground.phase }, { on := 1, ground := Ground.phase }, { on := 2, ground := Ground.phase }, { on := 3, ground := Ground.phase }, { on := 4, ground := Ground.phase }, { on := 5, ground := Ground.phase }, { on := 6, ground := Ground.phase }, { on := 7, ground := Ground.phase }, { on := 8, ground := Ground.phase }, { on := 9, ground := Ground.phase }, { on := 10, ground := Ground.phase }], guard := none }) rfl (fun K hK => ?_) AllReadyH.nil
    have CS2 := hide ((unhide CSD).later (unhide BC2))
    refine step_set (by rfl) 23 (.tmp 24) (.tmp 23) rfl (w.heap.size + 1 + 1) 5 rfl (.slice (some ⟨g, 0, none⟩) n cap) rfl (stR _ _ _ _ _ _ _ ((unhide CS2).qb.cell (List.getElem?_eq_getElem (by rw [(unhide CS2).qb.len]; decide))) ((unhide CS2).qb.free _)) ?_
    refine hK.out _ _ ?_ (fun _ => ?_)
    · exact (World.cell?_setCell_far _ _ _ _ (show w.heap.size + 1 + 1 ≠ w.heap.size by omega)).trans hHeld
    clear hK K
    try simp only [Act.put]
    refine wpAnyH_done (by kernel_rfl) ?_ _
    exact unhide HQ _ _ _ _ _ _ (unhide FIN W2 g cap (unhide OC) (unhide BC2))


end Go.Proofs.Ytpakhjbaniapnaa
