import Derived.Test.YtdkpglmdncjnbaaGreatDoorZf09
import Derived.Deep.RegionLaw
import Derived.Deep.Cut
import Derived.BigRegion
namespace Go.Proofs.YtdkpglmdncjnbaaGreatDoor
open Go.RowKit Go.Maps
abbrev y10_1 : Oper := ⟨some 30, .lookup 60 (.tmp 24) (.tmp 29) false, 34, "set.go:24", #[⟨8, .data⟩, ⟨13, .data⟩], none⟩
abbrev y10_2 : Oper := ⟨some 32, .buildSlice 34 1 #[(0, .tmp 31)], 34, "set.go:24", #[⟨15, .data⟩], none⟩
abbrev y10_3 : Oper := ⟨some 33, .call { callee := .builtin Builtin.append, args := #[.tmp 30, .tmp 32], argTypes := #[34, 34] }, 34, "set.go:24", #[⟨14, .data⟩, ⟨16, .data⟩], none⟩
abbrev y10_4 : Oper := ⟨none, .mapUpdate 60 (.tmp 17) (.tmp 22) (.tmp 33), 0, "set.go:24", #[⟨1, .data⟩, ⟨6, .data⟩, ⟨17, .data⟩, ⟨17, .chain⟩, ⟨0, .phase⟩, ⟨1, .phase⟩, ⟨2, .phase⟩, ⟨3, .phase⟩, ⟨4, .phase⟩, ⟨5, .phase⟩, ⟨6, .phase⟩, ⟨7, .phase⟩, ⟨8, .phase⟩, ⟨9, .phase⟩, ⟨10, .phase⟩, ⟨11, .phase⟩, ⟨12, .phase⟩, ⟨13, .phase⟩, ⟨14, .phase⟩, ⟨15, .phase⟩, ⟨16, .phase⟩, ⟨17, .phase⟩], none⟩
abbrev y10_5 : Oper := ⟨some 50, .lookup 60 (.tmp 48) (.tmp 49) false, 34, "set.go:26", #[⟨4, .data⟩, ⟨5, .data⟩], none⟩
abbrev y10_6 : Oper := ⟨some 52, .buildSlice 34 1 #[(0, .tmp 51)], 34, "set.go:26", #[⟨7, .data⟩], none⟩
abbrev y10_7 : Oper := ⟨some 53, .call { callee := .builtin Builtin.append, args := #[.tmp 50, .tmp 52], argTypes := #[34, 34] }, 34, "set.go:26", #[⟨6, .data⟩, ⟨8, .data⟩], none⟩
abbrev y10_8 : Oper := ⟨none, .mapUpdate 60 (.tmp 45) (.tmp 46) (.tmp 53), 0, "set.go:26", #[⟨1, .data⟩, ⟨2, .data⟩, ⟨9, .data⟩, ⟨9, .chain⟩, ⟨0, .phase⟩, ⟨1, .phase⟩, ⟨2, .phase⟩, ⟨3, .phase⟩, ⟨4, .phase⟩, ⟨5, .phase⟩, ⟨6, .phase⟩, ⟨7, .phase⟩, ⟨8, .phase⟩, ⟨9, .phase⟩], none⟩
theorem wp_append_run {P : Program} {o : Oper} {a : Act} {w w' : World} {v' : Value} {K : Act → World → Prop} {Q : Exit → Act → World → Prop} (s x : Operand) (t : TypeId)
 (ho : o.op = .call { callee := .builtin .append, args := #[s, x], argTypes := #[t, t] }) (vs vx : Value) (hs : a.eval s = vs) (hx : a.eval x = vx)
 (hr : (Builtin.append_ #[t, t] o.type #[vs, vx]).run P w = .ok v' w') (h : K (a.put o.dst v') w') : o.wp P a w K Q := by
 unfold Oper.wp execOp
 simp only [ho, resolve, invoke, builtin, Sem.run_bind, Sem.run_pure, Result.andThen_ok, List.map_toArray, List.map_cons, List.map_nil, hs, hx, hr]
 exact h
theorem wp_upd_run {P : Program} {o : Oper} {a : Act} {w w' : World} {K : Act → World → Prop} {Q : Exit → Act → World → Prop} (m x y : Operand) (t : TypeId)
 (ho : o.op = .mapUpdate t m x y) (vm vx vy : Value) (hm : a.eval m = vm) (hx : a.eval x = vx) (hy : a.eval y = vy)
 (hr : (Instr.mapUpdate t vm vx vy).run P w = .ok () w') (h : K (a.put o.dst undef) w') : o.wp P a w K Q := by
 unfold Oper.wp execOp
 simp [ho, hm, hx, hy, hr, Result.andThen]
 unfold Oper.upon
 exact h
theorem wp_look_run {P : Program} {o : Oper} {a : Act} {w : World} {v : Value} {K : Act → World → Prop} {Q : Exit → Act → World → Prop} (m x : Operand) (t : TypeId)
 (ho : o.op = .lookup t m x false) (vm vx : Value) (hm : a.eval m = vm) (hx : a.eval x = vx)
 (hr : (Instr.lookup t vm vx false).run P w = .ok v w) (h : K (a.put o.dst v) w) : o.wp P a w K Q := by
 unfold Oper.wp execOp
 simp [ho, hm, hx, hr, Result.andThen]
 unfold Oper.upon
 exact h
def nmP (ps : List Pd) : Nat → Nm → List Nat
 | 0 => fun _ => []
 | i + 1 => match ps[i]? with | some q => upF (nmP ps i) q.nm (nmP ps i q.nm ++ [i]) | none => nmP ps i
def pvJ (F : Nm → List Nat) (pl : List Nm) (i : Nat) : Nat → Nm → List Nat
 | 0 => F
 | j + 1 => match pl[j]? with | some x => upF (pvJ F pl i j) x (pvJ F pl i j x ++ [i]) | none => pvJ F pl i j
def pvP (ps : List Pd) : Nat → Nm → List Nat
 | 0 => fun _ => []
 | i + 1 => match ps[i]? with | some q => pvJ (pvP ps i) q.pl i q.pl.length | none => pvP ps i
structure Se (w wr : World) (v : Value) (H1 : Nm → Option Hd) (F1 : Nm → List Nat) (k1 : Nat) (H2 : Nm → Option Hd) (F2 : Nm → List Nat) (k2 : Nat) : Prop where
 r : wr.heap[w.heap.size]? = some (.cells #[.slice none 0 0, .map none, .map none] 62 (0, 0))
 x : wr.heap[w.heap.size + 3]? = some (.cells #[v, .map (some (w.heap.size + 1)), .map (some (w.heap.size + 2))] 62 (0, 0))
 m1 : Mi wr (w.heap.size + 4) (.map (some (w.heap.size + 1))) H1 F1 k1
 m2 : Mi wr (w.heap.size + 4) (.map (some (w.heap.size + 2))) H2 F2 k2
 dis : ∀ a b h g c, H1 a = some h → H2 b = some g → bk h = some c → bk g = some c → False
 bw : RowKit.Below w.heap.size w wr
theorem Se.size {w wr : World} {v : Value} {H1 : Nm → Option Hd} {F1 : Nm → List Nat} {k1 : Nat} {H2 : Nm → Option Hd} {F2 : Nm → List Nat} {k2 : Nat} (h : Se w wr v H1 F1 k1 H2 F2 k2) : w.heap.size + 4 ≤ wr.heap.size := blk_lt h.x
theorem Se.later {w wr w2 : World} {v : Value} {H1 : Nm → Option Hd} {F1 : Nm → List Nat} {k1 : Nat} {H2 : Nm → Option Hd} {F2 : Nm → List Nat} {k2 : Nat} (h : Se w wr v H1 F1 k1 H2 F2 k2) (b : RowKit.Below wr.heap.size wr w2) : Se w w2 v H1 F1 k1 H2 F2 k2 := by
 have hz := h.size
 exact ⟨(b.block _ (by omega)).trans h.r, (b.block _ (by omega)).trans h.x, h.m1.later b, h.m2.later b, h.dis, bl_t h.bw b⟩
theorem Se.add1 {w X : World} {v : Value} {H1 : Nm → Option Hd} {F1 : Nm → List Nat} {k1 : Nat} {H2 : Nm → Option Hd} {F2 : Nm → List Nat} {k2 : Nat} (h : Se w X v H1 F1 k1 H2 F2 k2) (hk : k1 < maxLen) {x : Nm} (hx : x.size ≤ maxLen) (p : Nat) (hl : (F1 x).length ≤ 1099511627776) (ty : TypeId) :
 ∃ h' W2 W3, (Builtin.append_ #[34, 34] ty #[hv0 (H1 x), .slice (some ⟨X.heap.size, 0, none⟩) 1 1]).run Tryz.prog (X.alloc (.cells #[.int .i64 (p : Int)] 3)) = .ok (hv h') W2 ∧ (Instr.mapUpdate 60 (.map (some (w.heap.size + 1))) (.string x) (hv h')).run Tryz.prog W2 = .ok () W3 ∧ Se w W3 v (up H1 x (some h')) (upF F1 x (F1 x ++ [p])) (k1 + 1) H2 F2 k2 ∧ (∀ c, c < w.heap.size + 4 → c ≠ w.heap.size + 1 → W2.heap[c]? = X.heap[c]? ∧ W3.heap[c]? = X.heap[c]?) ∧ W2.heap[w.heap.size + 1]? = X.heap[w.heap.size + 1]? := by
 have hz := h.size
 obtain ⟨h', W2, W3, r1, r2, m3, kp, kb, src, bb⟩ := h.m1.add hk hz hx p hl ty
 have lo : ∀ c, c < w.heap.size + 4 → ∀ g, H1 x = some g → bk g ≠ some c := fun c hc g e eb => by have := (h.m1.lt e eb).1; omega
 have kl2 : ∀ c, c < w.heap.size + 4 → c ≠ w.heap.size + 1 → W2.heap[c]? = X.heap[c]? ∧ W3.heap[c]? = X.heap[c]? := fun c hc hn => by
  have := kp c (by omega) hn (lo c hc)
  exact ⟨this.2, this.1⟩
 have dis' : ∀ a b f g c, up H1 x (some h') a = some f → H2 b = some g → bk f = some c → bk g = some c → False := fun a b f g c e1 e2 c1 c2 => by
  by_cases q : a = x
  ·subst q
   rw [up_same] at e1
   cases e1
   rcases src with ⟨h0, q1, q2⟩ | q
   ·exact h.dis a b h0 g c q1 e2 (by rw [← q2]; exact c1) c2
   ·have := (h.m2.lt e2 c2).2
    have := q c c1
    omega
  ·rw [up_other _ _ q] at e1
   exact h.dis a b f g c e1 e2 c1 c2
 refine ⟨h', W2, W3, r1, r2, ⟨((kl2 _ (by omega) (by omega)).2).trans h.r, ((kl2 _ (by omega) (by omega)).2).trans h.x, m3, h.m2.same (fun b e => ?_) (fun y g b e eb => ?_), dis', ?_⟩, kl2, kb⟩
 ·cases e
  exact (kl2 _ (by omega) (by omega)).2
 ·have l := h.m2.lt e eb
  exact (kp b l.2 (by omega) fun f e1 e2 => h.dis x y f g b e1 e e2 eb).1
 ·refine h.bw.trans ⟨bb.os, bb.tape, bb.output, bb.size, fun c hc => (kl2 c (by omega) (by omega)).2⟩
theorem Se.add2 {w X : World} {v : Value} {H1 : Nm → Option Hd} {F1 : Nm → List Nat} {k1 : Nat} {H2 : Nm → Option Hd} {F2 : Nm → List Nat} {k2 : Nat} (h : Se w X v H1 F1 k1 H2 F2 k2) (hk : k2 < maxLen) {x : Nm} (hx : x.size ≤ maxLen) (p : Nat) (hl : (F2 x).length ≤ 1099511627776) (ty : TypeId) :
 ∃ h' W2 W3, (Builtin.append_ #[34, 34] ty #[hv0 (H2 x), .slice (some ⟨X.heap.size, 0, none⟩) 1 1]).run Tryz.prog (X.alloc (.cells #[.int .i64 (p : Int)] 3)) = .ok (hv h') W2 ∧ (Instr.mapUpdate 60 (.map (some (w.heap.size + 2))) (.string x) (hv h')).run Tryz.prog W2 = .ok () W3 ∧ Se w W3 v H1 F1 k1 (up H2 x (some h')) (upF F2 x (F2 x ++ [p])) (k2 + 1) ∧ (∀ c, c < w.heap.size + 4 → c ≠ w.heap.size + 2 → W2.heap[c]? = X.heap[c]? ∧ W3.heap[c]? = X.heap[c]?) ∧ W2.heap[w.heap.size + 2]? = X.heap[w.heap.size + 2]? := by
 have hz := h.size
 obtain ⟨h', W2, W3, r1, r2, m3, kp, kb, src, bb⟩ := h.m2.add hk hz hx p hl ty
 have lo : ∀ c, c < w.heap.size + 4 → ∀ g, H2 x = some g → bk g ≠ some c := fun c hc g e eb => by have := (h.m2.lt e eb).1; omega
 have kl2 : ∀ c, c < w.heap.size + 4 → c ≠ w.heap.size + 2 → W2.heap[c]? = X.heap[c]? ∧ W3.heap[c]? = X.heap[c]? := fun c hc hn => by
  have := kp c (by omega) hn (lo c hc)
  exact ⟨this.2, this.1⟩
 have dis' : ∀ a b f g c, H1 a = some f → up H2 x (some h') b = some g → bk f = some c → bk g = some c → False := fun a b f g c e1 e2 c1 c2 => by
  by_cases q : b = x
  ·subst q
   rw [up_same] at e2
   cases e2
   rcases src with ⟨h0, q1, q2⟩ | q
   ·exact h.dis a b f h0 c e1 q1 c1 (by rw [← q2]; exact c2)
   ·have := (h.m1.lt e1 c1).2
    have := q c c2
    omega
  ·rw [up_other _ _ q] at e2
   exact h.dis a b f g c e1 e2 c1 c2
 refine ⟨h', W2, W3, r1, r2, ⟨((kl2 _ (by omega) (by omega)).2).trans h.r, ((kl2 _ (by omega) (by omega)).2).trans h.x, h.m1.same (fun b e => ?_) (fun y g b e eb => ?_), m3, dis', ?_⟩, kl2, kb⟩
 ·cases e
  exact (kl2 _ (by omega) (by omega)).2
 ·have l := h.m1.lt e eb
  exact (kp b l.2 (by omega) fun f e1 e2 => h.dis y x g f b e e1 eb e2).1
 ·refine h.bw.trans ⟨bb.os, bb.tape, bb.output, bb.size, fun c hc => (kl2 c (by omega) (by omega)).2⟩
theorem results_u1 {fn : Func} {a : Tmp} {t : TypeId} (h : fn.results = #[.cell a t]) (tmps : Array Value) (P : Program) (w : World) (ad : Addr) (v : Value) (ha : tmps.getD a undef = .pointer (some ad)) (hl : (loadVar t ad).run P w = .ok v w) :
 (results fn tmps).run P w = .ok v w := by
 have ha2 : tmps[a]?.getD undef = .pointer (some ad) := by simpa using ha
 simp [results, h, asAddr, ha2, hl]
structure Bx (T : Prop) : Prop where
 out : T
theorem merge {T G : Prop} (h : Bx T → G) (k : T) : G := h ⟨k⟩
def totP (ps : List Pd) : Nat → Nat
 | 0 => 0
 | i + 1 => match ps[i]? with | some q => totP ps i + q.pl.length | none => totP ps i
theorem upF_len {F : Nm → List Nat} {n : Nat} (h : ∀ x, (F x).length ≤ n) (y : Nm) (p : Nat) : ∀ x, (upF F y (F y ++ [p]) x).length ≤ n + 1 := fun x => by
 by_cases e : x = y
 ·subst e; rw [upF_same, List.length_append]; have := h x; simp; omega
 ·rw [upF_other _ _ e]; have := h x; omega
theorem nmP_len (ps : List Pd) : ∀ i x, (nmP ps i x).length ≤ i
 | 0, _ => Nat.le_refl _
 | i + 1, x => by
   unfold nmP
   cases ps[i]? with
   | none => exact Nat.le_succ_of_le (nmP_len ps i x)
   | some q => exact upF_len (nmP_len ps i) q.nm i x
theorem pvJ_len {F : Nm → List Nat} {n : Nat} (h : ∀ x, (F x).length ≤ n) (pl : List Nm) (i : Nat) : ∀ j x, (pvJ F pl i j x).length ≤ n + j
 | 0, x => h x
 | j + 1, x => by
   unfold pvJ
   cases pl[j]? with
   | none => exact Nat.le_succ_of_le (pvJ_len h pl i j x)
   | some q => exact upF_len (pvJ_len h pl i j) q i x
theorem pvP_len (ps : List Pd) : ∀ i x, (pvP ps i x).length ≤ totP ps i
 | 0, _ => Nat.le_refl _
 | i + 1, x => by
   unfold pvP totP
   cases ps[i]? with
   | none => exact pvP_len ps i x
   | some q => exact pvJ_len (pvP_len ps i) q.pl i q.pl.length x
theorem totP_mono (ps : List Pd) : ∀ i j, i ≤ j → totP ps i ≤ totP ps j := fun i j h => by
 induction j with
 | zero => obtain rfl : i = 0 := by omega
           exact Nat.le_refl _
 | succ j ih =>
   by_cases e : i = j + 1
   ·subst e; exact Nat.le_refl _
   ·refine Nat.le_trans (ih (by omega)) ?_
    show totP ps j ≤ (match ps[j]? with | some q => totP ps j + q.pl.length | none => totP ps j)
    cases ps[j]? with
    | none => exact Nat.le_refl _
    | some p => show totP ps j ≤ totP ps j + p.pl.length; omega
theorem se_start (w : World) (v : Value) : Se w ((((w.alloc (.cells #[.slice none 0 0, .map none, .map none] 62)).alloc (.map #[] 0)).alloc (.map #[] 0)).alloc (.cells #[v, .map (some (w.heap.size + 1)), .map (some (w.heap.size + 2))] 62)) v (fun _ => none) (nmP [] 0) 0 (fun _ => none) (nmP [] 0) 0 := by
 obtain ⟨A, hA⟩ : ∃ x, x = w.alloc (.cells #[.slice none 0 0, .map none, .map none] 62) := ⟨_, rfl⟩
 obtain ⟨B, hB⟩ : ∃ x, x = A.alloc (.map #[] 0) := ⟨_, rfl⟩
 obtain ⟨C, hC⟩ : ∃ x, x = B.alloc (.map #[] 0) := ⟨_, rfl⟩
 rw [← hA, ← hB, ← hC]
 have zA : A.heap.size = w.heap.size + 1 := by rw [hA]; exact World.size_alloc _ _
 have zB : B.heap.size = w.heap.size + 2 := by rw [hB, World.size_alloc]; omega
 have zC : C.heap.size = w.heap.size + 3 := by rw [hC, World.size_alloc]; omega
 have bA : RowKit.Below w.heap.size w A := by rw [hA]; exact (Below.refl _ w).alloc (Nat.le_refl _) _
 have bB : RowKit.Below A.heap.size A B := by rw [hB]; exact (Below.refl _ A).alloc (Nat.le_refl _) _
 have bC : RowKit.Below B.heap.size B C := by rw [hC]; exact (Below.refl _ B).alloc (Nat.le_refl _) _
 have bD : RowKit.Below C.heap.size C (C.alloc (.cells #[v, .map (some (w.heap.size + 1)), .map (some (w.heap.size + 2))] 62)) := (Below.refl _ C).alloc (Nat.le_refl _) _
 have hr : A.heap[w.heap.size]? = some (.cells #[.slice none 0 0, .map none, .map none] 62 (0, 0)) := by rw [hA]; exact heap_alloc_new _ _
 have hx : (C.alloc (.cells #[v, .map (some (w.heap.size + 1)), .map (some (w.heap.size + 2))] 62)).heap[C.heap.size]? = some (.cells #[v, .map (some (w.heap.size + 1)), .map (some (w.heap.size + 2))] 62 (0, 0)) := heap_alloc_new _ _
 have oB := World.ownsMap_made A Tryz.prog 9 raw
 have oC := World.ownsMap_made B Tryz.prog 9 raw
 rw [← hB, zA] at oB
 rw [← hC, zB] at oC
 have mi : ∀ (X : World) (b : Nat), X.ownsMap Tryz.prog 9 raw b 0 (.map []) → Mi X (w.heap.size + 4) (.map (some b)) (fun _ => none) (nmP [] 0) 0 := fun X b o => ⟨.inr ⟨b, _, rfl, o, Rep.start⟩, fun _ _ => rfl, fun x h e => (by cases e), fun x y h g c e => (by cases e)⟩
 refine ⟨?_, ?_, (((mi B _ oB).later bC).later bD), ((mi C _ oC).later bD), fun a b h g c e => (by cases e), bl_t (bl_t (bl_t bA bB) bC) bD⟩
 ·exact (bD.block _ (by omega)).trans ((bC.block _ (by omega)).trans ((bB.block _ (by omega)).trans hr))
 ·rw [zC] at hx; exact hx
set_option maxRecDepth 100000 in
set_option maxHeartbeats 16000000 in
theorem setOf_any (ps : List Pd) (v : Value) (w : World) (hl : ps.length ≤ 1000000000) (ht : totP ps ps.length ≤ 1000000000) (hsz : ∀ q ∈ ps, q.nm.size ≤ maxLen ∧ ∀ n ∈ q.pl, n.size ≤ maxLen) (h : Pks w v ps) :
 Calls Tryz.prog 39 #[v] w fun e w' => ∃ H1 k1 H2 k2, e = .returned (.agg #[v, .map (some (w.heap.size + 1)), .map (some (w.heap.size + 2))]) ∧ Mi w' (w.heap.size + 4) (.map (some (w.heap.size + 1))) H1 (nmP ps ps.length) k1 ∧ Mi w' (w.heap.size + 4) (.map (some (w.heap.size + 2))) H2 (pvP ps ps.length) k2 ∧ RowKit.Below w.heap.size w w' := by
 obtain ⟨N, hN⟩ : ∃ N, N = ps.length := ⟨_, rfl⟩
 obtain ⟨va, vc, rfl⟩ : ∃ a c, v = .slice a ps.length c := let ⟨a, c, e, _⟩ := h; ⟨a, c, e⟩
 have HST := hide (se_start w (.slice va ps.length vc))
 rw [← hN] at HST hl ht ⊢
 have HN := hide hN
 have HP := hide h
 have HT := hide ht
 have HSZ := hide hsz
 clear h hN ht hsz
 have hmm := @run_makeMap Tryz.prog
 go_enter Tryz.func39, Tryz.ntmps39
 go_wp2_with fail
 clear hmm
 have e2 : w.heap.size + 1 + 1 = w.heap.size + 2 := rfl
 go_loopg [4, 6, 13] N (fun g1 _ _ vi wr => ∃ (i : Nat) (H1 H2 : Nm → Option Hd), vi = .int .i64 i ∧ i ≤ N ∧ N - i ≤ g1 ∧ Hid (Se w wr (.slice va N vc) H1 (nmP ps i) i H2 (pvP ps i) (totP ps i)))
 case atStart => exact ⟨0, _, _, by go_num, by omega, by omega, HST⟩
 case round =>
  clear HST
  obtain ⟨i, H1, H2, rfl, hile, hg, HSE⟩ := hrel
  by_cases hlt : i < N
  ·have hlt2 : (i : Int) < (N : Int) := by omega
   have hip : i < ps.length := by have := unhide HN; omega
   obtain ⟨b, of, rfl, hbl, hq⟩ : ∃ b o, va = some ⟨b, o, none⟩ ∧ b < w.heap.size ∧ w.rangeAt b (o + i * 43) ps[i].cs ∧ PdOk w ps[i] := by
    obtain ⟨a, c, e, q⟩ := unhide HP
    injection e with e _ _
    obtain ⟨b, o, q1, q2, q3⟩ := q (by omega)
    exact ⟨b, o, by rw [e, q1], q2, q3 i ps[i] (List.getElem?_eq_getElem hip)⟩
   have hqs := unhide HSZ ps[i] (List.getElem_mem hip)
   have en : nmP ps (i + 1) = upF (nmP ps i) ps[i].nm (nmP ps i ps[i].nm ++ [i]) := by rw [nmP, List.getElem?_eq_getElem hip]
   have ep : pvP ps (i + 1) = pvJ (pvP ps i) ps[i].pl i ps[i].pl.length := by rw [pvP, List.getElem?_eq_getElem hip]
   have et : totP ps (i + 1) = totP ps i + ps[i].pl.length := by rw [totP, List.getElem?_eq_getElem hip]
   have htt : totP ps i + ps[i].pl.length ≤ 1000000000 := by
    rw [← et]
    exact Nat.le_trans (totP_mono ps (i + 1) N (by omega)) (unhide HT)
   generalize ps[i] = q at *
   obtain ⟨hr, hpk, hst, _⟩ := hq
   have c0 : ∀ X : World, RowKit.Below w.heap.size w X → X.cell? ⟨b, of + i * 43, none⟩ = some (.string q.nm) := fun X hX => (hX.cell (p := ⟨b, of + i * 43, none⟩) hbl).trans (hr 0 _ hpk.n)
   have c6 : ∀ X : World, RowKit.Below w.heap.size w X → X.cell? ⟨b, of + i * 43 + 6, none⟩ = some q.pv := fun X hX => (hX.cell (p := ⟨b, of + i * 43 + 6, none⟩) hbl).trans (hr 6 _ hpk.p)
   have se := (unhide HSE).later (Below.refl wr.heap.size wr).drew
   have hX1 : ∀ Y : World, (Y.heap[w.heap.size + 3]? = wr.drew.heap[w.heap.size + 3]?) → Y.cell? ⟨w.heap.size + 3, 1, none⟩ = some (.map (some (w.heap.size + 1))) := fun Y e => (cell_blk (e.trans se.x) 1).1.trans rfl
   obtain ⟨h', W2, W3, r1, r2, se3, kp3, kb3⟩ := se.add1 (Nat.lt_of_le_of_lt (show i ≤ 1000000000 by omega) (by decide)) hqs.1 i (Nat.le_trans (nmP_len ps i q.nm) (by omega)) 34
   have lkX := look1 se.m1.dm hqs.1
   have lkA := look1 ((se.m1.later ((Below.refl _ wr.drew).alloc (Nat.le_refl _) (.cells #[.int .i64 (i : Int)] 3))).dm) hqs.1
   have HLX := hide lkX
   have HLA := hide lkA
   have R1 := hide r1
   have R2 := hide r2
   have bD : RowKit.Below w.heap.size w wr.drew := se.bw
   have bA : RowKit.Below w.heap.size w (wr.drew.alloc (.cells #[.int .i64 (i : Int)] 3)) := bl_t bD ((Below.refl _ _).alloc (Nat.le_refl _) _)
   have zz := se.size
   have cb : ∀ Y : World, (∀ c, c < w.heap.size + 4 → c ≠ w.heap.size + 1 → Y.heap[c]? = wr.drew.heap[c]?) → Y.cell? ⟨w.heap.size + 3, 1, none⟩ = some (.map (some (w.heap.size + 1))) ∧ Y.cell? ⟨b, of + i * 43, none⟩ = some (.string q.nm) := fun Y hY => ⟨hX1 Y (hY _ (by omega) (by omega)), by
    rw [← c0 wr.drew bD]
    unfold World.cell?
    rw [show Y.heap[(⟨b, of + i * 43, none⟩ : Addr).block]? = wr.drew.heap[(⟨b, of + i * 43, none⟩ : Addr).block]? from hY b (by omega) (by omega)]⟩
   have HSX := hide (cb wr.drew fun _ _ _ => rfl)
   have HSA := hide (cb (wr.drew.alloc (.cells #[.int .i64 (i : Int)] 3)) fun c hc _ => ((Below.refl _ wr.drew).alloc (Nat.le_refl _) (.cells #[.int .i64 (i : Int)] 3)).block c (by omega))
   have HS2 := hide (cb W2 fun c hc hn => (kp3 c hc hn).1)
   have HS3 := hide (cb W3 fun c hc hn => (kp3 c hc hn).2)
   have HSE3 := hide se3
   have HC6 := hide (c6 W3 se3.bw)
   have HSTR := hide (hst.later se3.bw)
   have HS0 := hide hst
   clear c0 c6 se hX1 lkX lkA r1 r2 bD bA cb se3 kp3 kb3 HSE hr hpk hst zz
   obtain ⟨hd0, e0⟩ : ∃ f : Hd, hv0 (H1 q.nm) = .slice f.a f.n f.c := by
    cases H1 q.nm with
    | none => exact ⟨⟨none, 0, 0⟩, rfl⟩
    | some f => exact ⟨f, rfl⟩
   have eh : hv h' = .slice h'.a h'.n h'.c := rfl
   rw [e0] at HLX HLA R1
   rw [eh] at R1 R2
   go_upto_region 5 with fail
   refine merge (T := ?T5) ?h5 ?k5
   case h5 =>
    intro KEY
    refine wp_region_held_drew (S := fun w' => w'.cell? ⟨w.heap.size + 3, 1, none⟩ = some (.map (some (w.heap.size + 1))) ∧ w'.cell? ⟨b, of + i * 43, none⟩ = some (.string q.nm)) (by kernel_rfl) ?_ (fun hHeld => ?_)
    ·exact unhide HSX
    refine tk2 0 (⟨some 16, .fieldAddr 62 (.tmp 3) 1, 0, "set.go:24", #[], none⟩) ?_
    refine tk2 1 (⟨some 17, .load 60 (.tmp 16), 60, "set.go:24", #[⟨0, .data⟩], none⟩) ?_
    refine tk2 2 (⟨some 18, .move (.tmp 0), 22, "set.go:24", #[], none⟩) ?_
    refine tk2 3 (⟨some 19, .move (.tmp 4), 3, "set.go:24", #[], none⟩) ?_
    refine tk2 4 (⟨some 20, .indexAddr 22 (.tmp 18) (.tmp 19), 0, "set.go:24", #[⟨2, .data⟩, ⟨3, .data⟩], none⟩) ?_
    refine tk2 5 (⟨some 21, .fieldAddr 46 (.tmp 20) 0, 0, "set.go:24", #[⟨4, .data⟩], none⟩) ?_
    refine tk2 6 (⟨some 22, .load 9 (.tmp 21), 9, "set.go:24", #[⟨5, .data⟩], none⟩) ?_
    refine tk2 7 (⟨some 23, .fieldAddr 62 (.tmp 3) 1, 0, "set.go:24", #[], none⟩) ?_
    refine tk2 8 (⟨some 24, .load 60 (.tmp 23), 60, "set.go:24", #[⟨7, .data⟩], none⟩) ?_
    refine tk2 9 (⟨some 25, .move (.tmp 0), 22, "set.go:24", #[], none⟩) ?_
    refine tk2 10 (⟨some 26, .move (.tmp 4), 3, "set.go:24", #[], none⟩) ?_
    refine tk2 11 (⟨some 27, .indexAddr 22 (.tmp 25) (.tmp 26), 0, "set.go:24", #[⟨9, .data⟩, ⟨10, .data⟩], none⟩) ?_
    refine tk2 12 (⟨some 28, .fieldAddr 46 (.tmp 27) 0, 0, "set.go:24", #[⟨11, .data⟩], none⟩) ?_
    refine tk2 13 (⟨some 29, .load 9 (.tmp 28), 9, "set.go:24", #[⟨12, .data⟩], none⟩) ?_
    refine tk2 15 (⟨some 31, .move (.tmp 4), 3, "set.go:24", #[], none⟩) ?_
    refine wpAnyH_ready (rs := [14, 16]) (by kernel_rfl) (by simp) ?_
    refine AllReadyH.cons (o := y10_1) rfl (fun K hK => ?_) (AllReadyH.cons (o := y10_2) rfl (fun K hK => ?_) AllReadyH.nil)
    ·refine wp_look_run _ _ 60 rfl _ _ rfl rfl (unhide HLX) ?_
     refine hK.out _ _ ?_ (fun hHeld => ?_)
     ·exact unhide HSX
     clear hK K
     try simp only [Act.put, sqB, sq0, sq1]
     refine wpAnyH_ready (rs := [16]) (by kernel_rfl) (by simp) ?_
     refine AllReadyH.cons (o := y10_2) rfl (fun K hK => ?_) AllReadyH.nil
     go_simp
     refine hK.out _ _ ?_ (fun hHeld => ?_)
     ·exact unhide HSA
     clear hK K
     try simp only [Act.put, sqB, sq0, sq1]
     refine wpAnyH_ready (rs := [17]) (by kernel_rfl) (by simp) ?_
     refine AllReadyH.cons (o := y10_3) rfl (fun K hK => ?_) AllReadyH.nil
     refine wp_append_run _ _ 34 rfl _ _ rfl rfl (unhide R1) ?_
     refine hK.out _ _ ?_ (fun hHeld => ?_)
     ·exact unhide HS2
     clear hK K
     try simp only [Act.put, sqB, sq0, sq1]
     refine wpAnyH_ready (rs := [18]) (by kernel_rfl) (by simp) ?_
     refine AllReadyH.cons (o := y10_4) rfl (fun K hK => ?_) AllReadyH.nil
     refine wp_upd_run _ _ _ 60 rfl _ _ _ rfl rfl rfl (unhide R2) ?_
     refine hK.out _ _ ?_ (fun hHeld => ?_)
     ·exact unhide HS3
     clear hK K
     try simp only [Act.put]
     refine wpAnyH_done (by kernel_rfl) ?_ _
     exact KEY.out
    ·go_simp
     refine hK.out _ _ ?_ (fun hHeld => ?_)
     ·exact unhide HSA
     clear hK K
     try simp only [Act.put, sqB, sq0, sq1]
     refine wpAnyH_ready (rs := [14]) (by kernel_rfl) (by simp) ?_
     refine AllReadyH.cons (o := y10_1) rfl (fun K hK => ?_) AllReadyH.nil
     refine wp_look_run _ _ 60 rfl _ _ rfl rfl (unhide HLA) ?_
     refine hK.out _ _ ?_ (fun hHeld => ?_)
     ·exact unhide HSA
     clear hK K
     try simp only [Act.put, sqB, sq0, sq1]
     refine wpAnyH_ready (rs := [17]) (by kernel_rfl) (by simp) ?_
     refine AllReadyH.cons (o := y10_3) rfl (fun K hK => ?_) AllReadyH.nil
     refine wp_append_run _ _ 34 rfl _ _ rfl rfl (unhide R1) ?_
     refine hK.out _ _ ?_ (fun hHeld => ?_)
     ·exact unhide HS2
     clear hK K
     try simp only [Act.put, sqB, sq0, sq1]
     refine wpAnyH_ready (rs := [18]) (by kernel_rfl) (by simp) ?_
     refine AllReadyH.cons (o := y10_4) rfl (fun K hK => ?_) AllReadyH.nil
     refine wp_upd_run _ _ _ 60 rfl _ _ _ rfl rfl rfl (unhide R2) ?_
     refine hK.out _ _ ?_ (fun hHeld => ?_)
     ·exact unhide HS3
     clear hK K
     try simp only [Act.put]
     refine wpAnyH_done (by kernel_rfl) ?_ _
     exact KEY.out
   case k5 =>
    clear HLX HLA R1 R2 HSX HSA HS2 HS3 e0 eh
    have se3 := unhide HSE3
    rw [← en] at se3
    have HSEI := hide se3
    obtain ⟨pa, pc, epv⟩ : ∃ a c, q.pv = .slice a q.pl.length c := let ⟨a, c, e, _⟩ := unhide HSTR; ⟨a, c, e⟩
    have c6 := unhide HC6
    rw [epv] at c6
    have HEPV := hide epv
    obtain ⟨M, hM⟩ : ∃ M, M = q.pl.length := ⟨_, rfl⟩
    rw [← hM] at c6 htt et ep
    have HM := hide hM
    have HEE := hide (And.intro ep et)
    clear se3 HC6 HSE3 en epv ep et hM
    go_wp2_with fail
    clear c6
    go_loopg [6, 40] M (fun g2 _ vj wx => ∃ (j : Nat) (H1 H2 : Nm → Option Hd), vj = .int .i64 j ∧ j ≤ M ∧ M - j ≤ g2 ∧ Hid (Se w wx (.slice (some ⟨b, of, none⟩) N vc) H1 (nmP ps (i + 1)) (i + 1) H2 (pvJ (pvP ps i) q.pl i j) (totP ps i + j)))
    case atStart => exact ⟨0, _, _, by go_num, by omega, by omega, HSEI⟩
    case round =>
     clear HSEI HSTR
     obtain ⟨j, H1, H2, rfl, hjle, hgj, HSE⟩ := hrel
     by_cases hjt : j < M
     ·have hjt2 : (j : Int) < (M : Int) := by omega
      have hjp : j < q.pl.length := by have := unhide HM; omega
      have se := (unhide HSE).later (Below.refl wr.heap.size wr).drew
      obtain ⟨sb, so, epa, hsb, hsc⟩ : ∃ b o, pa = some ⟨b, o, none⟩ ∧ b < w.heap.size ∧ w.cell? ⟨b, o + j, none⟩ = some (.string q.pl[j]) := by
       obtain ⟨a, c, e, _, qq⟩ := unhide HS0
       rw [unhide HEPV] at e
       injection e with e _ _
       obtain ⟨b, o, q1, q2, q3⟩ := qq j hjp
       exact ⟨b, o, by rw [e, q1], q2, q3⟩
      subst epa
      have hxs := hqs.2 q.pl[j] (List.getElem_mem hjp)
      have ej : pvJ (pvP ps i) q.pl i (j + 1) = upF (pvJ (pvP ps i) q.pl i j) q.pl[j] (pvJ (pvP ps i) q.pl i j q.pl[j] ++ [i]) := by rw [pvJ, List.getElem?_eq_getElem hjp]
      have hlj := pvJ_len (pvP_len ps i) q.pl i j q.pl[j]
      generalize q.pl[j] = x at *
      have cs : wr.cell? ⟨sb, so + j, none⟩ = some (.string x) := ((unhide HSE).bw.cell (p := ⟨sb, so + j, none⟩) hsb).trans hsc
      obtain ⟨h', W2, W3, r1, r2, se3, kp3, kb3⟩ := se.add2 (Nat.lt_of_le_of_lt (show totP ps i + j ≤ 1000000000 by omega) (by decide)) hxs i (by omega) 34
      have HLX := hide (look1 se.m2.dm hxs)
      have HLA := hide (look1 ((se.m2.later ((Below.refl _ wr.drew).alloc (Nat.le_refl _) (.cells #[.int .i64 (i : Int)] 3))).dm) hxs)
      have R1 := hide r1
      have R2 := hide r2
      have zz := se.size
      have cb : ∀ Y : World, (∀ c, c < w.heap.size + 4 → c ≠ w.heap.size + 2 → Y.heap[c]? = wr.drew.heap[c]?) → Y.cell? ⟨w.heap.size + 3, 2, none⟩ = some (.map (some (w.heap.size + 2))) := fun Y hY => (cell_blk ((hY _ (by omega) (by omega)).trans se.x) 2).1.trans rfl
      have HSX := hide (cb wr.drew fun _ _ _ => rfl)
      have HSA := hide (cb (wr.drew.alloc (.cells #[.int .i64 (i : Int)] 3)) fun c hc _ => ((Below.refl _ wr.drew).alloc (Nat.le_refl _) (.cells #[.int .i64 (i : Int)] 3)).block c (by omega))
      have HS2 := hide (cb W2 fun c hc hn => (kp3 c hc hn).1)
      have HS3 := hide (cb W3 fun c hc hn => (kp3 c hc hn).2)
      rw [← ej] at se3
      have HSE3 := hide se3
      clear se r1 r2 cb se3 kp3 kb3 HSE zz hsc ej hlj
      obtain ⟨hd0, e0⟩ : ∃ f : Hd, hv0 (H2 x) = .slice f.a f.n f.c := by
       cases H2 x with
       | none => exact ⟨⟨none, 0, 0⟩, rfl⟩
       | some f => exact ⟨f, rfl⟩
      have eh : hv h' = .slice h'.a h'.n h'.c := rfl
      rw [e0] at HLX HLA R1
      rw [eh] at R1 R2
      go_upto_region 9 with fail
      refine merge (T := ?T9) ?h9 ?k9
      case h9 =>
       intro KEY
       refine wp_region_held_drew (S := fun w' => w'.cell? ⟨w.heap.size + 3, 2, none⟩ = some (.map (some (w.heap.size + 2)))) (by kernel_rfl) ?_ (fun hHeld => ?_)
       ·exact unhide HSX
       refine tk2 0 (⟨some 44, .fieldAddr 62 (.tmp 3) 2, 0, "set.go:26", #[], none⟩) ?_
       refine tk2 1 (⟨some 45, .load 60 (.tmp 44), 60, "set.go:26", #[⟨0, .data⟩], none⟩) ?_
       refine tk2 2 (⟨some 46, .move (.tmp 6), 9, "set.go:26", #[], none⟩) ?_
       refine tk2 3 (⟨some 47, .fieldAddr 62 (.tmp 3) 2, 0, "set.go:26", #[], none⟩) ?_
       refine tk2 4 (⟨some 48, .load 60 (.tmp 47), 60, "set.go:26", #[⟨3, .data⟩], none⟩) ?_
       refine tk2 5 (⟨some 49, .move (.tmp 6), 9, "set.go:26", #[], none⟩) ?_
       refine tk2 7 (⟨some 51, .move (.tmp 4), 3, "set.go:26", #[], none⟩) ?_
       refine wpAnyH_ready (rs := [6, 8]) (by kernel_rfl) (by simp) ?_
       refine AllReadyH.cons (o := y10_5) rfl (fun K hK => ?_) (AllReadyH.cons (o := y10_6) rfl (fun K hK => ?_) AllReadyH.nil)
       ·refine wp_look_run _ _ 60 rfl _ _ rfl rfl (unhide HLX) ?_
        refine hK.out _ _ ?_ (fun hHeld => ?_)
        ·exact unhide HSX
        clear hK K
        try simp only [Act.put, sqB, sq0, sq1]
        refine wpAnyH_ready (rs := [8]) (by kernel_rfl) (by simp) ?_
        refine AllReadyH.cons (o := y10_6) rfl (fun K hK => ?_) AllReadyH.nil
        go_simp
        refine hK.out _ _ ?_ (fun hHeld => ?_)
        ·exact unhide HSA
        clear hK K
        try simp only [Act.put, sqB, sq0, sq1]
        refine wpAnyH_ready (rs := [9]) (by kernel_rfl) (by simp) ?_
        refine AllReadyH.cons (o := y10_7) rfl (fun K hK => ?_) AllReadyH.nil
        refine wp_append_run _ _ 34 rfl _ _ rfl rfl (unhide R1) ?_
        refine hK.out _ _ ?_ (fun hHeld => ?_)
        ·exact unhide HS2
        clear hK K
        try simp only [Act.put, sqB, sq0, sq1]
        refine wpAnyH_ready (rs := [10]) (by kernel_rfl) (by simp) ?_
        refine AllReadyH.cons (o := y10_8) rfl (fun K hK => ?_) AllReadyH.nil
        refine wp_upd_run _ _ _ 60 rfl _ _ _ rfl rfl rfl (unhide R2) ?_
        refine hK.out _ _ ?_ (fun hHeld => ?_)
        ·exact unhide HS3
        clear hK K
        try simp only [Act.put]
        refine wpAnyH_done (by kernel_rfl) ?_ _
        exact KEY.out
       ·go_simp
        refine hK.out _ _ ?_ (fun hHeld => ?_)
        ·exact unhide HSA
        clear hK K
        try simp only [Act.put, sqB, sq0, sq1]
        refine wpAnyH_ready (rs := [6]) (by kernel_rfl) (by simp) ?_
        refine AllReadyH.cons (o := y10_5) rfl (fun K hK => ?_) AllReadyH.nil
        refine wp_look_run _ _ 60 rfl _ _ rfl rfl (unhide HLA) ?_
        refine hK.out _ _ ?_ (fun hHeld => ?_)
        ·exact unhide HSA
        clear hK K
        try simp only [Act.put, sqB, sq0, sq1]
        refine wpAnyH_ready (rs := [9]) (by kernel_rfl) (by simp) ?_
        refine AllReadyH.cons (o := y10_7) rfl (fun K hK => ?_) AllReadyH.nil
        refine wp_append_run _ _ 34 rfl _ _ rfl rfl (unhide R1) ?_
        refine hK.out _ _ ?_ (fun hHeld => ?_)
        ·exact unhide HS2
        clear hK K
        try simp only [Act.put, sqB, sq0, sq1]
        refine wpAnyH_ready (rs := [10]) (by kernel_rfl) (by simp) ?_
        refine AllReadyH.cons (o := y10_8) rfl (fun K hK => ?_) AllReadyH.nil
        refine wp_upd_run _ _ _ 60 rfl _ _ _ rfl rfl rfl (unhide R2) ?_
        refine hK.out _ _ ?_ (fun hHeld => ?_)
        ·exact unhide HS3
        clear hK K
        try simp only [Act.put]
        refine wpAnyH_done (by kernel_rfl) ?_ _
        exact KEY.out
      case k9 =>
       clear HLX HLA R1 R2 HSX HSA HS2 HS3 e0 eh cs
       go_wp2_with fail
       go_roundg (M - (j + 1))
       case measure => omega
       case rel => exact ⟨j + 1, _, _, by go_num, by omega, by omega, HSE3⟩
     ·obtain rfl : j = M := by omega
      have HF := hide (show Se w wr (.slice (some ⟨b, of, none⟩) N vc) H1 (nmP ps (i + 1)) (i + 1) H2 (pvP ps (i + 1)) (totP ps (i + 1)) from by rw [(unhide HEE).1, (unhide HEE).2]; exact unhide HSE)
      go_wp2_with fail
      go_roundg (N - (i + 1))
      case measure => omega
      case rel => exact ⟨i + 1, _, _, by go_num, by omega, by omega, HF⟩
  ·obtain rfl : i = N := by omega
   have se := unhide HSE
   have k3 := fun j (u : Value) (e : (#[Value.slice va i vc, .map (some (w.heap.size + 1)), .map (some (w.heap.size + 2))])[j]? = some u) => (cell_blk se.x j).1.trans e
   have x0 := k3 0 _ rfl
   have x1 := k3 1 _ rfl
   have x2 := k3 2 _ rfl
   have kr := fun j (u : Value) (e : (#[Value.slice none 0 0, .map none, .map none])[j]? = some u) => (cell_blk se.r j).1.trans e
   have y0 := kr 0 _ rfl
   have y1 := kr 1 _ rfl
   have y2 := kr 2 _ rfl
   have f0 := (cell_blk se.r 0).2
   have f1 := (cell_blk se.r 1).2
   have f2 := (cell_blk se.r 2).2
   have W4e := hide (show ∃ W4, W4 = ((wr.setCell ⟨w.heap.size, 0, none⟩ (.slice va i vc)).setCell ⟨w.heap.size, 1, none⟩ (.map (some (w.heap.size + 1)))).setCell ⟨w.heap.size, 2, none⟩ (.map (some (w.heap.size + 2))) ∧ W4.cell? ⟨w.heap.size, 0, none⟩ = some (.slice va i vc) ∧ W4.cell? ⟨w.heap.size, 1, none⟩ = some (.map (some (w.heap.size + 1))) ∧ W4.cell? ⟨w.heap.size, 2, none⟩ = some (.map (some (w.heap.size + 2))) ∧ Mi W4 (w.heap.size + 4) (.map (some (w.heap.size + 1))) H1 (nmP ps i) i ∧ Mi W4 (w.heap.size + 4) (.map (some (w.heap.size + 2))) H2 (pvP ps i) (totP ps i) ∧ RowKit.Below w.heap.size w W4 from by
    have a1 := set_blk se.r 0 (.slice va i vc)
    have a2 := set_blk a1 1 (.map (some (w.heap.size + 1)))
    have a3 := set_blk a2 2 (.map (some (w.heap.size + 2)))
    have ot : ∀ c, c ≠ w.heap.size → (((wr.setCell ⟨w.heap.size, 0, none⟩ (.slice va i vc)).setCell ⟨w.heap.size, 1, none⟩ (.map (some (w.heap.size + 1)))).setCell ⟨w.heap.size, 2, none⟩ (.map (some (w.heap.size + 2)))).heap[c]? = wr.heap[c]? := fun c hc => (set_other _ _ _ _ _ hc).trans ((set_other _ _ _ _ _ hc).trans (set_other _ _ _ _ _ hc))
    refine ⟨_, rfl, (cell_blk a3 0).1.trans rfl, (cell_blk a3 1).1.trans rfl, (cell_blk a3 2).1.trans rfl, se.m1.same (fun b e => ot b (by cases e; omega)) (fun x h b e eb => ot b (by have := (se.m1.lt e eb).1; omega)), se.m2.same (fun b e => ot b (by cases e; omega)) (fun x h b e eb => ot b (by have := (se.m2.lt e eb).1; omega)), ?_⟩
    exact ((se.bw.setCell (p := ⟨w.heap.size, 0, none⟩) (Nat.le_refl _) _).setCell (p := ⟨w.heap.size, 1, none⟩) (Nat.le_refl _) _).setCell (p := ⟨w.heap.size, 2, none⟩) (Nat.le_refl _) _)
   clear se k3 kr HSE
   go_wp2_with fail
   obtain ⟨W4, e4, d0, d1, d2, q1, q2, q3⟩ := unhide W4e
   rw [← e4]
   refine bodyPost_ret (results_u1 (show Tryz.f39.results = #[.cell 2 62] from Tryz.results39) _ _ _ ⟨w.heap.size, 0, none⟩ (.agg #[.slice va i vc, .map (some (w.heap.size + 1)), .map (some (w.heap.size + 2))]) rfl (by simp [loadVar, go_sem, d0, d1, d2])) rfl ?_
   exact ⟨rfl, ⟨H1, i, q1⟩, ⟨H2, totP ps i, q2⟩, q3⟩
end Go.Proofs.YtdkpglmdncjnbaaGreatDoor
