import Derived.Test.YtcebpdcijpgkjaaGreatDoorZc17
import Derived.Test.YtcebpdcijpgkjaaGreatDoorZc16
namespace Go.Proofs.YtcebpdcijpgkjaaGreatDoor
open Go.RowKit Go.Maps Go.Shelf
attribute [local go_sem] Oper.semAt_some
attribute [local simp] wide_fn
attribute [local go_sem] wide_fn

/-- DOES THE PACKAGE AT A PLACE MEET AN ATOM? -/
def mt (ps : List Pd) (an : Nm) (op : Int) (bd : ByteArray) (p : Nat) : Bool := match ps[p]? with | some q => meetsA an op bd q.nm q.vr q.pl | none => false
def satL (ps : List Pd) (an : Nm) (op : Int) (bd : ByteArray) (P1 P2 : List Nat) : List Nat := (P1 ++ P2).filter (mt ps an op bd)
abbrev encI (p : Nat) : Array Value := #[.int .i64 (p : Int)]
theorem row_at {W wr : World} {base n c : Nat} {a : Option Addr} {l : List Nat} (h : W.ownsRow base 3 1 (.slice a n c) n (ints l)) (hb : RowKit.Below W.heap.size W wr) {j : Nat} (hj : j < l.length) : ∃ g, a = some ⟨g, 0, none⟩ ∧ wr.cell? ⟨g, j, none⟩ = some (.int .i64 (l[j] : Int)) := by
  rcases h.2 with ⟨e, q⟩ | ⟨g, cap, cur, e, _, hg, _⟩
  · have := h.1
    rw [ints_len] at this
    omega
  · injection e with e _ _
    subst e
    refine ⟨g, rfl, ?_⟩
    have := h.cells (g := g) rfl j (.int .i64 (l[j] : Int)) (by simp [ints, hj])
    rw [Addr.add_mid, Nat.zero_add] at this
    exact (hb.cell (p := ⟨g, j, none⟩) (blk_lt hg)).trans this
theorem info43 : (Tryz.prog.info? 46).map (·.size) = some 43 := by kernel_rfl
theorem ix0 (X : World) (s1 s2 : Value) : (Instr.index 150 (.agg #[s1, s2]) (.int .i64 0)).run Tryz.prog X = .ok s1 X := by
  simp [Instr.index, go_sem, run_underlying Tryz.underlying150]
theorem ix1 (X : World) (s1 s2 : Value) : (Instr.index 150 (.agg #[s1, s2]) (.int .i64 1)).run Tryz.prog X = .ok s2 X := by
  simp [Instr.index, go_sem, run_underlying Tryz.underlying150]
end Go.Proofs.YtcebpdcijpgkjaaGreatDoor

namespace Go.Proofs.YtcebpdcijpgkjaaGreatDoor
open Go.RowKit Go.Maps Go.Shelf

set_option maxHeartbeats 1000000 in
theorem satisfiers_any (v d1 d2 : Value) (an : Nm) (op : Int) (bd : ByteArray) (w : World) :
    Calls Tryz.prog 81 #[.agg #[v, d1, d2], .agg #[.string an, .int .i64 op, .string bd]] w fun e w' => e = .returned (.func (.func 102) #[] #[.pointer (some ⟨w.heap.size, 0, none⟩), .pointer (some ⟨w.heap.size + 1, 0, none⟩)]) ∧ w'.heap[w.heap.size]? = some (.cells #[v, d1, d2] 62 (0, 0)) ∧ w'.heap[w.heap.size + 1]? = some (.cells #[.string an, .int .i64 op, .string bd] 48 (0, 0)) ∧ RowKit.Below w.heap.size w w' := by
  have hb1 := (Below.refl w.heap.size w).alloc (Nat.le_refl _) (.cells #[v, d1, d2] 62)
  have hb2 := hb1.alloc (by simp) (.cells #[.string an, .int .i64 op, .string bd] 48)
  have h1 : ((w.alloc (.cells #[v, d1, d2] 62)).alloc (.cells #[.string an, .int .i64 op, .string bd] 48)).heap[w.heap.size]? = some (.cells #[v, d1, d2] 62 (0, 0)) := (Below.heap_alloc _ _ _ (by simp)).trans (World.alloc_heap_new w _)
  have h2 : ((w.alloc (.cells #[v, d1, d2] 62)).alloc (.cells #[.string an, .int .i64 op, .string bd] 48)).heap[w.heap.size + 1]? = some (.cells #[.string an, .int .i64 op, .string bd] 48 (0, 0)) := by
    have := World.alloc_heap_new (w.alloc (.cells #[v, d1, d2] 62)) (.cells #[.string an, .int .i64 op, .string bd] 48)
    rwa [World.size_alloc] at this
  have HR := hide (And.intro h1 (And.intro h2 hb2))
  clear h1 h2 hb1 hb2
  go_enter Tryz.func81, Tryz.ntmps81
  go_wp2
  go_ret
  exact ⟨rfl, unhide HR⟩

/-- THE CELLS OF A WISH. -/
abbrev wc (kd : Int) (an : Nm) (op : Int) (bd : ByteArray) : Array Value := #[.int .i64 kd, .string an, .int .i64 op, .string bd]
end Go.Proofs.YtcebpdcijpgkjaaGreatDoor

namespace Go.Proofs.YtcebpdcijpgkjaaGreatDoor
open Go.RowKit Go.Maps Go.Shelf

theorem toList_eq {a b : ByteArray} : (a.toList == b.toList) = true ↔ a = b := by
  constructor
  · intro h
    have h1 := eq_of_beq h
    rw [Lib.toList_data, Lib.toList_data] at h1
    exact ByteArray.ext (Array.ext' h1)
  · rintro rfl; exact beq_self_eq_true _
theorem nmP_mem (ps : List Pd) : ∀ (n : Nat) (x : Nm) (p : Nat), p ∈ nmP ps n x ↔ p < n ∧ ∃ q, ps[p]? = some q ∧ q.nm = x
  | 0, x, p => by simp [nmP]
  | n + 1, x, p => by
    have ih := nmP_mem ps n
    unfold nmP
    cases e : ps[n]? with
    | none =>
      simp only
      rw [ih]
      constructor
      · rintro ⟨h, q⟩; exact ⟨by omega, q⟩
      · rintro ⟨h, q, h1, h2⟩
        refine ⟨?_, q, h1, h2⟩
        have : p ≠ n := fun ee => by rw [ee, e] at h1; cases h1
        omega
    | some y =>
      simp only
      unfold upF
      by_cases hx : x = y.nm
      · rw [if_pos hx, List.mem_append, ih, List.mem_singleton]
        constructor
        · rintro (⟨h, q, h1, h2⟩ | rfl)
          · exact ⟨by omega, q, h1, h2.trans hx.symm⟩
          · exact ⟨by omega, y, e, hx.symm⟩
        · rintro ⟨h, q, h1, h2⟩
          by_cases hp : p = n
          · exact .inr hp
          · exact .inl ⟨by omega, q, h1, h2.trans hx⟩
      · rw [if_neg hx, ih]
        constructor
        · rintro ⟨h, q⟩; exact ⟨by omega, q⟩
        · rintro ⟨h, q, h1, h2⟩
          refine ⟨?_, q, h1, h2⟩
          have : p ≠ n := fun ee => by rw [ee, e] at h1; cases h1; exact hx h2.symm
          omega
theorem pvJ_mem (F : Nm → List Nat) (pl : List Nm) (i : Nat) : ∀ (n : Nat) (x : Nm) (p : Nat), p ∈ pvJ F pl i n x ↔ p ∈ F x ∨ (p = i ∧ ∃ j, j < n ∧ pl[j]? = some x)
  | 0, x, p => by simp [pvJ]
  | n + 1, x, p => by
    have ih := pvJ_mem F pl i n
    unfold pvJ
    cases e : pl[n]? with
    | none =>
      simp only
      rw [ih]
      constructor
      · rintro (h | ⟨h, j, h1, h2⟩)
        · exact .inl h
        · exact .inr ⟨h, j, by omega, h2⟩
      · rintro (h | ⟨h, j, h1, h2⟩)
        · exact .inl h
        · refine .inr ⟨h, j, ?_, h2⟩
          have : j ≠ n := fun ee => by rw [ee, e] at h2; cases h2
          omega
    | some y =>
      simp only
      unfold upF
      by_cases hx : x = y
      · subst hx
        rw [if_pos rfl, List.mem_append, ih, List.mem_singleton]
        constructor
        · rintro ((h | ⟨h, j, h1, h2⟩) | rfl)
          · exact .inl h
          · exact .inr ⟨h, j, by omega, h2⟩
          · exact .inr ⟨rfl, n, by omega, e⟩
        · rintro (h | ⟨h, _⟩)
          · exact .inl (.inl h)
          · exact .inr h
      · rw [if_neg hx, ih]
        constructor
        · rintro (h | ⟨h, j, h1, h2⟩)
          · exact .inl h
          · exact .inr ⟨h, j, by omega, h2⟩
        · rintro (h | ⟨h, j, h1, h2⟩)
          · exact .inl h
          · refine .inr ⟨h, j, ?_, h2⟩
            have : j ≠ n := fun ee => by rw [ee, e] at h2; cases h2; exact hx rfl
            omega
theorem pvP_mem (ps : List Pd) : ∀ (n : Nat) (x : Nm) (p : Nat), p ∈ pvP ps n x ↔ p < n ∧ ∃ q, ps[p]? = some q ∧ x ∈ q.pl
  | 0, x, p => by simp [pvP]
  | n + 1, x, p => by
    have ih := pvP_mem ps n
    unfold pvP
    cases e : ps[n]? with
    | none =>
      simp only
      rw [ih]
      constructor
      · rintro ⟨h, q⟩; exact ⟨by omega, q⟩
      · rintro ⟨h, q, h1, h2⟩
        refine ⟨?_, q, h1, h2⟩
        have : p ≠ n := fun ee => by rw [ee, e] at h1; cases h1
        omega
    | some y =>
      simp only
      rw [pvJ_mem, ih]
      constructor
      · rintro (⟨h, q⟩ | ⟨rfl, j, h1, h2⟩)
        · exact ⟨by omega, q⟩
        · exact ⟨by omega, y, e, List.mem_of_getElem? h2⟩
      · rintro ⟨h, q, h1, h2⟩
        by_cases hp : p = n
        · subst hp
          rw [e] at h1
          cases h1
          obtain ⟨j, hj, ej⟩ := List.getElem_of_mem h2
          exact .inr ⟨rfl, j, hj, by rw [List.getElem?_eq_getElem hj, ej]⟩
        · exact .inl ⟨by omega, q, h1, h2⟩
end Go.Proofs.YtcebpdcijpgkjaaGreatDoor

namespace Go.Proofs.YtcebpdcijpgkjaaGreatDoor
open Go.RowKit Go.Maps Go.Shelf

/-- THE MARKS THAT RANGES OVER FUNCTIONS LEAVE. -/
def mk1 (D : Nat) : Deferred := { target := .collected D, args := #[] }
def Mks (W : World) (lo : Nat) (Ds : List Nat) : Prop := Ds.Nodup ∧ ∀ D ∈ Ds, lo ≤ D ∧ W.heap[D]? = some (.deferred (some []))
/-- Nothing but blocks that are no cells, from lo on. -/
structure Sh (lo : Nat) (W W2 : World) : Prop where
  bel : RowKit.Below lo W W2
  cel : ∀ (b : Nat) cs t z, W.heap[b]? = some (Obj.cells cs t z) → W2.heap[b]? = some (Obj.cells cs t z)
theorem Sh.refl (lo : Nat) (W : World) : Sh lo W W := ⟨Below.refl _ _, fun _ _ _ _ h => h⟩
theorem Sh.trans {lo : Nat} {A B C : World} (h : Sh lo A B) (k : Sh lo B C) : Sh lo A C := ⟨h.bel.trans k.bel, fun b cs t z e => k.cel b cs t z (h.cel b cs t z e)⟩
theorem sh_put {lo : Nat} {W : World} {D : Nat} {o : Obj} (o2 : Obj) (hD : lo ≤ D) (h : W.heap[D]? = some o) (hc : o.isCells = false) (hw : o.isWalk = false) : Sh lo W (W.putObj D o2) := by
  refine ⟨?_, fun b cs t z e => ?_⟩
  · refine (Below.refl lo W).grown (grownBy_putObj' W D o2) ?_ (fun k e => by cases e; exact hD)
    have := (Array.getElem?_eq_some_iff.1 h).1
    omega
  · by_cases hb : b = D
    · subst hb; rw [h] at e; cases e; cases hc
    · exact (World.putObj_heap_other hb).trans e
theorem Sh.row {lo : Nat} {W W2 : World} (h : Sh lo W W2) {base e size n : Nat} {v : Value} {xs : List Value} (r : W.ownsRow base e size v n xs) : W2.ownsRow base e size v n xs := by
  refine ⟨r.1, ?_⟩
  rcases r.2 with z | ⟨g, cap, cur, h1, h2, h3, h4⟩
  · exact .inl z
  · exact .inr ⟨g, cap, cur, h1, h2, h.cel _ _ _ _ h3, h4⟩
theorem leaves_marks {F : Fence} {n : Nat} {P : Program} {fn : Func} {tmps : Array Value} {R : Ending → World → Prop} {lo : Nat} : ∀ (Ds : List Nat) (W : World), Mks W lo Ds → (∀ W2, Sh lo W W2 → LeavesInM F n P fn tmps R [] .returning W2) → LeavesInM F n P fn tmps R (Ds.map mk1) .returning W
  | [], W, _, h => h W (Sh.refl _ _)
  | D :: Ds, W, hM, h => by
    obtain ⟨hn, hm⟩ := hM
    obtain ⟨hD, hk⟩ := hm D (by simp)
    have s1 : Sh lo W (W.putObj D (.deferred none)) := sh_put _ hD hk rfl rfl
    refine ⟨by simp, .inl ⟨_, _, rfl, run_takeDeferred hk, ?_⟩⟩
    refine leaves_marks Ds _ ⟨(List.nodup_cons.1 hn).2, fun D2 h2 => ?_⟩ fun W2 h2 => h W2 (s1.trans h2)
    have hne : D2 ≠ D := fun e => (List.nodup_cons.1 hn).1 (e ▸ h2)
    exact ⟨(hm D2 (by simp [h2])).1, (World.putObj_heap_other hne).trans (hm D2 (by simp [h2])).2⟩
/-- WHAT A ROUND THAT GOES ON KEEPS: all below n, and two blocks. -/
structure Kb (n a b : Nat) (X Y : World) : Prop where
  bel : RowKit.Below n X Y
  ha : Y.heap[a]? = X.heap[a]?
  hb : Y.heap[b]? = X.heap[b]?
theorem Kb.trans {n a b : Nat} {X Y Z : World} (h : Kb n a b X Y) (k : Kb n a b Y Z) : Kb n a b X Z := ⟨h.bel.trans k.bel, k.ha.trans h.ha, k.hb.trans h.hb⟩
theorem Kb.put {n a b m : Nat} (hn : n ≤ m) (ha : a < m) (hb : b < m) (W : World) (l : Nat) (o o2 : Obj) (hl : m ≤ l) (h : W.heap[l]? = some o) (_ : o.isCells = false) (_ : o.isWalk = false) : Kb n a b W (W.putObj l o2) := by
  refine ⟨(Below.refl n W).grown (grownBy_putObj' W l o2) ?_ (fun k e => by cases e; omega), World.putObj_heap_other (by omega), World.putObj_heap_other (by omega)⟩
  have := (Array.getElem?_eq_some_iff.1 h).1
  omega
theorem Kb.alloc {n a b : Nat} (W : World) (o : Obj) (hn : n ≤ W.heap.size) (ha : a < W.heap.size) (hb : b < W.heap.size) : Kb n a b W (W.alloc o) := ⟨(Below.refl n W).alloc hn o, Below.heap_alloc _ _ _ ha, Below.heap_alloc _ _ _ hb⟩
theorem Kb.of {n a b : Nat} {X Y : World} (h : RowKit.Below X.heap.size X Y) (hn : n ≤ X.heap.size) (ha : a < X.heap.size) (hb : b < X.heap.size) : Kb n a b X Y := ⟨h.mono hn, h.block _ ha, h.block _ hb⟩
structure Iw (w0 : World) (Bs Ba : Nat) (S A : Obj) (X : World) : Prop where
  bel : RowKit.Below w0.heap.size w0 X
  s : X.heap[Bs]? = some S
  a : X.heap[Ba]? = some A
theorem Iw.later {w0 : World} {Bs Ba : Nat} {S A : Obj} {X Y : World} (h : Iw w0 Bs Ba S A X) (hb : RowKit.Below X.heap.size X Y) : Iw w0 Bs Ba S A Y := ⟨bl_t h.bel hb, (hb.block _ (blk_lt h.s)).trans h.s, (hb.block _ (blk_lt h.a)).trans h.a⟩
theorem Iw.kb {w0 : World} {Bs Ba : Nat} {S A : Obj} {X Y : World} (h : Iw w0 Bs Ba S A X) (k : Kb w0.heap.size Bs Ba X Y) : Iw w0 Bs Ba S A Y := ⟨h.bel.trans k.bel, k.ha.trans h.s, k.hb.trans h.a⟩
end Go.Proofs.YtcebpdcijpgkjaaGreatDoor

namespace Go.Proofs.YtcebpdcijpgkjaaGreatDoor
open Go.RowKit Go.Maps Go.Shelf
attribute [local go_sem] Oper.semAt_some
attribute [local simp] wide_fn
attribute [local go_sem] wide_fn

theorem take_yes {P : List Nat} {j p : Nat} (h : P[j]? = some p) {m : Nat → Bool} (hm : m p = true) : (P.take (j + 1)).filter m = (P.take j).filter m ++ [p] := by
  rw [List.take_add_one, h, List.filter_append]
  simp [hm]
theorem take_no {P : List Nat} {j p : Nat} (h : P[j]? = some p) {m : Nat → Bool} (hm : m p = false) : (P.take (j + 1)).filter m = (P.take j).filter m := by
  rw [List.take_add_one, h, List.filter_append]
  simp [hm]
theorem pre_one (P Q : List Nat) (j : Nat) (m : Nat → Bool) : (P.take j).filter m <+: (P ++ Q).filter m := by
  rw [List.filter_append]
  refine List.IsPrefix.trans ?_ (List.prefix_append _ _)
  exact (List.take_prefix j P).filter m
theorem pre_two (P Q : List Nat) (j : Nat) (m : Nat → Bool) : P.filter m ++ (Q.take j).filter m <+: (P ++ Q).filter m := by
  rw [List.filter_append, List.prefix_append_right_inj]
  exact (List.take_prefix j Q).filter m
/-- WHAT THE ITERATOR FINDS: its own two blocks, and all else as it lay in w0. -/
structure Sb (w0 w : World) (Bs Ba : Nat) (v : Value) (b1 b2 : Nat) (an : Nm) (op : Int) (bd : ByteArray) (ps : List Pd) (base : Nat) (H1 H2 : Nm → Option Hd) (F1 F2 : Nm → List Nat) (k1 k2 : Nat) : Prop where
  iw : Iw w0 Bs Ba (.cells #[v, .map (some b1), .map (some b2)] 62 (0, 0)) (.cells #[.string an, .int .i64 op, .string bd] 48 (0, 0)) w
  m1 : Mi w0 base (.map (some b1)) H1 F1 k1
  m2 : Mi w0 base (.map (some b2)) H2 F2 k2
  pk : Pks w0 v ps
  pl : ∀ p ∈ F1 an ++ F2 an, p < ps.length
  an : an.size ≤ maxLen
  bd : bd.size ≤ maxLen
set_option maxRecDepth 100000 in
set_option maxHeartbeats 8000000 in
theorem sat_b (n : Nat) {w0 w : World} {Bs Ba : Nat} {v : Value} {b1 b2 : Nat} {an : Nm} {op : Int} {bd : ByteArray} {ps : List Pd} {base : Nat} {H1 H2 : Nm → Option Hd} {F1 F2 : Nm → List Nat} {k1 k2 : Nat} (h : Sb w0 w Bs Ba v b1 b2 an op bd ps base H1 H2 F1 F2 k1 k2) (hl1 : (F1 an).length ≤ 1099511627776) (hl2 : (F2 an).length ≤ 1099511627776) :
    SeqB Fence.wide n Tryz.prog 102 #[.pointer (some ⟨Bs, 0, none⟩), .pointer (some ⟨Ba, 0, none⟩)] encI (Kb w0.heap.size Bs Ba) (fun xs => xs = satL ps an op bd (F1 an) (F2 an)) (fun pre => pre <+: satL ps an op bd (F1 an) (F2 an)) ((satL ps an op bd (F1 an) (F2 an)).length + 1) w := by
  intro l J Jx W hW hJd hY h0
  have iW := h.iw.later hW
  have hs := iW.s
  have ha := iW.a
  have m1 := h.m1.later iW.bel
  have m2 := h.m2.later iW.bel
  have pk := h.pk
  obtain ⟨va, vc, rfl⟩ : ∃ a c, v = .slice a ps.length c := let ⟨a, c, e, _⟩ := pk; ⟨a, c, e⟩
  have HAT := hide (show ∀ X : World, Iw w0 Bs Ba (.cells #[.slice va ps.length vc, .map (some b1), .map (some b2)] 62 (0, 0)) (.cells #[.string an, .int .i64 op, .string bd] 48 (0, 0)) X → ∀ (p : Nat) (q : Pd), ps[p]? = some q → ∃ (b o : Nat), X.cell? ⟨Ba, 0, none⟩ = some (.string an) ∧ X.cell? ⟨Ba, 1, none⟩ = some (.int .i64 op) ∧ X.cell? ⟨Ba, 2, none⟩ = some (.string bd) ∧ X.cell? ⟨Bs, 0, none⟩ = some (.slice (some ⟨b, o, none⟩) ps.length vc) ∧ (p : Int) < (ps.length : Int) ∧ (Instr.loadAt 46 (.pointer (some ⟨b, o + p * 43, none⟩))).run Tryz.prog X = .ok (.agg q.cs.toArray) X ∧ Calls Tryz.prog 76 #[.agg #[.string an, .int .i64 op, .string bd], .agg q.cs.toArray] X fun e w' => e = .returned (.bool (meetsA an op bd q.nm q.vr q.pl)) ∧ RowKit.Below X.heap.size X w' from fun X hX p q hq => by
    have hs2 := hX.s
    have ha2 := hX.a
    have hpl := (List.getElem?_eq_some_iff.1 hq).1
    obtain ⟨a, c, e, qq⟩ := pk.later hX.bel
    injection e with e _ _
    obtain ⟨b, o, q1, q2, q3⟩ := qq (by omega)
    obtain ⟨r1, r2, r3, r4⟩ := q3 p q hq
    refine ⟨b, o, (cell_blk ha2 0).1.trans rfl, (cell_blk ha2 1).1.trans rfl, (cell_blk ha2 2).1.trans rfl, ?_, by omega, ?_, ?_⟩
    · rw [← q1, ← e]; exact (cell_blk hs2 0).1.trans rfl
    · exact run_loadAt_mid X b (o + p * 43) 46 q.cs _ r1 Tryz.underlying46 rfl (by rw [r2.len]; exact info43)
    · exact Meets_any an op bd q.nm q.vr q.pv q.pl q.cs h.bd r4 X r2 r3)
  have HPL := hide (show ∀ p ∈ F1 an ++ F2 an, ∃ q, ps[p]? = some q from fun p hp => ⟨_, List.getElem?_eq_getElem (h.pl p hp)⟩)
  have c0 := (cell_blk hs 0).1.trans (show #[Value.slice va ps.length vc, .map (some b1), .map (some b2)][0]? = some (.slice va ps.length vc) from rfl)
  have c1 := (cell_blk hs 1).1.trans (show #[Value.slice va ps.length vc, .map (some b1), .map (some b2)][1]? = some (.map (some b1)) from rfl)
  have c2 := (cell_blk hs 2).1.trans (show #[Value.slice va ps.length vc, .map (some b1), .map (some b2)][2]? = some (.map (some b2)) from rfl)
  have ca := (cell_blk ha 0).1.trans (show #[Value.string an, .int .i64 op, .string bd][0]? = some (.string an) from rfl)
  have lk1 := look1 m1.dm h.an
  have lk2 := look1 m2.dm h.an
  obtain ⟨a1, d1, e1⟩ : ∃ a c, hv0 (H1 an) = .slice a (F1 an).length c := by
    obtain ⟨f, e, en⟩ := slice_hd (m1.own an)
    exact ⟨f.a, f.c, by rw [e, ← en]; rfl⟩
  obtain ⟨a2, d2, e2⟩ : ∃ a c, hv0 (H2 an) = .slice a (F2 an).length c := by
    obtain ⟨f, e, en⟩ := slice_hd (m2.own an)
    exact ⟨f.a, f.c, by rw [e, ← en]; rfl⟩
  have o1 := h.m1.own an
  have o2 := h.m2.own an
  rw [e1] at lk1 o1
  rw [e2] at lk2 o2
  have HJ1 := hide (show J [] W ∧ Iw w0 Bs Ba (.cells #[.slice va ps.length vc, .map (some b1), .map (some b2)] 62 (0, 0)) (.cells #[.string an, .int .i64 op, .string bd] 48 (0, 0)) W from ⟨h0, iW⟩)
  have HJD := hide hJd
  have HY := hide (show ∀ (pre : List Nat) (x : Nat) (W1 : World), J pre W1 → (pre ++ [x]) <+: satL ps an op bd (F1 an) (F2 an) → Iw w0 Bs Ba (.cells #[.slice va ps.length vc, .map (some b1), .map (some b2)] 62 (0, 0)) (.cells #[.string an, .int .i64 op, .string bd] 48 (0, 0)) W1 → YieldAt Fence.wide (n - 1) Tryz.prog l #[.int .i64 (x : Int)] W1 fun e W3 => (e = .returned (.bool true) ∧ (J (pre ++ [x]) W3 ∧ Iw w0 Bs Ba (.cells #[.slice va ps.length vc, .map (some b1), .map (some b2)] 62 (0, 0)) (.cells #[.string an, .int .i64 op, .string bd] 48 (0, 0)) W3)) ∨ (e = .returned (.bool false) ∧ Jx (pre ++ [x]) W3) from fun pre x W1 hj hp hb => by
    have hle := hp.length_le
    rw [List.length_append, List.length_singleton] at hle
    refine (hY pre x W1 hj (by omega) hp).mono ?_
    rintro e W3 (⟨he, hj3, hk⟩ | ⟨he, hx⟩)
    · exact .inl ⟨he, hj3, hb.kb hk⟩
    · exact .inr ⟨he, hx⟩)
  clear e1 e2 m1 m2 pk hs ha h h0 hJd hY hW iW
  unfold satL at HY ⊢
  generalize F1 an = P1 at *
  generalize F2 an = P2 at *
  obtain ⟨n1, hn1⟩ : ∃ x, x = P1.length := ⟨_, rfl⟩
  obtain ⟨n2, hn2⟩ : ∃ x, x = P2.length := ⟨_, rfl⟩
  rw [← hn1] at lk1 o1 hl1
  rw [← hn2] at lk2 o2 hl2
  have HN1 := hide hn1
  have HN2 := hide hn2
  have HR1 := hide o1
  have HR2 := hide o2
  clear hn1 hn2 o1 o2
  obtain ⟨m, hm⟩ : ∃ m, m = mt ps an op bd := ⟨_, rfl⟩
  rw [← hm] at HY ⊢
  have HMT := hide hm
  clear hm
  refine callsIn_of_wp Tryz.func102 rfl trivial ?_ rfl
  simp only [Tryz.ntmps102, List.size_toArray, List.length_cons, List.length_nil, Nat.reduceAdd, Nat.reduceSub, Array.replicate_succ, Array.replicate_zero, List.push_toArray, List.append_toArray, List.nil_append, List.cons_append]
  gi_wp2
  have hx0 := fun X => ix0 X (.slice a1 n1 d1) (.slice a2 n2 d2)
  have hx1 := fun X => ix1 X (.slice a1 n1 d1) (.slice a2 n2 d2)
  refine wpIn_loop_rounds 3 ?_
  rw [roundsIn_succ]
  clear lk1 lk2 c0 c1 c2 ca
  gi_wp2
  gi_loopw [7, 24] (fun _ jv wr => ∃ j : Nat, jv = .int .i64 j ∧ j ≤ n1 ∧ Hid (J ((P1.take j).filter m) wr ∧ Iw w0 Bs Ba (.cells #[.slice va ps.length vc, .map (some b1), .map (some b2)] 62 (0, 0)) (.cells #[.string an, .int .i64 op, .string bd] 48 (0, 0)) wr)) (fun _ jv _ => n1 - (intOf jv).toNat)
  case atStart => exact ⟨0, rfl, Nat.zero_le _, HJ1⟩
  case round =>
    clear HJ1
    obtain ⟨j, rfl, hjle, HJ⟩ := hrel
    by_cases hlt : j < n1
    · have hlt2 : (j : Int) < (n1 : Int) := by omega
      have hjp : j < P1.length := by have := unhide HN1; omega
      have iwr := (unhide HJ).2
      have bwr := iwr.bel
      obtain ⟨g, rfl, cg⟩ := row_at (unhide HR1) bwr hjp
      have hpm : P1[j]? = some P1[j] := List.getElem?_eq_getElem hjp
      generalize P1[j] = p at *
      obtain ⟨q, hq⟩ := unhide HPL p (by rw [List.mem_append]; exact .inl (List.mem_of_getElem? hpm))
      have bd2 : Iw w0 Bs Ba (.cells #[.slice va ps.length vc, .map (some b1), .map (some b2)] 62 (0, 0)) (.cells #[.string an, .int .i64 op, .string bd] 48 (0, 0)) wr.drew := iwr.later ((Below.refl _ wr).drew)
      obtain ⟨pb, po, ha0, ha1, ha2, hs0, hpn, hld, hM⟩ := unhide HAT wr.drew bd2 p q hq
      have HM := hide hM
      have hmt : m p = meetsA an op bd q.nm q.vr q.pl := by rw [unhide HMT]; unfold mt; rw [hq]
      rw [← hmt] at HM
      have HPM := hide hpm
      clear hM hmt
      cases hb : m p with
      | false =>
        rw [hb] at HM
        have HE := hide (take_no (unhide HPM) hb)
        clear hb
        gi_wp2
        refine wpIn_region_any (by kernel_rfl) ?_
        refine rg26f (fun c d v a w h => by cases d <;> exact h) ha0 ha1 ha2 hs0 hpn hld (unhide HM) ?_
        intro W3 hb3
        have HJ3 := hide (And.intro (unhide HJD _ _ _ (unhide HJ).1 (bl_t (Below.refl _ wr).drew hb3)) (bd2.later hb3))
        clear ha0 ha1 ha2 hs0 hpn hld HM hb3 cg
        gi_wp2
        go_roundw
        case rel => exact ⟨j + 1, by go_num, by omega, by rw [unhide HE]; exact HJ3⟩
        case measure => simp [intOf]; omega
      | true =>
        rw [hb] at HM
        have HE := hide (take_yes (unhide HPM) hb)
        have HP := hide (show ((P1.take j).filter m) ++ [p] <+: (P1 ++ P2).filter m from by have := pre_one P1 P2 (j + 1) m; rw [unhide HE] at this; exact this)
        clear hb
        gi_wp2
        refine wpIn_region_any (by kernel_rfl) ?_
        refine rg26y (fun c d v a w h => by cases d <;> exact h) ha0 ha1 ha2 hs0 hpn hld (unhide HM) (R := fun W3 => J (((P1.take j).filter m) ++ [p]) W3 ∧ Iw w0 Bs Ba (.cells #[.slice va ps.length vc, .map (some b1), .map (some b2)] 62 (0, 0)) (.cells #[.string an, .int .i64 op, .string bd] 48 (0, 0)) W3) (Rx := Jx (((P1.take j).filter m) ++ [p])) (fun W2 hb2 => unhide HY _ p W2 (unhide HJD _ _ _ (unhide HJ).1 (bl_t (Below.refl _ wr).drew hb2)) (unhide HP) (bd2.later hb2)) ?_ ?_
        · intro W3 hx3
          have HJ3 := hide hx3
          clear ha0 ha1 ha2 hs0 hpn hld HM hx3 cg
          gi_wp2
          go_roundw
          case rel => exact ⟨j + 1, by go_num, by omega, by rw [unhide HE]; exact HJ3⟩
          case measure => simp [intOf]; omega
        · intro W3 hx3
          have HX := hide hx3
          clear ha0 ha1 ha2 hs0 hpn hld HM hx3 cg
          gi_wp2
          refine bodyPost_ret (results_none rfl _ _ _) rfl ?_
          exact ⟨⟨_, rfl⟩, .inr ⟨_, unhide HP, unhide HX⟩⟩
    · obtain rfl : j = n1 := by omega
      have HJ2 := hide (show J (P1.filter m) wr ∧ Iw w0 Bs Ba (.cells #[.slice va ps.length vc, .map (some b1), .map (some b2)] 62 (0, 0)) (.cells #[.string an, .int .i64 op, .string bd] 48 (0, 0)) wr from by have := unhide HJ; rw [unhide HN1, List.take_length] at this; exact this)
      clear HJ
      gi_wp2
      rw [roundsIn_succ]
      gi_wp2
      gi_loopw [7, 24] (fun _ jv wr => ∃ j : Nat, jv = .int .i64 j ∧ j ≤ n2 ∧ Hid (J (P1.filter m ++ (P2.take j).filter m) wr ∧ Iw w0 Bs Ba (.cells #[.slice va ps.length vc, .map (some b1), .map (some b2)] 62 (0, 0)) (.cells #[.string an, .int .i64 op, .string bd] 48 (0, 0)) wr)) (fun _ jv _ => n2 - (intOf jv).toNat)
      case atStart => exact ⟨0, rfl, Nat.zero_le _, hide (by rw [List.take_zero, List.filter_nil, List.append_nil]; exact unhide HJ2)⟩
      case round =>
        clear HJ2
        obtain ⟨j, rfl, hjle, HJ⟩ := hrel
        by_cases hlt : j < n2
        · have hlt2 : (j : Int) < (n2 : Int) := by omega
          have hjp : j < P2.length := by have := unhide HN2; omega
          have iwr := (unhide HJ).2
          have bwr := iwr.bel
          obtain ⟨g, rfl, cg⟩ := row_at (unhide HR2) bwr hjp
          have hpm : P2[j]? = some P2[j] := List.getElem?_eq_getElem hjp
          generalize P2[j] = p at *
          obtain ⟨q, hq⟩ := unhide HPL p (by rw [List.mem_append]; exact .inr (List.mem_of_getElem? hpm))
          have bd2 : Iw w0 Bs Ba (.cells #[.slice va ps.length vc, .map (some b1), .map (some b2)] 62 (0, 0)) (.cells #[.string an, .int .i64 op, .string bd] 48 (0, 0)) wr.drew := iwr.later ((Below.refl _ wr).drew)
          obtain ⟨pb, po, ha0, ha1, ha2, hs0, hpn, hld, hM⟩ := unhide HAT wr.drew bd2 p q hq
          have HM := hide hM
          have hmt : m p = meetsA an op bd q.nm q.vr q.pl := by rw [unhide HMT]; unfold mt; rw [hq]
          rw [← hmt] at HM
          have HPM := hide hpm
          clear hM hmt
          cases hb : m p with
          | false =>
            rw [hb] at HM
            have HE := hide (take_no (unhide HPM) hb)
            clear hb
            gi_wp2
            refine wpIn_region_any (by kernel_rfl) ?_
            refine rg26f (fun c d v a w h => by cases d <;> exact h) ha0 ha1 ha2 hs0 hpn hld (unhide HM) ?_
            intro W3 hb3
            have HJ3 := hide (And.intro (unhide HJD _ _ _ (unhide HJ).1 (bl_t (Below.refl _ wr).drew hb3)) (bd2.later hb3))
            clear ha0 ha1 ha2 hs0 hpn hld HM hb3 cg
            gi_wp2
            go_roundw
            case rel => exact ⟨j + 1, by go_num, by omega, by rw [unhide HE]; exact HJ3⟩
            case measure => simp [intOf]; omega
          | true =>
            rw [hb] at HM
            have HE := hide (take_yes (unhide HPM) hb)
            have HP := hide (show (P1.filter m ++ (P2.take j).filter m) ++ [p] <+: (P1 ++ P2).filter m from by have := pre_two P1 P2 (j + 1) m; rw [unhide HE] at this; rw [List.append_assoc]; exact this)
            clear hb
            gi_wp2
            refine wpIn_region_any (by kernel_rfl) ?_
            refine rg26y (fun c d v a w h => by cases d <;> exact h) ha0 ha1 ha2 hs0 hpn hld (unhide HM) (R := fun W3 => J ((P1.filter m ++ (P2.take j).filter m) ++ [p]) W3 ∧ Iw w0 Bs Ba (.cells #[.slice va ps.length vc, .map (some b1), .map (some b2)] 62 (0, 0)) (.cells #[.string an, .int .i64 op, .string bd] 48 (0, 0)) W3) (Rx := Jx ((P1.filter m ++ (P2.take j).filter m) ++ [p])) (fun W2 hb2 => unhide HY _ p W2 (unhide HJD _ _ _ (unhide HJ).1 (bl_t (Below.refl _ wr).drew hb2)) (unhide HP) (bd2.later hb2)) ?_ ?_
            · intro W3 hx3
              have HJ3 := hide hx3
              clear ha0 ha1 ha2 hs0 hpn hld HM hx3 cg
              gi_wp2
              go_roundw
              case rel => exact ⟨j + 1, by go_num, by omega, by rw [unhide HE]; rw [← List.append_assoc]; exact HJ3⟩
              case measure => simp [intOf]; omega
            · intro W3 hx3
              have HX := hide hx3
              clear ha0 ha1 ha2 hs0 hpn hld HM hx3 cg
              gi_wp2
              refine bodyPost_ret (results_none rfl _ _ _) rfl ?_
              exact ⟨⟨_, rfl⟩, .inr ⟨_, unhide HP, unhide HX⟩⟩
        · obtain rfl : j = n2 := by omega
          have HJ3 := hide (show J ((P1 ++ P2).filter m) wr ∧ Iw w0 Bs Ba (.cells #[.slice va ps.length vc, .map (some b1), .map (some b2)] 62 (0, 0)) (.cells #[.string an, .int .i64 op, .string bd] 48 (0, 0)) wr from by have := unhide HJ; rw [unhide HN2, List.take_length] at this; rw [List.filter_append]; exact this)
          clear HJ
          gi_wp2
          rw [roundsIn_succ]
          gi_wp2
          go_end0
          exact ⟨⟨_, rfl⟩, .inl ⟨_, rfl, (unhide HJ3).1⟩⟩
end Go.Proofs.YtcebpdcijpgkjaaGreatDoor

