import Derived.Test.YtjcemfegkefdeaaDoorUmE
import Derived.Deep.MidRow
namespace Go.Proofs.YtjcemfegkefdeaaDoor
open Go.RowKit Go.Maps Go.Shelf

set_option maxHeartbeats 1000000 in
theorem satisfiers_any (v d1 d2 : Value) (an : Nm) (op : Int) (bd : ByteArray) (w : World) :
    Calls Tryd.prog 19 #[.agg #[v, d1, d2], .agg #[.string an, .int .i64 op, .string bd]] w fun e w' => e = .returned (.func (.func 26) #[] #[.pointer (some ⟨w.heap.size, 0, none⟩), .pointer (some ⟨w.heap.size + 1, 0, none⟩)]) ∧ w'.heap[w.heap.size]? = some (.cells #[v, d1, d2] 49 (0, 0)) ∧ w'.heap[w.heap.size + 1]? = some (.cells #[.string an, .int .i64 op, .string bd] 26 (0, 0)) ∧ RowKit.Below w.heap.size w w' := by
  have hb1 := (Below.refl w.heap.size w).alloc (Nat.le_refl _) (.cells #[v, d1, d2] 49)
  have hb2 := hb1.alloc (by simp) (.cells #[.string an, .int .i64 op, .string bd] 26)
  have h1 : ((w.alloc (.cells #[v, d1, d2] 49)).alloc (.cells #[.string an, .int .i64 op, .string bd] 26)).heap[w.heap.size]? = some (.cells #[v, d1, d2] 49 (0, 0)) := (Below.heap_alloc _ _ _ (by simp)).trans (World.alloc_heap_new w _)
  have h2 : ((w.alloc (.cells #[v, d1, d2] 49)).alloc (.cells #[.string an, .int .i64 op, .string bd] 26)).heap[w.heap.size + 1]? = some (.cells #[.string an, .int .i64 op, .string bd] 26 (0, 0)) := by
    have := World.alloc_heap_new (w.alloc (.cells #[v, d1, d2] 49)) (.cells #[.string an, .int .i64 op, .string bd] 26)
    rwa [World.size_alloc] at this
  have HR := hide (And.intro h1 (And.intro h2 hb2))
  clear h1 h2 hb1 hb2
  go_enter Tryd.func19, Tryd.ntmps19
  go_wp2
  go_ret
  exact ⟨rfl, unhide HR⟩

/-- THE CELLS OF A WISH. -/
abbrev wc (kd : Int) (an : Nm) (op : Int) (bd : ByteArray) : Array Value := #[.int .i64 kd, .string an, .int .i64 op, .string bd]
set_option maxRecDepth 100000 in
set_option maxHeartbeats 4000000 in
theorem grants1_any {w : World} {Bw Bs : Nat} {kd : Int} {an : Nm} {op : Int} {bd : ByteArray} {v d1 d2 : Value} {ps : List Pd} {p : Nat} {q : Pd} (hw : w.heap[Bw]? = some (.cells (wc kd an op bd) 28 (0, 0))) (hs : w.heap[Bs]? = some (.cells #[v, d1, d2] 49 (0, 0))) (pk : Pks w v ps) (hq : ps[p]? = some q) (hbd : bd.size ≤ maxLen) :
    Calls Tryd.prog 21 #[.int .i64 (p : Int), .pointer (some ⟨Bw, 0, none⟩), .pointer (some ⟨Bs, 0, none⟩)] w fun e w' => e = .returned (.bool (fitsA op bd q.vr)) ∧ RowKit.Below w.heap.size w w' := by
  have hpl := (List.getElem?_eq_some_iff.1 hq).1
  obtain ⟨va, vc, rfl, hk⟩ := pk
  obtain ⟨b, o, rfl, hb, hk⟩ := hk (by omega)
  obtain ⟨r1, r2, r3, r4⟩ := hk p q hq
  have w1 := (cell_blk hw 1).1.trans (show (wc kd an op bd)[1]? = some (.string an) from rfl)
  have w2 := (cell_blk hw 2).1.trans (show (wc kd an op bd)[2]? = some (.int .i64 op) from rfl)
  have w3 := (cell_blk hw 3).1.trans (show (wc kd an op bd)[3]? = some (.string bd) from rfl)
  have s0 := (cell_blk hs 0).1.trans (show (#[Value.slice (some ⟨b, o, none⟩) ps.length vc, d1, d2])[0]? = some (.slice (some ⟨b, o, none⟩) ps.length vc) from rfl)
  have q1 := r1 1 _ r2.v
  have hpn : (p : Int) < (ps.length : Int) := by omega
  have c1 := hide (fun X => FitsA_any an op bd q.vr hbd r4 X)
  have HB := hide (And.intro (blk_lt hw) (And.intro (blk_lt hs) hb))
  have HP := hide (fun (w' : World) (hb : RowKit.Below w.heap.size w w') => And.intro ((hb.cell (p := ⟨Bw, 1, none⟩) (unhide HB).1).trans w1) (And.intro ((hb.cell (p := ⟨Bw, 2, none⟩) (unhide HB).1).trans w2) (And.intro ((hb.cell (p := ⟨Bw, 3, none⟩) (unhide HB).1).trans w3) (And.intro ((hb.cell (p := ⟨Bs, 0, none⟩) (unhide HB).2.1).trans s0) ((hb.cell (p := ⟨b, o + p * 43 + 1, none⟩) (unhide HB).2.2).trans q1)))))
  have B0 := hide ((Below.refl w.heap.size w).drew)
  generalize q.vr = vr at *
  clear hw hs hk r1 r2 r3 r4 hbd hq hb hpl
  generalize ps.length = N at *
  go_enter Tryd.func21, Tryd.ntmps21
  go_wp2_with fail
  go_region_held3 (fun w' => w'.cell? ⟨Bw, 1, none⟩ = some (.string an) ∧ w'.cell? ⟨Bw, 2, none⟩ = some (.int .i64 op) ∧ w'.cell? ⟨Bw, 3, none⟩ = some (.string bd) ∧ w'.cell? ⟨Bs, 0, none⟩ = some (.slice (some ⟨b, o, none⟩) N vc) ∧ w'.cell? ⟨b, o + p * 43 + 1, none⟩ = some (.string vr)) (first | exact unhide HP _ (unhide B0) | exact unhide HP _ (unhide B1)) (first | (go_at_call 22; refine (unhide c1 _).mono ?_; rintro x w11 ⟨rfl, hb11⟩; have B1 := hide ((unhide B0).trans (hb11.mono (unhide B0).size)); clear hb11))
  go_wp2_with fail
  go_ret
  exact ⟨rfl, unhide B1⟩

set_option maxRecDepth 100000 in
set_option maxHeartbeats 4000000 in
theorem indexFunc_any {w : World} {base Bw Bs N c : Nat} {a : Option Addr} {l : List Nat} {f : Nat → Bool} (h : w.ownsRow base 3 1 (.slice a N c) N (ints l)) (hl : l.length ≤ 1099511627776) (hc : ∀ p ∈ l, ∀ X, RowKit.Below w.heap.size w X → Calls Tryd.prog 21 #[.int .i64 (p : Int), .pointer (some ⟨Bw, 0, none⟩), .pointer (some ⟨Bs, 0, none⟩)] X fun e w' => e = .returned (.bool (f p)) ∧ RowKit.Below X.heap.size X w') :
    Calls Tryd.prog 28 #[.slice a N c, .func (.func 21) #[] #[.pointer (some ⟨Bw, 0, none⟩), .pointer (some ⟨Bs, 0, none⟩)]] w fun e w' => ∃ r : Int, e = .returned (.int .i64 r) ∧ (0 ≤ r ↔ l.any f = true) ∧ RowKit.Below w.heap.size w w' := by
  have hN : l.length = N := by have := h.1; rw [ints_len, Nat.mul_one] at this; exact this
  have HO := hide h
  have HC := hide hc
  have HN := hide hN
  rw [hN] at hl
  clear h hc hN
  go_enter Tryd.func28, Tryd.ntmps28
  go_wp2_with fail
  go_loopw [8] (fun i wr => ∃ k : Nat, k ≤ N ∧ i = .int .i64 k ∧ Hid (RowKit.Below w.heap.size w wr) ∧ Hid (∀ j p, j < k → l[j]? = some p → f p = false)) (fun i _ => N - (intOf i).toNat)
  case atStart => exact ⟨0, Nat.zero_le _, rfl, hide (Below.refl _ _), hide (fun j _ h => absurd h (Nat.not_lt_zero _))⟩
  case round =>
    obtain ⟨k, hk, rfl, HB, HZ⟩ := hrel
    by_cases hlt : k < N
    · have hlt2 : (k : Int) < (N : Int) := by omega
      have hjp : k < l.length := by have := unhide HN; omega
      obtain ⟨g, rfl, cg⟩ := row_at (unhide HO) (unhide HB) hjp
      have hpm : l[k]? = some l[k] := List.getElem?_eq_getElem hjp
      generalize l[k] = p at *
      have c1 := hide (unhide HC p (List.mem_of_getElem? hpm) wr (unhide HB))
      have HPM := hide hpm
      clear hpm hjp
      cases hf : f p with
      | true =>
        rw [hf] at c1
        have HA := hide (show l.any f = true from List.any_eq_true.2 ⟨p, List.mem_of_getElem? (unhide HPM), hf⟩)
        clear hf HZ
        go_wp2_with fail
        refine (unhide c1).mono ?_
        rintro e w1 ⟨rfl, hb1⟩
        have B1 := hide hb1
        clear hb1
        go_wp2_with fail
        go_ret
        exact ⟨k, rfl, ⟨fun _ => unhide HA, fun _ => by omega⟩, bl_t (unhide HB) (unhide B1)⟩
      | false =>
        rw [hf] at c1
        have HZ2 := hide (show ∀ j p, j < k + 1 → l[j]? = some p → f p = false from fun j p' hj e => by
          by_cases ej : j = k
          · subst ej; rw [unhide HPM] at e; cases e; exact hf
          · exact unhide HZ j p' (by omega) e)
        clear hf HZ
        go_wp2_with fail
        refine (unhide c1).mono ?_
        rintro e w1 ⟨rfl, hb1⟩
        have HB9 := hide (bl_t (unhide HB) hb1)
        clear hb1
        go_wp2_with fail
        go_roundw
        case rel => exact ⟨k + 1, by omega, by go_num, HB9, HZ2⟩
        case measure => simp [intOf]; omega
    · have HA := hide (show l.any f = false from List.any_eq_false.2 fun p hp => by
        obtain ⟨j, hj, e⟩ := List.getElem_of_mem hp
        rw [unhide HZ j p (by have := unhide HN; omega) (by rw [List.getElem?_eq_getElem hj, e])]
        decide)
      clear HZ
      go_wp2_with fail
      go_ret
      exact ⟨-1, rfl, ⟨fun h => by omega, fun h => by rw [unhide HA] at h; cases h⟩, unhide HB⟩
set_option maxHeartbeats 4000000 in
theorem containsFunc_any {w : World} {base Bw Bs N c : Nat} {a : Option Addr} {l : List Nat} {f : Nat → Bool} (h : w.ownsRow base 3 1 (.slice a N c) N (ints l)) (hl : l.length ≤ 1099511627776) (hc : ∀ p ∈ l, ∀ X, RowKit.Below w.heap.size w X → Calls Tryd.prog 21 #[.int .i64 (p : Int), .pointer (some ⟨Bw, 0, none⟩), .pointer (some ⟨Bs, 0, none⟩)] X fun e w' => e = .returned (.bool (f p)) ∧ RowKit.Below X.heap.size X w') :
    Calls Tryd.prog 20 #[.slice a N c, .func (.func 21) #[] #[.pointer (some ⟨Bw, 0, none⟩), .pointer (some ⟨Bs, 0, none⟩)]] w fun e w' => e = .returned (.bool (l.any f)) ∧ RowKit.Below w.heap.size w w' := by
  have c1 := hide (indexFunc_any h hl hc)
  clear h hl hc
  go_enter Tryd.func20, Tryd.ntmps20
  go_wp2_with (go_at_call 28; refine (unhide c1).mono ?_; rintro e w' ⟨r, rfl, hr, hb⟩; have HR := hide (And.intro hr hb); clear hr hb)
  go_ret
  refine ⟨?_, (unhide HR).2⟩
  have := (unhide HR).1
  by_cases h0 : 0 ≤ r
  · rw [this.1 h0]; simp [h0]
  · rw [Bool.eq_false_iff.2 fun h => h0 (this.2 h)]; simp [h0]
end Go.Proofs.YtjcemfegkefdeaaDoor
namespace Go.Proofs.YtjcemfegkefdeaaDoor
open Go.RowKit Go.Maps Go.Shelf

theorem toList_eq {a b : ByteArray} : (a.toList == b.toList) = true ↔ a = b := by
  constructor
  · intro h
    have h1 := eq_of_beq h
    rw [Lib.toList_data, Lib.toList_data] at h1
    exact ByteArray.ext (Array.ext' h1)
  · rintro rfl; exact beq_self_eq_true _
theorem nmP_mem (ps : List Pd) : ∀ (n : Nat) (x : Nm) (p : Nat), p ∈ nmP ps n x ↔ p < n ∧ ∃ q, ps[p]? = some q ∧ q.nm = x
  | 0, x, p => by simp [nmP]
  | n + 1, x, p => by
    have ih := nmP_mem ps n
    unfold nmP
    cases e : ps[n]? with
    | none =>
      simp only
      rw [ih]
      constructor
      · rintro ⟨h, q⟩; exact ⟨by omega, q⟩
      · rintro ⟨h, q, h1, h2⟩
        refine ⟨?_, q, h1, h2⟩
        have : p ≠ n := fun ee => by rw [ee, e] at h1; cases h1
        omega
    | some y =>
      simp only
      unfold upF
      by_cases hx : x = y.nm
      · rw [if_pos hx, List.mem_append, ih, List.mem_singleton]
        constructor
        · rintro (⟨h, q, h1, h2⟩ | rfl)
          · exact ⟨by omega, q, h1, h2.trans hx.symm⟩
          · exact ⟨by omega, y, e, hx.symm⟩
        · rintro ⟨h, q, h1, h2⟩
          by_cases hp : p = n
          · exact .inr hp
          · exact .inl ⟨by omega, q, h1, h2.trans hx⟩
      · rw [if_neg hx, ih]
        constructor
        · rintro ⟨h, q⟩; exact ⟨by omega, q⟩
        · rintro ⟨h, q, h1, h2⟩
          refine ⟨?_, q, h1, h2⟩
          have : p ≠ n := fun ee => by rw [ee, e] at h1; cases h1; exact hx h2.symm
          omega
theorem pvJ_mem (F : Nm → List Nat) (pl : List Nm) (i : Nat) : ∀ (n : Nat) (x : Nm) (p : Nat), p ∈ pvJ F pl i n x ↔ p ∈ F x ∨ (p = i ∧ ∃ j, j < n ∧ pl[j]? = some x)
  | 0, x, p => by simp [pvJ]
  | n + 1, x, p => by
    have ih := pvJ_mem F pl i n
    unfold pvJ
    cases e : pl[n]? with
    | none =>
      simp only
      rw [ih]
      constructor
      · rintro (h | ⟨h, j, h1, h2⟩)
        · exact .inl h
        · exact .inr ⟨h, j, by omega, h2⟩
      · rintro (h | ⟨h, j, h1, h2⟩)
        · exact .inl h
        · refine .inr ⟨h, j, ?_, h2⟩
          have : j ≠ n := fun ee => by rw [ee, e] at h2; cases h2
          omega
    | some y =>
      simp only
      unfold upF
      by_cases hx : x = y
      · subst hx
        rw [if_pos rfl, List.mem_append, ih, List.mem_singleton]
        constructor
        · rintro ((h | ⟨h, j, h1, h2⟩) | rfl)
          · exact .inl h
          · exact .inr ⟨h, j, by omega, h2⟩
          · exact .inr ⟨rfl, n, by omega, e⟩
        · rintro (h | ⟨h, _⟩)
          · exact .inl (.inl h)
          · exact .inr h
      · rw [if_neg hx, ih]
        constructor
        · rintro (h | ⟨h, j, h1, h2⟩)
          · exact .inl h
          · exact .inr ⟨h, j, by omega, h2⟩
        · rintro (h | ⟨h, j, h1, h2⟩)
          · exact .inl h
          · refine .inr ⟨h, j, ?_, h2⟩
            have : j ≠ n := fun ee => by rw [ee, e] at h2; cases h2; exact hx rfl
            omega
theorem pvP_mem (ps : List Pd) : ∀ (n : Nat) (x : Nm) (p : Nat), p ∈ pvP ps n x ↔ p < n ∧ ∃ q, ps[p]? = some q ∧ x ∈ q.pl
  | 0, x, p => by simp [pvP]
  | n + 1, x, p => by
    have ih := pvP_mem ps n
    unfold pvP
    cases e : ps[n]? with
    | none =>
      simp only
      rw [ih]
      constructor
      · rintro ⟨h, q⟩; exact ⟨by omega, q⟩
      · rintro ⟨h, q, h1, h2⟩
        refine ⟨?_, q, h1, h2⟩
        have : p ≠ n := fun ee => by rw [ee, e] at h1; cases h1
        omega
    | some y =>
      simp only
      rw [pvJ_mem, ih]
      constructor
      · rintro (⟨h, q⟩ | ⟨rfl, j, h1, h2⟩)
        · exact ⟨by omega, q⟩
        · exact ⟨by omega, y, e, List.mem_of_getElem? h2⟩
      · rintro ⟨h, q, h1, h2⟩
        by_cases hp : p = n
        · subst hp
          rw [e] at h1
          cases h1
          obtain ⟨j, hj, ej⟩ := List.getElem_of_mem h2
          exact .inr ⟨rfl, j, hj, by rw [List.getElem?_eq_getElem hj, ej]⟩
        · exact .inl ⟨by omega, q, h1, h2⟩
/-- IS A WISH MET? -/
def wantP (ps : List Pd) (kd : Int) (an : Nm) (op : Int) (bd : ByteArray) : Bool :=
  if kd = 0 then ps.any fun q => meetsA an op bd q.nm q.vr q.pl else if kd = 1 then !(ps.any fun q => q.nm.toList == an.toList && fitsA op bd q.vr) else true
theorem sat_some (ps : List Pd) (an : Nm) (op : Int) (bd : ByteArray) : satL ps an op bd (nmP ps ps.length an) (pvP ps ps.length an) ≠ [] ↔ (ps.any fun q => meetsA an op bd q.nm q.vr q.pl) = true := by
  rw [List.any_eq_true, show (satL ps an op bd (nmP ps ps.length an) (pvP ps ps.length an) ≠ [] ↔ ∃ p, p ∈ satL ps an op bd (nmP ps ps.length an) (pvP ps ps.length an)) from ⟨List.exists_mem_of_ne_nil _, fun ⟨p, hp⟩ e => by rw [e] at hp; cases hp⟩]
  unfold satL
  constructor
  · rintro ⟨p, hp⟩
    obtain ⟨hp, hm⟩ := List.mem_filter.1 hp
    unfold mt at hm
    cases e : ps[p]? with
    | none => rw [e] at hm; cases hm
    | some q => rw [e] at hm; exact ⟨q, List.mem_of_getElem? e, hm⟩
  · rintro ⟨q, hq, hm⟩
    obtain ⟨p, hp, e⟩ := List.getElem_of_mem hq
    have e2 : ps[p]? = some q := by rw [List.getElem?_eq_getElem hp, e]
    refine ⟨p, List.mem_filter.2 ⟨List.mem_append.2 ?_, by unfold mt; rw [e2]; exact hm⟩⟩
    unfold meetsA at hm
    rw [Bool.or_eq_true, Bool.and_eq_true, Bool.and_eq_true] at hm
    rcases hm with ⟨h1, _⟩ | ⟨_, h2⟩
    · exact .inl ((nmP_mem ps _ _ _).2 ⟨hp, q, e2, toList_eq.1 h1⟩)
    · exact .inr ((pvP_mem ps _ _ _).2 ⟨hp, q, e2, (Lib.containsS_iff _ _).1 h2⟩)
/-- DOES THE VERSION AT A PLACE FIT? -/
def ft (ps : List Pd) (op : Int) (bd : ByteArray) (p : Nat) : Bool := match ps[p]? with | some q => fitsA op bd q.vr | none => false
theorem rem_any (ps : List Pd) (an : Nm) (op : Int) (bd : ByteArray) : (nmP ps ps.length an).any (ft ps op bd) = ps.any fun q => q.nm.toList == an.toList && fitsA op bd q.vr := by
  rw [Bool.eq_iff_iff, List.any_eq_true, List.any_eq_true]
  constructor
  · rintro ⟨p, hp, hf⟩
    obtain ⟨_, q, e, en⟩ := (nmP_mem ps _ _ _).1 hp
    unfold ft at hf
    rw [e] at hf
    refine ⟨q, List.mem_of_getElem? e, ?_⟩
    rw [Bool.and_eq_true]
    exact ⟨toList_eq.2 en, hf⟩
  · rintro ⟨q, hq, hf⟩
    rw [Bool.and_eq_true] at hf
    obtain ⟨p, hp, e⟩ := List.getElem_of_mem hq
    have e2 : ps[p]? = some q := by rw [List.getElem?_eq_getElem hp, e]
    exact ⟨p, (nmP_mem ps _ _ _).2 ⟨hp, q, e2, toList_eq.1 hf.1⟩, by unfold ft; rw [e2]; exact hf.2⟩
end Go.Proofs.YtjcemfegkefdeaaDoor
namespace Go.Proofs.YtjcemfegkefdeaaDoor
open Go.RowKit Go.Maps Go.Shelf
attribute [local go_sem] Oper.semAt_some
attribute [local simp] wide_fn
attribute [local go_sem] wide_fn

/-- A BLOCK THAT LIES, AND ALL THAT WAS. -/
def Kp (w : World) (k : Nat) (o : Obj) (W : World) : Prop := W.heap[k]? = some o ∧ RowKit.Below w.heap.size w W
theorem Kp.abide {w : World} {k B : Nat} {o : Obj} (hk : k < B) (hlo : w.heap.size ≤ B) : Abide (β := Unit) B (fun _ => Kp w k o) := fun _ X Y row h hg hr => by
  have hz := blk_lt h.1
  have ne : ∀ j, j < B → some j ≠ row := fun j hj e => by
    have := (hr j e.symm).1
    omega
  refine ⟨(hg.block k hz (ne k hk)).trans h.1, hg.os.trans h.2.os, hg.tape.trans h.2.tape, hg.output.trans h.2.output, Nat.le_trans h.2.size hg.size, fun j hj => ?_⟩
  have := h.2.size
  exact (hg.block j (by omega) (ne j (by omega))).trans (h.2.block j hj)
theorem Kp.set {w W : World} {k : Nat} {u : Value} {t : TypeId} (h : Kp w k (.cells #[u] t (0, 0)) W) (hk : w.heap.size ≤ k) (x : Value) : Kp w k (.cells #[x] t (0, 0)) (W.setCell ⟨k, 0, none⟩ x) :=
  ⟨set_blk h.1 0 x, h.2.setCell (p := ⟨k, 0, none⟩) hk x⟩
theorem Kp.put {w W : World} {k D : Nat} {o o1 o2 : Obj} (h : Kp w k o W) (hD : w.heap.size ≤ D) (hk : k ≠ D) (hd : W.heap[D]? = some o1) (h1 : o1.isCells = false) (h2 : o1.isWalk = false) : Kp w k o (W.putObj D o2) :=
  ⟨(World.putObj_heap_other hk).trans h.1, h.2.trans (belowK_b (w := w) (Nat.le_refl _) _ D _ _ hD hd h1 h2)⟩
/-- THE THREE BLOCKS OF grants. -/
def g3 (w : World) (s : Array Value) (wi : Array Value) : World := ((w.alloc (.cells s 49)).alloc (.cells wi 28)).alloc (.cells #[.bool false] 4)
theorem g3_blk (w : World) (s : Array Value) (wi : Array Value) : (g3 w s wi).heap[w.heap.size]? = some (.cells s 49 (0, 0)) ∧ (g3 w s wi).heap[w.heap.size + 1]? = some (.cells wi 28 (0, 0)) ∧ Kp w (w.heap.size + 2) (.cells #[.bool false] 4 (0, 0)) (g3 w s wi) ∧ (g3 w s wi).heap.size ≤ w.heap.size + 3 := by
  have bA := (Below.refl w.heap.size w).alloc (Nat.le_refl _) (.cells s 49)
  have zA : (w.alloc (.cells s 49)).heap.size = w.heap.size + 1 := World.size_alloc _ _
  have zB : ((w.alloc (.cells s 49)).alloc (.cells wi 28)).heap.size = w.heap.size + 2 := by rw [World.size_alloc, zA]
  have zC : (g3 w s wi).heap.size = w.heap.size + 3 := by unfold g3; rw [World.size_alloc, zB]
  have bB := bA.alloc (by omega) (.cells wi 28)
  have bC := bB.alloc (by omega) (.cells #[.bool false] 4)
  refine ⟨?_, ?_, ⟨?_, bC⟩, by omega⟩
  · exact (Below.heap_alloc _ _ _ (by omega)).trans ((Below.heap_alloc _ _ _ (by omega)).trans (World.alloc_heap_new w _))
  · have := World.alloc_heap_new (w.alloc (.cells s 49)) (.cells wi 28)
    rw [zA] at this
    exact (Below.heap_alloc _ _ _ (by omega)).trans this
  · have := World.alloc_heap_new ((w.alloc (.cells s 49)).alloc (.cells wi 28)) (.cells #[.bool false] 4)
    rw [zB] at this
    exact this

set_option maxRecDepth 100000 in
set_option maxHeartbeats 8000000 in
theorem grants0_any {w : World} {b1 b2 : Nat} {v : Value} {ps : List Pd} {base : Nat} {H1 H2 : Nm → Option Hd} {k1 k2 : Nat} (an : Nm) (op : Int) (bd : ByteArray) (m1 : Mi w base (.map (some b1)) H1 (nmP ps ps.length) k1) (m2 : Mi w base (.map (some b2)) H2 (pvP ps ps.length) k2) (pk : Pks w v ps) (hl : ps.length ≤ 1000000000) (ht : totP ps ps.length ≤ 1000000000) (han : an.size ≤ maxLen) (hbd : bd.size ≤ maxLen) :
    Calls Tryd.prog 13 #[.agg #[v, .map (some b1), .map (some b2)], .agg (wc 0 an op bd)] w fun e w' => e = .returned (.bool (wantP ps 0 an op bd)) ∧ RowKit.Below w.heap.size w w' := by
  have hsat := sat_some ps an op bd
  have HW := hide (show wantP ps 0 an op bd = (ps.any fun q => meetsA an op bd q.nm q.vr q.pl) from if_pos rfl)
  generalize wantP ps 0 an op bd = r at *
  obtain ⟨g0, g1, g2, gz⟩ := g3_blk w #[v, .map (some b1), .map (some b2)] (wc 0 an op bd)
  obtain ⟨W3, hW3⟩ : ∃ x, x = g3 w #[v, .map (some b1), .map (some b2)] (wc 0 an op bd) := ⟨_, rfl⟩
  rw [← hW3] at g0 g1 g2 gz
  have HSA := hide (show ∀ X, RowKit.Below W3.heap.size W3 X → X.heap[W3.heap.size]? = some (.cells #[v, .map (some b1), .map (some b2)] 49 (0, 0)) → X.heap[W3.heap.size + 1]? = some (.cells #[.string an, .int .i64 op, .string bd] 26 (0, 0)) → SeqR Fence.wide 8 Tryd.prog 26 #[.pointer (some ⟨W3.heap.size, 0, none⟩), .pointer (some ⟨W3.heap.size + 1, 0, none⟩)] encI (satL ps an op bd (nmP ps ps.length an) (pvP ps ps.length an)) X from fun X hX hs ha => by
    have bX := bl_t g2.2 hX
    exact sat_r 8 (by decide) ⟨hs, ha, m1.later bX, m2.later bX, pk.later bX, fun p hp => by
      rcases List.mem_append.1 hp with hp | hp
      · exact ((nmP_mem ps _ _ _).1 hp).1
      · exact ((pvP_mem ps _ _ _).1 hp).1, han, hbd⟩ (by have := nmP_len ps ps.length an; omega) (by have := pvP_len ps ps.length an; omega))
  generalize satL ps an op bd (nmP ps ps.length an) (pvP ps ps.length an) = L at *
  have HL := hide hsat
  have HG := hide (And.intro g2 gz)
  clear m1 m2 pk hl ht han hbd hsat g0 g1 g2 gz
  refine (callsIn_wide (n := 9)).1 ?_
  refine callsIn_of_wp_marks Tryd.func13 rfl trivial ?_ rfl
  simp only [Tryd.ntmps13, List.size_toArray, List.length_cons, List.length_nil, Nat.reduceAdd, Nat.reduceSub, Array.replicate_succ, Array.replicate_zero, List.push_toArray, List.append_toArray, List.nil_append, List.cons_append]
  unfold g3 at hW3
  gi_wp2_with (gi_at_call 19; rw [← hW3]; refine (callsIn_wide.2 (satisfiers_any v (.map (some b1)) (.map (some b2)) an op bd W3)).mono ?_; rintro e w5 ⟨rfl, hs5, ha5, hb5⟩; have HS5 := hide (And.intro hs5 (And.intro ha5 hb5)); clear hs5 ha5 hb5 hW3)
  obtain ⟨g2, gz⟩ := unhide HG
  obtain ⟨s1, s2, hb5⟩ := unhide HS5
  have hsq := unhide HSA w5 hb5 s1 s2
  obtain ⟨B4, hB4⟩ : ∃ x, x = w.heap.size + 1 + 1 := ⟨_, rfl⟩
  have kp5 : Kp w B4 (.cells #[.bool false] 4 (0, 0)) w5 := ⟨by rw [hB4]; exact (hb5.block _ (blk_lt g2.1)).trans g2.1, bl_t g2.2 hb5⟩
  rw [← hB4]
  have hBl : w.heap.size ≤ B4 := by omega
  have hB5 : B4 < w5.heap.size := blk_lt kp5.1
  have hz5 : w.heap.size ≤ w5.heap.size := by omega
  clear hB4 g2 gz s1 s2 hb5 HS5 HSA HG
  have HKP := hide kp5
  refine rangeFunc_r rfl (by decide) (gf := 26) (lb := #[.pointer (some ⟨W3.heap.size, 0, none⟩), .pointer (some ⟨W3.heap.size + 1, 0, none⟩)]) rfl trivial (enters_of Tryd.func26 (by kernel_rfl) rfl)
    hsq (Below.refl _ _) (fun _ => rfl) (Kp w B4 (.cells #[.bool false] 4 (0, 0))) (Kp w B4 (.cells #[.bool true] 4 (0, 0))) (Kp.abide hB5 hz5) (Kp.abide hB5 hz5) kp5 ?a10 ?as0 ?bo0 ?do0 ?st0
  case as0 =>
    intro l x W K hK
    gi_wp2
    exact hK
  case bo0 =>
    intro l x Z hD hLp hI hx
    have c0 := (cell_blk hI.1 0).1.trans (show #[Value.bool false][0]? = some (.bool false) from rfl)
    have f0 := (cell_blk hI.1 0).2
    have HI := hide (And.intro (hI.set hBl (.bool true)) hI)
    clear hD hLp hI hx hsq
    gi_wp2
    exact ⟨⟨set_other Z B4 0 (.bool true) _ (by omega), set_other Z B4 0 (.bool true) _ (by omega)⟩, (unhide HI).1⟩
  case st0 =>
    intro D Z hD hne hI hK
    have HR := hide (show r = true from by rw [unhide HW]; exact (unhide HL).1 hne)
    have HK := hide hK
    have HI := hide hI
    have HD := hide hD
    clear hK hI hsq hne hD
    gi_wp2
    have hK := unhide HK
    obtain rfl := unhide HD
    refine ⟨by simp, .inl ⟨_, _, rfl, run_takeDeferred hK, ?_⟩⟩
    have k7 := (unhide HI).put (o2 := .deferred none) hz5 (by omega) hK rfl rfl
    have c7 := (cell_blk k7.1 0).1.trans (show #[Value.bool true][0]? = some (.bool true) from rfl)
    exact ⟨_, results_u1 (show Tryd.f13.results = #[.cell 4 4] from Tryd.results13) _ _ _ ⟨B4, 0, none⟩ (.bool true) rfl (by simp [loadVar, go_sem, c7]), by rw [unhide HR], k7.2⟩
  case do0 =>
    intro D Z hD hne hI hK
    have HR := hide (show r = false from by
      rw [unhide HW]
      exact Bool.eq_false_iff.2 fun h => (unhide HL).2 h hne)
    have c0 := (cell_blk hI.1 0).1.trans (show #[Value.bool false][0]? = some (.bool false) from rfl)
    have f0 := (cell_blk hI.1 0).2
    have HK := hide (And.intro hD hK)
    have HI := hide (hI.set hBl (.bool false))
    clear hK hI hsq hne hD
    gi_wp2
    obtain ⟨rfl, hK⟩ := unhide HK
    have hK6 := (set_other Z B4 0 (.bool false) w5.heap.size (by omega)).trans hK
    refine ⟨by simp, .inl ⟨_, _, rfl, run_takeDeferred hK6, ?_⟩⟩
    have k7 := (unhide HI).put (o2 := .deferred none) hz5 (by omega) hK6 rfl rfl
    have c7 := (cell_blk k7.1 0).1.trans (show #[Value.bool false][0]? = some (.bool false) from rfl)
    exact ⟨_, results_u1 (show Tryd.f13.results = #[.cell 4 4] from Tryd.results13) _ _ _ ⟨B4, 0, none⟩ (.bool false) rfl (by simp [loadVar, go_sem, c7]), by rw [unhide HR], k7.2⟩
end Go.Proofs.YtjcemfegkefdeaaDoor
namespace Go.Proofs.YtjcemfegkefdeaaDoor
open Go.RowKit Go.Maps Go.Shelf

set_option maxRecDepth 100000 in
set_option maxHeartbeats 8000000 in
theorem grants1k_any {w : World} {b1 b2 : Nat} {v : Value} {ps : List Pd} {base : Nat} {H1 : Nm → Option Hd} {k1 : Nat} (an : Nm) (op : Int) (bd : ByteArray) (m1 : Mi w base (.map (some b1)) H1 (nmP ps ps.length) k1) (pk : Pks w v ps) (hl : ps.length ≤ 1000000000) (han : an.size ≤ maxLen) (hbd : bd.size ≤ maxLen) :
    Calls Tryd.prog 13 #[.agg #[v, .map (some b1), .map (some b2)], .agg (wc 1 an op bd)] w fun e w' => e = .returned (.bool (wantP ps 1 an op bd)) ∧ RowKit.Below w.heap.size w w' := by
  have hrem := rem_any ps an op bd
  have HW := hide (show wantP ps 1 an op bd = !((nmP ps ps.length an).any (ft ps op bd)) from by rw [hrem]; rfl)
  clear hrem
  generalize wantP ps 1 an op bd = r at *
  obtain ⟨g0, g1, g2, gz⟩ := g3_blk w #[v, .map (some b1), .map (some b2)] (wc 1 an op bd)
  have m3 := m1.later g2.2
  have lk := look1 m3.dm han
  obtain ⟨a1, d1, e1⟩ : ∃ a c, hv0 (H1 an) = .slice a (nmP ps ps.length an).length c := by
    obtain ⟨f, e, en⟩ := slice_hd (m1.own an)
    exact ⟨f.a, f.c, by rw [e, ← en]; rfl⟩
  have o1 := m3.own an
  rw [e1] at lk o1
  have C := containsFunc_any (Bw := w.heap.size + 1) (Bs := w.heap.size) (f := ft ps op bd) o1 (by have := nmP_len ps ps.length an; omega) (fun p hp X hX => by
    obtain ⟨_, q, hq, _⟩ := (nmP_mem ps _ _ _).1 hp
    have := grants1_any ((hX.block _ (blk_lt g1)).trans g1) ((hX.block _ (blk_lt g0)).trans g0) (pk.later (bl_t g2.2 hX)) hq hbd
    rw [show ft ps op bd p = fitsA op bd q.vr from by unfold ft; rw [hq]]
    exact this)
  generalize (nmP ps ps.length an).any (ft ps op bd) = f at *
  generalize (nmP ps ps.length an).length = N at *
  clear m1 m3 pk hl han hbd e1 o1
  obtain ⟨W3, hW3⟩ : ∃ x, x = g3 w #[v, .map (some b1), .map (some b2)] (wc 1 an op bd) := ⟨_, rfl⟩
  rw [← hW3] at g0 g1 g2 gz C
  have HC := hide (show ∀ X, X = W3 → Calls Tryd.prog 20 #[.slice a1 N d1, .func (.func 21) #[] #[.pointer (some ⟨w.heap.size + 1, 0, none⟩), .pointer (some ⟨w.heap.size, 0, none⟩)]] X fun e w' => e = .returned (.bool f) ∧ Kp w (w.heap.size + 1 + 1) (.cells #[.bool false] 4 (0, 0)) w' from fun X e => by
    subst e
    exact C.mono fun e w' h => ⟨h.1, (h.2.block _ (blk_lt g2.1)).trans g2.1, bl_t g2.2 h.2⟩)
  clear C g0 g1 g2 gz
  unfold g3 at hW3 lk
  go_enter Tryd.func13, Tryd.ntmps13
  go_wp2_with (go_at_call 20; refine (unhide HC _ hW3.symm).mono ?_; rintro e w5 ⟨rfl, kp⟩; have c0 := (cell_blk kp.1 0).1.trans (show #[Value.bool false][0]? = some (.bool false) from rfl); have f0 := (cell_blk kp.1 0).2; have HK := hide (kp.set (Nat.le_succ_of_le (Nat.le_succ _)) (.bool (!f))); clear kp hW3 lk)
  have k7 := unhide HK
  have c7 := (cell_blk k7.1 0).1.trans (show #[Value.bool (!f)][0]? = some (.bool (!f)) from rfl)
  refine bodyPost_ret (results_u1 (show Tryd.f13.results = #[.cell 4 4] from Tryd.results13) _ _ _ ⟨w.heap.size + 1 + 1, 0, none⟩ (.bool (!f)) rfl (by simp [loadVar, go_sem, c7])) rfl ?_
  exact ⟨by rw [unhide HW], k7.2⟩
set_option maxHeartbeats 4000000 in
theorem grants2_any {w : World} {v d1 d2 : Value} (kd : Int) (h0 : kd ≠ 0) (h1 : kd ≠ 1) (an : Nm) (op : Int) (bd : ByteArray) (ps : List Pd) :
    Calls Tryd.prog 13 #[.agg #[v, d1, d2], .agg (wc kd an op bd)] w fun e w' => e = .returned (.bool (wantP ps kd an op bd)) ∧ RowKit.Below w.heap.size w w' := by
  have HW := hide (show wantP ps kd an op bd = true from by unfold wantP; rw [if_neg h0, if_neg h1])
  generalize wantP ps kd an op bd = r at *
  have e0 : (kd == 0) = false := by simpa using h0
  have e1 : (kd == 1) = false := by simpa using h1
  have HK := hide ((((Below.refl w.heap.size w).alloc (Nat.le_refl _) (.cells #[v, d1, d2] 49)).alloc (by simp) (.cells (wc kd an op bd) 28)).alloc (by simp; omega) (.cells #[.bool true] 4))
  clear h0 h1
  go_enter Tryd.func13, Tryd.ntmps13
  go_wp2
  refine bodyPost_ret (results_u1 (show Tryd.f13.results = #[.cell 4 4] from Tryd.results13) _ _ _ ⟨w.heap.size + 2, 0, none⟩ (.bool true) rfl (by simp [loadVar, go_sem])) rfl ?_
  exact ⟨by rw [unhide HW], unhide HK⟩
theorem grants_any {w : World} {b1 b2 : Nat} {v : Value} {ps : List Pd} {base : Nat} {H1 H2 : Nm → Option Hd} {k1 k2 : Nat} (kd : Int) (an : Nm) (op : Int) (bd : ByteArray) (m1 : Mi w base (.map (some b1)) H1 (nmP ps ps.length) k1) (m2 : Mi w base (.map (some b2)) H2 (pvP ps ps.length) k2) (pk : Pks w v ps) (hl : ps.length ≤ 1000000000) (ht : totP ps ps.length ≤ 1000000000) (han : an.size ≤ maxLen) (hbd : bd.size ≤ maxLen) :
    Calls Tryd.prog 13 #[.agg #[v, .map (some b1), .map (some b2)], .agg (wc kd an op bd)] w fun e w' => e = .returned (.bool (wantP ps kd an op bd)) ∧ RowKit.Below w.heap.size w w' := by
  by_cases h0 : kd = 0
  · subst h0; exact grants0_any an op bd m1 m2 pk hl ht han hbd
  · by_cases h1 : kd = 1
    · subst h1; exact grants1k_any an op bd m1 pk hl han hbd
    · exact grants2_any kd h0 h1 an op bd ps
end Go.Proofs.YtjcemfegkefdeaaDoor

namespace Go.Proofs.YtjcemfegkefdeaaDoor
open Go.RowKit Go.Maps Go.Shelf

/-- A WISH, AND A LIST OF WISHES AS IT LIES. -/
structure Wd where
  kd : Int
  an : Nm
  op : Int
  bd : ByteArray
abbrev Wd.cs (x : Wd) : List Value := [.int .i64 x.kd, .string x.an, .int .i64 x.op, .string x.bd]
def WdOk (x : Wd) : Prop := x.an.size ≤ maxLen ∧ x.bd.size ≤ maxLen
def Wis (w : World) (a : Option Addr) (ws : List Wd) : Prop := 0 < ws.length → ∃ b o, a = some ⟨b, o, none⟩ ∧ b < w.heap.size ∧ ∀ (i : Nat) (x : Wd), ws[i]? = some x → w.rangeAt b (o + i * 4) x.cs
theorem Wis.later {w w' : World} {a : Option Addr} {ws : List Wd} (h : Wis w a ws) (hb : RowKit.Below w.heap.size w w') : Wis w' a ws := fun h0 => by
  obtain ⟨b, o, h3, h4, h5⟩ := h h0
  exact ⟨b, o, h3, Nat.lt_of_lt_of_le h4 hb.size, fun i x hx => range_bel (h5 i x hx) h4 hb⟩
theorem Wis.cells {w : World} {a : Option Addr} {ws : List Wd} (h : Wis w a ws) {i : Nat} {x : Wd} (hx : ws[i]? = some x) : ∃ b o, a = some ⟨b, o, none⟩ ∧ b < w.heap.size ∧ w.cell? ⟨b, o + i * 4, none⟩ = some (.int .i64 x.kd) ∧ w.cell? ⟨b, o + i * 4 + 1, none⟩ = some (.string x.an) ∧ w.cell? ⟨b, o + i * 4 + 2, none⟩ = some (.int .i64 x.op) ∧ w.cell? ⟨b, o + i * 4 + 3, none⟩ = some (.string x.bd) := by
  have := (List.getElem?_eq_some_iff.1 hx).1
  obtain ⟨b, o, h3, h4, h5⟩ := h (by omega)
  have r := h5 i x hx
  exact ⟨b, o, h3, h4, r 0 _ rfl, r 1 _ rfl, r 2 _ rfl, r 3 _ rfl⟩
/-- IS IT MET, AND WHICH ARE NOT. -/
def Wd.ok (ps : List Pd) (x : Wd) : Bool := wantP ps x.kd x.an x.op x.bd
def unL (ps : List Pd) (ws : List Wd) : Nat → List Nat
  | 0 => []
  | i + 1 => match ws[i]? with | some x => if x.ok ps = true then unL ps ws i else unL ps ws i ++ [i] | none => unL ps ws i
theorem unL_len (ps : List Pd) (ws : List Wd) : ∀ i, (unL ps ws i).length ≤ i
  | 0 => Nat.le_refl _
  | i + 1 => by
    have := unL_len ps ws i
    unfold unL
    split
    · split
      · omega
      · rw [List.length_append]; simp; omega
    · omega
theorem unL_yes {ps : List Pd} {ws : List Wd} {i : Nat} {x : Wd} (hx : ws[i]? = some x) (h : x.ok ps = true) : unL ps ws (i + 1) = unL ps ws i := by
  rw [unL, hx]; simp only; rw [if_pos h]
theorem unL_no {ps : List Pd} {ws : List Wd} {i : Nat} {x : Wd} (hx : ws[i]? = some x) (h : x.ok ps = false) : unL ps ws (i + 1) = unL ps ws i ++ [i] := by
  rw [unL, hx]; simp only; rw [if_neg (by rw [h]; decide)]
/-- THE ANSWER WHILE IT GROWS. -/
structure Us (W wr : World) (s : Value) (l : List Nat) : Prop where
  row : wr.ownsRow W.heap.size 3 1 s l.length (ints l)
  bw : RowKit.Below W.heap.size W wr
theorem row_lo {w : World} {lo lo2 e size n : Nat} {v : Value} {xs : List Value} (h : w.ownsRow lo e size v n xs) (hl : lo2 ≤ lo) : w.ownsRow lo2 e size v n xs := by
  refine ⟨h.1, ?_⟩
  rcases h.2 with h | ⟨g, cap, cur, e, h1, h2, h3⟩
  · exact .inl h
  · exact .inr ⟨g, cap, cur, e, Nat.le_trans hl h1, h2, h3⟩
theorem Us.start (W : World) : Us W W (.slice none 0 0) [] := ⟨⟨rfl, .inl ⟨rfl, rfl⟩⟩, Below.refl _ _⟩
theorem Us.later {W wr w2 : World} {s : Value} {l : List Nat} (h : Us W wr s l) (hb : RowKit.Below wr.heap.size wr w2) : Us W w2 s l := ⟨own_same h.row fun b e => hb.block b (World.ownsRow.lt h.row b e).2, bl_t h.bw hb⟩
theorem Us.grow {W wr w9 : World} {s v' : Value} {l : List Nat} {i : Nat} {o : Obj} (h : Us W wr s l) (hown : w9.ownsRow W.heap.size 3 1 v' (l.length + 1) (ints l ++ [.int .i64 (i : Int)])) (hg : (wr.alloc o).grownBy w9 s.ownBlock) : Us W w9 v' (l ++ [i]) := by
  refine ⟨?_, (h.bw.alloc h.bw.size o).grown hg ?_ fun j e => (World.ownsRow.lt h.row j e).1⟩
  · rw [List.length_append, show ints (l ++ [i]) = ints l ++ [.int .i64 (i : Int)] from by simp [ints]]
    exact hown
  · have := h.bw.size
    rw [World.size_alloc]
    omega
/-- PACKAGES THAT ARE SMALL ENOUGH. -/
structure Sm (ps : List Pd) : Prop where
  l : ps.length ≤ 1000000000
  t : totP ps ps.length ≤ 1000000000
  z : ∀ q ∈ ps, q.nm.size ≤ maxLen ∧ ∀ n ∈ q.pl, n.size ≤ maxLen

set_option maxRecDepth 100000 in
set_option maxHeartbeats 8000000 in
theorem Unmet_any {w : World} {v : Value} {ps : List Pd} {wa : Option Addr} {ws : List Wd} (wcap : Nat) (pk : Pks w v ps) (sm : Sm ps) (hw : Wis w wa ws) (hok : ∀ x ∈ ws, WdOk x) (hl : ws.length ≤ 1099511627776) :
    Calls Tryd.prog 6 #[v, .slice wa ws.length wcap] w fun e w' => ∃ r, e = .returned r ∧ w'.ownsRow w.heap.size 3 1 r (unL ps ws ws.length).length (ints (unL ps ws ws.length)) ∧ RowKit.Below w.heap.size w w' := by
  obtain ⟨i0, hi, hz0, hz1, hz2⟩ := info_parts2 infoI
  obtain ⟨va, vc, rfl⟩ : ∃ a c, v = .slice a ps.length c := let ⟨a, c, e, _⟩ := pk; ⟨a, c, e⟩
  have C := hide (setOf_any ps _ w sm.l sm.t sm.z pk)
  have HC := hide (show ∀ X, RowKit.Below w.heap.size w X → _ from fun X hX => And.intro (pk.later hX) (hw.later hX))
  have HSM := hide (And.intro sm hok)
  obtain ⟨N, hN⟩ : ∃ N, N = ws.length := ⟨_, rfl⟩
  rw [← hN] at hl ⊢
  have HN := hide hN
  clear pk sm hw hok hN
  go_enter Tryd.func6, Tryd.ntmps6
  go_wp2_with (go_at_call 12; refine (unhide C).mono ?_; rintro e w1 ⟨H1, k1, H2, k2, rfl, m1, m2, hb1⟩; clear C; have HM := hide (And.intro m1 (And.intro m2 hb1)); clear m1 m2 hb1)
  obtain ⟨Wb, hWb⟩ : ∃ x, x = w1.alloc (.cells #[.slice va ps.length vc, .map (some (w.heap.size + 1)), .map (some (w.heap.size + 2))] 49) := ⟨_, rfl⟩
  have bb : RowKit.Below w1.heap.size w1 Wb := by rw [hWb]; exact (Below.refl _ _).alloc (Nat.le_refl _) _
  have hbx : Wb.heap[w1.heap.size]? = some (.cells #[.slice va ps.length vc, .map (some (w.heap.size + 1)), .map (some (w.heap.size + 2))] 49 (0, 0)) := by rw [hWb]; exact World.alloc_heap_new w1 _
  rw [← hWb]
  have HLO := hide (show w.heap.size ≤ Wb.heap.size ∧ RowKit.Below w.heap.size w Wb from by
    have b := bl_t (unhide HM).2.2 bb
    exact ⟨b.size, b⟩)
  have HG := hide (show ∀ X, RowKit.Below Wb.heap.size Wb X → ∀ x ∈ ws, Calls Tryd.prog 13 #[.agg #[.slice va ps.length vc, .map (some (w.heap.size + 1)), .map (some (w.heap.size + 2))], .agg (wc x.kd x.an x.op x.bd)] X fun e w' => e = .returned (.bool (x.ok ps)) ∧ RowKit.Below X.heap.size X w' from fun X hX x hx => by
    obtain ⟨m1, m2, hb1⟩ := unhide HM
    obtain ⟨sm, hok⟩ := unhide HSM
    have b := bl_t bb hX
    exact grants_any x.kd x.an x.op x.bd (m1.later b) (m2.later b) (unhide HC X (bl_t hb1 b)).1 sm.l sm.t (hok x hx).1 (hok x hx).2)
  have HAT := hide (show ∀ X, RowKit.Below Wb.heap.size Wb X → Wis X wa ws ∧ X.heap[w1.heap.size]? = some (.cells #[.slice va ps.length vc, .map (some (w.heap.size + 1)), .map (some (w.heap.size + 2))] 49 (0, 0)) from fun X hX => ⟨(unhide HC X (bl_t (unhide HLO).2 hX)).2, (hX.block _ (blk_lt hbx)).trans hbx⟩)
  have HST := hide (Us.start Wb)
  clear hWb bb hbx HM HC HSM
  generalize w1.heap.size = B1 at *
  go_loopw [6, 13] (fun sv iv wr => ∃ i : Nat, iv = .int .i64 i ∧ i ≤ N ∧ Hid (Us Wb wr sv (unL ps ws i))) (fun _ iv _ => N - (intOf iv).toNat)
  case atStart => exact ⟨0, rfl, Nat.zero_le _, HST⟩
  case round =>
    clear HST
    obtain ⟨i, rfl, hile, HU⟩ := hrel
    have hu := unhide HU
    by_cases hlt : i < N
    · have hlt2 : (i : Int) < (N : Int) := by omega
      have hjp : i < ws.length := by have := unhide HN; omega
      obtain ⟨hwis, hbx⟩ := unhide HAT wr hu.bw
      have hx : ws[i]? = some ws[i] := List.getElem?_eq_getElem hjp
      generalize ws[i] = x at *
      obtain ⟨b, o, rfl, hbl, c0, c1, c2, c3⟩ := hwis.cells hx
      have s0 := (cell_blk hbx 0).1.trans (show (#[Value.slice va ps.length vc, .map (some (w.heap.size + 1)), .map (some (w.heap.size + 2))])[0]? = some (.slice va ps.length vc) from rfl)
      have s1 := (cell_blk hbx 1).1.trans (show (#[Value.slice va ps.length vc, .map (some (w.heap.size + 1)), .map (some (w.heap.size + 2))])[1]? = some (.map (some (w.heap.size + 1))) from rfl)
      have s2 := (cell_blk hbx 2).1.trans (show (#[Value.slice va ps.length vc, .map (some (w.heap.size + 1)), .map (some (w.heap.size + 2))])[2]? = some (.map (some (w.heap.size + 2))) from rfl)
      have hB1 : B1 < wr.heap.size := blk_lt hbx
      have ba := (Below.refl wr.heap.size wr).alloc (Nat.le_refl _) (.cells (wc x.kd x.an x.op x.bd) 28)
      have C := hide (unhide HG _ (bl_t hu.bw ba) x (List.mem_of_getElem? hx))
      have HU2 := hide (hu.later ba)
      have HX := hide hx
      clear hu hbx hwis hx hjp ba
      cases hf : x.ok ps with
      | true =>
        rw [hf] at C
        have HE := hide (unL_yes (unhide HX) hf)
        clear hf HX
        go_wp2_with (go_at_call 13; refine (unhide C).mono ?_; rintro e w5 ⟨rfl, hb⟩; have HU3 := hide ((unhide HU2).later hb); clear hb C HU2)
        go_roundw
        case rel => exact ⟨i + 1, by go_num, by omega, by rw [unhide HE]; exact HU3⟩
        case measure => simp [intOf]; omega
      | false =>
        rw [hf] at C
        have HE := hide (unL_no (unhide HX) hf)
        have hLk := unL_len ps ws i
        clear hf HX
        go_wp2_with (first | (go_at_call 13; refine (unhide C).mono ?_; rintro e w5 ⟨rfl, hb⟩; have HU3 := hide ((unhide HU2).later hb); clear hb C HU2; have hbz := (unhide HU3).bw.size) | (at_builtin; go_must (refine wpList_append_own _ rfl _ _ 29 rfl Wb.heap.size 3 i0 (.int .i64 0) 1 8 Tryd.underlying29 hi hz0 hz1 hz2 rfl (by decide) _ _ _ rfl ((unhide HU3).row.alloc _) ⟨w5.heap.size, 0, none⟩ 1 1 [.int .i64 (i : Int)] rfl rfl (cell_one_new _ _ _) (by simp [Value.oneCell']) (by unfold maxLen; omega) (by omega) (by simp; omega) ?_); intro v' w9 hown hgrow _; have HU9 := hide ((unhide HU3).grow hown hgrow); clear hown hgrow))
        go_roundw
        case rel => exact ⟨i + 1, by go_num, by omega, by rw [unhide HE]; exact HU9⟩
        case measure => simp [intOf]; omega
    · obtain rfl : i = N := by omega
      go_wp2
      go_ret
      refine ⟨_, rfl, ?_, bl_t (unhide HLO).2 hu.bw⟩
      exact row_lo hu.row (unhide HLO).1
end Go.Proofs.YtjcemfegkefdeaaDoor
namespace Go.Proofs.YtjcemfegkefdeaaDoor
open Go.RowKit Go.Maps Go.Shelf

theorem want_hit {ps : List Pd} {i : Nat} {q : Pd} (hq : ps[i]? = some q) {f : Pd → Bool} (h : f q = true) : ps.any f = true := List.any_eq_true.2 ⟨q, List.mem_of_getElem? hq, h⟩
theorem want_miss {ps : List Pd} {f : Pd → Bool} (h : ∀ (i : Nat) (q : Pd), ps[i]? = some q → f q = false) : ps.any f = false := List.any_eq_false.2 fun q hq => by
  obtain ⟨j, hj, e⟩ := List.getElem_of_mem hq
  rw [h j q (by rw [List.getElem?_eq_getElem hj, e])]
  decide
theorem miss_next {ps : List Pd} {f : Pd → Bool} {i : Nat} {q : Pd} (hq : ps[i]? = some q) (hf : f q = false) (h : ∀ (j : Nat) (x : Pd), j < i → ps[j]? = some x → f x = false) : ∀ (j : Nat) (x : Pd), j < i + 1 → ps[j]? = some x → f x = false := fun j x hj hx => by
  by_cases e : j = i
  · subst e
    rw [hq] at hx
    cases hx
    exact hf
  · exact h j x (by omega) hx
set_option maxRecDepth 100000 in
set_option maxHeartbeats 8000000 in
theorem wanted0_any {w : World} {v : Value} {ps : List Pd} (an : Nm) (op : Int) (bd : ByteArray) (pk : Pks w v ps) (hl : ps.length ≤ 1000000000) (hbd : bd.size ≤ maxLen) :
    Calls Tryd.prog 11 #[v, .agg (wc 0 an op bd)] w fun e w' => e = .returned (.bool (wantP ps 0 an op bd)) ∧ RowKit.Below w.heap.size w w' := by
  have HW := hide (show wantP ps 0 an op bd = (ps.any fun q => meetsA an op bd q.nm q.vr q.pl) from if_pos rfl)
  generalize wantP ps 0 an op bd = r at *
  obtain ⟨va, vc, rfl, hk⟩ := pk
  obtain ⟨W1, hW1⟩ : ∃ x, x = w.alloc (.cells (wc 0 an op bd) 28) := ⟨_, rfl⟩
  have b1 : RowKit.Below w.heap.size w W1 := by rw [hW1]; exact (Below.refl _ _).alloc (Nat.le_refl _) _
  have g1 : W1.heap[w.heap.size]? = some (.cells (wc 0 an op bd) 28 (0, 0)) := by rw [hW1]; exact World.alloc_heap_new w _
  obtain ⟨N, hN⟩ : ∃ N, ps.length = N := ⟨_, rfl⟩
  rw [hN] at hl hk ⊢
  have HN := hide hN
  have HP := hide hk
  have HI := hide info43
  have HZ := hide hbd
  clear hk hN hbd
  have z1 : w.heap.size < W1.heap.size := blk_lt g1
  have HG := hide (And.intro g1 b1)
  go_enter Tryd.func11, Tryd.ntmps11
  go_wp2_with fail
  rw [← hW1]
  clear hW1
  go_loopw [5, 6] (fun vi _ wr => ∃ i : Nat, vi = .int .i64 i ∧ i ≤ N ∧ Hid (RowKit.Below W1.heap.size W1 wr) ∧ Hid (∀ (j : Nat) (x : Pd), j < i → ps[j]? = some x → meetsA an op bd x.nm x.vr x.pl = false)) (fun vi _ _ => N - (intOf vi).toNat)
  case atStart => exact ⟨0, by go_num, by omega, hide (Below.refl _ _), hide (fun j x hj => absurd hj (Nat.not_lt_zero _))⟩
  case round =>
    obtain ⟨i, rfl, hile, HB, HM⟩ := hrel
    by_cases hlt : i < N
    · have hlt2 : (i : Int) < (N : Int) := by omega
      obtain ⟨b, o, rfl, hbw, hc⟩ := unhide HP (by have := unhide HN; omega)
      obtain ⟨x, hx⟩ : ∃ x, ps[i]? = some x := ⟨_, List.getElem?_eq_getElem (by have := unhide HN; omega)⟩
      obtain ⟨hr, hok⟩ := hc i x hx
      have HX := hide hx
      have HST := hide (show ∀ X, RowKit.Below W1.heap.size W1 X → X.cell? ⟨w.heap.size, 1, none⟩ = some (.string an) ∧ X.cell? ⟨w.heap.size, 2, none⟩ = some (.int .i64 op) ∧ X.cell? ⟨w.heap.size, 3, none⟩ = some (.string bd) ∧ X.rangeAt b (o + i * 43) x.cs from fun X hX => by
        have h := (hX.block _ (blk_lt (unhide HG).1)).trans (unhide HG).1
        exact ⟨(cell_blk h 1).1.trans rfl, (cell_blk h 2).1.trans rfl, (cell_blk h 3).1.trans rfl, range_bel hr hbw (bl_t (unhide HG).2 hX)⟩)
      have QR := hide (show ∀ X, RowKit.Below W1.heap.size W1 X → _ from fun X hX => rMeets_any an op bd x.nm x.vr x.pv x.pl x.cs (unhide HZ) hok.2.2 X hok.1 (hok.2.1.later (bl_t (unhide HG).2 hX)))
      have HI2 := (show (Tryd.prog.info? 40).map (·.size) = some x.cs.length by rw [hok.1.len]; exact unhide HI)
      have E0 := hide (show RowKit.Below W1.heap.size W1 wr.drew from bl_t (unhide HB) (Below.refl _ wr).drew)
      clear hc hr hok hx
      cases hf : meetsA an op bd x.nm x.vr x.pl with
      | true =>
        rw [hf] at QR
        have HH := hide (want_hit (f := fun q => meetsA an op bd q.nm q.vr q.pl) (unhide HX) hf)
        clear hf HX HM
        go_wp2_with fail
        refine wp_region_held_drew (S := fun w' => w'.cell? ⟨w.heap.size, 1, none⟩ = some (.string an) ∧ w'.cell? ⟨w.heap.size, 2, none⟩ = some (.int .i64 op) ∧ w'.cell? ⟨w.heap.size, 3, none⟩ = some (.string bd) ∧ w'.rangeAt b (o + i * 43) x.cs) (by kernel_rfl) ?_ (fun hHeld => ?_)
        · exact unhide HST _ (unhide E0)
        refine wpAnyH_take (i := 0) (oi := { dst := some 17, op := Op.fieldAddr 28 (Operand.tmp 3) 1, type := 0, pos := "ref.go:115", after := #[], guard := none }) (v := ?_) rfl (by kernel_rfl) (by kernel_rfl) (by kernel_rfl) (fun _ _ _ h => h) (Or.inl ⟨by rfl, ?_⟩) (by assumption) ?_
        rotate_left
        · intro w hSw; (try dsimp only at hSw); go_simp; (try with_reducible rfl)
        try simp only [Act.put, List.setIfInBounds_toArray, List.set_cons_zero, List.set_cons_succ]
        refine wpAnyH_take (i := 1) (oi := { dst := some 18, op := Op.load 26 (Operand.tmp 17), type := 26, pos := "ref.go:115", after := #[{ on := 0, ground := Ground.data }], guard := none }) (v := ?_) rfl (by kernel_rfl) (by kernel_rfl) (by kernel_rfl) (fun _ _ _ h => h) (Or.inl ⟨by rfl, ?_⟩) (by assumption) ?_
        rotate_left
        · intro w hSw; (try dsimp only at hSw); go_simp; (try with_reducible rfl)
        try simp only [Act.put, List.setIfInBounds_toArray, List.set_cons_zero, List.set_cons_succ]
        refine wpAnyH_take (i := 2) (oi := { dst := some 19, op := Op.move (Operand.tmp 0), type := 22, pos := "ref.go:115", after := #[], guard := none }) (v := ?_) rfl (by kernel_rfl) (by kernel_rfl) (by kernel_rfl) (fun _ _ _ h => h) (Or.inl ⟨by rfl, ?_⟩) (by assumption) ?_
        rotate_left
        · intro w hSw; (try dsimp only at hSw); go_simp; (try with_reducible rfl)
        try simp only [Act.put, List.setIfInBounds_toArray, List.set_cons_zero, List.set_cons_succ]
        refine wpAnyH_take (i := 3) (oi := { dst := some 20, op := Op.move (Operand.tmp 5), type := 3, pos := "ref.go:115", after := #[], guard := none }) (v := ?_) rfl (by kernel_rfl) (by kernel_rfl) (by kernel_rfl) (fun _ _ _ h => h) (Or.inl ⟨by rfl, ?_⟩) (by assumption) ?_
        rotate_left
        · intro w hSw; (try dsimp only at hSw); go_simp; (try with_reducible rfl)
        try simp only [Act.put, List.setIfInBounds_toArray, List.set_cons_zero, List.set_cons_succ]
        refine wpAnyH_take (i := 4) (oi := { dst := some 21, op := Op.indexAddr 22 (Operand.tmp 19) (Operand.tmp 20), type := 0, pos := "ref.go:115", after := #[{ on := 2, ground := Ground.data }, { on := 3, ground := Ground.data }], guard := none }) (v := ?_) rfl (by kernel_rfl) (by kernel_rfl) (by kernel_rfl) (fun _ _ _ h => h) (Or.inl ⟨by rfl, ?_⟩) (by assumption) ?_
        rotate_left
        · intro w hSw; (try dsimp only at hSw); go_simp; (try with_reducible rfl)
        try simp only [Act.put, List.setIfInBounds_toArray, List.set_cons_zero, List.set_cons_succ]
        refine wpAnyH_take (i := 5) (oi := { dst := some 22, op := Op.load 40 (Operand.tmp 21), type := 40, pos := "ref.go:115", after := #[{ on := 4, ground := Ground.data }], guard := none }) (v := .agg x.cs.toArray) rfl (by kernel_rfl) (by kernel_rfl) (by kernel_rfl) (fun _ _ _ h => h) (yieldsIf_load_mid (by rfl) 40 (.tmp 21) rfl b (o + i * 43) (by rfl) x.cs _ (fun _ h => h.2.2.2) Tryd.underlying40 rfl HI2) (by assumption) ?_
        try simp only [Act.put, List.setIfInBounds_toArray, List.set_cons_zero, List.set_cons_succ]
        refine wpAnyH_ready (rs := [6]) (by kernel_rfl) (by simp) ?_
        refine AllReadyH.cons (o := { dst := some 23, op := Op.call { callee := Callee.value (Operand.func 17), args := #[Operand.tmp 18, Operand.tmp 22], argTypes := #[26, 40] }, type := 4, pos := "ref.go:115", after := #[{ on := 1, ground := Ground.data }, { on := 5, ground := Ground.data }], guard := none }) rfl (fun K hK => ?_) AllReadyH.nil
        go_simp
        refine (unhide QR _ (unhide E0)).mono ?_
        rintro e v1 ⟨rfl, hv1⟩
        have E1 := hide (bl_t (unhide E0) hv1)
        clear hv1
        go_wp2_with fail
        refine hK.out _ _ ?_ (fun hHeld0 => ?_)
        · exact unhide HST _ (unhide E1)
        clear hHeld
        clear hK K
        try simp only [Act.put, List.setIfInBounds_toArray, List.set_cons_zero, List.set_cons_succ]
        refine wpAnyH_take (i := 7) (oi := { dst := some 6, op := Op.assign (Operand.tmp 23), type := 4, pos := "ref.go:115", after := #[{ on := 6, ground := Ground.data }, { on := 6, ground := Ground.chain }, { on := 0, ground := Ground.phase }, { on := 1, ground := Ground.phase }, { on := 2, ground := Ground.phase }, { on := 3, ground := Ground.phase }, { on := 4, ground := Ground.phase }, { on := 5, ground := Ground.phase }, { on := 6, ground := Ground.phase }], guard := none }) (v := ?_) rfl (by kernel_rfl) (by kernel_rfl) (by kernel_rfl) (fun _ _ _ h => h) (Or.inl ⟨by rfl, ?_⟩) (by assumption) ?_
        rotate_left
        · intro w hSw; (try dsimp only at hSw); go_simp; (try with_reducible rfl)
        try simp only [Act.put, List.setIfInBounds_toArray, List.set_cons_zero, List.set_cons_succ]
        refine wpAnyH_done (by kernel_rfl) ?_ _
        go_wp2_with fail
        go_ret
        exact ⟨ret_bb ((unhide HW).trans (unhide HH)).symm, bl_t (unhide HG).2 (unhide E1)⟩
      | false =>
        rw [hf] at QR
        have HNX := hide (miss_next (f := fun q => meetsA an op bd q.nm q.vr q.pl) (unhide HX) hf (unhide HM))
        clear hf HX HM
        go_wp2_with fail
        refine wp_region_held_drew (S := fun w' => w'.cell? ⟨w.heap.size, 1, none⟩ = some (.string an) ∧ w'.cell? ⟨w.heap.size, 2, none⟩ = some (.int .i64 op) ∧ w'.cell? ⟨w.heap.size, 3, none⟩ = some (.string bd) ∧ w'.rangeAt b (o + i * 43) x.cs) (by kernel_rfl) ?_ (fun hHeld => ?_)
        · exact unhide HST _ (unhide E0)
        refine wpAnyH_take (i := 0) (oi := { dst := some 17, op := Op.fieldAddr 28 (Operand.tmp 3) 1, type := 0, pos := "ref.go:115", after := #[], guard := none }) (v := ?_) rfl (by kernel_rfl) (by kernel_rfl) (by kernel_rfl) (fun _ _ _ h => h) (Or.inl ⟨by rfl, ?_⟩) (by assumption) ?_
        rotate_left
        · intro w hSw; (try dsimp only at hSw); go_simp; (try with_reducible rfl)
        try simp only [Act.put, List.setIfInBounds_toArray, List.set_cons_zero, List.set_cons_succ]
        refine wpAnyH_take (i := 1) (oi := { dst := some 18, op := Op.load 26 (Operand.tmp 17), type := 26, pos := "ref.go:115", after := #[{ on := 0, ground := Ground.data }], guard := none }) (v := ?_) rfl (by kernel_rfl) (by kernel_rfl) (by kernel_rfl) (fun _ _ _ h => h) (Or.inl ⟨by rfl, ?_⟩) (by assumption) ?_
        rotate_left
        · intro w hSw; (try dsimp only at hSw); go_simp; (try with_reducible rfl)
        try simp only [Act.put, List.setIfInBounds_toArray, List.set_cons_zero, List.set_cons_succ]
        refine wpAnyH_take (i := 2) (oi := { dst := some 19, op := Op.move (Operand.tmp 0), type := 22, pos := "ref.go:115", after := #[], guard := none }) (v := ?_) rfl (by kernel_rfl) (by kernel_rfl) (by kernel_rfl) (fun _ _ _ h => h) (Or.inl ⟨by rfl, ?_⟩) (by assumption) ?_
        rotate_left
        · intro w hSw; (try dsimp only at hSw); go_simp; (try with_reducible rfl)
        try simp only [Act.put, List.setIfInBounds_toArray, List.set_cons_zero, List.set_cons_succ]
        refine wpAnyH_take (i := 3) (oi := { dst := some 20, op := Op.move (Operand.tmp 5), type := 3, pos := "ref.go:115", after := #[], guard := none }) (v := ?_) rfl (by kernel_rfl) (by kernel_rfl) (by kernel_rfl) (fun _ _ _ h => h) (Or.inl ⟨by rfl, ?_⟩) (by assumption) ?_
        rotate_left
        · intro w hSw; (try dsimp only at hSw); go_simp; (try with_reducible rfl)
        try simp only [Act.put, List.setIfInBounds_toArray, List.set_cons_zero, List.set_cons_succ]
        refine wpAnyH_take (i := 4) (oi := { dst := some 21, op := Op.indexAddr 22 (Operand.tmp 19) (Operand.tmp 20), type := 0, pos := "ref.go:115", after := #[{ on := 2, ground := Ground.data }, { on := 3, ground := Ground.data }], guard := none }) (v := ?_) rfl (by kernel_rfl) (by kernel_rfl) (by kernel_rfl) (fun _ _ _ h => h) (Or.inl ⟨by rfl, ?_⟩) (by assumption) ?_
        rotate_left
        · intro w hSw; (try dsimp only at hSw); go_simp; (try with_reducible rfl)
        try simp only [Act.put, List.setIfInBounds_toArray, List.set_cons_zero, List.set_cons_succ]
        refine wpAnyH_take (i := 5) (oi := { dst := some 22, op := Op.load 40 (Operand.tmp 21), type := 40, pos := "ref.go:115", after := #[{ on := 4, ground := Ground.data }], guard := none }) (v := .agg x.cs.toArray) rfl (by kernel_rfl) (by kernel_rfl) (by kernel_rfl) (fun _ _ _ h => h) (yieldsIf_load_mid (by rfl) 40 (.tmp 21) rfl b (o + i * 43) (by rfl) x.cs _ (fun _ h => h.2.2.2) Tryd.underlying40 rfl HI2) (by assumption) ?_
        try simp only [Act.put, List.setIfInBounds_toArray, List.set_cons_zero, List.set_cons_succ]
        refine wpAnyH_ready (rs := [6]) (by kernel_rfl) (by simp) ?_
        refine AllReadyH.cons (o := { dst := some 23, op := Op.call { callee := Callee.value (Operand.func 17), args := #[Operand.tmp 18, Operand.tmp 22], argTypes := #[26, 40] }, type := 4, pos := "ref.go:115", after := #[{ on := 1, ground := Ground.data }, { on := 5, ground := Ground.data }], guard := none }) rfl (fun K hK => ?_) AllReadyH.nil
        go_simp
        refine (unhide QR _ (unhide E0)).mono ?_
        rintro e v1 ⟨rfl, hv1⟩
        have E1 := hide (bl_t (unhide E0) hv1)
        clear hv1
        go_wp2_with fail
        refine hK.out _ _ ?_ (fun hHeld0 => ?_)
        · exact unhide HST _ (unhide E1)
        clear hHeld
        clear hK K
        try simp only [Act.put, List.setIfInBounds_toArray, List.set_cons_zero, List.set_cons_succ]
        refine wpAnyH_take (i := 7) (oi := { dst := some 6, op := Op.assign (Operand.tmp 23), type := 4, pos := "ref.go:115", after := #[{ on := 6, ground := Ground.data }, { on := 6, ground := Ground.chain }, { on := 0, ground := Ground.phase }, { on := 1, ground := Ground.phase }, { on := 2, ground := Ground.phase }, { on := 3, ground := Ground.phase }, { on := 4, ground := Ground.phase }, { on := 5, ground := Ground.phase }, { on := 6, ground := Ground.phase }], guard := none }) (v := ?_) rfl (by kernel_rfl) (by kernel_rfl) (by kernel_rfl) (fun _ _ _ h => h) (Or.inl ⟨by rfl, ?_⟩) (by assumption) ?_
        rotate_left
        · intro w hSw; (try dsimp only at hSw); go_simp; (try with_reducible rfl)
        try simp only [Act.put, List.setIfInBounds_toArray, List.set_cons_zero, List.set_cons_succ]
        refine wpAnyH_done (by kernel_rfl) ?_ _
        go_wp2_with fail
        go_roundw
        case rel => exact ⟨i + 1, by go_num, by omega, E1, HNX⟩
        case measure => simp [intOf]; omega
    · have HF := hide (want_miss (ps := ps) (f := fun q => meetsA an op bd q.nm q.vr q.pl) fun j x hx => unhide HM j x (by have := (List.getElem?_eq_some_iff.1 hx).1; have := unhide HN; omega) hx)
      clear HM
      go_wp2_with fail
      go_ret
      exact ⟨ret_bb ((unhide HW).trans (unhide HF)).symm, bl_t (unhide HG).2 (unhide HB)⟩
end Go.Proofs.YtjcemfegkefdeaaDoor
namespace Go.Proofs.YtjcemfegkefdeaaDoor
open Go.RowKit Go.Maps Go.Shelf

set_option maxRecDepth 100000 in
set_option maxHeartbeats 8000000 in
theorem wanted1_any {w : World} {v : Value} {ps : List Pd} (an : Nm) (op : Int) (bd : ByteArray) (pk : Pks w v ps) (hl : ps.length ≤ 1000000000) (hbd : bd.size ≤ maxLen) :
    Calls Tryd.prog 11 #[v, .agg (wc 1 an op bd)] w fun e w' => e = .returned (.bool (wantP ps 1 an op bd)) ∧ RowKit.Below w.heap.size w w' := by
  have HW := hide (show wantP ps 1 an op bd = !(ps.any fun q => q.nm.toList == an.toList && fitsA op bd q.vr) from rfl)
  generalize wantP ps 1 an op bd = r at *
  obtain ⟨va, vc, rfl, hk⟩ := pk
  obtain ⟨W1, hW1⟩ : ∃ x, x = w.alloc (.cells (wc 1 an op bd) 28) := ⟨_, rfl⟩
  have b1 : RowKit.Below w.heap.size w W1 := by rw [hW1]; exact (Below.refl _ _).alloc (Nat.le_refl _) _
  have g1 : W1.heap[w.heap.size]? = some (.cells (wc 1 an op bd) 28 (0, 0)) := by rw [hW1]; exact World.alloc_heap_new w _
  obtain ⟨N, hN⟩ : ∃ N, ps.length = N := ⟨_, rfl⟩
  rw [hN] at hl hk ⊢
  have HN := hide hN
  have HP := hide hk
  have HZ := hide hbd
  clear hk hN hbd
  have z1 : w.heap.size < W1.heap.size := blk_lt g1
  have HG := hide (And.intro g1 b1)
  go_enter Tryd.func11, Tryd.ntmps11
  go_wp2_with fail
  rw [← hW1]
  clear hW1 g1 b1
  go_loopw [7] (fun vi wr => ∃ i : Nat, vi = .int .i64 i ∧ i ≤ N ∧ Hid (RowKit.Below W1.heap.size W1 wr) ∧ Hid (∀ (j : Nat) (x : Pd), j < i → ps[j]? = some x → (x.nm.toList == an.toList && fitsA op bd x.vr) = false)) (fun vi _ => N - (intOf vi).toNat)
  case atStart => exact ⟨0, by go_num, by omega, hide (Below.refl _ _), hide (fun j x hj => absurd hj (Nat.not_lt_zero _))⟩
  case round =>
    obtain ⟨i, rfl, hile, HB, HM⟩ := hrel
    by_cases hlt : i < N
    · have hlt2 : (i : Int) < (N : Int) := by omega
      obtain ⟨b, o, rfl, hbw, hc⟩ := unhide HP (by have := unhide HN; omega)
      obtain ⟨x, hx⟩ : ∃ x, ps[i]? = some x := ⟨_, List.getElem?_eq_getElem (by have := unhide HN; omega)⟩
      obtain ⟨hr, hok⟩ := hc i x hx
      have HX := hide hx
      have HST := hide (show ∀ X, RowKit.Below W1.heap.size W1 X → X.cell? ⟨w.heap.size, 1, none⟩ = some (.string an) ∧ X.cell? ⟨w.heap.size, 2, none⟩ = some (.int .i64 op) ∧ X.cell? ⟨w.heap.size, 3, none⟩ = some (.string bd) ∧ X.cell? ⟨b, o + i * 43, none⟩ = some (.string x.nm) ∧ X.cell? ⟨b, o + i * 43 + 1, none⟩ = some (.string x.vr) from fun X hX => by
        have h := (hX.block _ (blk_lt (unhide HG).1)).trans (unhide HG).1
        have r := range_bel hr hbw (bl_t (unhide HG).2 hX)
        exact ⟨(cell_blk h 1).1.trans rfl, (cell_blk h 2).1.trans rfl, (cell_blk h 3).1.trans rfl, r 0 _ hok.1.n, r 1 _ hok.1.v⟩)
      have QR := hide (rFitsA_any an op bd x.vr (unhide HZ) hok.2.2)
      have E0 := hide (show RowKit.Below W1.heap.size W1 wr.drew from bl_t (unhide HB) (Below.refl _ wr).drew)
      clear hc hr hok hx
      have HNX := hide (fun hf => miss_next (f := fun q => q.nm.toList == an.toList && fitsA op bd q.vr) (unhide HX) hf (unhide HM))
      have HH := hide (fun hf => want_hit (f := fun q => q.nm.toList == an.toList && fitsA op bd q.vr) (unhide HX) hf)
      clear HX HM
      generalize x.nm = nm at *
      generalize x.vr = vr at *
      cases he : (nm.toList == an.toList) with
      | false =>
        rw [he] at HNX HH
        have HNX2 := hide (unhide HNX rfl)
        clear HNX HH
        go_wp2_with fail
        refine wp_region_held_drew (S := fun w' => w'.cell? ⟨w.heap.size, 1, none⟩ = some (.string an) ∧ w'.cell? ⟨w.heap.size, 2, none⟩ = some (.int .i64 op) ∧ w'.cell? ⟨w.heap.size, 3, none⟩ = some (.string bd) ∧ w'.cell? ⟨b, o + i * 43, none⟩ = some (.string nm) ∧ w'.cell? ⟨b, o + i * 43 + 1, none⟩ = some (.string vr)) (by kernel_rfl) ?_ (fun hHeld => ?_)
        · exact unhide HST _ (unhide E0)
        refine wpAnyH_take (i := 0) (oi := { dst := some 34, op := Op.move (Operand.tmp 0), type := 22, pos := "ref.go:124", after := #[], guard := none }) (v := ?_) rfl (by kernel_rfl) (by kernel_rfl) (by kernel_rfl) (fun _ _ _ h => h) (Or.inl ⟨by rfl, ?_⟩) (by assumption) ?_
        rotate_left
        · intro w hSw; (try dsimp only at hSw); go_simp; (try with_reducible rfl)
        try simp only [Act.put, List.setIfInBounds_toArray, List.set_cons_zero, List.set_cons_succ]
        refine wpAnyH_take (i := 1) (oi := { dst := some 35, op := Op.move (Operand.tmp 7), type := 3, pos := "ref.go:124", after := #[], guard := none }) (v := ?_) rfl (by kernel_rfl) (by kernel_rfl) (by kernel_rfl) (fun _ _ _ h => h) (Or.inl ⟨by rfl, ?_⟩) (by assumption) ?_
        rotate_left
        · intro w hSw; (try dsimp only at hSw); go_simp; (try with_reducible rfl)
        try simp only [Act.put, List.setIfInBounds_toArray, List.set_cons_zero, List.set_cons_succ]
        refine wpAnyH_take (i := 2) (oi := { dst := some 36, op := Op.indexAddr 22 (Operand.tmp 34) (Operand.tmp 35), type := 0, pos := "ref.go:124", after := #[{ on := 0, ground := Ground.data }, { on := 1, ground := Ground.data }], guard := none }) (v := ?_) rfl (by kernel_rfl) (by kernel_rfl) (by kernel_rfl) (fun _ _ _ h => h) (Or.inl ⟨by rfl, ?_⟩) (by assumption) ?_
        rotate_left
        · intro w hSw; (try dsimp only at hSw); go_simp; (try with_reducible rfl)
        try simp only [Act.put, List.setIfInBounds_toArray, List.set_cons_zero, List.set_cons_succ]
        refine wpAnyH_take (i := 3) (oi := { dst := some 37, op := Op.fieldAddr 40 (Operand.tmp 36) 0, type := 0, pos := "ref.go:124", after := #[{ on := 2, ground := Ground.data }], guard := none }) (v := ?_) rfl (by kernel_rfl) (by kernel_rfl) (by kernel_rfl) (fun _ _ _ h => h) (Or.inl ⟨by rfl, ?_⟩) (by assumption) ?_
        rotate_left
        · intro w hSw; (try dsimp only at hSw); go_simp; (try with_reducible rfl)
        try simp only [Act.put, List.setIfInBounds_toArray, List.set_cons_zero, List.set_cons_succ]
        refine wpAnyH_take (i := 4) (oi := { dst := some 38, op := Op.load 9 (Operand.tmp 37), type := 9, pos := "ref.go:124", after := #[{ on := 3, ground := Ground.data }], guard := none }) (v := ?_) rfl (by kernel_rfl) (by kernel_rfl) (by kernel_rfl) (fun _ _ _ h => h) (Or.inl ⟨by rfl, ?_⟩) (by assumption) ?_
        rotate_left
        · intro w hSw; (try dsimp only at hSw); go_simp; (try with_reducible rfl)
        try simp only [Act.put, List.setIfInBounds_toArray, List.set_cons_zero, List.set_cons_succ]
        refine wpAnyH_take (i := 5) (oi := { dst := some 39, op := Op.fieldAddr 28 (Operand.tmp 3) 1, type := 0, pos := "ref.go:124", after := #[], guard := none }) (v := ?_) rfl (by kernel_rfl) (by kernel_rfl) (by kernel_rfl) (fun _ _ _ h => h) (Or.inl ⟨by rfl, ?_⟩) (by assumption) ?_
        rotate_left
        · intro w hSw; (try dsimp only at hSw); go_simp; (try with_reducible rfl)
        try simp only [Act.put, List.setIfInBounds_toArray, List.set_cons_zero, List.set_cons_succ]
        refine wpAnyH_take (i := 6) (oi := { dst := some 40, op := Op.fieldAddr 26 (Operand.tmp 39) 0, type := 0, pos := "ref.go:124", after := #[{ on := 5, ground := Ground.data }], guard := none }) (v := ?_) rfl (by kernel_rfl) (by kernel_rfl) (by kernel_rfl) (fun _ _ _ h => h) (Or.inl ⟨by rfl, ?_⟩) (by assumption) ?_
        rotate_left
        · intro w hSw; (try dsimp only at hSw); go_simp; (try with_reducible rfl)
        try simp only [Act.put, List.setIfInBounds_toArray, List.set_cons_zero, List.set_cons_succ]
        refine wpAnyH_take (i := 7) (oi := { dst := some 41, op := Op.load 9 (Operand.tmp 40), type := 9, pos := "ref.go:124", after := #[{ on := 6, ground := Ground.data }], guard := none }) (v := ?_) rfl (by kernel_rfl) (by kernel_rfl) (by kernel_rfl) (fun _ _ _ h => h) (Or.inl ⟨by rfl, ?_⟩) (by assumption) ?_
        rotate_left
        · intro w hSw; (try dsimp only at hSw); go_simp; (try with_reducible rfl)
        try simp only [Act.put, List.setIfInBounds_toArray, List.set_cons_zero, List.set_cons_succ]
        refine wpAnyH_take (i := 8) (oi := { dst := some 42, op := Op.binOp BinOp.eql 9 (Operand.tmp 38) (Operand.tmp 41) 9, type := 4, pos := "ref.go:124", after := #[{ on := 4, ground := Ground.data }, { on := 7, ground := Ground.data }], guard := none }) (v := ?_) rfl (by kernel_rfl) (by kernel_rfl) (by kernel_rfl) (fun _ _ _ h => h) (Or.inl ⟨by rfl, ?_⟩) (by assumption) ?_
        rotate_left
        · intro w hSw; (try dsimp only at hSw); go_simp; (try with_reducible rfl)
        try simp only [Act.put, List.setIfInBounds_toArray, List.set_cons_zero, List.set_cons_succ]
        refine wpAnyH_take (i := 9) (oi := { dst := some 43, op := Op.move (Operand.tmp 42), type := 4, pos := "ref.go:124", after := #[{ on := 8, ground := Ground.data }], guard := none }) (v := ?_) rfl (by kernel_rfl) (by kernel_rfl) (by kernel_rfl) (fun _ _ _ h => h) (Or.inl ⟨by rfl, ?_⟩) (by assumption) ?_
        rotate_left
        · intro w hSw; (try dsimp only at hSw); go_simp; (try with_reducible rfl)
        try simp only [Act.put, List.setIfInBounds_toArray, List.set_cons_zero, List.set_cons_succ]
        refine wpAnyH_take (i := 10) (oi := { dst := some 44, op := Op.fieldAddr 28 (Operand.tmp 3) 1, type := 0, pos := "ref.go:124", after := #[{ on := 9, ground := Ground.guard }], guard := some (9, true) }) (v := undef) rfl (by kernel_rfl) (by kernel_rfl) (by kernel_rfl) (fun _ _ _ h => h) (Or.inr ⟨by rfl, rfl⟩) (by assumption) ?_
        try simp only [Act.put, List.setIfInBounds_toArray, List.set_cons_zero, List.set_cons_succ]
        refine wpAnyH_take (i := 11) (oi := { dst := some 45, op := Op.load 26 (Operand.tmp 44), type := 26, pos := "ref.go:124", after := #[{ on := 10, ground := Ground.data }, { on := 9, ground := Ground.guard }], guard := some (9, true) }) (v := undef) rfl (by kernel_rfl) (by kernel_rfl) (by kernel_rfl) (fun _ _ _ h => h) (Or.inr ⟨by rfl, rfl⟩) (by assumption) ?_
        try simp only [Act.put, List.setIfInBounds_toArray, List.set_cons_zero, List.set_cons_succ]
        refine wpAnyH_take (i := 12) (oi := { dst := some 46, op := Op.move (Operand.tmp 0), type := 22, pos := "ref.go:124", after := #[{ on := 9, ground := Ground.guard }], guard := some (9, true) }) (v := undef) rfl (by kernel_rfl) (by kernel_rfl) (by kernel_rfl) (fun _ _ _ h => h) (Or.inr ⟨by rfl, rfl⟩) (by assumption) ?_
        try simp only [Act.put, List.setIfInBounds_toArray, List.set_cons_zero, List.set_cons_succ]
        refine wpAnyH_take (i := 13) (oi := { dst := some 47, op := Op.move (Operand.tmp 7), type := 3, pos := "ref.go:124", after := #[{ on := 9, ground := Ground.guard }], guard := some (9, true) }) (v := undef) rfl (by kernel_rfl) (by kernel_rfl) (by kernel_rfl) (fun _ _ _ h => h) (Or.inr ⟨by rfl, rfl⟩) (by assumption) ?_
        try simp only [Act.put, List.setIfInBounds_toArray, List.set_cons_zero, List.set_cons_succ]
        refine wpAnyH_take (i := 14) (oi := { dst := some 48, op := Op.indexAddr 22 (Operand.tmp 46) (Operand.tmp 47), type := 0, pos := "ref.go:124", after := #[{ on := 12, ground := Ground.data }, { on := 13, ground := Ground.data }, { on := 9, ground := Ground.guard }], guard := some (9, true) }) (v := undef) rfl (by kernel_rfl) (by kernel_rfl) (by kernel_rfl) (fun _ _ _ h => h) (Or.inr ⟨by rfl, rfl⟩) (by assumption) ?_
        try simp only [Act.put, List.setIfInBounds_toArray, List.set_cons_zero, List.set_cons_succ]
        refine wpAnyH_take (i := 15) (oi := { dst := some 49, op := Op.fieldAddr 40 (Operand.tmp 48) 1, type := 0, pos := "ref.go:124", after := #[{ on := 14, ground := Ground.data }, { on := 9, ground := Ground.guard }], guard := some (9, true) }) (v := undef) rfl (by kernel_rfl) (by kernel_rfl) (by kernel_rfl) (fun _ _ _ h => h) (Or.inr ⟨by rfl, rfl⟩) (by assumption) ?_
        try simp only [Act.put, List.setIfInBounds_toArray, List.set_cons_zero, List.set_cons_succ]
        refine wpAnyH_take (i := 16) (oi := { dst := some 50, op := Op.load 9 (Operand.tmp 49), type := 9, pos := "ref.go:124", after := #[{ on := 15, ground := Ground.data }, { on := 9, ground := Ground.guard }], guard := some (9, true) }) (v := undef) rfl (by kernel_rfl) (by kernel_rfl) (by kernel_rfl) (fun _ _ _ h => h) (Or.inr ⟨by rfl, rfl⟩) (by assumption) ?_
        try simp only [Act.put, List.setIfInBounds_toArray, List.set_cons_zero, List.set_cons_succ]
        refine wpAnyH_take (i := 17) (oi := { dst := some 51, op := Op.call { callee := Callee.value (Operand.func 18), args := #[Operand.tmp 45, Operand.tmp 50], argTypes := #[26, 9] }, type := 4, pos := "ref.go:124", after := #[{ on := 11, ground := Ground.data }, { on := 16, ground := Ground.data }, { on := 9, ground := Ground.chain }, { on := 9, ground := Ground.guard }], guard := some (9, true) }) (v := undef) rfl (by kernel_rfl) (by kernel_rfl) (by kernel_rfl) (fun _ _ _ h => h) (Or.inr ⟨by rfl, rfl⟩) (by assumption) ?_
        try simp only [Act.put, List.setIfInBounds_toArray, List.set_cons_zero, List.set_cons_succ]
        refine wpAnyH_take (i := 18) (oi := { dst := some 52, op := Op.pick (Operand.tmp 43) (Operand.tmp 51) (Operand.const (Value.bool false)), type := 4, pos := "ref.go:124", after := #[{ on := 9, ground := Ground.data }, { on := 17, ground := Ground.data }], guard := none }) (v := ?_) rfl (by kernel_rfl) (by kernel_rfl) (by kernel_rfl) (fun _ _ _ h => h) (Or.inl ⟨by rfl, ?_⟩) (by assumption) ?_
        rotate_left
        · intro w hSw; (try dsimp only at hSw); go_simp; (try with_reducible rfl)
        try simp only [Act.put, List.setIfInBounds_toArray, List.set_cons_zero, List.set_cons_succ]
        refine wpAnyH_done (by kernel_rfl) ?_ _
        go_wp2_with fail
        go_roundw
        case rel => exact ⟨i + 1, by go_num, by omega, E0, HNX2⟩
        case measure => simp [intOf]; omega
      | true =>
        rw [he] at HNX HH
        cases hf : fitsA op bd vr with
        | false =>
          rw [hf] at HNX QR
          have HNX2 := hide (unhide HNX rfl)
          clear HNX HH hf
          go_wp2_with fail
          go_region_held3 (fun w' => w'.cell? ⟨w.heap.size, 1, none⟩ = some (.string an) ∧ w'.cell? ⟨w.heap.size, 2, none⟩ = some (.int .i64 op) ∧ w'.cell? ⟨w.heap.size, 3, none⟩ = some (.string bd) ∧ w'.cell? ⟨b, o + i * 43, none⟩ = some (.string nm) ∧ w'.cell? ⟨b, o + i * 43 + 1, none⟩ = some (.string vr)) (first | exact unhide HST _ (unhide E0) | exact unhide HST _ (unhide E1)) (first | (go_at_call 18; refine (unhide QR _).mono ?_; rintro e w11 ⟨rfl, hb11⟩; have E1 := hide (bl_t (unhide E0) hb11); clear hb11))
          go_wp2_with fail
          go_roundw
          case rel => exact ⟨i + 1, by go_num, by omega, E1, HNX2⟩
          case measure => simp [intOf]; omega
        | true =>
          rw [hf] at HH QR
          have HF2 := hide ((unhide HW).trans (congrArg (!·) (unhide HH rfl)))
          clear HNX HH hf
          go_wp2_with fail
          go_region_held3 (fun w' => w'.cell? ⟨w.heap.size, 1, none⟩ = some (.string an) ∧ w'.cell? ⟨w.heap.size, 2, none⟩ = some (.int .i64 op) ∧ w'.cell? ⟨w.heap.size, 3, none⟩ = some (.string bd) ∧ w'.cell? ⟨b, o + i * 43, none⟩ = some (.string nm) ∧ w'.cell? ⟨b, o + i * 43 + 1, none⟩ = some (.string vr)) (first | exact unhide HST _ (unhide E0) | exact unhide HST _ (unhide E1)) (first | (go_at_call 18; refine (unhide QR _).mono ?_; rintro e w11 ⟨rfl, hb11⟩; have E1 := hide (bl_t (unhide E0) hb11); clear hb11))
          go_wp2_with fail
          go_ret
          exact ⟨ret_bb (unhide HF2).symm, bl_t (unhide HG).2 (unhide E1)⟩
    · have HF := hide (want_miss (ps := ps) (f := fun q => q.nm.toList == an.toList && fitsA op bd q.vr) fun j x hx => unhide HM j x (by have := (List.getElem?_eq_some_iff.1 hx).1; have := unhide HN; omega) hx)
      have HF2 := hide ((unhide HW).trans (congrArg (!·) (unhide HF)))
      clear HM HF
      go_wp2_with fail
      go_ret
      exact ⟨ret_bb (unhide HF2).symm, bl_t (unhide HG).2 (unhide HB)⟩
set_option maxHeartbeats 4000000 in
theorem wanted2_any {w : World} {v : Value} (kd : Int) (h0 : kd ≠ 0) (h1 : kd ≠ 1) (an : Nm) (op : Int) (bd : ByteArray) (ps : List Pd) :
    Calls Tryd.prog 11 #[v, .agg (wc kd an op bd)] w fun e w' => e = .returned (.bool (wantP ps kd an op bd)) ∧ RowKit.Below w.heap.size w w' := by
  have HW := hide (show wantP ps kd an op bd = true from by unfold wantP; rw [if_neg h0, if_neg h1])
  generalize wantP ps kd an op bd = r at *
  have e0 : (kd == 0) = false := by simpa using h0
  have e1 : (kd == 1) = false := by simpa using h1
  have HK := hide ((Below.refl w.heap.size w).alloc (Nat.le_refl _) (.cells (wc kd an op bd) 28))
  clear h0 h1
  go_enter Tryd.func11, Tryd.ntmps11
  go_wp2
  go_ret
  exact ⟨ret_bb (unhide HW).symm, unhide HK⟩
theorem wanted_any {w : World} {v : Value} {ps : List Pd} (kd : Int) (an : Nm) (op : Int) (bd : ByteArray) (pk : Pks w v ps) (hl : ps.length ≤ 1000000000) (hbd : bd.size ≤ maxLen) :
    Calls Tryd.prog 11 #[v, .agg (wc kd an op bd)] w fun e w' => e = .returned (.bool (wantP ps kd an op bd)) ∧ RowKit.Below w.heap.size w w' := by
  by_cases h0 : kd = 0
  · subst h0; exact wanted0_any an op bd pk hl hbd
  · by_cases h1 : kd = 1
    · subst h1; exact wanted1_any an op bd pk hl hbd
    · exact wanted2_any kd h0 h1 an op bd ps
end Go.Proofs.YtjcemfegkefdeaaDoor
namespace Go.Proofs.YtjcemfegkefdeaaDoor
open Go.RowKit Go.Maps Go.Shelf

set_option maxRecDepth 100000 in
set_option maxHeartbeats 8000000 in
theorem rUnmet_any {w : World} {v : Value} {ps : List Pd} {wa : Option Addr} {ws : List Wd} (wcap : Nat) (pk : Pks w v ps) (hlp : ps.length ≤ 1000000000) (hw : Wis w wa ws) (hok : ∀ x ∈ ws, WdOk x) (hl : ws.length ≤ 1099511627776) :
    Calls Tryd.prog 5 #[v, .slice wa ws.length wcap] w fun e w' => ∃ r, e = .returned r ∧ w'.ownsRow w.heap.size 3 1 r (unL ps ws ws.length).length (ints (unL ps ws ws.length)) ∧ RowKit.Below w.heap.size w w' := by
  obtain ⟨i0, hi, hz0, hz1, hz2⟩ := info_parts2 infoI
  obtain ⟨va, vc, rfl⟩ : ∃ a c, v = .slice a ps.length c := let ⟨a, c, e, _⟩ := pk; ⟨a, c, e⟩
  have HG := hide (show ∀ X, RowKit.Below w.heap.size w X → ∀ x ∈ ws, Calls Tryd.prog 11 #[.slice va ps.length vc, .agg (wc x.kd x.an x.op x.bd)] X fun e w' => e = .returned (.bool (x.ok ps)) ∧ RowKit.Below X.heap.size X w' from fun X hX x hx => wanted_any x.kd x.an x.op x.bd (pk.later hX) hlp (hok x hx).2)
  have HAT := hide (show ∀ X, RowKit.Below w.heap.size w X → Wis X wa ws from fun X hX => hw.later hX)
  have HST := hide (Us.start w)
  obtain ⟨N, hN⟩ : ∃ N, N = ws.length := ⟨_, rfl⟩
  rw [← hN] at hl ⊢
  have HN := hide hN
  clear pk hlp hw hok hN
  go_enter Tryd.func5, Tryd.ntmps5
  go_wp2_with fail
  go_loopw [5, 6, 7] (fun sv iv _ wr => ∃ i : Nat, iv = .int .i64 i ∧ i ≤ N ∧ Hid (Us w wr sv (unL ps ws i))) (fun _ iv _ _ => N - (intOf iv).toNat)
  case atStart => exact ⟨0, by go_num, Nat.zero_le _, HST⟩
  case round =>
    clear HST
    obtain ⟨i, rfl, hile, HU⟩ := hrel
    have hu := unhide HU
    by_cases hlt : i < N
    · have hlt2 : (i : Int) < (N : Int) := by omega
      have hjp : i < ws.length := by have := unhide HN; omega
      have hwis := unhide HAT wr hu.bw
      have hx : ws[i]? = some ws[i] := List.getElem?_eq_getElem hjp
      generalize ws[i] = x at *
      obtain ⟨b, o, rfl, hbl, c0, c1, c2, c3⟩ := hwis.cells hx
      have C := hide (unhide HG _ hu.bw x (List.mem_of_getElem? hx))
      have HX := hide hx
      clear hu hwis hx hjp
      cases hf : x.ok ps with
      | true =>
        rw [hf] at C
        have HE := hide (unL_yes (unhide HX) hf)
        clear hf HX
        go_wp2_with (go_at_call 11; refine (unhide C).mono ?_; rintro e w5 ⟨rfl, hb⟩; have HU3 := hide ((unhide HU).later hb); clear hb C HU)
        go_roundw
        case rel => exact ⟨i + 1, by go_num, by omega, by rw [unhide HE]; exact HU3⟩
        case measure => simp [intOf]; omega
      | false =>
        rw [hf] at C
        have HE := hide (unL_no (unhide HX) hf)
        have hLk := unL_len ps ws i
        clear hf HX
        go_wp2_with (first | (go_at_call 11; refine (unhide C).mono ?_; rintro e w5 ⟨rfl, hb⟩; have HU3 := hide ((unhide HU).later hb); clear hb C HU; have hbz := (unhide HU3).bw.size) | (at_builtin; go_must (refine wpList_append_own _ rfl _ _ 29 rfl w.heap.size 3 i0 (.int .i64 0) 1 8 Tryd.underlying29 hi hz0 hz1 hz2 rfl (by decide) _ _ _ rfl ((unhide HU3).row.alloc _) ⟨w5.heap.size, 0, none⟩ 1 1 [.int .i64 (i : Int)] rfl rfl (cell_one_new _ _ _) (by simp [Value.oneCell']) (by unfold maxLen; omega) (by omega) (by simp; omega) ?_); intro v' w9 hown hgrow _; have HU9 := hide ((unhide HU3).grow hown hgrow); clear hown hgrow))
        go_roundw
        case rel => exact ⟨i + 1, by go_num, by omega, by rw [unhide HE]; exact HU9⟩
        case measure => simp [intOf]; omega
    · obtain rfl : i = N := by omega
      go_wp2
      go_ret
      exact ⟨_, rfl, hu.row, hu.bw⟩
set_option maxRecDepth 100000 in
set_option maxHeartbeats 4000000 in
/-- TWO ROWS OF THE SAME NUMBERS. -/
theorem sameInts_yes {w : World} {lo1 lo2 N c1 c2 : Nat} {a1 a2 : Option Addr} {l : List Nat} (h1 : w.ownsRow lo1 3 1 (.slice a1 N c1) N (ints l)) (h2 : w.ownsRow lo2 3 1 (.slice a2 N c2) N (ints l)) (hl : N ≤ 1099511627776) :
    Calls Tryd.prog 7 #[.slice a1 N c1, .slice a2 N c2] w fun e w' => e = .returned (.bool true) ∧ RowKit.Below w.heap.size w w' := by
  have hN : l.length = N := by have := h1.1; rw [ints_len, Nat.mul_one] at this; exact this
  have H1 := hide h1
  have H2 := hide h2
  have HN := hide hN
  clear h1 h2 hN
  go_enter Tryd.func7, Tryd.ntmps7
  go_wp2_with fail
  go_loopw [5] (fun iv wr => ∃ i : Nat, iv = .int .i64 i ∧ i ≤ N ∧ Hid (RowKit.Below w.heap.size w wr)) (fun iv _ => N - (intOf iv).toNat)
  case atStart => exact ⟨0, by go_num, Nat.zero_le _, hide (Below.refl _ _)⟩
  case round =>
    obtain ⟨i, rfl, hile, HB⟩ := hrel
    by_cases hlt : i < N
    · have hlt2 : (i : Int) < (N : Int) := by omega
      have hjp : i < l.length := by have := unhide HN; omega
      obtain ⟨g, rfl, cg⟩ := row_at (unhide H1) (bl_t (unhide HB) (Below.refl _ wr).drew) hjp
      obtain ⟨g2, rfl, cg2⟩ := row_at (unhide H2) (bl_t (unhide HB) (Below.refl _ wr).drew) hjp
      have HB2 := hide (bl_t (unhide HB) (Below.refl _ wr).drew)
      generalize l[i] = p at *
      go_wp2_with fail
      go_region_held3 (fun w' => w'.cell? ⟨g, i, none⟩ = some (.int .i64 (p : Int)) ∧ w'.cell? ⟨g2, i, none⟩ = some (.int .i64 (p : Int))) (exact ⟨cg, cg2⟩) (fail)
      go_wp2_with fail
      go_roundw
      case rel => exact ⟨i + 1, by go_num, by omega, HB2⟩
      case measure => simp [intOf]; omega
    · go_wp2
      go_ret
      exact ⟨rfl, unhide HB⟩
/-- A ROW THAT GROWS: its block is the old one, or new. -/
structure Gw (w wr : World) (lo : Nat) (v s : Value) (n : Nat) : Prop where
  row : ∃ xs, wr.ownsRow lo 3 1 s n xs
  own : ∀ g, s.ownBlock = some g → v.ownBlock = some g ∨ w.heap.size ≤ g
  fx : Fx (fun g => v.ownBlock = some g) w wr
theorem Gw.grow {w wr w9 : World} {lo : Nat} {v s v' : Value} {n : Nat} {xs : List Value} {o : Obj} (h : Gw w wr lo v s n) (hown : w9.ownsRow lo 3 1 v' (n + 1) xs) (hg : (wr.alloc o).grownBy w9 s.ownBlock) (hat : v'.ownBlock = s.ownBlock ∨ v'.ownBlock = some (wr.alloc o).heap.size) : Gw w w9 lo v v' (n + 1) := by
  have z := h.fx.size
  have za : (wr.alloc o).heap.size = wr.heap.size + 1 := World.size_alloc _ _
  refine ⟨⟨xs, hown⟩, fun g e => ?_, h.fx.bel.trans ⟨hg.os.trans rfl, hg.tape.trans rfl, hg.output.trans rfl, by have := hg.size; omega, fun k hk => absurd hk (Nat.not_lt_zero _)⟩, fun b hb hn => ?_⟩
  · rcases hat with q | q
    · exact h.own g (by rw [← q]; exact e)
    · rw [q] at e
      cases e
      exact .inr (by omega)
  · refine (hg.block b (by omega) fun e => ?_).trans ((Below.heap_alloc _ _ _ (by omega)).trans (h.fx.blk b hb hn))
    rcases h.own b e.symm with q | q
    · exact hn q
    · omega
set_option maxRecDepth 100000 in
set_option maxHeartbeats 4000000 in
theorem longer_any {w : World} {lo N c : Nat} {a : Option Addr} {xs : List Value} (h : w.ownsRow lo 3 1 (.slice a N c) N xs) (hlo : lo ≤ w.heap.size) (hl : N ≤ 1099511627776) :
    Calls Tryd.prog 8 #[.slice a N c] w fun e w' => e = .returned (.int .i64 ((N : Int) + 100)) ∧ Fx (fun g => (Value.slice a N c).ownBlock = some g) w w' := by
  obtain ⟨i0, hi, hz0, hz1, hz2⟩ := info_parts2 infoI
  have HST := hide (show Gw w w lo (.slice a N c) (.slice a N c) N from ⟨⟨xs, h⟩, fun g e => .inl e, Fx.refl _ _⟩)
  clear h
  generalize (Value.slice a N c) = v at *
  go_enter Tryd.func8, Tryd.ntmps8
  go_wp2_with fail
  go_loopw [0, 3] (fun sv iv wr => ∃ i : Nat, iv = .int .i64 i ∧ i ≤ 100 ∧ Hid (Gw w wr lo v sv (N + i))) (fun _ iv _ => 100 - (intOf iv).toNat)
  case atStart => exact ⟨0, by go_num, Nat.zero_le _, HST⟩
  case round =>
    clear HST
    obtain ⟨i, rfl, hile, HU⟩ := hrel
    obtain ⟨ys, hrow⟩ := (unhide HU).row
    have hz := (unhide HU).fx.size
    by_cases hlt : i < 100
    · have hlt2 : (i : Int) < 100 := by omega
      go_wp2_with (first | (at_builtin; go_must (refine wpList_append_own_at _ rfl _ _ 29 rfl lo 3 i0 (.int .i64 0) 1 8 Tryd.underlying29 hi hz0 hz1 hz2 rfl (by decide) _ _ _ rfl (hrow.alloc _) ⟨wr.heap.size, 0, none⟩ 1 1 [.int .i64 (-9)] rfl rfl (cell_one_new _ _ _) (by simp [Value.oneCell']) (by unfold maxLen; omega) (by omega) (by simp; omega) ?_); intro v' w9 hown hgrow _ hat; have HU9 := hide ((unhide HU).grow hown hgrow hat); clear hown hgrow hat))
      go_roundw
      case rel => exact ⟨i + 1, by go_num, by omega, HU9⟩
      case measure => simp [intOf]; omega
    · obtain rfl : i = 100 := by omega
      obtain ⟨f, rfl, hn⟩ := slice_hd hrow
      obtain ⟨fa, fn, fc⟩ := f
      simp only at hn
      subst hn
      unfold hv
      have HF := hide (unhide HU).fx
      clear HU hrow
      go_wp2
      go_ret
      exact ⟨by simp, unhide HF⟩
end Go.Proofs.YtjcemfegkefdeaaDoor

