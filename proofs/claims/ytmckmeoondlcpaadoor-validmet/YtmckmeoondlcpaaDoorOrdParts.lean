import Derived.Test.YtmckmeoondlcpaaDoorParts
import Derived.Test.YtmckmeoondlcpaaDoorIter
namespace Go.Proofs.YtmckmeoondlcpaaDoor
open Go.RowKit Go.Shelf
attribute [local go_sem] Oper.semAt_some
attribute [local simp] wide_fn
attribute [local go_sem] wide_fn

theorem cell_of_box_l {W : World} {B : Nat} {v : Value} {t : TypeId} (h : W.heap[B]? = some (.cells #[v] t (0, 0))) : W.cell? ⟨B, 0, none⟩ = some v ∧ W.frozen? ⟨B, 0, none⟩ = false := by
  constructor <;> simp [World.cell?, World.frozen?, h]
theorem cell_new_l (W : World) (v : Value) (t : TypeId) : (W.alloc (.cells #[v] t)).cell? ⟨W.heap.size, 0, none⟩ = some v ∧ (W.alloc (.cells #[v] t)).frozen? ⟨W.heap.size, 0, none⟩ = false := by
  exact cell_of_box_l (World.alloc_heap_new W _)
theorem cell_alloc_l {W : World} {a : Addr} {v : Value} (o : Obj) (h : W.cell? a = some v) : (W.alloc o).cell? a = some v := cell_kept h (World.grownBy_alloc W o none) (fun r e => by cases e)
theorem frozen_alloc_l {W : World} {a : Addr} {v : Value} (o : Obj) (h : W.cell? a = some v) (hf : W.frozen? a = false) : (W.alloc o).frozen? a = false := (frozen_kept h (World.grownBy_alloc W o none) (fun r e => by cases e)).trans hf

theorem Kc_t {Ba Bb : Nat} {A B C : World} (h : Kc Ba Bb A B) (k : Kc Ba Bb B C) : Kc Ba Bb A C := ⟨k.1.trans h.1, k.2.trans h.2⟩
theorem Kc_b {Ba Bb : Nat} {w : World} (ha : Ba < w.heap.size) (hb : Bb < w.heap.size) (W : World) (l : Nat) (o o' : Obj) (hl : w.heap.size ≤ l) (_h : W.heap[l]? = some o) (_h2 : o.isCells = false) (_h3 : o.isWalk = false) : Kc Ba Bb W (W.putObj l o') := by
  refine ⟨?_, ?_⟩
  · show (W.heap.setIfInBounds l o')[Ba]? = _
    rw [Array.getElem?_setIfInBounds_ne (by omega)]
  · show (W.heap.setIfInBounds l o')[Bb]? = _
    rw [Array.getElem?_setIfInBounds_ne (by omega)]
theorem Kc_set {Ba Bb : Nat} (W : World) (b : Nat) (v : Value) (ha : Ba ≠ b) (hb : Bb ≠ b) : Kc Ba Bb W (W.setCell ⟨b, 0, none⟩ v) :=
  ⟨Below.heap_setCell W ⟨b, 0, none⟩ v Ba ha, Below.heap_setCell W ⟨b, 0, none⟩ v Bb hb⟩

theorem clStep_zero (s : Int × Bool) (x : Run2) (h : s.1 = 0) (hc : cr s.2 x = 0) : (clStep s x).1 = 0 ∧ (clStep s x).2 = !s.2 := by
  unfold clStep; rw [if_pos h]; exact ⟨hc, rfl⟩
theorem clStep_hit (s : Int × Bool) (x : Run2) (h : s.1 = 0) : (clStep s x).1 = cr s.2 x := by
  unfold clStep; rw [if_pos h]

set_option maxRecDepth 100000 in
set_option maxHeartbeats 2000000 in
theorem orderParts_in (a b : ByteArray) (ha : a.size ≤ maxLen) (hb : b.size ≤ maxLen) (n : Nat) (hn : 3 ≤ n) (w : World) :
    CallsIn Fence.wide n Tryd.prog 33 #[.string a, .string b] w fun e W' => e = .returned (.int .i64 (ordPart a b)) ∧ Below w.heap.size w W' := by
  have h1 : 1 ≤ n := by omega
  refine callsIn_of_wp_marks Tryd.func33 rfl trivial ?_ rfl
  simp only [Tryd.ntmps33, List.size_toArray, List.length_cons, List.length_nil, Nat.reduceAdd, Nat.reduceSub, Array.replicate_succ, Array.replicate_zero, List.push_toArray, List.append_toArray, List.nil_append, List.cons_append]
  gi_wp2_with (gi_at_call 47; refine (runs_in _ _ (n - 1) _).mono ?_; rintro e w' ⟨rfl, rfl⟩)
  have c0 := cell_new_l w (.int .i64 0) 3
  have c1 := cell_new_l (w.alloc (.cells #[.int .i64 0] 3)) (.bool false) 4
  have c2 := cell_new_l ((w.alloc (.cells #[.int .i64 0] 3)).alloc (.cells #[.bool false] 4)) (.string a) 9
  have c3 := cell_new_l (((w.alloc (.cells #[.int .i64 0] 3)).alloc (.cells #[.bool false] 4)).alloc (.cells #[.string a] 9)) (.string b) 9
  simp only [World.size_alloc] at c1 c2 c3
  have hB0 : Below w.heap.size w ((((w.alloc (.cells #[.int .i64 0] 3)).alloc (.cells #[.bool false] 4)).alloc (.cells #[.string a] 9)).alloc (.cells #[.string b] 9)) := ((((Below.refl _ w).alloc (Nat.le_refl _) _).alloc (by simp) _).alloc (by simp; omega) _).alloc (by simp; omega) _
  refine wpIn_rangeFunc_ownF rfl h1 (gf := 65) (lb := #[.pointer (some ⟨w.heap.size + 1 + 1, 0, none⟩), .pointer (some ⟨w.heap.size + 1 + 1 + 1, 0, none⟩)]) rfl trivial (enters_of Tryd.func65 (by kernel_rfl) rfl)
    (runs_stops a b ha hb (n - 1) (by omega) (w.heap.size + 1 + 1) (w.heap.size + 1 + 1 + 1) _ (by simp) (by simp) (cell_alloc_l _ c2.1) c3.1) Kc_t (Kc_b (by simp) (by simp)) (Below.refl _ _) (fun _ => rfl)
    (fun pre W => ((cl pre).1 = 0 ∧ W.cell? ⟨w.heap.size, 0, none⟩ = some (.int .i64 0) ∧ W.frozen? ⟨w.heap.size, 0, none⟩ = false ∧ W.cell? ⟨w.heap.size + 1, 0, none⟩ = some (.bool (cl pre).2) ∧ W.frozen? ⟨w.heap.size + 1, 0, none⟩ = false) ∧ Below w.heap.size w W)
    (fun c pre W => (c = .ret ∧ (cl pre).1 ≠ 0 ∧ W.cell? ⟨w.heap.size, 0, none⟩ = some (.int .i64 (cl pre).1)) ∧ Below w.heap.size w W)
    (OwnFrom.and (Own.from (fun s A B row hs hg hr => ⟨hs.1, cell_kept hs.2.1 hg hr, (frozen_kept hs.2.1 hg hr).trans hs.2.2.1, cell_kept hs.2.2.2.1 hg hr, (frozen_kept hs.2.2.2.1 hg hr).trans hs.2.2.2.2⟩) _) (ownFrom_below (Nat.le_refl _) (by simp; omega)))
    (fun c => OwnFrom.and (Own.from (fun s A B row hs hg hr => ⟨hs.1, hs.2.1, cell_kept hs.2.2 hg hr⟩) _) (ownFrom_below (Nat.le_refl _) (by simp; omega)))
    ⟨⟨rfl, cell_alloc_l _ (cell_alloc_l _ (cell_alloc_l _ c0.1)), frozen_alloc_l _ (cell_alloc_l _ (cell_alloc_l _ c0.1)) (frozen_alloc_l _ (cell_alloc_l _ c0.1) (frozen_alloc_l _ c0.1 c0.2)), cell_alloc_l _ (cell_alloc_l _ c1.1), frozen_alloc_l _ (cell_alloc_l _ c1.1) (frozen_alloc_l _ c1.1 c1.2)⟩, hB0⟩
    (fun x => { tmps := #[.string a, .string b, undef, undef, .pointer (some ⟨w.heap.size, 0, none⟩), .pointer (some ⟨w.heap.size + 1, 0, none⟩), .string x.1.1, .string x.1.2, undef, undef, .string a, .string b,
      .func (.func 65) #[] #[.pointer (some ⟨w.heap.size + 1 + 1, 0, none⟩), .pointer (some ⟨w.heap.size + 1 + 1 + 1, 0, none⟩)], .string x.1.1, .string x.1.2, undef, undef, undef, undef, undef, undef, undef, undef, undef, undef], defers := [] }) ?assign ?body ?done ?stop
  case assign =>
    intro l x W K hK
    gi_wp2
    exact hK
  case body =>
    rintro l pre x W ⟨⟨hz, hr0, hf0, hd0, hf1⟩, hB⟩ _
    have hzz := hide (clStep_hit (cl pre) x hz)
    have hzs := hide (clStep_zero (cl pre) x hz)
    have hsn := hide (cl_snoc pre x)
    have cW := hide (fun w => orderWords_any x.1.1 x.1.2 x.2.1 x.2.2 w)
    have cN := hide (fun w => orderNumbers_any x.1.1 x.1.2 x.2.1 x.2.2 w)
    clear hz
    cases hdg : (cl pre).2
    · rw [hdg] at hd0
      have hdH := hide hdg
      clear hdg
      by_cases hc : ordWord x.1.1 x.1.2 = 0
      · have h2 : (ordWord x.1.1 x.1.2 != 0) = false := by simp [hc]
        have HC := hide hc
        clear hc
        gi_wp2_with (refine ⟨fun _ => (by omega), ?_⟩; gi_at_call 48; refine (CallsIn.inRound l (callsIn_wide.2 (unhide cW _))).mono ?_; rintro e w' ⟨rfl, rfl⟩)
        have hq := unhide hzs (by rw [unhide hdH]; exact unhide HC)
        exact ⟨KeepsOthers.setCell _ _ _, Kc_set _ _ _ (by omega) (by omega), ⟨by rw [unhide hsn]; exact hq.1, (World.cell?_setCell_other _ _ _ _ (by simp)).trans hr0, by rw [World.frozen?_setCell]; exact hf0, by rw [unhide hsn, hq.2, unhide hdH]; exact World.cell?_setCell_same' _ _ _ (by rw [hd0]; rfl), by rw [World.frozen?_setCell]; exact hf1⟩, hB.setCell (p := ⟨w.heap.size + 1, 0, none⟩) (by simp) _⟩
      · have h2 : (ordWord x.1.1 x.1.2 != 0) = true := by simpa using hc
        have HC := hide hc
        clear hc
        gi_wp2_with (refine ⟨fun _ => (by omega), ?_⟩; gi_at_call 48; refine (CallsIn.inRound l (callsIn_wide.2 (unhide cW _))).mono ?_; rintro e w' ⟨rfl, rfl⟩)
        have hq : (cl (pre ++ [x])).1 = ordWord x.1.1 x.1.2 := by rw [unhide hsn, unhide hzz, unhide hdH]; rfl
        exact ⟨KeepsOthers.setCell _ _ _, ⟨rfl, by rw [hq]; exact unhide HC, by rw [hq]; exact World.cell?_setCell_same' _ _ _ (by rw [hr0]; rfl)⟩, hB.setCell (p := ⟨w.heap.size, 0, none⟩) (Nat.le_refl _) _⟩
    · rw [hdg] at hd0
      have hdH := hide hdg
      clear hdg
      by_cases hc : ordNum x.1.1 x.1.2 = 0
      · have h2 : (ordNum x.1.1 x.1.2 != 0) = false := by simp [hc]
        have HC := hide hc
        clear hc
        gi_wp2_with (refine ⟨fun _ => (by omega), ?_⟩; gi_at_call 31; refine (CallsIn.inRound l (callsIn_wide.2 (unhide cN _))).mono ?_; rintro e w' ⟨rfl, rfl⟩)
        have hq := unhide hzs (by rw [unhide hdH]; exact unhide HC)
        exact ⟨KeepsOthers.setCell _ _ _, Kc_set _ _ _ (by omega) (by omega), ⟨by rw [unhide hsn]; exact hq.1, (World.cell?_setCell_other _ _ _ _ (by simp)).trans hr0, by rw [World.frozen?_setCell]; exact hf0, by rw [unhide hsn, hq.2, unhide hdH]; exact World.cell?_setCell_same' _ _ _ (by rw [hd0]; rfl), by rw [World.frozen?_setCell]; exact hf1⟩, hB.setCell (p := ⟨w.heap.size + 1, 0, none⟩) (by simp) _⟩
      · have h2 : (ordNum x.1.1 x.1.2 != 0) = true := by simpa using hc
        have HC := hide hc
        clear hc
        gi_wp2_with (refine ⟨fun _ => (by omega), ?_⟩; gi_at_call 31; refine (CallsIn.inRound l (callsIn_wide.2 (unhide cN _))).mono ?_; rintro e w' ⟨rfl, rfl⟩)
        have hq : (cl (pre ++ [x])).1 = ordNum x.1.1 x.1.2 := by rw [unhide hsn, unhide hzz, unhide hdH]; rfl
        exact ⟨KeepsOthers.setCell _ _ _, ⟨rfl, by rw [hq]; exact unhide HC, by rw [hq]; exact World.cell?_setCell_same' _ _ _ (by rw [hr0]; rfl)⟩, hB.setCell (p := ⟨w.heap.size, 0, none⟩) (Nat.le_refl _) _⟩
  case done =>
    rintro D ys W hD ⟨N, rfl, hNa, hNb⟩ ⟨⟨hz, hr0, hf0, _, _⟩, hB⟩ hK
    have hfin := hide (ordPart_done a b N hNa hNb (by rw [cl_upto] at hz; exact hz))
    clear hz hNa hNb
    gi_wp2
    have hK' := (KeepsOthers.setCell W ⟨w.heap.size, 0, none⟩ (.int .i64 0)).same D _ hK rfl
    refine ⟨by simp, .inl ⟨_, _, rfl, run_takeDeferred hK', ?_⟩⟩
    have hc5 := cell_kept (World.cell?_setCell_same' W ⟨w.heap.size, 0, none⟩ (.int .i64 0) (by rw [hr0]; rfl)) (grownBy_putObj' _ D (.deferred none)) (fun r e => by cases e; exact ⟨_, hK', rfl⟩)
    refine ⟨.int .i64 0, ?_, by rw [unhide hfin], (hB.setCell (p := ⟨w.heap.size, 0, none⟩) (Nat.le_refl _) _).trans (belowK_b (w := w) (Nat.le_refl _) _ D _ _ (by simp at hD; omega) hK' rfl rfl)⟩
    simp [results, Tryd.f33, go_sem, hc5]
  case stop =>
    rintro D c pre W hD ⟨N, rfl⟩ ⟨⟨rfl, hne, hr0⟩, hB⟩ hK
    rw [cl_upto] at hne hr0
    have hfin := hide (ordPart_stop a b N hne)
    gi_wp2
    refine ⟨by simp, .inl ⟨_, _, rfl, run_takeDeferred hK, ?_⟩⟩
    have hc5 := cell_kept hr0 (grownBy_putObj' _ D (.deferred none)) (fun r e => by cases e; exact ⟨_, hK, rfl⟩)
    refine ⟨.int .i64 (sq (cp a b) N), ?_, by rw [unhide hfin], hB.trans (belowK_b (w := w) (Nat.le_refl _) W D _ _ (by simp at hD; omega) hK rfl rfl)⟩
    simp [results, Tryd.f33, go_sem, hc5]

theorem orderParts_any (a b : ByteArray) (ha : a.size ≤ maxLen) (hb : b.size ≤ maxLen) (w : World) :
    Calls Tryd.prog 33 #[.string a, .string b] w fun e W' => e = .returned (.int .i64 (ordPart a b)) ∧ Below w.heap.size w W' :=
  (callsIn_wide (n := 3)).1 (orderParts_in a b ha hb 3 (Nat.le_refl _) w)

end Go.Proofs.YtmckmeoondlcpaaDoor
