import Derived.Test.YtfnbclehlikbkaaIter2
import Derived.Laws.IdiomStrings
import Derived.Maps.AppendAt
import Derived.RangeFuncBox
import Derived.Deep.QuietTactic
import Derived.BigQuiet
import Derived.Deep.RegionWith
import Derived.Deep.Onto
namespace Go.Proofs.Ytfnbclehlikbkaa
open Go.RowKit Go.Shelf
attribute [local go_sem] Oper.semAt_some
attribute [local simp] wide_fn
attribute [local go_sem] wide_fn

theorem cell_of_box_l {W : World} {B : Nat} {v : Value} {t : TypeId} (h : W.heap[B]? = some (.cells #[v] t (0, 0))) : W.cell? ⟨B, 0, none⟩ = some v ∧ W.frozen? ⟨B, 0, none⟩ = false := by
  constructor <;> simp [World.cell?, World.frozen?, h]
theorem cell_new_l (W : World) (v : Value) (t : TypeId) : (W.alloc (.cells #[v] t)).cell? ⟨W.heap.size, 0, none⟩ = some v ∧ (W.alloc (.cells #[v] t)).frozen? ⟨W.heap.size, 0, none⟩ = false := by
  exact cell_of_box_l (World.alloc_heap_new W _)
theorem cell_alloc_l {W : World} {a : Addr} {v : Value} (o : Obj) (h : W.cell? a = some v) : (W.alloc o).cell? a = some v := cell_kept h (World.grownBy_alloc W o none) (fun r e => by cases e)
theorem frozen_alloc_l {W : World} {a : Addr} {v : Value} (o : Obj) (h : W.cell? a = some v) (hf : W.frozen? a = false) : (W.alloc o).frozen? a = false := (frozen_kept h (World.grownBy_alloc W o none) (fun r e => by cases e)).trans hf

theorem Kc_t {Ba Bb : Nat} {A B C : World} (h : Kc Ba Bb A B) (k : Kc Ba Bb B C) : Kc Ba Bb A C := ⟨k.1.trans h.1, k.2.trans h.2⟩
theorem Kc_b {Ba Bb : Nat} {w : World} (ha : Ba < w.heap.size) (hb : Bb < w.heap.size) (W : World) (l : Nat) (o o' : Obj) (hl : w.heap.size ≤ l) (_h : W.heap[l]? = some o) (_h2 : o.isCells = false) (_h3 : o.isWalk = false) : Kc Ba Bb W (W.putObj l o') := by
  refine ⟨?_, ?_⟩
  · show (W.heap.setIfInBounds l o')[Ba]? = _
    rw [Array.getElem?_setIfInBounds_ne (by omega)]
  · show (W.heap.setIfInBounds l o')[Bb]? = _
    rw [Array.getElem?_setIfInBounds_ne (by omega)]
theorem info9 : (Try.prog.info? 9).map (fun i => (i.zero, i.size, i.bytes)) = some (some (.string ⟨#[]⟩), 1, 16) := by kernel_rfl

/-- THE FIRST N RUNS, AS CELLS. -/
def segL (s : ByteArray) (N : Nat) : List Value := (List.range N).map fun i => Value.string (runOf s i)
def fsts (pre : List Run2) : List Value := pre.map fun x => Value.string x.1.1
theorem fsts_upto (a b : ByteArray) (ha : a.size ≤ maxLen) (hb : b.size ≤ maxLen) (N : Nat) : fsts (upto a b ha hb N) = segL a N := by
  unfold fsts upto segL
  rw [List.map_map]
  rfl
theorem fsts_snoc (pre : List Run2) (x : Run2) : fsts (pre ++ [x]) = fsts pre ++ [.string x.1.1] := by simp [fsts]
theorem ia_nob (N : Nat) : ia nob N = 0 := by
  have := ia_le nob N
  have e : nob.size = 0 := rfl
  omega
theorem nob_small : nob.size ≤ maxLen := Nat.zero_le _

/-- 'list = append(list, run)': WHAT IS KEPT OF BLOCKS BELOW THE ROW. -/
theorem row_app {W w1 : World} {base B : Nat} {v v' : Value} {k m : Nat} {xs ys : List Value} {tmp : Obj}
    (hv : Boxed W B 22 v) (hB : B < base) (hrow : W.ownsRow base 9 1 v k xs) (hbase : base ≤ W.heap.size)
    (hown' : w1.ownsRow base 9 1 v' m ys) (hgrow : (W.alloc tmp).grownBy w1 v.ownBlock) :
    (w1.setCell ⟨B, 0, none⟩ v').ownsRow base 9 1 v' m ys ∧ ∀ k, k < base → k ≠ B → (w1.setCell ⟨B, 0, none⟩ v').heap[k]? = W.heap[k]? := by
  have hB1 : Below base W w1 := ((Below.refl base W).alloc hbase tmp).grown hgrow (by simp; omega) fun j ej => by
    rcases hrow.2 with ⟨rfl, _⟩ | ⟨g, cap, cur, rfl, hb, _, _⟩
    · simp [Value.ownBlock] at ej
    · obtain rfl : g = j := by simpa [Value.ownBlock] using ej
      exact hb
  refine ⟨hown'.kept (grownBy_setCell' w1 B v') (.inr ?_), fun k hk hkB => ?_⟩
  · intro e
    rcases hown'.2 with ⟨rfl, _⟩ | ⟨g, cap, cur, rfl, hb, _, _⟩
    · simp [Value.ownBlock] at e
    · obtain rfl : g = B := by simpa [Value.ownBlock] using e
      omega
  · rw [Below.heap_setCell _ ⟨B, 0, none⟩ _ k hkB]
    exact hB1.block k hk

set_option maxRecDepth 100000 in
set_option maxHeartbeats 2000000 in
theorem Segments_in (a : ByteArray) (ha : a.size ≤ 1048584) (n : Nat) (hn : 3 ≤ n) (w : World) :
    CallsIn Fence.wide n Try.prog 6 #[.string a] w fun e W' => ∃ (v : Value) (N : Nat), e = .returned v ∧ ia a N = a.size ∧ (∀ M, M < N → ia a M < a.size) ∧ N ≤ 2 * a.size + 1 ∧ W'.ownsRow w.heap.size 9 1 v N (segL a N) ∧ Below w.heap.size w W' := by
  have h1 : 1 ≤ n := by omega
  have ha' : a.size ≤ maxLen := by unfold maxLen; omega
  obtain ⟨i0, hi, hz0, hz1, hz2⟩ := info_parts info9
  refine callsIn_of_wp_marks Try.func6 rfl trivial ?_ rfl
  simp only [Try.ntmps6, List.size_toArray, List.length_cons, List.length_nil, Nat.reduceAdd, Nat.reduceSub, Array.replicate_succ, Array.replicate_zero, List.push_toArray, List.append_toArray, List.nil_append, List.cons_append]
  gi_wp2_with (gi_at_call 17; refine (runs_in _ _ (n - 1) _).mono ?_; rintro e w' ⟨rfl, rfl⟩)
  have c0 := Boxed.new w 22 (.slice none 0 0)
  have c2 := cell_new_l (w.alloc (.cells #[.slice none 0 0] 22)) (.string a) 9
  have c3 := cell_new_l ((w.alloc (.cells #[.slice none 0 0] 22)).alloc (.cells #[.string a] 9)) (.string nob) 9
  simp only [World.size_alloc] at c2 c3
  have hB0 : Below w.heap.size w (((w.alloc (.cells #[.slice none 0 0] 22)).alloc (.cells #[.string a] 9)).alloc (.cells #[.string nob] 9)) := (((Below.refl _ w).alloc (Nat.le_refl _) _).alloc (by simp) _).alloc (by simp; omega) _
  refine wpIn_rangeFunc_ownF rfl h1 (gf := 25) (lb := #[.pointer (some ⟨w.heap.size + 1, 0, none⟩), .pointer (some ⟨w.heap.size + 1 + 1, 0, none⟩)]) rfl trivial (enters_of Try.func25 (by kernel_rfl) rfl)
    (runs_stops_min a nob ha' nob_small (n - 1) (by omega) (w.heap.size + 1) (w.heap.size + 1 + 1) _ (by simp) (by simp) (cell_alloc_l _ c2.1) c3.1) Kc_t (Kc_b (by simp) (by simp)) (Below.refl _ _) (fun _ => rfl)
    (fun pre W => (∃ v, Boxed W w.heap.size 22 v ∧ W.ownsRow (w.heap.size + 3) 9 1 v pre.length (fsts pre) ∧ True) ∧ Below w.heap.size (((w.alloc (.cells #[.slice none 0 0] 22)).alloc (.cells #[.string a] 9)).alloc (.cells #[.string nob] 9)) W)
    (fun _ _ _ => False)
    (OwnFrom.and (Own.from (holdsRow_own (w.heap.size + 3) w.heap.size 22 9 1 List.length fsts (fun _ _ => True)) _) (ownFrom_below (by simp; omega) (by simp; omega)))
    (fun _ _ _ _ _ hs _ _ => hs)
    ⟨⟨.slice none 0 0, (c0.alloc _).alloc _, World.ownsRow_nil _ _ _ _, trivial⟩, Below.refl _ _⟩
    (fun x => { tmps := #[.string a, undef, .slice none 0 0, .pointer (some ⟨w.heap.size, 0, none⟩), .string x.1.1, .string a, .func (.func 25) #[] #[.pointer (some ⟨w.heap.size + 1, 0, none⟩), .pointer (some ⟨w.heap.size + 1 + 1, 0, none⟩)], .string x.1.1, .string x.1.2, undef, undef, undef, undef, undef], defers := [] }) ?assign ?body ?done ?stop
  case assign =>
    intro l x W K hK
    gi_wp2
    exact hK
  case body =>
    rintro l pre x W ⟨⟨v, hv, hrow, _⟩, hB⟩ hlen
    have hz := hB.size
    simp only [World.size_alloc] at hz
    have hlen' : pre.length < 2 * a.size + 1 := by
      have e : nob.size = 0 := rfl
      omega
    have hc := hv.cell
    have hf := hv.frozen
    gi_wp2_with (gi_at_builtin; refine wpListIn_append_own _ rfl _ _ 22 rfl (w.heap.size + 3) 9 i0 (.string ⟨#[]⟩) 1 16 Try.underlying22 hi hz0 hz1 hz2 rfl (by decide) _ _ _ rfl (hrow.alloc _) ⟨W.heap.size, 0, none⟩ 1 1 [.string x.1.1] rfl rfl (cell_one_new _ _ _) (by simp [Value.oneCell']) (by unfold maxLen; omega) (by omega) (by simp; omega) ?_; intro v' w3 hown' hg3 _
                 obtain ⟨g', cap', rfl⟩ := ownsRow_succ hown'
                 have hA := hide (row_app hv (by omega) hrow (by omega) hown' hg3)
                 have hA2 := hv.appended (by decide) (hrow.mono (base' := w.heap.size) (by omega)) (by omega) (Nat.le_refl _) (hown'.mono (base' := w.heap.size) (by omega)) hg3
                 have hc3 := hA2.1.cell
                 have hf3 := hA2.1.frozen
                 have HA2 := hide hA2
                 clear hA2 hown' hg3)
    obtain ⟨hb1, hb2, hb3, hk, hbel⟩ := unhide HA2
    obtain ⟨hr1, hr2⟩ := unhide hA
    exact ⟨hk, ⟨hr2 _ (by omega) (by omega), hr2 _ (by omega) (by omega)⟩, ⟨_, hb2, by rw [List.length_append, fsts_snoc]; exact hr1, trivial⟩, hB.trans hbel⟩
  case done =>
    rintro D ys W hD ⟨N, rfl, hNa, hNb, hBef⟩ ⟨⟨v, hv, hrow, _⟩, hB⟩ hK
    rw [upto_length, fsts_upto] at hrow
    have hc := hv.cell
    have hz := hB.size
    simp only [World.size_alloc] at hz
    have HN := hide hNa
    have HBef := hide hBef
    clear hNa hNb hBef
    gi_wp2
    have hBef2 : ∀ M, M < N → ia a M < a.size := fun M hM => by
      rcases unhide HBef M hM with h | h
      · exact h
      · exact absurd h (Nat.not_lt_zero _)
    have hN2 : N ≤ 2 * a.size + 1 := by
      by_cases h : 2 * a.size < N
      · have h3 := hBef2 (2 * a.size) h
        have h4 := ia_done a (2 * a.size) (Nat.le_refl _)
        omega
      · omega
    refine ⟨by simp, .inl ⟨_, _, rfl, run_takeDeferred hK, ?_⟩⟩
    exact ⟨_, results_tmp rfl _ _ _, _, N, rfl, unhide HN, hBef2, hN2, (ownsRow_putObj hrow _ hK rfl).mono (by omega), (hB0.trans hB).trans (belowK_b (w := w) (Nat.le_refl _) W D _ _ (by simp at hD; omega) hK rfl rfl)⟩
  case stop =>
    rintro D c pre W _ _ h _
    exact h.elim

theorem Segments_any (a : ByteArray) (ha : a.size ≤ 1048584) (w : World) :
    Calls Try.prog 6 #[.string a] w fun e W' => ∃ (v : Value) (N : Nat), e = .returned v ∧ ia a N = a.size ∧ (∀ M, M < N → ia a M < a.size) ∧ N ≤ 2 * a.size + 1 ∧ W'.ownsRow w.heap.size 9 1 v N (segL a N) ∧ Below w.heap.size w W' :=
  (callsIn_wide (n := 3)).1 (Segments_in a ha 3 (Nat.le_refl _) w)

end Go.Proofs.Ytfnbclehlikbkaa
