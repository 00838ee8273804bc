import Derived.Test.YtabjbppekijfiaaSvG
namespace Go.Proofs.Ytabjbppekijfiaa
open Go.RowKit

theorem set_blk {W : World} {g : Nat} {cur : Array Value} {t : TypeId} (h : W.heap[g]? = some (.cells cur t (0, 0))) (j : Nat) (u : Value) : (W.setCell ⟨g, j, none⟩ u).heap[g]? = some (.cells (cur.setIfInBounds j u) t (0, 0)) := by
  obtain ⟨hlt, hk⟩ := Array.getElem?_eq_some_iff.1 h
  show (W.heap.modify g _)[g]? = _
  rw [Array.getElem?_eq_getElem (by rw [Array.size_modify]; exact hlt), Array.getElem_modify_self, hk]
  rfl
theorem set_other (W : World) (g j : Nat) (u : Value) (k : Nat) (hk : k ≠ g) : (W.setCell ⟨g, j, none⟩ u).heap[k]? = W.heap[k]? := Below.heap_setCell W ⟨g, j, none⟩ u k hk
theorem set_size (W : World) (g j : Nat) (u : Value) : (W.setCell ⟨g, j, none⟩ u).heap.size = W.heap.size := by
  show (W.heap.modify g _).size = _
  rw [Array.size_modify]
theorem blk_ne {W : World} {g B : Nat} {c1 c2 : Array Value} {t1 t2 : TypeId} (ht : t1 ≠ t2) (h1 : W.heap[g]? = some (.cells c1 t1 (0, 0))) (h2 : W.heap[B]? = some (.cells c2 t2 (0, 0))) : B ≠ g := by
  rintro rfl
  rw [h1] at h2
  injection h2 with h2
  injection h2 with _ h2
  exact ht h2
/-- ROWS THAT MAY BE WRITTEN. -/
structure Wr (base B N : Nat) (ln g cp : Nat → Nat) (L : Nat → Nat → Int) (W : World) : Prop where
  blk : ∃ cur, W.heap[B]? = some (.cells cur 23 (0, 0)) ∧ (∀ k, k < N → cur[k]? = some (Hd g ln cp k))
  row : ∀ k, k < N → ∃ cur, W.heap[g k]? = some (.cells cur 3 (0, 0)) ∧ ∀ j, j < ln k → cur[j]? = some (.int .i64 (L k j))
  ge : ∀ k, k < N → base ≤ g k
  ne : ∀ i j, i < N → j < N → i ≠ j → g i ≠ g j
theorem Tw.wr {base B N cB : Nat} {ln g cp : Nat → Nat} {L : Nat → Nat → Int} {W : World} (h : Tw base B N cB ln g cp L W) : Wr base B N ln g cp L W := by
  obtain ⟨cur, h1, h2, _⟩ := h.blk
  refine ⟨⟨cur, h1, h2⟩, fun k hk => ?_, fun k hk => (h.row k hk).ge, h.ne⟩
  obtain ⟨c2, h3, h4, _⟩ := (h.row k hk).blk
  exact ⟨c2, h3, h4⟩
theorem Wr.later {base B N : Nat} {ln g cp : Nat → Nat} {L : Nat → Nat → Int} {W W2 : World} (h : Wr base B N ln g cp L W) (hb : Below W.heap.size W W2) : Wr base B N ln g cp L W2 := by
  obtain ⟨cur, h1, h2⟩ := h.blk
  refine ⟨⟨cur, (hb.block _ (blk_lt h1)).trans h1, h2⟩, fun k hk => ?_, h.ge, h.ne⟩
  obtain ⟨c2, h3, h4⟩ := h.row k hk
  exact ⟨c2, (hb.block _ (blk_lt h3)).trans h3, h4⟩
theorem Wr.congr {base B N : Nat} {ln g cp : Nat → Nat} {L L2 : Nat → Nat → Int} {W : World} (h : Wr base B N ln g cp L W) (e : ∀ k, k < N → ∀ j, j < ln k → L k j = L2 k j) : Wr base B N ln g cp L2 W :=
  ⟨h.blk, fun k hk => by obtain ⟨c2, h3, h4⟩ := h.row k hk; exact ⟨c2, h3, fun j hj => by rw [← e k hk j hj]; exact h4 j hj⟩, h.ge, h.ne⟩
theorem Wr.rr {base B N : Nat} {ln g cp : Nat → Nat} {L : Nat → Nat → Int} {W : World} (h : Wr base B N ln g cp L W) : Rr W (some ⟨B, 0, none⟩) N ln L := by
  obtain ⟨cur, h1, h2⟩ := h.blk
  refine ⟨fun k => some ⟨g k, 0, none⟩, cp, fun _ => ⟨B, 0, rfl, blk_lt h1, fun i hi => by rw [Nat.zero_add, (cell_blk h1 i).1]; exact h2 i hi⟩, fun k hk => ?_⟩
  obtain ⟨c2, h3, h4⟩ := h.row k hk
  exact fun _ => ⟨g k, 0, rfl, blk_lt h3, fun i hi => by rw [Nat.zero_add, (cell_blk h3 i).1]; exact h4 i hi⟩
theorem Wr.at {base B N : Nat} {ln g cp : Nat → Nat} {L : Nat → Nat → Int} {W : World} (h : Wr base B N ln g cp L W) {k : Nat} (hk : k < N) : W.cell? ⟨B, k, none⟩ = some (.slice (some ⟨g k, 0, none⟩) (ln k) (cp k)) ∧ (∀ j, j < ln k → W.cell? ⟨g k, j, none⟩ = some (.int .i64 (L k j))) ∧ (∀ j, W.frozen? ⟨g k, j, none⟩ = false) ∧ g k ≠ B ∧ g k < W.heap.size ∧ B < W.heap.size := by
  obtain ⟨cur, h1, h2⟩ := h.blk
  obtain ⟨c2, h3, h4⟩ := h.row k hk
  exact ⟨(cell_blk h1 k).1.trans (h2 k hk), fun j hj => (cell_blk h3 j).1.trans (h4 j hj), fun j => (cell_blk h3 j).2, (blk_ne (by decide) h1 h3), blk_lt h3, blk_lt h1⟩
theorem Wr.set {base B N : Nat} {ln g cp : Nat → Nat} {L : Nat → Nat → Int} {W : World} (h : Wr base B N ln g cp L W) {k j : Nat} (hk : k < N) (hj : j < ln k) (x : Int) :
    Wr base B N ln g cp (fun a b => if a = k ∧ b = j then x else L a b) (W.setCell ⟨g k, j, none⟩ (.int .i64 x)) ∧ Below base W (W.setCell ⟨g k, j, none⟩ (.int .i64 x)) := by
  obtain ⟨cur, h1, h2⟩ := h.blk
  obtain ⟨c2, h3, h4⟩ := h.row k hk
  refine ⟨⟨⟨cur, (set_other _ _ _ _ _ (blk_ne (by decide) h3 h1)).trans h1, h2⟩, fun a ha => ?_, h.ge, h.ne⟩, (Below.refl base W).setCell (p := ⟨g k, j, none⟩) (h.ge k hk) _⟩
  by_cases e : a = k
  · subst e
    refine ⟨_, set_blk h3 j _, fun b hb => ?_⟩
    by_cases e2 : b = j
    · subst e2
      have hlt := (Array.getElem?_eq_some_iff.1 (h4 b hb)).1
      simp [hlt]
    · simp only [e2, and_false, if_false]
      rw [Array.getElem?_setIfInBounds_ne (fun q => e2 q.symm)]
      exact h4 b hb
  · obtain ⟨c3, h5, h6⟩ := h.row a ha
    exact ⟨c3, (set_other _ _ _ _ _ (h.ne a k ha hk e)).trans h5, fun b hb => by simp only [e, false_and, if_false]; exact h6 b hb⟩
/-- THE OPPOSITE, BUT WHAT IS FAR. -/
def tn (x : Int) : Int := if -4611686018427387904 < x ∧ x < 4611686018427387904 then -x else x
def tL (L : Nat → Nat → Int) (i k a b : Nat) : Int := if a < i ∨ (a = i ∧ b < k) then tn (L a b) else L a b
/-- NOTHING BUT THESE IS TOUCHED. -/
def Ot (N : Nat) (g : Nat → Nat) (w W : World) : Prop := ∀ q, (∀ k, k < N → q ≠ g k) → W.heap[q]? = w.heap[q]?
theorem tL_zero (L : Nat → Nat → Int) : tL L 0 0 = L := by
  funext a b
  exact if_neg (by omega)
theorem tL_here (L : Nat → Nat → Int) (i k : Nat) : tL L i k i k = L i k := if_neg (by omega)
theorem tL_more (L : Nat → Nat → Int) (i k a b : Nat) : (if a = i ∧ b = k then tn (L i k) else tL L i k a b) = tL L i (k + 1) a b := by
  unfold tL
  by_cases e : a = i ∧ b = k
  · obtain ⟨rfl, rfl⟩ := e
    rw [if_pos ⟨rfl, rfl⟩, if_pos (by omega)]
  · rw [if_neg e]
    by_cases e2 : a < i ∨ (a = i ∧ b < k)
    · rw [if_pos e2, if_pos (by omega)]
    · rw [if_neg e2, if_neg (by omega)]
theorem tL_same (L : Nat → Nat → Int) (i k : Nat) (h : tn (L i k) = L i k) (a b : Nat) : tL L i k a b = tL L i (k + 1) a b := by
  rw [← tL_more]
  by_cases e : a = i ∧ b = k
  · obtain ⟨rfl, rfl⟩ := e
    rw [if_pos ⟨rfl, rfl⟩, h, tL_here]
  · rw [if_neg e]
set_option maxRecDepth 100000 in
set_option maxHeartbeats 2000000 in
theorem turned_any (base B N cB : Nat) (ln g cp : Nat → Nat) (L : Nat → Nat → Int) (w : World) (hN : N ≤ 17592186044416) (hm : ∀ k, k < N → ln k ≤ 17592186044416) (h : Wr base B N ln g cp L w) :
    Calls Try.prog 28 #[.slice (some ⟨B, 0, none⟩) N cB] w fun e w' => e = .returned (.tuple #[]) ∧ Wr base B N ln g cp (fun a b => tn (L a b)) w' ∧ Below base w w' ∧ Ot N g w w' := by
  have HW := hide h
  have HM := hide hm
  clear h hm
  go_enter Try.func28, Try.ntmps28
  go_wp2_with fail
  go_loopg [2, 3] N (fun g1 vi _ wr => ∃ (i : Nat), vi = .int .i64 i ∧ i ≤ N ∧ N - i ≤ g1 ∧ Hid (Wr base B N ln g cp (tL L i 0) wr) ∧ Hid (Below base w wr) ∧ Hid (Ot N g w wr))
  case atStart => exact ⟨0, by go_num, by omega, by omega, by rw [tL_zero]; exact HW, hide (Below.refl _ _), hide fun _ _ => rfl⟩
  case round =>
    clear HW
    obtain ⟨i, rfl, hi, hg1, HW, HB, HO⟩ := hrel
    by_cases hlt : i < N
    · have hml := unhide HM i hlt
      go_wp2_with fail
      go_loopg [3] (ln i) (fun g2 vk wr => ∃ (k : Nat), vk = .int .i64 k ∧ k ≤ ln i ∧ ln i - k ≤ g2 ∧ Hid (Wr base B N ln g cp (tL L i k) wr) ∧ Hid (Below base w wr) ∧ Hid (Ot N g w wr))
      case atStart => exact ⟨0, by go_num, by omega, by omega, HW, HB, HO⟩
      case round =>
        clear HW HB HO
        obtain ⟨k, rfl, hk, hg2, HW, HB, HO⟩ := hrel
        obtain ⟨a1, a2, a3, a4, a5, a6⟩ := (unhide HW).at hlt
        by_cases hlk : k < ln i
        · have ck := a2 k hlk
          have fk := a3 k
          rw [tL_here] at ck
          have HST := hide (fun x => (unhide HW).set hlt hlk x)
          have HTN := hide (show (-4611686018427387904 < L i k ∧ L i k < 4611686018427387904) → tn (L i k) = -(L i k) from fun h => if_pos h)
          have HTS := hide (show ¬ (-4611686018427387904 < L i k ∧ L i k < 4611686018427387904) → ∀ a b, tL L i k a b = tL L i (k + 1) a b from fun h => tL_same L i k (if_neg h))
          have HTM := hide (tL_more L i k)
          have HN : Hid (∀ x, x = ln i → k < x → k + 1 ≤ ln i) := fun x e h => by omega
          clear a2 a3
          generalize hl : ln i = l1 at *
          generalize hq : L i k = q at *
          have HL1 := hide hl
          clear hl
          by_cases hr : -4611686018427387904 < q ∧ q < 4611686018427387904
          · obtain ⟨r1, r2⟩ := hr
            have HX := hide (show Wr base B N ln g cp (fun a b => if a = i ∧ b = k then -q else tL L i k a b) (wr.setCell ⟨g i, k, none⟩ (.int .i64 (-q))).drew ∧ Below base wr (wr.setCell ⟨g i, k, none⟩ (.int .i64 (-q))).drew from ⟨(unhide HST (-q)).1.later ((Below.refl _ _).drew), (unhide HST (-q)).2.drew⟩)
            have HE := hide (unhide HTN ⟨r1, r2⟩)
            have HO2 := hide (show Ot N g w (wr.setCell ⟨g i, k, none⟩ (.int .i64 (-q))).drew from fun y hy => (set_other wr (g i) k _ y (hy i hlt)).trans (unhide HO y hy))
            clear HST HTN HTS
            go_wp2_with fail
            go_big_region
            generalize (wr.setCell ⟨g i, k, none⟩ (.int .i64 (-q))).drew = w2 at HX HO2 ⊢
            go_wp2
            go_roundg (l1 - (k + 1))
            case measure => omega
            case rel => exact ⟨k + 1, by go_num, by omega, by omega, hide ((unhide HX).1.congr fun a _ b _ => by rw [← unhide HTM, unhide HE]), hide ((unhide HB).trans (unhide HX).2), HO2⟩
          · have HE := hide (unhide HTS hr)
            by_cases r1 : -4611686018427387904 < q
            · have r2 : ¬ q < 4611686018427387904 := fun h => hr ⟨r1, h⟩
              clear hr HST HTN HTS
              go_wp2
              go_roundg (l1 - (k + 1))
              case measure => omega
              case rel => exact ⟨k + 1, by go_num, by omega, by omega, hide ((unhide HW).congr fun a _ b _ => unhide HE a b), HB, HO⟩
            · clear hr HST HTN HTS
              go_wp2
              go_roundg (l1 - (k + 1))
              case measure => omega
              case rel => exact ⟨k + 1, by go_num, by omega, by omega, hide ((unhide HW).congr fun a _ b _ => unhide HE a b), HB, HO⟩
        · have HW2 := hide ((unhide HW).congr (L2 := tL L (i + 1) 0) fun a ha b hb => by
            unfold tL
            by_cases e : a = i
            · subst e; rw [if_pos (by omega), if_pos (by omega)]
            · by_cases e2 : a < i
              · rw [if_pos (by omega), if_pos (by omega)]
              · rw [if_neg (by omega), if_neg (by omega)])
          clear a2 a3 HW
          generalize ln i = l1 at *
          go_wp2
          go_roundg (N - (i + 1))
          case measure => omega
          case rel => exact ⟨i + 1, by go_num, by omega, by omega, HW2, HB, HO⟩
    · have HW2 := hide ((unhide HW).congr (L2 := fun a b => tn (L a b)) fun a ha b hb => if_pos (by omega))
      go_wp2
      go_end0
      exact ⟨rfl, unhide HW2, unhide HB, unhide HO⟩
end Go.Proofs.Ytabjbppekijfiaa
