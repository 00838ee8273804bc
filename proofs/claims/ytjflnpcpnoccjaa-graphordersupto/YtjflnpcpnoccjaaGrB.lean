import Derived.Test.YtjflnpcpnoccjaaGrA
import Derived.Deep.Cut
namespace Go.Proofs.Ytjflnpcpnoccjaa
open Go.RowKit

/-- ROWS IN NEW MEMORY SO FAR. -/
structure Ti (w : World) (k : Nat) (ov : Value) (ln g cp : Nat → Nat) (L : Nat → Nat → Int) (W : World) : Prop where
  own : W.ownsRow w.heap.size 23 1 ov k (vl k fun j => .slice (some ⟨g j, 0, none⟩) (ln j) (cp j))
  row : ∀ j, j < k → Mk w.heap.size (g j) (ln j) (cp j) (L j) W
  ne : ∀ i j, i < k → j < k → i ≠ j → g i ≠ g j
  bel : Below w.heap.size w W
theorem Ti.later {w : World} {k : Nat} {ov : Value} {ln g cp : Nat → Nat} {L : Nat → Nat → Int} {W W2 : World} (h : Ti w k ov ln g cp L W) (hb : Below W.heap.size W W2) : Ti w k ov ln g cp L W2 :=
  ⟨owns_below h.own hb, fun j hj => (h.row j hj).later hb, h.ne, bl_t h.bel hb⟩
theorem Ti.start (w : World) (ln : Nat → Nat) (L : Nat → Nat → Int) : Ti w 0 (.slice none 0 0) ln (fun _ => 0) (fun _ => 0) L w :=
  ⟨World.ownsRow_nil _ _ _ _, fun _ hj => absurd hj (Nat.not_lt_zero _), fun _ _ hi => absurd hi (Nat.not_lt_zero _), Below.refl _ _⟩
/-- A block of numbers is none of a row of slices. -/
theorem mk_ne {W : World} {b1 b2 g n cap m : Nat} {f : Nat → Int} {v : Value} {xs : List Value} (h : Mk b1 g n cap f W) (k : W.ownsRow b2 23 1 v m xs) : some g ≠ v.ownBlock := by
  obtain ⟨cur, h1, _⟩ := h.blk
  rcases k.2 with ⟨rfl, _⟩ | ⟨g', cap', cur', rfl, _, hg', _⟩
  · simp [Value.ownBlock]
  · intro e
    obtain rfl : g = g' := by simpa [Value.ownBlock] using e
    rw [h1] at hg'
    injection hg' with h1
    injection h1 with _ h2
    exact absurd h2 (by decide)
theorem Ti.more {w : World} {k : Nat} {ov ov2 : Value} {ln g cp : Nat → Nat} {L : Nat → Nat → Int} {W W1 W2 W3 : World} {gn cn : Nat} (h : Ti w k ov ln g cp L W) (hb : Below W.heap.size W W1) (hm : Mk W.heap.size gn (ln k) cn (L k) W1)
    (h2 : W2 = W1.alloc (.cells #[.slice (some ⟨gn, 0, none⟩) (ln k) cn] 23)) (ho : W3.ownsRow w.heap.size 23 1 ov2 (k + 1) ((vl k fun j => .slice (some ⟨g j, 0, none⟩) (ln j) (cp j)) ++ [.slice (some ⟨gn, 0, none⟩) (ln k) cn])) (hg : W2.grownBy W3 ov.ownBlock) :
    Ti w (k + 1) ov2 ln (fun j => if j = k then gn else g j) (fun j => if j = k then cn else cp j) L W3 := by
  subst h2
  have hb2 := (Below.refl W1.heap.size W1).alloc (Nat.le_refl _) (.cells #[.slice (some ⟨gn, 0, none⟩) (ln k) cn] 23)
  have h6 := (h.later hb).later hb2
  have hm6 := hm.later hb2
  refine ⟨?_, fun j hj => ?_, fun i j hi hj hij => ?_, ?_⟩
  · rw [vl_succ]
    simp only [if_pos]
    rw [vl_congr (G := fun j => .slice (some ⟨g j, 0, none⟩) (ln j) (cp j)) (fun j hj => by rw [if_neg (by omega), if_neg (by omega)])]
    exact ho
  · by_cases e : j = k
    · subst e
      simp only [if_pos]
      have := hm6.same (hg.block gn hm6.lt (mk_ne hm6 h6.own))
      exact ⟨this.blk, Nat.le_trans h.bel.size this.ge, this.cap⟩
    · simp only [if_neg e]
      have h7 := h6.row j (by omega)
      exact h7.same (hg.block _ h7.lt (mk_ne h7 h6.own))
  · by_cases e1 : i = k
    · subst e1
      simp only [if_pos, if_neg (fun q => hij q.symm : ¬ j = i)]
      have a := (h.row j (by omega)).lt
      have b := hm.ge
      omega
    · by_cases e2 : j = k
      · subst e2
        simp only [if_pos, if_neg e1]
        have a := (h.row i (by omega)).lt
        have b := hm.ge
        omega
      · simp only [if_neg e1, if_neg e2]
        exact h.ne i j (by omega) (by omega) hij
  · exact h6.bel.grown hg h6.bel.size (fun j e => (h6.own.lt j e).1)
/-- ROWS IN NEW MEMORY, MARKS BEHIND THEM. -/
structure Tw (base B N cB : Nat) (ln g cp : Nat → Nat) (L : Nat → Nat → Int) (W : World) : Prop where
  blk : ∃ cur, W.heap[B]? = some (.cells cur 23 (0, 0)) ∧ (∀ k, k < N → cur[k]? = some (.slice (some ⟨g k, 0, none⟩) (ln k) (cp k))) ∧ ∃ x y, cur[N]? = some (.slice (some ⟨x, 0, none⟩) 1 1) ∧ cur[N + 1]? = some (.slice (some ⟨y, 0, none⟩) 1 1) ∧ W.heap[x]? = some (.cells #[.int .i64 7003] 3 (0, 0)) ∧ W.heap[y]? = some (.cells #[.int .i64 7004] 3 (0, 0))
  ge : base ≤ B
  cap : N + 2 ≤ cB
  row : ∀ k, k < N → Mk base (g k) (ln k) (cp k) (L k) W
  ne : ∀ i j, i < N → j < N → i ≠ j → g i ≠ g j
theorem Tw.lt {base B N cB : Nat} {ln g cp : Nat → Nat} {L : Nat → Nat → Int} {W : World} (h : Tw base B N cB ln g cp L W) : B < W.heap.size := by
  obtain ⟨cur, h1, _⟩ := h.blk
  exact blk_lt h1
theorem Tw.later {base B N cB : Nat} {ln g cp : Nat → Nat} {L : Nat → Nat → Int} {W W2 : World} (h : Tw base B N cB ln g cp L W) (hb : Below W.heap.size W W2) : Tw base B N cB ln g cp L W2 := by
  obtain ⟨cur, h1, h2, x, y, h3, h4, h5, h6⟩ := h.blk
  exact ⟨⟨cur, (hb.block _ (blk_lt h1)).trans h1, h2, x, y, h3, h4, (hb.block _ (blk_lt h5)).trans h5, (hb.block _ (blk_lt h6)).trans h6⟩, h.ge, h.cap, fun k hk => (h.row k hk).later hb, h.ne⟩
theorem Tw.rr {base B N cB : Nat} {ln g cp : Nat → Nat} {L : Nat → Nat → Int} {W : World} (h : Tw base B N cB ln g cp L W) : Rr W (some ⟨B, 0, none⟩) N ln L := by
  obtain ⟨cur, h1, h2, _⟩ := h.blk
  exact ⟨fun k => some ⟨g k, 0, none⟩, cp, fun _ => ⟨B, 0, rfl, blk_lt h1, fun i hi => by rw [Nat.zero_add, (cell_blk h1 i).1]; exact h2 i hi⟩, fun k hk => (h.row k hk).ri⟩
theorem heap_new (W : World) (o : Obj) : (W.alloc o).heap[W.heap.size]? = some o := by
  show (W.heap.push o)[W.heap.size]? = some o
  simp
theorem heap_old (W : World) (o : Obj) (k : Nat) (hk : k < W.heap.size) : (W.alloc o).heap[k]? = W.heap[k]? := ((Below.refl W.heap.size W).alloc (Nat.le_refl _) o).block k hk
theorem cells_two (W : World) : ∀ j u, ([.slice (some ⟨W.heap.size, 0, none⟩) 1 1, .slice (some ⟨W.heap.size + 1, 0, none⟩) 1 1] : List Value)[j]? = some u →
    (((W.alloc (.cells #[.int .i64 7003] 3)).alloc (.cells #[.int .i64 7004] 3)).alloc (.cells #[.slice (some ⟨W.heap.size, 0, none⟩) 1 1, .slice (some ⟨W.heap.size + 1, 0, none⟩) 1 1] 23)).cell? ((⟨W.heap.size + 1 + 1, 0, none⟩ : Addr).add j) = some u := fun j u hj => by
  have hb : (((W.alloc (.cells #[.int .i64 7003] 3)).alloc (.cells #[.int .i64 7004] 3)).alloc (.cells #[.slice (some ⟨W.heap.size, 0, none⟩) 1 1, .slice (some ⟨W.heap.size + 1, 0, none⟩) 1 1] 23)).heap[W.heap.size + 1 + 1]? = some (.cells #[.slice (some ⟨W.heap.size, 0, none⟩) 1 1, .slice (some ⟨W.heap.size + 1, 0, none⟩) 1 1] 23) := by
    rw [show W.heap.size + 1 + 1 = ((W.alloc (.cells #[.int .i64 7003] 3)).alloc (.cells #[.int .i64 7004] 3)).heap.size from by simp]
    exact heap_new _ _
  rw [Addr.add_mid, Nat.zero_add, (cell_blk hb j).1]
  simpa using hj
theorem Ti.fin {w : World} {N : Nat} {ov : Value} {ln g cp : Nat → Nat} {L : Nat → Nat → Int} {W W2 : World} {B cB : Nat} (h : Ti w N ov ln g cp L W)
    (ho : W2.ownsRow w.heap.size 23 1 (.slice (some ⟨B, 0, none⟩) (N + 2) cB) (N + 2) ((vl N fun j => .slice (some ⟨g j, 0, none⟩) (ln j) (cp j)) ++ [.slice (some ⟨W.heap.size, 0, none⟩) 1 1, .slice (some ⟨W.heap.size + 1, 0, none⟩) 1 1]))
    (hg : (((W.alloc (.cells #[.int .i64 7003] 3)).alloc (.cells #[.int .i64 7004] 3)).alloc (.cells #[.slice (some ⟨W.heap.size, 0, none⟩) 1 1, .slice (some ⟨W.heap.size + 1, 0, none⟩) 1 1] 23)).grownBy W2 ov.ownBlock) :
    Tw w.heap.size B N cB ln g cp L W2 ∧ Below w.heap.size w W2 := by
  have hh := ((h.later ((Below.refl W.heap.size W).alloc (Nat.le_refl _) (.cells #[.int .i64 7003] 3))).later ((Below.refl _ _).alloc (Nat.le_refl _) (.cells #[.int .i64 7004] 3))).later ((Below.refl _ _).alloc (Nat.le_refl _) (.cells #[.slice (some ⟨W.heap.size, 0, none⟩) 1 1, .slice (some ⟨W.heap.size + 1, 0, none⟩) 1 1] 23))
  obtain ⟨cur, q1, q2⟩ := owns_blk ho
  have hl := vl_len N fun j => Value.slice (some ⟨g j, 0, none⟩) (ln j) (cp j)
  have hx : ∀ k, W.heap.size ≤ k → some k ≠ ov.ownBlock := fun k hk e => by
    have := (h.own.lt k e.symm).2
    omega
  have b1 : (((W.alloc (.cells #[.int .i64 7003] 3)).alloc (.cells #[.int .i64 7004] 3)).alloc (.cells #[.slice (some ⟨W.heap.size, 0, none⟩) 1 1, .slice (some ⟨W.heap.size + 1, 0, none⟩) 1 1] 23)).heap[W.heap.size]? = some (.cells #[.int .i64 7003] 3) := by
    rw [heap_old _ _ _ (by simp; omega), heap_old _ _ _ (by simp), heap_new]
  have b2 : (((W.alloc (.cells #[.int .i64 7003] 3)).alloc (.cells #[.int .i64 7004] 3)).alloc (.cells #[.slice (some ⟨W.heap.size, 0, none⟩) 1 1, .slice (some ⟨W.heap.size + 1, 0, none⟩) 1 1] 23)).heap[W.heap.size + 1]? = some (.cells #[.int .i64 7004] 3) := by
    rw [heap_old _ _ _ (by simp), show W.heap.size + 1 = (W.alloc (.cells #[.int .i64 7003] 3)).heap.size from by simp]
    exact heap_new _ _
  refine ⟨⟨⟨cur, q1, fun k hk => q2 k _ (by rw [List.getElem?_append_left (by omega)]; exact vl_at N _ k hk), W.heap.size, W.heap.size + 1, q2 N _ (by rw [List.getElem?_append_right (by omega), hl]; simp), q2 (N + 1) _ (by rw [List.getElem?_append_right (by omega), hl]; simp), ?_, ?_⟩, (ho.lt B rfl).1, owns_cap ho, fun k hk => ?_, h.ne⟩, hh.bel.grown hg hh.bel.size (fun j e => (hh.own.lt j e).1)⟩
  · rw [hg.block _ (blk_lt b1) (hx _ (Nat.le_refl _))]; exact b1
  · rw [hg.block _ (blk_lt b2) (hx _ (by omega))]; exact b2
  · have h7 := hh.row k hk
    exact h7.same (hg.block _ h7.lt (mk_ne h7 hh.own))
set_option maxRecDepth 100000 in
set_option maxHeartbeats 2000000 in
theorem twin_any (N : Nat) (ln : Nat → Nat) (L : Nat → Nat → Int) (pa : Option Addr) (c : Nat) (w : World) (hN : N * 24 ≤ 140737488351232) (hm : ∀ k, k < N → ln k * 8 ≤ 140737488351232) (h : Rr w pa N ln L) :
    Calls Try.prog 10 #[.slice pa N c] w fun x w' => ∃ B cB g cp, x = .returned (.slice (some ⟨B, 0, none⟩) N cB) ∧ Tw w.heap.size B N cB ln g cp L w' ∧ Below w.heap.size w w' := by
  obtain ⟨i0, hi0, hz0, hz1, hz2⟩ := info_parts infoL
  have HR := hide h
  have HM := hide hm
  have c1 := hide (fun k (hk : k < N) pa c w (h : Ri w pa (ln k) (L k)) => lent_any (ln k) (L k) pa c w (hm k hk) h)
  clear h hm
  go_enter Try.func10, Try.ntmps10
  go_wp2
  go_loopg [3, 4] N (fun g1 va vi wr => ∃ (k : Nat) (g cp : Nat → Nat), vi = .int .i64 k ∧ k ≤ N ∧ N - k ≤ g1 ∧ Hid (Ti w k va ln g cp L wr))
  case atStart => exact ⟨0, _, _, by go_num, by omega, by omega, hide (Ti.start w ln L)⟩
  case round =>
    obtain ⟨k, g, cp, rfl, hk, hg1, HA⟩ := hrel
    obtain ⟨aa, ac, hva⟩ := owns_form (unhide HA).own
    subst hva
    by_cases hlt : k < N
    · obtain ⟨b, o, ca, cc, rfl, hc, hri⟩ := ((unhide HR).later (unhide HA).bel).at hlt
      have c2 := hide (unhide c1 k hlt ca cc wr hri)
      have hsz := (unhide HA).bel.size
      clear hri
      go_wp2_with (first | (go_at_call 12; refine (unhide c2).mono ?_; rintro x w1 ⟨gn, cn, rfl, hmk, hb1⟩; have HMK := hide hmk; have HB1 := hide hb1; have HO1 := hide (((unhide HA).later hb1).later ((Below.refl w1.heap.size w1).alloc (Nat.le_refl _) (.cells #[.slice (some ⟨gn, 0, none⟩) (ln k) cn] 23))); have hs1 : w.heap.size ≤ w1.heap.size := Nat.le_trans hsz hb1.size; clear hmk hb1) | (at_builtin; go_must (refine wpList_append_lies _ rfl _ _ 22 rfl w.heap.size 23 i0 (.slice none 0 0) 1 24 Try.underlying22 hi0 hz0 hz1 hz2 rfl (by decide) (.slice aa k ac) k _ rfl (unhide HO1).own ⟨w1.heap.size, 0, none⟩ 1 1 [.slice (some ⟨gn, 0, none⟩) (ln k) cn] rfl rfl (cell_one_new _ _ _) (by simp [Value.oneCell']) (by decide) (by unfold maxLen; omega) (by omega) (by simp; omega) _ rfl ?_); intro gg c9 w9 hown hgrow hat _; have HA9 := hide ((unhide HA).more (unhide HB1) (unhide HMK) rfl hown hgrow); clear hown hgrow hat))
      go_roundg (N - (k + 1))
      case measure => omega
      case rel => exact ⟨k + 1, _, _, by go_num, by omega, by omega, HA9⟩
    · obtain rfl : k = N := by omega
      have hsz := (unhide HA).bel.size
      have HO3 := hide ((((unhide HA).later ((Below.refl wr.heap.size wr).alloc (Nat.le_refl _) (.cells #[.int .i64 7003] 3))).later ((Below.refl _ _).alloc (Nat.le_refl _) (.cells #[.int .i64 7004] 3))).later ((Below.refl _ _).alloc (Nat.le_refl _) (.cells #[.slice (some ⟨wr.heap.size, 0, none⟩) 1 1, .slice (some ⟨wr.heap.size + 1, 0, none⟩) 1 1] 23)))
      have HN2 := hide (cells_two wr)
      go_upto_region 7 with (at_builtin; go_must (refine wpList_append_lies _ rfl _ _ 22 rfl w.heap.size 23 i0 (.slice none 0 0) 1 24 Try.underlying22 hi0 hz0 hz1 hz2 rfl (by decide) (.slice aa k ac) k _ rfl (unhide HO3).own ⟨wr.heap.size + 1 + 1, 0, none⟩ 2 2 [.slice (some ⟨wr.heap.size, 0, none⟩) 1 1, .slice (some ⟨wr.heap.size + 1, 0, none⟩) 1 1] rfl rfl (unhide HN2) (by simp [Value.oneCell']) (by decide) (by unfold maxLen; omega) (by omega) (by simp; omega) _ rfl ?_); intro gg c9 w9 hown hgrow hat _; have HT := hide ((unhide HA).fin hown hgrow); have hc9 := (unhide HT).1.cap; clear hown hgrow hat)
      have j1 : (k : Int) ≤ (c9 : Int) := by omega
      have j2 : k ≤ c9 := by omega
      go_wp2
      go_ret
      exact ⟨gg, c9, g, cp, rfl, (unhide HT).1, (unhide HT).2⟩
set_option maxRecDepth 100000 in
set_option maxHeartbeats 2000000 in
theorem headers_any (N : Nat) (F : Nat → Value) (h1 : ∀ k, (F k).oneCell' = true) (pa : Option Addr) (c : Nat) (w : World) (hN : N * 24 ≤ 140737488351232) (h : Rv w pa N F) :
    Calls Try.prog 11 #[.slice pa N c] w fun x w' => ∃ qa qc, x = .returned (.slice qa N qc) ∧ Rv w' qa N F ∧ Below w.heap.size w w' := by
  obtain ⟨i0, hi0, hz0, hz1, hz2⟩ := info_parts infoL
  obtain ⟨v1, W1, r1, ho, hb, _⟩ := app1 (P := Try.prog) 22 22 23 i0 (.slice none 0 0) 1 24 Try.underlying22 hi0 hz0 hz1 hz2 rfl (by decide) N (vl N F) (by simp [vl]) (vl_one _ _ h1) (by omega) (by unfold maxLen; omega) pa c w h.src
  obtain ⟨qa, qc, rfl⟩ := owns_form ho
  have HR := hide (Rv.of_owns ho)
  have HB := hide hb
  clear ho hb h hi0 hz0 hz1 hz2 h1
  go_enter Try.func11, Try.ntmps11
  go_wp2_with ((with_reducible refine wpList_append_run (o := { dst := some 5, op := Op.call { callee := Callee.builtin Builtin.append, args := #[Operand.tmp 3, Operand.tmp 4], argTypes := #[22, 22] }, type := 22, pos := "law.go:31", after := #[{ on := 0, ground := Ground.data }, { on := 1, ground := Ground.data }], guard := none }) ?m1a (.tmp 3) (.tmp 4) 22 ?m1b _ _ ?m1c ?m1d r1 ?m1e); (case m1a => rfl); (case m1b => rfl); (case m1c => rfl); (case m1d => rfl))
  go_ret
  exact ⟨qa, qc, rfl, unhide HR, unhide HB⟩
def Hd (g ln cp : Nat → Nat) (k : Nat) : Value := .slice (some ⟨g k, 0, none⟩) (ln k) (cp k)
theorem Tw.hd {base B N cB : Nat} {ln g cp : Nat → Nat} {L : Nat → Nat → Int} {W : World} (h : Tw base B N cB ln g cp L W) : Rv W (some ⟨B, 0, none⟩) N (Hd g ln cp) := by
  obtain ⟨cur, h1, h2, _⟩ := h.blk
  exact fun _ => ⟨B, 0, rfl, blk_lt h1, fun i hi => by rw [Nat.zero_add, (cell_blk h1 i).1]; exact h2 i hi⟩
theorem ri_one {W : World} {x : Nat} {z : Int} (h : W.heap[x]? = some (.cells #[.int .i64 z] 3 (0, 0))) : Ri W (some ⟨x, 0, none⟩) 1 (fun _ => z) := fun _ => ⟨x, 0, rfl, blk_lt h, fun i hi => by
  obtain rfl : i = 0 := by omega
  rw [Nat.zero_add, (cell_blk h 0).1]
  rfl⟩
end Go.Proofs.Ytjflnpcpnoccjaa
