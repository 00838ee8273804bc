import Derived.Test.YtjflnpcpnoccjaaGrE
import Derived.Deep.DeepAppendRoom
namespace Go.Proofs.Ytjflnpcpnoccjaa
open Go.RowKit

theorem cell_two_new (W : World) (o : Obj) (x : Value) (t : TypeId) : ∀ j u, ([x] : List Value)[j]? = some u → ((W.alloc o).alloc (.cells #[x] t)).cell? ((⟨W.heap.size + 1, 0, none⟩ : Addr).add j) = some u := by
  have h := cell_one_new (W.alloc o) x t
  rw [World.size_alloc] at h
  exact h
/-- A ROW OF NUMBERS OF ITS OWN, WITH ITS ROOM. -/
def Ro1 (lo : Nat) (G : Option Addr) (g l c : Nat) (V : Nat → Int) (W : World) : Prop := (G = none ∧ l = 0 ∧ c = 0) ∨ ∃ cur : Array Value, G = some ⟨g, 0, none⟩ ∧ lo ≤ g ∧ W.heap[g]? = some (.cells cur 3 (0, 0)) ∧ l ≤ c ∧ c ≤ maxLen ∧ cur.size = c ∧ ∀ j, j < l → cur[j]? = some (.int .i64 (V j))
theorem Ro1.same {lo : Nat} {G : Option Addr} {g l c : Nat} {V : Nat → Int} {W W2 : World} (h : Ro1 lo G g l c V W) (e : (∃ cur : Array Value, W.heap[g]? = some (.cells cur 3 (0, 0))) → G = some ⟨g, 0, none⟩ → W2.heap[g]? = W.heap[g]?) : Ro1 lo G g l c V W2 := by
  rcases h with h | ⟨cur, h1, h2, h3, h4⟩
  · exact .inl h
  · exact .inr ⟨cur, h1, h2, (e ⟨cur, h3⟩ h1).trans h3, h4⟩
theorem Ro1.own {lo : Nat} {G : Option Addr} {g l c : Nat} {V : Nat → Int} {W : World} (h : Ro1 lo G g l c V W) : ∃ xs, W.ownsRow lo 3 1 (.slice G l c) l xs := by
  rcases h with ⟨h1, h2, h3⟩ | ⟨cur, h1, h2, h3, h4, h5, h6, h7⟩
  · subst h1; subst h2; subst h3
    exact ⟨[], World.ownsRow_nil _ _ _ _⟩
  · subst h1
    refine ⟨cur.toList.take (l * 1), ?_, .inr ⟨g, c, cur, rfl, h2, h3, h4, h5, by omega, rfl⟩⟩
    rw [List.length_take, Array.length_toList]
    omega
/-- SUCH ROWS, EACH IN A BLOCK OF ITS OWN, UNDER ONE LIST. -/
structure Rp (lo B N : Nat) (G : Nat → Option Addr) (g l c : Nat → Nat) (V : Nat → Nat → Int) (W : World) : Prop where
  blk : ∃ cur, W.heap[B]? = some (.cells cur 23 (0, 0)) ∧ ∀ k, k < N → cur[k]? = some (.slice (G k) (l k) (c k))
  row : ∀ k, k < N → Ro1 lo (G k) (g k) (l k) (c k) (V k) W
  ne : ∀ i j, i < N → j < N → i ≠ j → G i = some ⟨g i, 0, none⟩ → G j = some ⟨g j, 0, none⟩ → g i ≠ g j
theorem Rp.later {lo B N : Nat} {G : Nat → Option Addr} {g l c : Nat → Nat} {V : Nat → Nat → Int} {W W2 : World} (h : Rp lo B N G g l c V W) (hb : Below W.heap.size W W2) : Rp lo B N G g l c V W2 := by
  obtain ⟨cur, h1, h2⟩ := h.blk
  exact ⟨⟨cur, (hb.block _ (blk_lt h1)).trans h1, h2⟩, fun k hk => (h.row k hk).same fun ⟨_, q⟩ _ => hb.block _ (blk_lt q), h.ne⟩
theorem Rp.at {lo B N : Nat} {G : Nat → Option Addr} {g l c : Nat → Nat} {V : Nat → Nat → Int} {W : World} (h : Rp lo B N G g l c V W) {k : Nat} (hk : k < N) : W.cell? ⟨B, k, none⟩ = some (.slice (G k) (l k) (c k)) := by
  obtain ⟨cur, h1, h2⟩ := h.blk
  exact (cell_blk h1 k).1.trans (h2 k hk)
theorem Rp.num {lo B N : Nat} {G : Nat → Option Addr} {g l c : Nat → Nat} {V : Nat → Nat → Int} {W : World} (h : Rp lo B N G g l c V W) {k j : Nat} (hk : k < N) (hj : j < l k) : G k = some ⟨g k, 0, none⟩ ∧ W.cell? ⟨g k, j, none⟩ = some (.int .i64 (V k j)) ∧ W.frozen? ⟨g k, j, none⟩ = false ∧ lo ≤ g k := by
  rcases h.row k hk with ⟨_, h2, _⟩ | ⟨cur, h1, h2, h3, h4, h5, h6, h7⟩
  · omega
  · exact ⟨h1, (cell_blk h3 j).1.trans (h7 j hj), (cell_blk h3 j).2, h2⟩
theorem Rp.set {lo B N : Nat} {G : Nat → Option Addr} {g l c : Nat → Nat} {V : Nat → Nat → Int} {W : World} (h : Rp lo B N G g l c V W) {k j : Nat} (hk : k < N) (hj : j < l k) (x : Int) : Rp lo B N G g l c (fun a b => if a = k ∧ b = j then x else V a b) (W.setCell ⟨g k, j, none⟩ (.int .i64 x)) := by
  obtain ⟨cb, b1, b2⟩ := h.blk
  rcases h.row k hk with ⟨_, h2, _⟩ | ⟨cur, h1, h2, h3, h4, h5, h6, h7⟩
  · omega
  · refine ⟨⟨cb, (set_other _ _ _ _ _ (blk_ne (by decide) h3 b1)).trans b1, b2⟩, fun a ha => ?_, h.ne⟩
    by_cases e : a = k
    · subst e
      refine .inr ⟨_, h1, h2, set_blk h3 j _, h4, h5, by simpa using h6, fun i hi => ?_⟩
      by_cases q : i = j
      · subst q
        have hlt : i < cur.size := by omega
        simp [hlt]
      · rw [Array.getElem?_setIfInBounds_ne (fun z => q z.symm), h7 i hi]
        simp [q]
    · have hr := h.row a ha
      have hv : (fun b => if a = k ∧ b = j then x else V a b) = V a := by
        funext b
        simp [e]
      show Ro1 lo (G a) (g a) (l a) (c a) (fun b => if a = k ∧ b = j then x else V a b) _
      rw [hv]
      exact hr.same fun _ q => set_other _ _ _ _ _ (h.ne a k ha hk e q h1)
theorem Rp.congr {lo B N : Nat} {G : Nat → Option Addr} {g l c : Nat → Nat} {V V2 : Nat → Nat → Int} {W : World} (h : Rp lo B N G g l c V W) (e : ∀ a, a < N → ∀ b, b < l a → V a b = V2 a b) : Rp lo B N G g l c V2 W := by
  refine ⟨h.blk, fun k hk => ?_, h.ne⟩
  rcases h.row k hk with q | ⟨cur, h1, h2, h3, h4, h5, h6, h7⟩
  · exact .inl q
  · exact .inr ⟨cur, h1, h2, h3, h4, h5, h6, fun j hj => by rw [← e k hk j hj]; exact h7 j hj⟩
/-- MARKED UP TO A PLACE. -/
def mkd (V : Nat → Nat → Int) (i k a b : Nat) : Int := if a < i ∨ (a = i ∧ b < k) then -100 - (a : Int) else V a b
theorem mkd_zero (V : Nat → Nat → Int) : mkd V 0 0 = V := by
  funext a b
  exact if_neg (by omega)
theorem mkd_next (V : Nat → Nat → Int) (i k : Nat) : (fun a b => if a = i ∧ b = k then -100 - (i : Int) else mkd V i k a b) = mkd V i (k + 1) := by
  funext a b
  unfold mkd
  by_cases h : a = i ∧ b = k
  · rw [if_pos h, if_pos (by omega), h.1]
  · rw [if_neg h]
    by_cases q : a < i ∨ (a = i ∧ b < k)
    · rw [if_pos q, if_pos (by omega)]
    · rw [if_neg q, if_neg (by omega)]
theorem Rp.grown {lo B N : Nat} {G : Nat → Option Addr} {g l c : Nat → Nat} {V : Nat → Nat → Int} {W W2 : World} (h : Rp lo B N G g l c V W) {row : Option Nat} (hg : W.grownBy W2 row) (hr : ∀ b, row = some b → b ≠ B ∧ ∀ k, k < N → G k = some ⟨g k, 0, none⟩ → b ≠ g k) : Rp lo B N G g l c V W2 := by
  obtain ⟨cur, h1, h2⟩ := h.blk
  exact ⟨⟨cur, (hg.block _ (blk_lt h1) fun e => (hr B e.symm).1 rfl).trans h1, h2⟩, fun k hk => (h.row k hk).same fun ⟨_, q⟩ e => hg.block _ (blk_lt q) fun e2 => (hr _ e2.symm).2 k hk e rfl, h.ne⟩
/-- One more in its own room. -/
theorem Rp.room {lo B N : Nat} {G : Nat → Option Addr} {g l c : Nat → Nat} {V : Nat → Nat → Int} {W W2 : World} (h : Rp lo B N G g l c V W) {i n : Nat} (hi : i < N) (hn : l i ≤ n) {xs news : List Value} (hx : ∀ j, j < l i → xs[j]? = some (.int .i64 (V i j))) (ho : W2.ownsRow lo 3 1 (.slice (some ⟨g i, 0, none⟩) (n + 1) (c i)) (n + 1) (xs ++ news)) (hxl : xs.length = n) (he : G i = some ⟨g i, 0, none⟩) (hg : W.grownBy W2 (some (g i))) : Rp lo B N G g l c V W2 := by
  obtain ⟨cb, b1, b2⟩ := h.blk
  rcases h.row i hi with ⟨q, _⟩ | ⟨cur, h1, h2, h3, h4, h5, h6, h7⟩
  · rw [he] at q; cases q
  · refine ⟨⟨cb, (hg.block _ (blk_lt b1) fun e => by
      injection e with e
      exact blk_ne (t1 := 3) (t2 := 23) (by decide) h3 b1 e).trans b1, b2⟩, fun a ha => ?_, h.ne⟩
    by_cases e : a = i
    · subst e
      rcases ho.2 with ⟨z, _⟩ | ⟨g', cap, cur2, z1, z2, z3, z4, z5, z6, z7⟩
      · cases z
      · cases z1
        refine .inr ⟨cur2, h1, h2, z3, h4, h5, by omega, fun j hj => ?_⟩
        have e2 : (xs ++ news)[j]? = some (.int .i64 (V a j)) := by rw [List.getElem?_append_left (by omega)]; exact hx j hj
        rw [← z7, List.getElem?_take, if_pos (by omega), Array.getElem?_toList] at e2
        exact e2
    · exact (h.row a ha).same fun ⟨_, q⟩ e3 => hg.block _ (blk_lt q) fun e4 => by
        injection e4 with e4
        exact h.ne a i ha hi e e3 h1 e4
/-- A row's beginning, to its room. -/
theorem Ro1.part {lo : Nat} {g l c n : Nat} {V : Nat → Int} {W : World} (h : Ro1 lo (some ⟨g, 0, none⟩) g l c V W) (hl : l ≤ n) (hn : n ≤ c) : ∃ xs, W.ownsRow lo 3 1 (.slice (some ⟨g, 0, none⟩) n c) n xs ∧ xs.length = n ∧ ∀ j, j < l → xs[j]? = some (.int .i64 (V j)) := by
  rcases h with ⟨q, _⟩ | ⟨cur, h1, h2, h3, h4, h5, h6, h7⟩
  · cases q
  · refine ⟨cur.toList.take (n * 1), ⟨by rw [List.length_take, Array.length_toList]; omega, .inr ⟨g, c, cur, rfl, h2, h3, hn, h5, by omega, rfl⟩⟩, by rw [List.length_take, Array.length_toList]; omega, fun j hj => ?_⟩
    rw [List.getElem?_take, if_pos (by omega), Array.getElem?_toList]
    exact h7 j hj
theorem Ro1.cap {lo : Nat} {G : Option Addr} {g l c : Nat} {V : Nat → Int} {W : World} (h : Ro1 lo G g l c V W) : l ≤ c ∧ (0 < c → G = some ⟨g, 0, none⟩) ∧ (G = none → c = 0) ∧ (∀ b, G = some b → b = ⟨g, 0, none⟩ ∧ g < W.heap.size) := by
  rcases h with ⟨h1, h2, h3⟩ | ⟨cur, h1, h2, h3, h4, h5, h6, h7⟩
  · exact ⟨by omega, (fun q => by omega), (fun _ => h3), (fun b e => by rw [h1] at e; cases e)⟩
  · exact ⟨h4, fun _ => h1, (fun q => by rw [h1] at q; cases q), (fun b e => by rw [h1] at e; cases e; exact ⟨rfl, blk_lt h3⟩)⟩
/-- NOTHING BUT THESE ROWS IS TOUCHED. -/
structure Bqk (lo N : Nat) (G : Nat → Option Addr) (g : Nat → Nat) (w W : World) : Prop where
  bel : Below lo w W
  kb : ∀ q, q < w.heap.size → (∀ k, k < N → G k = some ⟨g k, 0, none⟩ → q ≠ g k) → W.heap[q]? = w.heap[q]?
theorem Bqk.size {lo N : Nat} {G : Nat → Option Addr} {g : Nat → Nat} {w W : World} (h : Bqk lo N G g w W) : w.heap.size ≤ W.heap.size := h.bel.size
theorem Bqk.set {lo N : Nat} {G : Nat → Option Addr} {g : Nat → Nat} {w W : World} (h : Bqk lo N G g w W) {i j : Nat} (hi : i < N) (e : G i = some ⟨g i, 0, none⟩) (hl : lo ≤ g i) (u : Value) : Bqk lo N G g w (W.setCell ⟨g i, j, none⟩ u) :=
  ⟨h.bel.setCell (p := ⟨g i, j, none⟩) hl u, fun q hq hk => (set_other _ _ _ _ _ (hk i hi e)).trans (h.kb q hq hk)⟩
theorem Bqk.alloc {lo N : Nat} {G : Nat → Option Addr} {g : Nat → Nat} {w W : World} (h : Bqk lo N G g w W) (hlo : lo ≤ W.heap.size) (o : Obj) : Bqk lo N G g w (W.alloc o) :=
  ⟨h.bel.alloc hlo o, fun q hq hk => (heap_old W o q (Nat.lt_of_lt_of_le hq h.bel.size)).trans (h.kb q hq hk)⟩
theorem Bqk.grown {lo N : Nat} {G : Nat → Option Addr} {g : Nat → Nat} {w W W2 : World} (h : Bqk lo N G g w W) {row : Option Nat} (hg : W.grownBy W2 row) (hlo : lo ≤ W.heap.size) (hr : ∀ j, row = some j → lo ≤ j ∧ (w.heap.size ≤ j ∨ ∃ k, k < N ∧ G k = some ⟨g k, 0, none⟩ ∧ j = g k)) : Bqk lo N G g w W2 :=
  ⟨h.bel.grown hg hlo fun j e => (hr j e).1, fun q hq hk => (hg.block q (Nat.lt_of_lt_of_le hq h.bel.size) fun e => by
    rcases (hr q e.symm).2 with z | ⟨k, z1, z2, z3⟩
    · omega
    · exact hk k z1 z2 z3).trans (h.kb q hq hk)⟩
set_option maxRecDepth 100000 in
set_option maxHeartbeats 8000000 in
theorem apart_any {lo B N : Nat} {G : Nat → Option Addr} {g l c : Nat → Nat} {V : Nat → Nat → Int} {w : World} (hN : N ≤ 2097152) (hl : ∀ k, k < N → l k ≤ 1099511627776) (hlo : lo ≤ w.heap.size) (h : Rp lo B N G g l c V w) :
    Calls Try.prog 23 #[.slice (some ⟨B, 0, none⟩) N N] w fun x w' => x = .returned (.bool true) ∧ Bqk lo N G g w w' := by
  have HL := hide hl
  have HR := hide (show Rp lo B N G g l c (mkd V 0 0) w from by rw [mkd_zero]; exact h)
  clear h hl
  go_enter Try.func23, Try.ntmps23
  go_wp2_with fail
  go_loopg [3, 4] N (fun g1 vi _ wr => ∃ i : Nat, vi = .int .i64 i ∧ i ≤ N ∧ N - i ≤ g1 ∧ Hid (Rp lo B N G g l c (mkd V i 0) wr) ∧ Hid (Bqk lo N G g w wr))
  case atStart => exact ⟨0, by go_num, by omega, by omega, HR, hide ⟨Below.refl _ _, fun _ _ _ => rfl⟩⟩
  case round =>
    clear HR
    obtain ⟨i, rfl, hi, hg, HR, HB⟩ := hrel
    by_cases hlt : i < N
    · have hli := unhide HL i hlt
      go_wp2_with fail
      go_loopg [4] (l i) (fun g2 vk wr => ∃ k : Nat, vk = .int .i64 k ∧ k ≤ l i ∧ l i - k ≤ g2 ∧ Hid (Rp lo B N G g l c (mkd V i k) wr) ∧ Hid (Bqk lo N G g w wr))
      case atStart => exact ⟨0, by go_num, by omega, by omega, HR, HB⟩
      case round =>
        clear HR HB
        obtain ⟨k, rfl, hk, hgk, HR, HB⟩ := hrel
        have hh := (unhide HR).at hlt
        by_cases hlk : k < l i
        · obtain ⟨e1, ck, fk, hlg⟩ := (unhide HR).num hlt hlk
          rw [e1] at hh
          have HR2 := hide (show Rp lo B N G g l c (mkd V i (k + 1)) (wr.setCell ⟨g i, k, none⟩ (.int .i64 (-100 - (i : Int)))) from by rw [← mkd_next]; exact (unhide HR).set hlt hlk _)
          have HB2 := hide ((unhide HB).set (j := k) hlt e1 hlg (.int .i64 (-100 - (i : Int))))
          have i1 : IntKind.i64.wrap (-100 - (i : Int)) = -100 - (i : Int) := IntWalk.i64_in _ (by omega)
          clear e1 HR HB
          generalize mkd V i k i k = y at *
          generalize l i = li at *
          generalize g i = gi at *
          generalize c i = ci at *
          go_wp2_with fail
          go_roundg (li - (k + 1))
          case measure => omega
          case rel => exact ⟨k + 1, by go_num, by omega, by omega, HR2, HB2⟩
        · have HR2 := hide ((unhide HR).congr (V2 := mkd V (i + 1) 0) fun a ha b hb => by
            unfold mkd
            by_cases q : a < i ∨ (a = i ∧ b < k)
            · rw [if_pos q, if_pos (by omega)]
            · rw [if_neg q, if_neg (by
                rintro (z | z)
                · have : a = i := by omega
                  subst this
                  omega
                · omega)])
          go_wp2_with fail
          go_roundg (N - (i + 1))
          case measure => omega
          case rel => exact ⟨i + 1, by go_num, by omega, by omega, HR2, HB⟩
    · obtain rfl : i = N := by omega
      obtain ⟨i0, hi0, hz0, hz1, hz2⟩ := info_parts infoI
      have HR1 := hide ((unhide HR).congr (V2 := fun a _ => -100 - (a : Int)) fun a ha b hb => if_pos (.inl ha))
      clear HR hlt hg hi
      go_wp2_with fail
      go_loopg [5, 6, 7, 8] i (fun g1 vn vi _ _ wr => ∃ (t nn : Nat), vi = .int .i64 t ∧ vn = .int .i64 nn ∧ t ≤ i ∧ i - t ≤ g1 ∧ 70 * t ≤ nn ∧ nn ≤ t * 1099511627846 ∧ Hid (Rp lo B i G g l c (fun a _ => -100 - (a : Int)) wr) ∧ Hid (Bqk lo i G g w wr))
      case atStart => exact ⟨0, 0, by go_num, rfl, by omega, by omega, by omega, by omega, HR1, HB⟩
      case round =>
        clear HR1 HB
        obtain ⟨t, nn, rfl, rfl, ht, hgt, h70, hnn, HR, HB⟩ := hrel
        by_cases hlt : t < i
        · have hli := unhide HL t hlt
          have hh := (unhide HR).at hlt
          obtain ⟨k1, _, _, _⟩ := ((unhide HR).row t hlt).cap
          have HBS := hide (show B < wr.heap.size ∧ ∀ k, k < i → G k = some ⟨g k, 0, none⟩ → g k < wr.heap.size from ⟨by obtain ⟨cb, q, _⟩ := (unhide HR).blk; exact blk_lt q, fun k hk e => (((unhide HR).row k hk).cap.2.2.2 _ e).2⟩)
          obtain ⟨s0, hs0⟩ : ∃ s0, s0 = wr.heap.size := ⟨_, rfl⟩
          rw [← hs0] at HBS
          have HLO := hide (show lo ≤ s0 from by rw [hs0]; exact Nat.le_trans hlo (unhide HB).size)
          have HWZ := hide (show w.heap.size ≤ s0 from by rw [hs0]; exact (unhide HB).size)
          have HSZ := hide (show s0 ≤ wr.heap.size from by rw [hs0]; exact Nat.le_refl _)
          clear hs0
          go_wp2_with fail
          go_loopg [7, 8] 70 (fun g2 vm vk wr => ∃ (k : Nat) (la : Option Addr) (lc : Nat), vk = .int .i64 k ∧ vm = .slice la (l t + k) lc ∧ k ≤ 70 ∧ 70 - k ≤ g2 ∧ Hid ((la = G t ∧ lc = c t ∧ l t + k ≤ c t) ∨ ∃ xs, wr.ownsRow s0 3 1 (.slice la (l t + k) lc) (l t + k) xs) ∧ Hid (Rp lo B i G g l c (fun a _ => -100 - (a : Int)) wr) ∧ Hid (Bqk lo i G g w wr) ∧ Hid (s0 ≤ wr.heap.size))
          case atStart => exact ⟨0, G t, c t, by go_num, rfl, by omega, by omega, hide (.inl ⟨rfl, rfl, by omega⟩), HR, HB, HSZ⟩
          case round =>
            clear HR HB HSZ hh
            obtain ⟨k, la, lc, rfl, rfl, hk, hgk, HO, HR, HB, HSZ⟩ := hrel
            have hh := (unhide HR).at hlt
            have hszz := unhide HSZ
            by_cases hlk : k < 70
            · have iw : IntKind.i64.wrap (100 + (t : Int)) = 100 + (t : Int) := IntWalk.i64_in _ (by omega)
              have HRa := hide ((unhide HR).later (al wr (.cells #[.int .i64 (100 + (t : Int))] 3)))
              rcases unhide HO with ⟨e1, e2, e3⟩ | ⟨xs, ho⟩
              · subst e1
                subst e2
                obtain ⟨_, k2, k3, k4⟩ := ((unhide HRa).row t hlt).cap
                by_cases hroom : l t + k + 1 ≤ c t
                · have eG := k2 (by omega)
                  have hr1 := (unhide HRa).row t hlt
                  rw [eG] at hr1
                  obtain ⟨xs, ho, hxl, hxs⟩ := hr1.part (n := l t + k) (by omega) (by omega)
                  have HO2 := hide ho
                  have HXS := hide (And.intro hxl hxs)
                  have HEG := hide eG
                  clear hr1 ho hxl hxs k2 k3 k4 HO eG
                  go_wp2_with (at_builtin; go_must (refine wpList_append_own_spare _ rfl _ _ 23 rfl lo 3 i0 1 Try.underlying23 hi0 hz1 (g t) (l t + k) (c t) xs (congrArg (fun z => Value.slice z (l t + k) (c t)) (unhide HEG)) (unhide HO2) ⟨wr.heap.size, 0, none⟩ 1 1 [.int .i64 (100 + (t : Int))] rfl rfl (cell_one_new _ _ _) (by simp [Value.oneCell']) (by omega) ?_); intro w9 hown hgrow; have HR9 := hide ((unhide HRa).room hlt (by omega) (unhide HXS).2 hown (unhide HXS).1 (unhide HEG) hgrow); have HB9 := hide (((unhide HB).alloc (Nat.le_trans hlo (unhide HB).size) _).grown hgrow (by have := (unhide HB).size; simp; omega) (fun j e => by cases e; refine ⟨?_, .inr ⟨t, hlt, unhide HEG, rfl⟩⟩; rcases (unhide HRa).row t hlt with ⟨z, _⟩ | ⟨_, _, z, _⟩; rw [unhide HEG] at z; cases z; exact z)); have HS9 := hide (show s0 ≤ w9.heap.size from by have := hgrow.size; simp at this; omega); clear hown hgrow)
                  go_roundg (70 - (k + 1))
                  case measure => omega
                  case rel => exact ⟨k + 1, _, _, by go_num, rfl, by omega, by omega, hide (.inl ⟨(unhide HEG).symm, rfl, by omega⟩), HR9, HB9, HS9⟩
                · have HNN := hide (show G t = none → l t + k = 0 ∧ c t = 0 from fun e => by have := k3 e; omega)
                  have HOL := hide (show ∃ olds : List Value, olds.length = (l t + k) * 1 ∧ ∀ b, G t = some b → ∀ j u, olds[j]? = some u → (wr.alloc (.cells #[.int .i64 (100 + (t : Int))] 3)).cell? (b.add j) = some u from by
                    by_cases hc0 : 0 < c t
                    · have eG := k2 hc0
                      have hr1 := (unhide HRa).row t hlt
                      rw [eG] at hr1
                      obtain ⟨xs, ho, hxl, _⟩ := hr1.part (n := l t + k) (by omega) (by omega)
                      refine ⟨xs, by omega, fun b e j u hj => ?_⟩
                      rw [eG] at e
                      cases e
                      rw [Addr.add_mid, Nat.zero_add]
                      exact owns_at ho j u hj
                    · exact ⟨[], by simp; omega, fun b e j u hj => by simp at hj⟩)
                  obtain ⟨olds, hol⟩ := unhide HOL
                  have HOL2 := hide hol
                  clear hol HOL k2 k3 k4 HO
                  go_wp2_with (at_builtin; go_must (refine wpList_append_grows _ rfl _ _ 23 rfl 3 i0 (.int .i64 0) 1 8 Try.underlying23 hi0 hz0 hz1 hz2 rfl (by decide) (G t) (l t + k) (c t) olds rfl (unhide HNN) (unhide HOL2).1 (unhide HOL2).2 ⟨wr.heap.size, 0, none⟩ 1 1 [.int .i64 (100 + (t : Int))] rfl rfl (cell_one_new _ _ _) (by simp [Value.oneCell']) (by omega) (by unfold maxLen; omega) (by omega) ?_); intro v9 w9 hown hgrow; obtain ⟨la9, lc9, hv9⟩ := owns_form hown; subst hv9; have HO9 := hide (own_up (b0 := s0) hown (by simp; omega)); have HR9 := hide ((unhide HRa).grown hgrow (fun b e => by cases e)); have HB9 := hide (((unhide HB).alloc (Nat.le_trans hlo (unhide HB).size) _).grown hgrow (by have := (unhide HB).size; simp; omega) (fun j e => by cases e)); have HS9 := hide (show s0 ≤ w9.heap.size from by have := hgrow.size; simp at this; omega); clear hown hgrow)
                  go_roundg (70 - (k + 1))
                  case measure => omega
                  case rel => exact ⟨k + 1, la9, lc9, by go_num, rfl, by omega, by omega, hide (.inr ⟨_, unhide HO9⟩), HR9, HB9, HS9⟩
              · have HO2 := hide ho
                clear ho HO
                go_wp2_with (at_builtin; go_must (refine wpList_append_lies _ rfl _ _ 23 rfl s0 3 i0 (.int .i64 0) 1 8 Try.underlying23 hi0 hz0 hz1 hz2 rfl (by decide) (.slice la (l t + k) lc) (l t + k) xs rfl ((unhide HO2).alloc _) ⟨wr.heap.size, 0, none⟩ 1 1 [.int .i64 (100 + (t : Int))] rfl rfl (cell_one_new _ _ _) (by simp [Value.oneCell']) (by decide) (by unfold maxLen; omega) (by omega) (by simp; omega) _ rfl ?_); intro gg c9 w9 hown hgrow hat _; have HO9 := hide hown; have HR9 := hide ((unhide HRa).grown hgrow (fun b e => by have q := ((unhide HO2).lt b e).1; have q2 := unhide HBS; exact ⟨by omega, fun k hk e => by have := q2.2 k hk e; omega⟩)); have HB9 := hide (((unhide HB).alloc (Nat.le_trans hlo (unhide HB).size) _).grown hgrow (by have := (unhide HB).size; simp; omega) (fun j e => ⟨Nat.le_trans (unhide HLO) ((unhide HO2).lt j e).1, .inl (Nat.le_trans (unhide HWZ) ((unhide HO2).lt j e).1)⟩)); have HS9 := hide (show s0 ≤ w9.heap.size from by have := hgrow.size; simp at this; omega); clear hown hgrow hat)
                go_roundg (70 - (k + 1))
                case measure => omega
                case rel => exact ⟨k + 1, _, _, by go_num, rfl, by omega, by omega, hide (.inr ⟨_, unhide HO9⟩), HR9, HB9, HS9⟩
            · obtain rfl : k = 70 := by omega
              have iw : IntKind.i64.wrap ((nn : Int) + ((l t : Int) + 70)) = (nn : Int) + ((l t : Int) + 70) := IntWalk.i64_in _ (by omega)
              go_wp2_with fail
              go_roundg (i - (t + 1))
              case measure => omega
              case rel => exact ⟨t + 1, nn + (l t + 70), by go_num, by go_num, by omega, by omega, by omega, by omega, HR, HB⟩
        · obtain rfl : t = i := by omega
          obtain ⟨iL, hiL, hzL0, hzL1, hzL2⟩ := info_parts infoL
          have HBS := hide (show B < wr.heap.size ∧ ∀ k, k < t → G k = some ⟨g k, 0, none⟩ → g k < wr.heap.size from ⟨by obtain ⟨cb, q, _⟩ := (unhide HR).blk; exact blk_lt q, fun k hk e => (((unhide HR).row k hk).cap.2.2.2 _ e).2⟩)
          obtain ⟨s0, hs0⟩ : ∃ s0, s0 = wr.heap.size := ⟨_, rfl⟩
          rw [← hs0] at HBS
          have HLO := hide (show lo ≤ s0 from by rw [hs0]; exact Nat.le_trans hlo (unhide HB).size)
          have HWZ := hide (show w.heap.size ≤ s0 from by rw [hs0]; exact (unhide HB).size)
          have HSZ := hide (show s0 ≤ wr.heap.size from by rw [hs0]; exact Nat.le_refl _)
          clear hs0 hgt ht
          go_wp2_with fail
          go_loopg [9, 10] 20 (fun g2 vm vk wr => ∃ (k : Nat) (la : Option Addr) (lc : Nat), vk = .int .i64 k ∧ vm = .slice la (t + k) lc ∧ k ≤ 20 ∧ 20 - k ≤ g2 ∧ Hid ((la = some ⟨B, 0, none⟩ ∧ lc = t ∧ k = 0) ∨ ∃ xs, wr.ownsRow s0 23 1 (.slice la (t + k) lc) (t + k) xs) ∧ Hid (Rp lo B t G g l c (fun a _ => -100 - (a : Int)) wr) ∧ Hid (Bqk lo t G g w wr) ∧ Hid (s0 ≤ wr.heap.size))
          case atStart => exact ⟨0, some ⟨B, 0, none⟩, t, by go_num, rfl, by omega, by omega, hide (.inl ⟨rfl, rfl, rfl⟩), HR, HB, HSZ⟩
          case round =>
            clear HR HB HSZ
            obtain ⟨k, la, lc, rfl, rfl, hk, hgk, HO, HR, HB, HSZ⟩ := hrel
            have hszz := unhide HSZ
            by_cases hlk : k < 20
            · have HRa := hide (((unhide HR).later (al wr (.cells #[.int .i64 7] 3))).later (al _ (.cells #[.slice (some ⟨wr.heap.size, 0, none⟩) 1 1] 23)))
              have HBa := hide (((unhide HB).alloc (Nat.le_trans hlo (unhide HB).size) (.cells #[.int .i64 7] 3)).alloc (by have := (unhide HB).size; simp; omega) (.cells #[.slice (some ⟨wr.heap.size, 0, none⟩) 1 1] 23))
              have HNW := hide (cell_two_new wr (.cells #[.int .i64 7] 3) (.slice (some ⟨wr.heap.size, 0, none⟩) 1 1) 23)
              rcases unhide HO with ⟨e1, e2, e3⟩ | ⟨xs, ho⟩
              · subst e1
                subst e2
                subst e3
                have HOL2 := hide (show ((vl lc fun k => .slice (G k) (l k) (c k)).length = (lc + 0) * 1) ∧ ∀ b, (some (⟨B, 0, none⟩ : Addr)) = some b → ∀ j u, (vl lc fun k => .slice (G k) (l k) (c k))[j]? = some u → ((wr.alloc (.cells #[.int .i64 7] 3)).alloc (.cells #[.slice (some ⟨wr.heap.size, 0, none⟩) 1 1] 23)).cell? (b.add j) = some u from ⟨by simp [vl], fun b e j u hj => by
                  cases e
                  have hjl : j < lc := by
                    have := (List.getElem?_eq_some_iff.1 hj).1
                    simpa [vl] using this
                  rw [vl_at _ _ _ hjl] at hj
                  cases hj
                  rw [Addr.add_mid, Nat.zero_add]
                  exact (unhide HRa).at hjl⟩)
                clear HO
                go_wp2_with (at_builtin; go_must (refine wpList_append_grows _ rfl _ _ 22 rfl 23 iL (.slice none 0 0) 1 24 Try.underlying22 hiL hzL0 hzL1 hzL2 rfl (by decide) (some ⟨B, 0, none⟩) (lc + 0) lc (vl lc fun k => .slice (G k) (l k) (c k)) rfl (fun e => by cases e) (unhide HOL2).1 (unhide HOL2).2 ⟨wr.heap.size + 1, 0, none⟩ 1 1 [.slice (some ⟨wr.heap.size, 0, none⟩) 1 1] rfl rfl (unhide HNW) (by simp [Value.oneCell']) (by omega) (by unfold maxLen; omega) (by omega) ?_); intro v9 w9 hown hgrow; obtain ⟨la9, lc9, hv9⟩ := owns_form hown; subst hv9; have HO9 := hide (own_up (b0 := s0) hown (by simp; omega)); have HR9 := hide ((unhide HRa).grown hgrow (fun b e => by cases e)); have HB9 := hide ((unhide HBa).grown hgrow (by have := (unhide HB).size; simp; omega) (fun j e => by cases e)); have HS9 := hide (show s0 ≤ w9.heap.size from by have := hgrow.size; simp at this; omega); clear hown hgrow)
                go_roundg (20 - (0 + 1))
                case measure => omega
                case rel => exact ⟨0 + 1, la9, lc9, by go_num, rfl, by omega, by omega, hide (.inr ⟨_, unhide HO9⟩), HR9, HB9, HS9⟩
              · have HO2 := hide ho
                clear ho HO
                go_wp2_with (at_builtin; go_must (refine wpList_append_lies _ rfl _ _ 22 rfl s0 23 iL (.slice none 0 0) 1 24 Try.underlying22 hiL hzL0 hzL1 hzL2 rfl (by decide) (.slice la (t + k) lc) (t + k) xs rfl (((unhide HO2).alloc _).alloc _) ⟨wr.heap.size + 1, 0, none⟩ 1 1 [.slice (some ⟨wr.heap.size, 0, none⟩) 1 1] rfl rfl (unhide HNW) (by simp [Value.oneCell']) (by decide) (by unfold maxLen; omega) (by omega) (by simp; omega) _ rfl ?_); intro gg c9 w9 hown hgrow hat _; have HO9 := hide hown; have HR9 := hide ((unhide HRa).grown hgrow (fun b e => by have q := ((unhide HO2).lt b e).1; have q2 := unhide HBS; exact ⟨by omega, fun k hk e => by have := q2.2 k hk e; omega⟩)); have HB9 := hide ((unhide HBa).grown hgrow (by have := (unhide HB).size; simp; omega) (fun j e => ⟨Nat.le_trans (unhide HLO) ((unhide HO2).lt j e).1, .inl (Nat.le_trans (unhide HWZ) ((unhide HO2).lt j e).1)⟩)); have HS9 := hide (show s0 ≤ w9.heap.size from by have := hgrow.size; simp at this; omega); clear hown hgrow hat)
                go_roundg (20 - (k + 1))
                case measure => omega
                case rel => exact ⟨k + 1, _, _, by go_num, rfl, by omega, by omega, hide (.inr ⟨_, unhide HO9⟩), HR9, HB9, HS9⟩
            · obtain rfl : k = 20 := by omega
              have iw2 : IntKind.i64.wrap ((nn : Int) + ((t : Int) + 20)) = (nn : Int) + ((t : Int) + 20) := IntWalk.i64_in _ (by omega)
              clear HO HSZ
              go_wp2_with fail
              go_loopg [11, 12] t (fun g1 vi _ wr => ∃ (a : Nat), vi = .int .i64 a ∧ a ≤ t ∧ t - a ≤ g1 ∧ Hid (Rp lo B t G g l c (fun a _ => -100 - (a : Int)) wr) ∧ Hid (Bqk lo t G g w wr))
              case atStart => exact ⟨0, by go_num, by omega, by omega, HR, HB⟩
              case round =>
                clear HR HB
                obtain ⟨a, rfl, ha, hga, HR, HB⟩ := hrel
                by_cases hlt : a < t
                · have hli := unhide HL a hlt
                  go_wp2_with fail
                  go_loopg [12] (l a) (fun g2 vk wr => ∃ k : Nat, vk = .int .i64 k ∧ k ≤ l a ∧ l a - k ≤ g2 ∧ Hid (Rp lo B t G g l c (fun a _ => -100 - (a : Int)) wr) ∧ Hid (Bqk lo t G g w wr))
                  case atStart => exact ⟨0, by go_num, by omega, by omega, HR, HB⟩
                  case round =>
                    clear HR HB
                    obtain ⟨k, rfl, hk, hgk, HR, HB⟩ := hrel
                    have hh := (unhide HR).at hlt
                    by_cases hlk : k < l a
                    · obtain ⟨e1, ck, _, _⟩ := (unhide HR).num hlt hlk
                      rw [e1] at hh
                      have i1 : IntKind.i64.wrap (-100 - (a : Int)) = -100 - (a : Int) := IntWalk.i64_in _ (by omega)
                      clear e1
                      go_wp2_with fail
                      go_roundg (l a - (k + 1))
                      case measure => omega
                      case rel => exact ⟨k + 1, by go_num, by omega, by omega, HR, HB⟩
                    · go_wp2_with fail
                      go_roundg (t - (a + 1))
                      case measure => omega
                      case rel => exact ⟨a + 1, by go_num, by omega, by omega, HR, HB⟩
                · obtain rfl : a = t := by omega
                  have iw : IntKind.i64.wrap (70 * (a : Int)) = 70 * (a : Int) := IntWalk.i64_in _ (by omega)
                  have i2 : 70 * (a : Int) ≤ (nn : Int) + ((a : Int) + 20) := by omega
                  go_wp2_with fail
                  go_ret
                  exact ⟨by simp, unhide HB⟩
end Go.Proofs.Ytjflnpcpnoccjaa
