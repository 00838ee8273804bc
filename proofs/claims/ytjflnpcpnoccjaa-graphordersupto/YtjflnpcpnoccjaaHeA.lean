import Derived.Test.YtjflnpcpnoccjaaGrE
namespace Go.Proofs.Ytjflnpcpnoccjaa
open Go.RowKit

set_option maxHeartbeats 2000000 in
theorem still_any (base g n cap : Nat) (f : Nat → Int) (qa : Option Addr) (d : Nat) (w : World) (hn : n ≤ 17592186044416) (h1 : Mk base g n cap f w) (h2 : Ri w qa n f) :
    Calls Try.prog 22 #[.slice (some ⟨g, 0, none⟩) n cap, .slice qa n d] w fun e w' => e = .returned (.bool true) ∧ Below w.heap.size w w' := by
  have hcap := h1.cap
  have j1 : (n : Int) + 2 ≤ (cap : Int) := by omega
  have j2 : (n : Int) ≤ (cap : Int) := by omega
  have i1 : (n : Int) < (n : Int) + 2 := by omega
  have i2 : (n : Int) + 1 < (n : Int) + 2 := by omega
  have i4 : n ≤ n + 2 := by omega
  have c1 := hide (fun w2 (hb : Below w.heap.size w w2) => numbers_any n f (some ⟨g, 0, none⟩) qa cap d w2 (by omega) ((h1.later hb).ri) (Ri.later h2 hb))
  have HT := hide (fun w2 (hb : Below w.heap.size w w2) => show w2.cell? ⟨g, n, none⟩ = some (.int .i64 7001) ∧ w2.cell? ⟨g, n + 1, none⟩ = some (.int .i64 7002) from ⟨(h1.later hb).cell.2.1, (h1.later hb).cell.2.2.1⟩)
  clear h1 h2
  go_enter Try.func22, Try.ntmps22
  go_wp2_with (go_at_call 20; refine (unhide c1 _ (Below.refl _ _)).mono ?_; rintro x w1 ⟨rfl, hb1⟩; obtain ⟨k1, k2⟩ := unhide HT _ hb1; have HB1 := hide hb1; clear hb1)
  go_ret
  exact ⟨rfl, unhide HB1⟩
set_option maxRecDepth 100000 in
set_option maxHeartbeats 2000000 in
theorem untouched_any (base B N cB : Nat) (ln g cp : Nat → Nat) (L : Nat → Nat → Int) (qa la : Option Addr) (qc lc : Nat) (w : World) (hN : N ≤ 17592186044416) (hm : ∀ k, k < N → ln k ≤ 17592186044416) (h1 : Tw base B N cB ln g cp L w) (h2 : Rv w qa N (Hd g ln cp)) (h3 : Rr w la N ln L) :
    Calls Try.prog 21 #[.slice (some ⟨B, 0, none⟩) N cB, .slice qa N qc, .slice la N lc] w fun e w' => e = .returned (.bool true) ∧ Below w.heap.size w w' := by
  have HT := hide h1
  have HQ := hide h2
  have HL := hide h3
  have HM := hide hm
  have hcap := h1.cap
  have j1 : (N : Int) + 2 ≤ (cB : Int) := by omega
  clear h1 h2 h3 hm
  go_enter Try.func21, Try.ntmps21
  go_wp2_with fail
  go_loopw [8] (fun i wr => ∃ k : Nat, k ≤ N ∧ i = .int .i64 k ∧ Hid (Below w.heap.size w wr)) (fun i _ => N - (intOf i).toNat)
  case atStart => exact ⟨0, Nat.zero_le _, rfl, hide (Below.refl _ _)⟩
  case round =>
    obtain ⟨k, hk, rfl, HB⟩ := hrel
    by_cases hlt : k < N
    · obtain ⟨b1, o1, e1, _, hc1⟩ := ((unhide HT).later (unhide HB)).hd.at hlt
      cases e1
      obtain ⟨b2, o2, rfl, hb2, hc2⟩ := ((unhide HQ).later (unhide HB)).at hlt
      obtain ⟨b3, o3, ca, cc, rfl, hc3, hri⟩ := ((unhide HL).later (unhide HB)).at hlt
      unfold Hd at hc1 hc2
      rw [Nat.zero_add] at hc1
      have hmk := ((unhide HT).later (unhide HB)).row k hlt
      have hml := unhide HM k hlt
      have c1 := hide (fun w2 (hb : Below wr.heap.size wr w2) => numbers_any (ln k) (L k) (some ⟨g k, 0, none⟩) ca (cp k) cc w2 (by omega) (hmk.later hb).ri (Ri.later hri hb))
      have c2 := hide (fun w2 (hb : Below wr.heap.size wr w2) => still_any base (g k) (ln k) (cp k) (L k) ca cc w2 hml (hmk.later hb) (Ri.later hri hb))
      have hB := ((unhide HT).later (unhide HB)).lt
      have hb3 := World.block_lt_of_cell? _ _ hc3
      have HP := hide (fun w2 (hb : Below wr.heap.size wr w2) => show w2.cell? ⟨B, k, none⟩ = some (.slice (some ⟨g k, 0, none⟩) (ln k) (cp k)) ∧ w2.cell? ⟨b2, o2 + k, none⟩ = some (.slice (some ⟨g k, 0, none⟩) (ln k) (cp k)) ∧ w2.cell? ⟨b3, o3 + k, none⟩ = some (.slice ca (ln k) cc) from ⟨(hb.cell (p := ⟨B, k, none⟩) hB).trans hc1, (hb.cell (p := ⟨b2, o2 + k, none⟩) hb2).trans hc2, (hb.cell (p := ⟨b3, o3 + k, none⟩) hb3).trans hc3⟩)
      have B0 := hide ((Below.refl wr.heap.size wr).drew)
      clear hmk hri hB hb3 hb2
      generalize g k = gk1 at *
      generalize ln k = l1 at *
      generalize cp k = p1 at *
      go_wp2_with fail
      go_region_held3 (fun w2 => w2.cell? ⟨B, k, none⟩ = some (.slice (some ⟨gk1, 0, none⟩) l1 p1) ∧ w2.cell? ⟨b2, o2 + k, none⟩ = some (.slice (some ⟨gk1, 0, none⟩) l1 p1) ∧ w2.cell? ⟨b3, o3 + k, none⟩ = some (.slice ca l1 cc)) (first | exact unhide HP _ (unhide B0) | exact unhide HP _ (unhide B1) | exact unhide HP _ (unhide B2)) (first | (go_at_call 20; refine (unhide c1 _ (unhide B0)).mono ?_; rintro x w1 ⟨rfl, hb1⟩; have B1 := hide ((unhide B0).trans (hb1.mono (unhide B0).size)); clear hb1) | (go_at_call 22; refine (unhide c2 _ (unhide B1)).mono ?_; rintro x w2 ⟨rfl, hb1⟩; have B2 := hide ((unhide B1).trans (hb1.mono (unhide B1).size)); clear hb1))
      go_wp2
      go_roundw
      case rel => exact ⟨k + 1, by omega, by go_num, hide (bl_t (unhide HB) (unhide B2))⟩
      case measure => simp [intOf]; omega
    · obtain ⟨cur, h1, _, x, y, h3, h4, h5, h6⟩ := ((unhide HT).later (unhide HB)).blk
      have m1 := (cell_blk h1 N).1.trans h3
      have m2 := (cell_blk h1 (N + 1)).1.trans h4
      have i1 : (N : Int) + 1 < (N : Int) + 2 := by omega
      have i2 : (N : Int) < (N : Int) + 2 := by omega
      have c1 := hide (fun w2 b2 (hx : w2.heap[x]? = some (.cells #[.int .i64 7003] 3 (0, 0))) (hy : w2.heap[b2]? = some (.cells #[.int .i64 7003] 3 (0, 0))) => numbers_any 1 (fun _ => 7003) (some ⟨x, 0, none⟩) (some ⟨b2, 0, none⟩) 1 1 w2 (by omega) (ri_one hx) (ri_one hy))
      have c2 := hide (fun w2 b2 (hx : w2.heap[y]? = some (.cells #[.int .i64 7004] 3 (0, 0))) (hy : w2.heap[b2]? = some (.cells #[.int .i64 7004] 3 (0, 0))) => numbers_any 1 (fun _ => 7004) (some ⟨y, 0, none⟩) (some ⟨b2, 0, none⟩) 1 1 w2 (by omega) (ri_one hx) (ri_one hy))
      have HH := hide (And.intro h1 (And.intro h5 h6))
      clear h1 h3 h4 h5 h6
      have hx1 := hide (show (wr.alloc (.cells #[.int .i64 7003] 3)).heap[x]? = some (.cells #[.int .i64 7003] 3 (0, 0)) from (heap_old _ _ _ (blk_lt (unhide HH).2.1)).trans (unhide HH).2.1)
      have hbA := hide ((Below.refl wr.heap.size wr).alloc (Nat.le_refl _) (.cells #[.int .i64 7003] 3))
      have G1 := hide trivial
      go_wp2_with (first | (go_at_call 20; have _u := G1; clear _u G1; refine (unhide c1 _ _ (unhide hx1) (heap_new _ _)).mono ?_; rintro x5 w1 ⟨rfl, hb1⟩; have HB1 := hide ((unhide hbA).trans (hb1.mono (by simp))); have m3 : w1.cell? ⟨B, N + 1, none⟩ = some (.slice (some ⟨y, 0, none⟩) 1 1) := ((unhide HB1).cell (p := ⟨B, N + 1, none⟩) (blk_lt (unhide HH).1)).trans m2; have hy1 := hide (show (w1.alloc (.cells #[.int .i64 7004] 3)).heap[y]? = some (.cells #[.int .i64 7004] 3 (0, 0)) from by have hyl := blk_lt (unhide HH).2.2; rw [heap_old _ _ _ (Nat.lt_of_lt_of_le hyl (unhide HB1).size), (unhide HB1).block _ hyl]; exact (unhide HH).2.2); clear hb1) | (go_at_call 20; refine (unhide c2 _ _ (unhide hy1) (heap_new _ _)).mono ?_; rintro x6 w2 ⟨rfl, hb1⟩; have HB2 := hide (bl_t (bl_t (unhide HB1) ((Below.refl w1.heap.size w1).alloc (Nat.le_refl _) (.cells #[.int .i64 7004] 3))) hb1); clear hb1))
      go_ret
      exact ⟨rfl, bl_t (unhide HB) (unhide HB2)⟩
/-- THE OPPOSITE, BUT WHAT IS FAR. -/
def tn (N : Nat) (x : Int) : Int := if 0 ≤ x ∧ x < (N : Int) then (N : Int) - 1 - x else x
def tL (N : Nat) (L : Nat → Nat → Int) (i k a b : Nat) : Int := if a < i ∨ (a = i ∧ b < k) then tn N (L a b) else L a b
theorem tL_zero (N : Nat) (L : Nat → Nat → Int) : tL N L 0 0 = L := by
  funext a b
  exact if_neg (by omega)
theorem tL_here (N : Nat) (L : Nat → Nat → Int) (i k : Nat) : tL N L i k i k = L i k := if_neg (by omega)
theorem tL_more (N : Nat) (L : Nat → Nat → Int) (i k a b : Nat) : (if a = i ∧ b = k then tn N (L i k) else tL N L i k a b) = tL N L i (k + 1) a b := by
  unfold tL
  by_cases e : a = i ∧ b = k
  · obtain ⟨rfl, rfl⟩ := e
    rw [if_pos ⟨rfl, rfl⟩, if_pos (by omega)]
  · rw [if_neg e]
    by_cases e2 : a < i ∨ (a = i ∧ b < k)
    · rw [if_pos e2, if_pos (by omega)]
    · rw [if_neg e2, if_neg (by omega)]
theorem tL_same (N : Nat) (L : Nat → Nat → Int) (i k : Nat) (h : tn N (L i k) = L i k) (a b : Nat) : tL N L i k a b = tL N L i (k + 1) a b := by
  rw [← tL_more]
  by_cases e : a = i ∧ b = k
  · obtain ⟨rfl, rfl⟩ := e
    rw [if_pos ⟨rfl, rfl⟩, h, tL_here]
  · rw [if_neg e]
set_option maxRecDepth 100000 in
set_option maxHeartbeats 2000000 in
theorem lturned_any (base B N cB : Nat) (ln g cp : Nat → Nat) (L : Nat → Nat → Int) (w : World) (hN : N ≤ 17592186044416) (hm : ∀ k, k < N → ln k ≤ 17592186044416) (h : Wr base B N ln g cp L w) :
    Calls Try.prog 24 #[.slice (some ⟨B, 0, none⟩) N cB] w fun e w' => e = .returned (.tuple #[]) ∧ Wr base B N ln g cp (fun a b => tn N (L a b)) w' ∧ Below base w w' ∧ Ot N g w w' := by
  have HW := hide h
  have HM := hide hm
  clear h hm
  go_enter Try.func24, Try.ntmps24
  go_wp2_with fail
  go_loopg [2, 3] N (fun g1 vi _ wr => ∃ (i : Nat), vi = .int .i64 i ∧ i ≤ N ∧ N - i ≤ g1 ∧ Hid (Wr base B N ln g cp (tL N L i 0) wr) ∧ Hid (Below base w wr) ∧ Hid (Ot N g w wr))
  case atStart => exact ⟨0, by go_num, by omega, by omega, by rw [tL_zero]; exact HW, hide (Below.refl _ _), hide fun _ _ => rfl⟩
  case round =>
    clear HW
    obtain ⟨i, rfl, hi, hg1, HW, HB, HO⟩ := hrel
    by_cases hlt : i < N
    · have hml := unhide HM i hlt
      go_wp2_with fail
      go_loopg [3] (ln i) (fun g2 vk wr => ∃ (k : Nat), vk = .int .i64 k ∧ k ≤ ln i ∧ ln i - k ≤ g2 ∧ Hid (Wr base B N ln g cp (tL N L i k) wr) ∧ Hid (Below base w wr) ∧ Hid (Ot N g w wr))
      case atStart => exact ⟨0, by go_num, by omega, by omega, HW, HB, HO⟩
      case round =>
        clear HW HB HO
        obtain ⟨k, rfl, hk, hg2, HW, HB, HO⟩ := hrel
        obtain ⟨a1, a2, a3, a4, a5, a6⟩ := (unhide HW).at hlt
        by_cases hlk : k < ln i
        · have ck := a2 k hlk
          have fk := a3 k
          rw [tL_here] at ck
          have HST := hide (fun x => (unhide HW).set hlt hlk x)
          have HTN := hide (show (0 ≤ L i k ∧ L i k < (N : Int)) → tn N (L i k) = (N : Int) - 1 - L i k from fun h => if_pos h)
          have HTS := hide (show ¬ (0 ≤ L i k ∧ L i k < (N : Int)) → ∀ a b, tL N L i k a b = tL N L i (k + 1) a b from fun h => tL_same N L i k (if_neg h))
          have HTM := hide (tL_more N L i k)
          have HN : Hid (∀ x, x = ln i → k < x → k + 1 ≤ ln i) := fun x e h => by omega
          clear a2 a3
          generalize hl : ln i = l1 at *
          generalize hq : L i k = q at *
          have HL1 := hide hl
          clear hl
          by_cases hr : 0 ≤ q ∧ q < (N : Int)
          · obtain ⟨r1, r2⟩ := hr
            have HX := hide (show Wr base B N ln g cp (fun a b => if a = i ∧ b = k then (N : Int) - 1 - q else tL N L i k a b) (wr.setCell ⟨g i, k, none⟩ (.int .i64 ((N : Int) - 1 - q))).drew ∧ Below base wr (wr.setCell ⟨g i, k, none⟩ (.int .i64 ((N : Int) - 1 - q))).drew from ⟨(unhide HST ((N : Int) - 1 - q)).1.later ((Below.refl _ _).drew), (unhide HST ((N : Int) - 1 - q)).2.drew⟩)
            have HE := hide (unhide HTN ⟨r1, r2⟩)
            have HO2 := hide (show Ot N g w (wr.setCell ⟨g i, k, none⟩ (.int .i64 ((N : Int) - 1 - q))).drew from fun y hy => (set_other wr (g i) k _ y (hy i hlt)).trans (unhide HO y hy))
            clear HST HTN HTS
            have w1 : IntKind.i64.wrap ((N : Int) - 1) = (N : Int) - 1 := IntWalk.i64_in _ (by omega)
            have w2 : IntKind.i64.wrap ((N : Int) - 1 - q) = (N : Int) - 1 - q := IntWalk.i64_in _ (by omega)
            go_wp2_with fail
            go_big_region
            generalize (wr.setCell ⟨g i, k, none⟩ (.int .i64 ((N : Int) - 1 - q))).drew = w2 at HX HO2 ⊢
            go_wp2
            go_roundg (l1 - (k + 1))
            case measure => omega
            case rel => exact ⟨k + 1, by go_num, by omega, by omega, hide ((unhide HX).1.congr fun a _ b _ => by rw [← unhide HTM, unhide HE]), hide ((unhide HB).trans (unhide HX).2), HO2⟩
          · have HE := hide (unhide HTS hr)
            by_cases r1 : 0 ≤ q
            · have r2 : ¬ q < (N : Int) := fun h => hr ⟨r1, h⟩
              clear hr HST HTN HTS
              go_wp2
              go_roundg (l1 - (k + 1))
              case measure => omega
              case rel => exact ⟨k + 1, by go_num, by omega, by omega, hide ((unhide HW).congr fun a _ b _ => unhide HE a b), HB, HO⟩
            · clear hr HST HTN HTS
              go_wp2
              go_roundg (l1 - (k + 1))
              case measure => omega
              case rel => exact ⟨k + 1, by go_num, by omega, by omega, hide ((unhide HW).congr fun a _ b _ => unhide HE a b), HB, HO⟩
        · have HW2 := hide ((unhide HW).congr (L2 := tL N L (i + 1) 0) fun a ha b hb => by
            unfold tL
            by_cases e : a = i
            · subst e; rw [if_pos (by omega), if_pos (by omega)]
            · by_cases e2 : a < i
              · rw [if_pos (by omega), if_pos (by omega)]
              · rw [if_neg (by omega), if_neg (by omega)])
          clear a2 a3 HW
          generalize ln i = l1 at *
          go_wp2
          go_roundg (N - (i + 1))
          case measure => omega
          case rel => exact ⟨i + 1, by go_num, by omega, by omega, HW2, HB, HO⟩
    · have HW2 := hide ((unhide HW).congr (L2 := fun a b => tn N (L a b)) fun a ha b hb => if_pos (by omega))
      go_wp2
      go_end0
      exact ⟨rfl, unhide HW2, unhide HB, unhide HO⟩
end Go.Proofs.Ytjflnpcpnoccjaa
