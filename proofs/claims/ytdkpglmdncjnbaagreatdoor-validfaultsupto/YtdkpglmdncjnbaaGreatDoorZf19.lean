import Derived.Test.YtdkpglmdncjnbaaGreatDoorZf18
import Derived.Laws.AppendOwn
namespace Go.Proofs.YtdkpglmdncjnbaaGreatDoor
section
open Go.RowKit Go.Maps
abbrev y19_1 : Oper := ⟨some 21, .load 58 (.tmp 20), 58, "check.go:80", #[⟨1, .data⟩], none⟩
structure Fs (W wr : World) (s : Value) (l : List Ft) : Prop where
 row : wr.ownsRow W.heap.size 31 6 s l.length (ftC l)
 bw : RowKit.Below W.heap.size W wr
theorem Fs.start (W : World) : Fs W W (.slice none 0 0) [] := ⟨⟨rfl, .inl ⟨rfl, rfl⟩⟩, Below.refl _ _⟩
theorem Fs.later {W wr w2 : World} {s : Value} {l : List Ft} (h : Fs W wr s l) (hb : RowKit.Below wr.heap.size wr w2) : Fs W w2 s l := ⟨own_same h.row fun b e => hb.block b (World.ownsRow.lt h.row b e).2, bl_t h.bw hb⟩
theorem Fs.grow {W wr w9 : World} {s v' : Value} {l : List Ft} {f : Ft} {o : Obj} (h : Fs W wr s l) (hown : w9.ownsRow W.heap.size 31 6 v' (l.length + 1) (ftC l ++ f.cs)) (hg : (wr.alloc o).grownBy w9 s.ownBlock) : Fs W w9 v' (l ++ [f]) := by
 refine ⟨?_, (h.bw.alloc h.bw.size o).grown hg ?_ fun j e => (World.ownsRow.lt h.row j e).1⟩
 ·rw [List.length_append, ftC_snoc]
  exact hown
 ·have := h.bw.size
  rw [World.size_alloc]
  omega
theorem infoFt : (Tryz.prog.info? 31).map (fun i => (i.zero, i.size, i.bytes)) = some (some (.agg #[.int .i64 0, .string ⟨#[]⟩, .string ⟨#[]⟩, .int .i64 0, .string ⟨#[]⟩, .string ⟨#[]⟩]), 6, 80) := by kernel_rfl
theorem news_ft (w : World) (f : Ft) (t : TypeId) : ∀ j u, f.cs[j]? = some u → (w.alloc (.cells #[.int .i64 f.kd, .string f.wn, .string f.wv, .int .i64 f.ix, .string f.on, .string f.ov] t)).cell? ((⟨w.heap.size, 0, none⟩ : Addr).add j) = some u := fun j u hj => by
 rw [Addr.add_mid, Nat.zero_add, World.cell?_alloc_new]
 simpa [Ft.cs] using hj
theorem one_ft (f : Ft) : ∀ u ∈ f.cs, u.oneCell' = true := fun u hu => by
 simp [Ft.cs] at hu
 rcases hu with rfl | rfl | rfl | rfl | rfl | rfl <;> rfl
def nmA (ps : List Pk) (i : Nat) : Nm := match ps[i]? with | some q => q.nm | none => ⟨#[]⟩
def vrA (ps : List Pk) (i : Nat) : Nm := match ps[i]? with | some q => q.vr | none => ⟨#[]⟩
def twT (ps : List Pk) (q : Pk) (i : Nat) : Ft := ⟨1, q.nm, q.vr, i, nmA ps i, vrA ps i⟩
def twF (ps : List Pk) (p : Nat) (q : Pk) : List Ft := ((List.range p).filter (isN ps q.nm)).map (twT ps q)
theorem twF_len (ps : List Pk) (p : Nat) (q : Pk) : (twF ps p q).length ≤ p := by
 unfold twF
 rw [List.length_map]
 refine Nat.le_trans (List.length_filter_le _ _) ?_
 rw [List.length_range]; exact Nat.le_refl _
theorem cut_at (f : Nat → Bool) {p n : Nat} (h : p ≤ n) : ∃ r, (List.range n).filter f = (List.range p).filter f ++ r ∧ ∀ x ∈ r, p ≤ x := by
 induction n with
 | zero => obtain rfl : p = 0 := by omega
           exact ⟨[], by simp, fun x h => by cases h⟩
 | succ n ih =>
   by_cases e : p = n + 1
   ·subst e; exact ⟨[], by simp, fun x h => by cases h⟩
   ·obtain ⟨r, h1, h2⟩ := ih (by omega)
    refine ⟨r ++ [n].filter f, by rw [List.range_succ, List.filter_append, h1, List.append_assoc], fun x hx => ?_⟩
    rcases List.mem_append.1 hx with hx | hx
    ·exact h2 x hx
    ·have := (List.mem_filter.1 hx).1
     rw [List.mem_singleton] at this
     omega
end
section
open Go.RowKit Go.Maps
theorem five {W : World} {g : Nat} {v0 v1 v2 v3 v4 : Value} {t : TypeId} (h : W.heap[g]? = some (.cells #[v0, v1, v2, v3, v4] t (0, 0))) : W.cell? ⟨g, 0, none⟩ = some v0 ∧ W.cell? ⟨g, 1, none⟩ = some v1 ∧ W.cell? ⟨g, 2, none⟩ = some v2 ∧ W.cell? ⟨g, 3, none⟩ = some v3 ∧ W.cell? ⟨g, 4, none⟩ = some v4 :=
 ⟨(cell_blk h 0).1, (cell_blk h 1).1, (cell_blk h 2).1, (cell_blk h 3).1, (cell_blk h 4).1⟩
theorem row_lo2 {w : World} {lo lo2 e size n : Nat} {v : Value} {xs : List Value} (h : w.ownsRow lo e size v n xs) (hl : lo2 ≤ lo) : w.ownsRow lo2 e size v n xs := by
 refine ⟨h.1, ?_⟩
 rcases h.2 with h | ⟨g, cap, cur, e, h1, h2, h3⟩
 ·exact .inl h
 ·exact .inr ⟨g, cap, cur, e, Nat.le_trans hl h1, h2, h3⟩
theorem cut_lt {L A rr : List Nat} {p : Nat} (h : L = A ++ rr) (hr : ∀ x ∈ rr, p ≤ x) (ha : ∀ x ∈ A, x < p) {j x : Nat} (hx : L[j]? = some x) : (x < p → A[j]? = some x) ∧ (p ≤ x → A.length ≤ j) := by
 subst h
 by_cases hj : j < A.length
 ·rw [List.getElem?_append_left hj] at hx
  exact ⟨fun _ => hx, fun hp => absurd (ha x (List.mem_of_getElem? hx)) (by omega)⟩
 ·rw [List.getElem?_append_right (by omega)] at hx
  exact ⟨fun hp => absurd (hr x (List.mem_of_getElem? hx)) (by omega), fun _ => by omega⟩
theorem map_take {β : Type} (f : Nat → β) {A : List Nat} {j x : Nat} (h : A[j]? = some x) : (A.take (j + 1)).map f = (A.take j).map f ++ [f x] := by
 rw [List.take_add_one, h, List.map_append]; rfl
set_option maxRecDepth 100000 in
set_option maxHeartbeats 8000000 in
theorem twice_any {w : World} {b1 : Nat} {v d2 av fv : Value} {xs : List Pd} {ps : List Pk} {base : Nat} {H1 : Nm → Option Hd} {k1 p : Nat} {q : Pk} (m1 : Mi w base (.map (some b1)) H1 (nmP xs xs.length) k1) (hs : Sim xs ps) (sm : SmP ps) (pk : Pkl w v ps) (hq : ps[p]? = some q) :
 Calls Tryz.prog 58 #[.agg #[v, .map (some b1), d2, av, fv], .int .i64 (p : Int)] w fun e w' => ∃ r, e = .returned r ∧ w'.ownsRow w.heap.size 31 6 r (twF ps p q).length (ftC (twF ps p q)) ∧ RowKit.Below w.heap.size w w' := by
 obtain ⟨i0, hi, hz0, hz1, hz2⟩ := info_parts2 infoFt
 have hpl := (List.getElem?_eq_some_iff.1 hq).1
 have hpn : (p : Int) < (ps.length : Int) := by omega
 obtain ⟨vb, vo, vc, cs, d, r, c, pv, f, rfl, hvb, hr, hpc, _⟩ := pk.at2 hq
 obtain ⟨W1, hW1⟩ : ∃ W, W = w.alloc (.cells #[.slice (some ⟨vb, vo, none⟩) ps.length vc, .map (some b1), d2, av, fv] 66) := ⟨_, rfl⟩
 have hb1 : RowKit.Below w.heap.size w W1 := by rw [hW1]; exact (Below.refl _ w).alloc (Nat.le_refl _) _
 have hx1 : W1.heap[w.heap.size]? = some (.cells #[.slice (some ⟨vb, vo, none⟩) ps.length vc, .map (some b1), d2, av, fv] 66 (0, 0)) := by rw [hW1]; exact World.alloc_heap_new w _
 have hqn := (sm.z q (List.mem_of_getElem? hq)).1
 obtain ⟨a1, d1, e1⟩ : ∃ a c, hv0 (H1 q.nm) = .slice a (nmP xs xs.length q.nm).length c := by
  obtain ⟨f, e, en⟩ := slice_hd (m1.own q.nm)
  exact ⟨f.a, f.c, by rw [e, ← en]; rfl⟩
 have o1 := m1.own q.nm
 rw [e1] at o1
 have HLK := hide (show ∀ X, RowKit.Below w.heap.size w X → (Instr.lookup 60 (.map (some b1)) (.string q.nm) false).run Tryz.prog X = .ok (.slice a1 (nmP xs xs.length q.nm).length d1) X from fun X hX => by rw [← e1]; exact look1 (m1.later hX).dm hqn)
 have HC0 := hide (show ∀ X, RowKit.Below w.heap.size w X → X.cell? ⟨vb, vo + p * 43, none⟩ = some (.string q.nm) from fun X hX => (hX.cell (p := ⟨vb, vo + p * 43, none⟩) hvb).trans (by have := hr 0 _ hpc.c0; rwa [Nat.add_zero] at this))
 have HF := hide (show ∀ X, RowKit.Below w.heap.size w X → ∀ (i : Nat) (q2 : Pk), ps[i]? = some q2 → Calls Tryz.prog 79 #[.agg #[.slice (some ⟨vb, vo, none⟩) ps.length vc, .map (some b1), d2, av, fv], .int .i64 1, .int .i64 (p : Int), .int .i64 (i : Int), .int .i64 (i : Int)] X fun e w' => e = .returned (Ft.v (twT ps q i)) ∧ RowKit.Below X.heap.size X w' from fun X hX i q2 h2 => by
  have := fault_two (d1 := .map (some b1)) (d2 := d2) (av := av) (fv := fv) 1 (i : Int) (pk.later hX) hq h2
  rw [show twT ps q i = ⟨1, q.nm, q.vr, i, q2.nm, q2.vr⟩ from by unfold twT nmA vrA; rw [h2]]
  exact this)
 rw [nmP_eq hs] at o1 HLK
 rw [hs.1] at o1 HLK
 obtain ⟨rr, hcut, hrest⟩ := cut_at (isN ps q.nm) (show p ≤ ps.length by omega)
 have HMEM := hide (show ∀ x ∈ (List.range ps.length).filter (isN ps q.nm), x < ps.length from fun x hx => List.mem_range.1 ((List.mem_filter.1 hx).1))
 have hll : ((List.range ps.length).filter (isN ps q.nm)).length ≤ ps.length := by
  refine Nat.le_trans (List.length_filter_le _ _) ?_
  rw [List.length_range]; exact Nat.le_refl _
 unfold twF
 have hAl : ((List.range p).filter (isN ps q.nm)).length ≤ p := by
  refine Nat.le_trans (List.length_filter_le _ _) ?_
  rw [List.length_range]; exact Nat.le_refl _
 have HALT := hide (show ∀ x ∈ (List.range p).filter (isN ps q.nm), x < p from fun x hx => List.mem_range.1 ((List.mem_filter.1 hx).1))
 have hsl := sm.l
 obtain ⟨L, hL⟩ : ∃ L, L = (List.range ps.length).filter (isN ps q.nm) := ⟨_, rfl⟩
 obtain ⟨A, hA⟩ : ∃ L, L = (List.range p).filter (isN ps q.nm) := ⟨_, rfl⟩
 rw [← hL] at o1 HLK hcut HMEM hll
 rw [← hA] at hcut HALT hAl ⊢
 obtain ⟨N, hN⟩ : ∃ N, N = L.length := ⟨_, rfl⟩
 rw [← hN] at o1 HLK hll
 have HN := hide hN
 have HO := hide o1
 have HCUT := hide hcut
 have HREST := hide hrest
 have HPS := hide (fun i (h : i < ps.length) => (⟨_, List.getElem?_eq_getElem h⟩ : ∃ q2, ps[i]? = some q2))
 have HST := hide (Fs.start W1)
 have HW1 := hide (And.intro hb1 hx1)
 have HS := hide (show ∀ X, RowKit.Below W1.heap.size W1 X → X.cell? ⟨w.heap.size, 0, none⟩ = some (.slice (some ⟨vb, vo, none⟩) ps.length vc) ∧ X.cell? ⟨w.heap.size, 1, none⟩ = some (.map (some b1)) ∧ X.cell? ⟨vb, vo + p * 43, none⟩ = some (.string q.nm) ∧ (Instr.lookup 60 (.map (some b1)) (.string q.nm) false).run Tryz.prog X = .ok (.slice a1 N d1) X from fun X hX => by
  obtain ⟨s0, s1, _, _, _⟩ := five ((hX.block _ (blk_lt hx1)).trans hx1)
  exact ⟨s0, s1, unhide HC0 X (bl_t hb1 hX), unhide HLK X (bl_t hb1 hX)⟩)
 have B0 := hide ((Below.refl W1.heap.size W1).drew)
 clear m1 hs sm pk hq hr hpc e1 o1 hcut hrest hb1 hx1 hL hA hN hqn
 go_enter Tryz.func58, Tryz.ntmps58
 go_wp2_with fail
 rw [← hW1]
 clear hW1
 go_region_held3 (fun w' => w'.cell? ⟨w.heap.size, 0, none⟩ = some (.slice (some ⟨vb, vo, none⟩) ps.length vc) ∧ w'.cell? ⟨w.heap.size, 1, none⟩ = some (.map (some b1)) ∧ w'.cell? ⟨vb, vo + p * 43, none⟩ = some (.string q.nm) ∧ (Instr.lookup 60 (.map (some b1)) (.string q.nm) false).run Tryz.prog w' = .ok (.slice a1 N d1) w') (first | exact unhide HS _ (unhide B0)) (fail)
 have HST2 := hide ((unhide HST).later (unhide B0))
 have HAFT := hide (show ∀ X, RowKit.Below W1.heap.size W1 X → X.heap[w.heap.size]? = some (.cells #[.slice (some ⟨vb, vo, none⟩) ps.length vc, .map (some b1), d2, av, fv] 66 (0, 0)) from fun X hX => (hX.block _ (blk_lt (unhide HW1).2)).trans (unhide HW1).2)
 clear HST HS HC0 HLK
 go_wp2_with fail
 go_loopw [5, 20] (fun sv jv wr => ∃ j : Nat, jv = .int .i64 j ∧ j ≤ A.length ∧ Hid (Fs W1 wr sv ((A.take j).map (twT ps q)))) (fun _ jv _ => N - (intOf jv).toNat)
 case atStart => exact ⟨0, rfl, Nat.zero_le _, HST2⟩
 case round =>
  clear HST2
  obtain ⟨j, rfl, hjA, HU⟩ := hrel
  have hu := unhide HU
  by_cases hlt : j < N
  ·have hlt2 : (j : Int) < (N : Int) := by omega
   have hjp : j < L.length := by have := unhide HN; omega
   obtain ⟨g, rfl, cg⟩ := row_at (unhide HO) (bl_t (unhide HW1).1 hu.bw) hjp
   have hx : L[j]? = some L[j] := List.getElem?_eq_getElem hjp
   generalize L[j] = x at *
   have hcl := cut_lt (unhide HCUT) (unhide HREST) (unhide HALT) hx
   have hxl := unhide HMEM x (List.mem_of_getElem? hx)
   obtain ⟨q2, hq2⟩ := unhide HPS x hxl
   have hx5 := unhide HAFT wr hu.bw
   obtain ⟨s0, s1, s2, s3, s4⟩ := five hx5
   have hzw : w.heap.size < wr.heap.size := blk_lt hx5
   have C := hide (unhide HF wr (bl_t (unhide HW1).1 hu.bw) x q2 hq2)
   clear hx5 hjp hq2
   by_cases hxp : x < p
   ·have hge : ¬ ((x : Int) ≥ (p : Int)) := by omega
    have hAj := hcl.1 hxp
    have hAj2 := (List.getElem?_eq_some_iff.1 hAj).1
    have HE := hide (map_take (twT ps q) hAj)
    have hLn : ((A.take j).map (twT ps q)).length ≤ p := by rw [List.length_map, List.length_take]; omega
    clear hcl hAj hx
    generalize (A.take j).map (twT ps q) = l at *
    go_wp2_with (first | (go_at_call 79; refine (unhide C).mono ?_; rintro e w5 ⟨rfl, hb⟩; have HU3 := hide (hu.later hb); clear hb C; have hbz := (unhide HU3).bw.size) | (at_builtin; go_must (refine wpList_append_own _ rfl _ _ 24 rfl W1.heap.size 31 i0 (.agg #[.int .i64 0, .string ⟨#[]⟩, .string ⟨#[]⟩, .int .i64 0, .string ⟨#[]⟩, .string ⟨#[]⟩]) 6 80 Tryz.underlying24 hi hz0 hz1 hz2 rfl (by decide) _ _ _ rfl ((unhide HU3).row.alloc _) ⟨w5.heap.size, 0, none⟩ 1 1 (twT ps q x).cs rfl rfl (news_ft w5 (twT ps q x) 31) (one_ft _) (by unfold maxLen; omega) (by omega) (by simp; omega) ?_); intro v' w9 hown hgrow _; have HU9 := hide ((unhide HU3).grow hown hgrow); clear hown hgrow))
    go_roundw
    case rel => exact ⟨j + 1, by go_num, by omega, by rw [unhide HE]; exact HU9⟩
    case measure => simp [intOf]; omega
   ·have hge : (x : Int) ≥ (p : Int) := by omega
    have HE := hide (show A.take j = A from List.take_of_length_le (hcl.2 (by omega)))
    clear hcl hx C
    go_wp2_with fail
    go_ret
    refine ⟨_, rfl, ?_, bl_t (unhide HW1).1 hu.bw⟩
    have := hu.row
    rw [unhide HE] at this
    exact row_lo2 this (unhide HW1).1.size
  ·have HE := hide (show A.take j = A from List.take_of_length_le (by
    have h1 := unhide HN
    have h2 : L.length = A.length + rr.length := by rw [unhide HCUT, List.length_append]
    omega))
   go_wp2_with fail
   go_ret
   refine ⟨_, rfl, ?_, bl_t (unhide HW1).1 hu.bw⟩
   have := hu.row
   rw [unhide HE] at this
   exact row_lo2 this (unhide HW1).1.size
end
section
open Go.RowKit Go.Maps
structure RepV (D : DataW Value) (H : Nm → Option Value) : Prop where
 has : ∀ x : Nm, x.size ≤ maxLen → Maps.has D (kl x) = (H x).isSome
 at_ : ∀ x : Nm, x.size ≤ maxLen → ∀ z, D.atKey (kl x) z = match H x with | some h => .held h | none => z
theorem RepV.start : RepV (.map []) (fun _ => none) := ⟨fun _ _ => rfl, fun _ _ _ => rfl⟩
theorem RepV.put {D : DataW Value} {H : Nm → Option Value} (r : RepV D H) (hD : IsMap D) {x : Nm} (h : Value) : RepV (D.put (kl x) (.held h)) (up H x (some h)) := by
 refine ⟨fun y hy => ?_, fun y hy z => ?_⟩
 ·by_cases e : y = x
  ·subst e
   rw [has_put_same hD (show WideAt.IsKeyLit (kl y) from trivial), up_same]
   rfl
  ·rw [has_put_other (fun q => e (kl_inj q)), up_other _ _ e, r.has y hy]
 ·by_cases e : y = x
  ·subst e
   rw [atKey_put_same hD (show WideAt.IsKeyLit (kl y) from trivial), up_same]
  ·rw [atKey_put_other (fun q => e (kl_inj q)), up_other _ _ e, r.at_ y hy]
def Dv (W : World) (b : Nat) (H : Nm → Option Value) (k : Nat) : Prop := ∃ D, W.ownsMap Tryz.prog 9 raw b k D ∧ RepV D H
theorem Dv.lt {W : World} {b : Nat} {H : Nm → Option Value} {k : Nat} (h : Dv W b H k) : b < W.heap.size := let ⟨_, o, _⟩ := h; o.lt
theorem Dv.same {W W2 : World} {b : Nat} {H : Nm → Option Value} {k : Nat} (h : Dv W b H k) (hb : W2.heap[b]? = W.heap[b]?) : Dv W2 b H k := by
 obtain ⟨D, ⟨es, clock, h1, h2⟩, r⟩ := h
 exact ⟨D, ⟨es, clock, hb.trans h1, h2⟩, r⟩
theorem Dv.later {W W2 : World} {b : Nat} {H : Nm → Option Value} {k : Nat} (h : Dv W b H k) (hb : Below W.heap.size W W2) : Dv W2 b H k := h.same (hb.block b h.lt)
theorem Dv.make (W : World) : Dv (W.alloc (.map #[] 0)) W.heap.size (fun _ => none) 0 := ⟨_, World.ownsMap_made W Tryz.prog 9 raw, RepV.start⟩
def spV (t : Nat × Nat) : Value := .agg #[.int .i64 (t.1 : Int), .int .i64 (t.2 : Int)]
def sp0 : Value := .agg #[.int .i64 0, .int .i64 0]
theorem zeroSP (w : World) : (zeroValue 96).run Tryz.prog w = .ok sp0 w := by kernel_rfl
theorem Dv.look {W : World} {b : Nat} {H : Nm → Option Value} {k : Nat} (h : Dv W b H k) {x : Nm} (hx : x.size ≤ maxLen) : (Instr.lookup 64 (.map (some b)) (.string x) true).run Tryz.prog W = .ok (.tuple #[(H x).getD sp0, .bool (H x).isSome]) W := by
 obtain ⟨D, ho, r⟩ := h
 obtain ⟨v, ps, hr, hv2⟩ := ho.look_ok law9 Tryz.underlying64 (zeroSP W) (zd := .held sp0) (zp := []) rfl (key9 hx)
 rw [hr, r.has x hx]
 have e := raw_inv hv2
 rw [r.at_ x hx] at e
 cases hH : H x with
 | none => simp only [hH] at e; cases e; rfl
 | some h => simp only [hH] at e; cases e; rfl
theorem Dv.look1 {W : World} {b : Nat} {H : Nm → Option Value} {k : Nat} (h : Dv W b H k) {x : Nm} (hx : x.size ≤ maxLen) : (Instr.lookup 64 (.map (some b)) (.string x) false).run Tryz.prog W = .ok ((H x).getD sp0) W := by
 obtain ⟨D, ho, r⟩ := h
 obtain ⟨v, ps, hr, hv2⟩ := ho.lookup law9 Tryz.underlying64 (zeroSP W) (zd := .held sp0) (zp := []) rfl (key9 hx)
 rw [hr]
 have e := raw_inv hv2
 rw [r.at_ x hx] at e
 cases hH : H x with
 | none => simp only [hH] at e; cases e; rfl
 | some h => simp only [hH] at e; cases e; rfl
theorem Dv.put {W : World} {b k : Nat} {H : Nm → Option Value} (h : Dv W b H k) (hk : k < maxLen) {x : Nm} (hx : x.size ≤ maxLen) (f : Value) :
 ∃ W2, (Instr.mapUpdate 64 (.map (some b)) (.string x) f).run Tryz.prog W = .ok () W2 ∧ Dv W2 b (up H x (some f)) (k + 1) ∧ Fx (fun c => c = b) W W2 := by
 obtain ⟨D, ho, r⟩ := h
 obtain ⟨W2, hr, ho2, ht⟩ := ho.store law9 Tryz.underlying64 hk (key9 (x := x) hx) (val := f) (d := .held f) (ps := []) rfl
 have hg := ht.grown
 exact ⟨W2, hr, ⟨_, ho2, r.put ho.isMap f⟩, ⟨hg.1, hg.2, hg.3, hg.size, fun _ h => absurd h (Nat.not_lt_zero _)⟩, fun c hc hn => hg.block c hc (by intro q; cases q; exact hn rfl)⟩
def pathC (cs : List Value) : Nm := match (cs[0]? : Option Value) with | some (.string s) => s | _ => ⟨#[]⟩
def spQ (p : Nat) (fs : List (List Value)) : List (Nm × Nat × Nat) := fs.zipIdx.map fun x => (pathC x.1, p, x.2)
def spL (ps : List Pk) : Nat → List (Nm × Nat × Nat)
 | 0 => []
 | i + 1 => spL ps i ++ (match ps[i]? with | some q => spQ i q.fs | none => [])
def fst1 (L : List (Nm × Nat × Nat)) (x : Nm) : Option (Nat × Nat) := (L.find? fun t => decide (t.1 = x)).map (·.2)
def fsH (L : List (Nm × Nat × Nat)) (x : Nm) : Option Value := (fst1 L x).map spV
theorem fst1_snoc (L : List (Nm × Nat × Nat)) (t : Nm × Nat × Nat) (x : Nm) : fst1 (L ++ [t]) x = match fst1 L x with | some s => some s | none => if t.1 = x then some t.2 else none := by
 unfold fst1
 rw [List.find?_append]
 cases L.find? fun t => decide (t.1 = x) with
 | some s => rfl
 | none =>
   by_cases e : t.1 = x
   ·simp [e]
   ·simp [e]
theorem fsH_old {L : List (Nm × Nat × Nat)} {t : Nm × Nat × Nat} (h : (fsH L t.1).isSome = true) : fsH (L ++ [t]) = fsH L := by
 funext x
 unfold fsH
 rw [fst1_snoc]
 cases e : fst1 L x with
 | some s => rfl
 | none =>
   by_cases q : t.1 = x
   ·subst q
    unfold fsH at h
    rw [e] at h
    cases h
   ·rw [if_neg q]
theorem fsH_new {L : List (Nm × Nat × Nat)} {t : Nm × Nat × Nat} (h : (fsH L t.1).isSome = false) : fsH (L ++ [t]) = up (fsH L) t.1 (some (spV t.2)) := by
 funext x
 by_cases q : x = t.1
 ·subst q
  rw [up_same]
  unfold fsH at h ⊢
  rw [fst1_snoc]
  cases e : fst1 L t.1 with
  | some s => rw [e] at h; cases h
  | none => simp
 ·rw [up_other _ _ q]
  unfold fsH
  rw [fst1_snoc, if_neg (fun e => q e.symm)]
  cases fst1 L x <;> rfl
end
section
open Go.RowKit Go.Maps
structure BkF (w : World) (g : Nat) (cs : List Value) : Prop where
 len : cs.length = 34
 one : ∀ x ∈ cs, x.oneCell' = true
 at_ : w.heap[g]? = some (.cells cs.toArray 58 (0, 0))
theorem infoF2 : ∃ zc : List Value, (Tryz.prog.info? 58).map (fun i => (i.zero, i.size)) = some (some (.agg zc.toArray), 34) ∧ zc.length = 34 ∧ zc.all (·.oneCell') = true :=
 ⟨((((Tryz.prog.info? 58).bind (·.zero)).map fun z => z.cells.toList).getD []), by kernel_rfl, by kernel_rfl, by kernel_rfl⟩
theorem sizeF : (Tryz.prog.info? 58).map (·.size) = some 34 := by kernel_rfl
section
variable {ops : Array Oper} {rest : List Oper} {o : Oper} {a : Act} {w : World} {Q : Exit → Act → World → Prop}
theorem f_alloc (ho : o.op = .alloc 58) (hw : Region.wanted o (yielded ops a.tmps) = true)
 (h : ∀ w2 zc, BkF w2 w.heap.size zc → Below w.heap.size w w2 → w.heap.size + 1 ≤ w2.heap.size ∧ w2.heap.size ≤ w.heap.size + 1 → wpList Tryz.prog ops Q rest (a.put o.dst (.pointer (some ⟨w.heap.size, 0, none⟩))) w2) : wpList Tryz.prog ops Q (o :: rest) a w := by
 refine BigFrame.wpList_want hw fun K hK => ?_
 obtain ⟨zc, h1, h2, h3⟩ := infoF2
 unfold Oper.wp execOp
 simp only [ho, Sem.run_bind, Instr.alloc, (zero_of_info h1).1, newVar, newRow, run_newObj_alloc, Sem.run_pure, Result.andThen_ok]
 exact hK _ _ (h _ zc ⟨h2, List.all_eq_true.1 h3, heap_alloc_new w _⟩ ((Below.refl _ _).alloc (Nat.le_refl _) _) (by simp))
theorem f_store (x y : Operand) (ho : o.op = .store 58 x y) (hw : Region.wanted o (yielded ops a.tmps) = true) (g : Nat) (hx : a.eval x = .pointer (some ⟨g, 0, none⟩)) (l : List Value) (hy : a.eval y = .agg l.toArray) (hl : l.length = 34) (h1 : ∀ x ∈ l, x.oneCell' = true) (l0 : List Value) (hb : BkF w g l0)
 (h : ∀ w2, BkF w2 g l → (∀ B, B ≤ g → Below B w w2) → wpList Tryz.prog ops Q rest (a.put o.dst undef) w2) : wpList Tryz.prog ops Q (o :: rest) a w := by
 refine BigFrame.wpList_want hw fun K hK => ?_
 refine wp_store_row 58 x y ho g _ hx hy 58 _ hb.at_ (by rw [sizeF, List.size_toArray, hl]) (by rw [List.size_toArray, List.size_toArray, hl, hb.len]) (by rw [List.all_toArray]; exact List.all_eq_true.2 h1) (hK _ _ ?_)
 exact h _ ⟨hl, h1, setRow_heap w g _ _ 58 (0, 0) hb.at_⟩ (fun B hB => ⟨rfl, rfl, rfl, by simp, fun k hk => setRow_other w g k _ (by omega)⟩)
end
theorem BkF.path {w : World} {g : Nat} {cs : List Value} (h : BkF w g cs) {s : Nm} (hs : cs[0]? = some (.string s)) : w.cell? ⟨g, 0, none⟩ = some (.string s) := by
 rw [(cell_blk h.at_ 0).1]
 simpa using hs
theorem spNeq (a b c d : Int) (w : World) : (binOp .neq 96 (.agg #[.int .i64 a, .int .i64 b]) (.agg #[.int .i64 c, .int .i64 d])).run Tryz.prog w = .ok (.bool (!(decide (a = c) && decide (b = d)))) w := by
 go_simp
 by_cases h1 : a = c <;> by_cases h2 : b = d <;> simp [h1, h2]
theorem spQ_mem {p i : Nat} {fs : List (List Value)} {x : List Value} (h : fs[i]? = some x) : (pathC x, p, i) ∈ spQ p fs := by
 unfold spQ
 exact List.mem_map.2 ⟨(x, i), List.mem_zipIdx_iff_getElem?.2 h, rfl⟩
theorem spQ_inv {p : Nat} {fs : List (List Value)} {t : Nm × Nat × Nat} (h : t ∈ spQ p fs) : t.2.1 = p ∧ ∃ x, fs[t.2.2]? = some x ∧ t.1 = pathC x := by
 unfold spQ at h
 obtain ⟨⟨x, i⟩, h1, rfl⟩ := List.mem_map.1 h
 exact ⟨rfl, x, List.mem_zipIdx_iff_getElem?.1 h1, rfl⟩
theorem spL_mem {ps : List Pk} {p : Nat} {q : Pk} (hq : ps[p]? = some q) {t : Nm × Nat × Nat} (ht : t ∈ spQ p q.fs) : ∀ n, p < n → t ∈ spL ps n
 | 0, h => absurd h (Nat.not_lt_zero _)
 | n + 1, h => by
   unfold spL
   rw [List.mem_append]
   by_cases e : p = n
   ·subst e; rw [hq]; exact .inr ht
   ·exact .inl (spL_mem hq ht n (by omega))
theorem spL_inv {ps : List Pk} {t : Nm × Nat × Nat} : ∀ n, t ∈ spL ps n → t.2.1 < n ∧ ∃ q x, ps[t.2.1]? = some q ∧ q.fs[t.2.2]? = some x ∧ t.1 = pathC x
 | 0, h => by cases h
 | n + 1, h => by
   unfold spL at h
   rw [List.mem_append] at h
   rcases h with h | h
   ·obtain ⟨h1, h2⟩ := spL_inv n h
    exact ⟨by omega, h2⟩
   ·cases e : ps[n]? with
    | none => rw [e] at h; cases h
    | some q =>
      rw [e] at h
      obtain ⟨h1, x, h2, h3⟩ := spQ_inv h
      exact ⟨by omega, q, x, by rw [h1]; exact e, h2, h3⟩
theorem fst1_some {L : List (Nm × Nat × Nat)} {x : Nm} {s : Nat × Nat} (h : (x, s) ∈ L) : ∃ t, fst1 L x = some t ∧ (x, t) ∈ L := by
 unfold fst1
 cases e : L.find? fun t => decide (t.1 = x) with
 | none =>
   have := List.find?_eq_none.1 e (x, s) h
   simp at this
 | some t =>
   have h1 := List.find?_some e
   have h2 := List.mem_of_find?_eq_some e
   simp at h1
   exact ⟨t.2, rfl, by rw [← h1]; exact h2⟩
def paO (ps : List Pk) (p : Nat) (q : Pk) (i : Nat) (x : List Value) : List Ft := match fst1 (spL ps ps.length) (pathC x) with | some t => if t = (p, i) then [] else [⟨5, q.nm, q.vr, i, nmA ps t.1, vrA ps t.1⟩] | none => []
def paJ (ps : List Pk) (p : Nat) (q : Pk) : Nat → List Ft
 | 0 => []
 | i + 1 => paJ ps p q i ++ (match q.fs[i]? with | some x => paO ps p q i x | none => [])
theorem paO_len (ps : List Pk) (p : Nat) (q : Pk) (i : Nat) (x : List Value) : (paO ps p q i x).length ≤ 1 := by
 unfold paO
 cases fst1 (spL ps ps.length) (pathC x) with
 | none => simp
 | some t => simp only; split <;> simp
theorem paJ_len (ps : List Pk) (p : Nat) (q : Pk) : ∀ i, (paJ ps p q i).length ≤ i
 | 0 => Nat.le_refl _
 | i + 1 => by
   have ih := paJ_len ps p q i
   unfold paJ
   rw [List.length_append]
   cases q.fs[i]? with
   | none => simp; omega
   | some x => have := paO_len ps p q i x; simp only; omega
end
section
open Go.RowKit Go.Maps
theorem fnew {wr w2 w3 : World} (k2 : Below wr.heap.size wr w2) (k3 : ∀ B, B ≤ wr.heap.size → Below B w2 w3) : Below wr.heap.size wr w3 := k2.trans (k3 _ (Nat.le_refl _))
theorem pathC_of {x : List Value} {s : Nm} (h : x[0]? = some (.string s)) : pathC x = s := by unfold pathC; rw [h]
set_option maxRecDepth 100000 in
set_option maxHeartbeats 8000000 in
theorem paths_any {w : World} {b3 : Nat} {v d1 d2 av : Value} {ps : List Pk} {k3 p : Nat} {q : Pk} (dv : Dv w b3 (fsH (spL ps ps.length)) k3) (sm : SmP ps) (pk : Pkl w v ps) (hq : ps[p]? = some q) :
 Calls Tryz.prog 61 #[.agg #[v, d1, d2, av, .map (some b3)], .int .i64 (p : Int)] w fun e w' => ∃ r, e = .returned r ∧ w'.ownsRow w.heap.size 31 6 r (paJ ps p q q.fs.length).length (ftC (paJ ps p q q.fs.length)) ∧ RowKit.Below w.heap.size w w' := by
 obtain ⟨i0, hi, hz0, hz1, hz2⟩ := info_parts2 infoFt
 have hpl := (List.getElem?_eq_some_iff.1 hq).1
 have hpn : (p : Int) < (ps.length : Int) := by omega
 obtain ⟨vb, vo, vc, cs, dd, rr, cc, pv, ff, rfl, hvb, hr, hpc, hll⟩ := pk.at2 hq
 obtain ⟨fa, fc, rfl⟩ : ∃ a c, ff = .slice a q.fs.length c := let ⟨a, c, e, _⟩ := hll.fl; ⟨a, c, e⟩
 have hc7 : w.cell? ⟨vb, vo + p * 43 + 7, none⟩ = some (.slice fa q.fs.length fc) := hr 7 _ hpc.c7
 have hmem := List.mem_of_getElem? hq
 have hNl : q.fs.length ≤ 1048576 := Nat.le_trans (le_sum (fun p : Pk => p.fs.length) hmem) sm.sf
 obtain ⟨W1, hW1⟩ : ∃ W, W = w.alloc (.cells #[.slice (some ⟨vb, vo, none⟩) ps.length vc, d1, d2, av, .map (some b3)] 66) := ⟨_, rfl⟩
 have hb1 : RowKit.Below w.heap.size w W1 := by rw [hW1]; exact (Below.refl _ w).alloc (Nat.le_refl _) _
 have hx1 : W1.heap[w.heap.size]? = some (.cells #[.slice (some ⟨vb, vo, none⟩) ps.length vc, d1, d2, av, .map (some b3)] 66 (0, 0)) := by rw [hW1]; exact World.alloc_heap_new w _
 have HFI := hide (show ∀ X, RowKit.Below w.heap.size w X → Fls X (.slice fa q.fs.length fc) q.fs from fun X hX => hll.fl.later hX)
 have HLK := hide (show ∀ (i : Nat) (x : List Value), q.fs[i]? = some x → ∃ (s : Nm) (t : Nat × Nat) (q2 : Pk), x[0]? = some (.string s) ∧ ps[t.1]? = some q2 ∧ paO ps p q i x = (if t = (p, i) then [] else [⟨5, q.nm, q.vr, i, q2.nm, q2.vr⟩]) ∧ ∀ X, RowKit.Below w.heap.size w X → (Instr.lookup 64 (.map (some b3)) (.string s) false).run Tryz.prog X = .ok (.agg #[.int .i64 (t.1 : Int), .int .i64 (t.2 : Int)]) X from fun i x hx => by
  obtain ⟨s, hs1, hs2⟩ := sm.f q hmem x (List.mem_of_getElem? hx)
  obtain ⟨t, ht1, ht2⟩ := fst1_some (spL_mem hq (spQ_mem hx) ps.length hpl)
  obtain ⟨_, q2, x2, h4, _, _⟩ := spL_inv _ ht2
  rw [pathC_of hs1] at ht1
  refine ⟨s, t, q2, hs1, h4, ?_, fun X hX => ?_⟩
  ·unfold paO
   rw [pathC_of hs1, ht1]
   simp only
   unfold nmA vrA
   rw [h4]
  ·rw [(dv.later hX).look1 hs2]
   unfold fsH
   rw [ht1]
   rfl)
 have HF := hide (show ∀ X, RowKit.Below w.heap.size w X → ∀ (i j : Nat) (q2 : Pk), ps[j]? = some q2 → Calls Tryz.prog 79 #[.agg #[.slice (some ⟨vb, vo, none⟩) ps.length vc, d1, d2, av, .map (some b3)], .int .i64 5, .int .i64 (p : Int), .int .i64 (i : Int), .int .i64 (j : Int)] X fun e w' => e = .returned (Ft.v ⟨5, q.nm, q.vr, i, q2.nm, q2.vr⟩) ∧ RowKit.Below X.heap.size X w' from fun X hX i j q2 h2 => fault_two 5 (i : Int) (pk.later hX) hq h2)
 have HIX := hide (show ∀ x : List Value, isF x → (Tryz.prog.info? 58).map (·.size) = some x.length from fun x hx => by rw [hx.1]; exact sizeF)
 obtain ⟨N, hN⟩ : ∃ N, N = q.fs.length := ⟨_, rfl⟩
 rw [← hN] at hc7 hNl HFI ⊢
 have HN := hide hN
 have HST := hide (Fs.start W1)
 have HW1 := hide (And.intro hb1 hx1)
 clear dv sm pk hq hr hpc hll hb1 hx1 hN hmem
 go_enter Tryz.func61, Tryz.ntmps61
 go_wp2_with fail
 rw [← hW1]
 clear hW1
 go_loopw [5, 17] (fun sv iv wr => ∃ i : Nat, iv = .int .i64 i ∧ i ≤ N ∧ Hid (Fs W1 wr sv (paJ ps p q i))) (fun _ iv _ => N - (intOf iv).toNat)
 case atStart => exact ⟨0, rfl, Nat.zero_le _, HST⟩
 case round =>
  clear HST
  obtain ⟨i, rfl, hile, HU⟩ := hrel
  have hu := unhide HU
  by_cases hlt : i < N
  ·have hlt2 : (i : Int) < (N : Int) := by omega
   have hip : i < q.fs.length := by have := unhide HN; omega
   have hx : q.fs[i]? = some q.fs[i] := List.getElem?_eq_getElem hip
   generalize q.fs[i] = x at *
   obtain ⟨hxF, fb, fo, rfl, hfb, hfr⟩ := (unhide HFI wr (bl_t (unhide HW1).1 hu.bw)).at hx
   obtain ⟨s, t, q2, hxs, ht, hpo, hlk⟩ := unhide HLK i x hx
   obtain ⟨t1, t2⟩ := t
   have HR := hide hfr
   have HIF := hide (unhide HIX x hxF)
   have HXL := hide (show x.length = 34 from hxF.1)
   have HXO := hide (show ∀ v ∈ x, v.oneCell' = true from hxF.2.2)
   have hle := paJ_len ps p q i
   have HE := hide (show paJ ps p q (i + 1) = paJ ps p q i ++ (if (t1, t2) = (p, i) then [] else [⟨5, q.nm, q.vr, i, q2.nm, q2.vr⟩]) from by rw [paJ, hx]; simp only; rw [hpo])
   have HAT := hide (show ∀ X, RowKit.Below wr.heap.size wr X → X.cell? ⟨w.heap.size, 0, none⟩ = some (.slice (some ⟨vb, vo, none⟩) ps.length vc) ∧ X.cell? ⟨w.heap.size, 1, none⟩ = some d1 ∧ X.cell? ⟨w.heap.size, 2, none⟩ = some d2 ∧ X.cell? ⟨w.heap.size, 3, none⟩ = some av ∧ X.cell? ⟨w.heap.size, 4, none⟩ = some (.map (some b3)) ∧ w.heap.size < X.heap.size ∧ (Instr.lookup 64 (.map (some b3)) (.string s) false).run Tryz.prog X = .ok (.agg #[.int .i64 (t1 : Int), .int .i64 (t2 : Int)]) X from fun X hX => by
    have b := bl_t hu.bw hX
    have e := (b.block _ (blk_lt (unhide HW1).2)).trans (unhide HW1).2
    obtain ⟨s0, s1, s2, s3, s4⟩ := five e
    exact ⟨s0, s1, s2, s3, s4, blk_lt e, hlk X (bl_t (unhide HW1).1 b)⟩)
   have HFA := hide (show ∀ X, RowKit.Below wr.heap.size wr X → ∀ Y, RowKit.Below X.heap.size X Y → Calls Tryz.prog 79 #[.agg #[.slice (some ⟨vb, vo, none⟩) ps.length vc, d1, d2, av, .map (some b3)], .int .i64 5, .int .i64 (p : Int), .int .i64 (i : Int), .int .i64 (t1 : Int)] Y fun e w' => e = .returned (Ft.v ⟨5, q.nm, q.vr, i, q2.nm, q2.vr⟩) ∧ RowKit.Below Y.heap.size Y w' from fun X hX Y hY => unhide HF Y (bl_t (unhide HW1).1 (bl_t hu.bw (bl_t hX hY))) i t1 q2 ht)
   have hneq := fun X => spNeq (t1 : Int) (t2 : Int) (p : Int) (i : Int) X
   clear hfr hxF hx hip hpo hlk ht hfb
   by_cases ht : (t1, t2) = (p, i)
   ·have hd : (!(decide ((t1 : Int) = (p : Int)) && decide ((t2 : Int) = (i : Int)))) = false := by
     injection ht with h1 h2
     subst h1 h2
     simp
    rw [hd] at hneq
    have HE2 := hide (show paJ ps p q (i + 1) = paJ ps p q i from by rw [unhide HE, if_pos ht, List.append_nil])
    clear ht hd HE
    go_wp2_with (first | ((with_reducible refine wpList_load_p (op := y19_1) ?pxa 58 (.tmp 20) ?pxb fb (fo + i * 34) ?pxc x _ (unhide HR) Tryz.underlying58 ?pxd (unhide HIF) ?pxe); (case pxa => rfl); (case pxb => rfl); (case pxc => rfl); (case pxd => rfl)) | (with_reducible refine f_alloc rfl rfl ?_; intro w2 zc bk2 k2 z2) | ((with_reducible refine f_store _ _ rfl rfl wr.heap.size rfl x rfl (unhide HXL) (unhide HXO) zc bk2 ?_); intro w3 bk3 k3; have hbel := fnew k2 k3; obtain ⟨s0, s1, s2, s3, s4, hzw, lk⟩ := unhide HAT w3 hbel; have c0 := bk3.path hxs; have hzg := blk_lt bk3.at_; have HU2 := hide (hu.later hbel); have HFA2 := hide (unhide HFA w3 hbel); clear k2 k3 bk2 bk3 z2 hbel))
    have HU3 := hide ((unhide HU2).later ((Below.refl _ w3).alloc (Nat.le_refl _) (.cells #[.int .i64 (t1 : Int), .int .i64 (t2 : Int)] 96)))
    go_roundw
    case rel => exact ⟨i + 1, by go_num, by omega, by rw [unhide HE2]; exact HU3⟩
    case measure => simp [intOf]; omega
   ·have hd : (!(decide ((t1 : Int) = (p : Int)) && decide ((t2 : Int) = (i : Int)))) = true := by
     rw [Bool.not_eq_true', Bool.and_eq_false_iff]
     by_cases h1 : (t1 : Int) = (p : Int)
     ·right
      refine decide_eq_false fun h2 => ht ?_
      rw [show t1 = p by omega, show t2 = i by omega]
     ·exact .inl (decide_eq_false h1)
    rw [hd] at hneq
    have HE2 := hide (show paJ ps p q (i + 1) = paJ ps p q i ++ [⟨5, q.nm, q.vr, i, q2.nm, q2.vr⟩] from by rw [unhide HE, if_neg ht])
    clear ht hd HE
    generalize paJ ps p q i = l at *
    go_wp2_with (first | ((with_reducible refine wpList_load_p (op := y19_1) ?pya 58 (.tmp 20) ?pyb fb (fo + i * 34) ?pyc x _ (unhide HR) Tryz.underlying58 ?pyd (unhide HIF) ?pye); (case pya => rfl); (case pyb => rfl); (case pyc => rfl); (case pyd => rfl)) | (with_reducible refine f_alloc rfl rfl ?_; intro w2 zc bk2 k2 z2) | ((with_reducible refine f_store _ _ rfl rfl wr.heap.size rfl x rfl (unhide HXL) (unhide HXO) zc bk2 ?_); intro w3 bk3 k3; have hbel := fnew k2 k3; obtain ⟨s0, s1, s2, s3, s4, hzw, lk⟩ := unhide HAT w3 hbel; have c0 := bk3.path hxs; have hzg := blk_lt bk3.at_; have HU2 := hide (hu.later hbel); have HFA2 := hide (unhide HFA w3 hbel); clear k2 k3 bk2 bk3 z2 hbel) | (go_at_call 79; refine (unhide HFA2 _ ((Below.refl _ w3).alloc (Nat.le_refl _) _)).mono ?_; rintro e w5 ⟨rfl, hb⟩; have HU3 := hide ((unhide HU2).later (bl_t ((Below.refl _ w3).alloc (Nat.le_refl _) _) hb)); clear hb; have hbz := (unhide HU3).bw.size) | (at_builtin; go_must (refine wpList_append_own _ rfl _ _ 24 rfl W1.heap.size 31 i0 (.agg #[.int .i64 0, .string ⟨#[]⟩, .string ⟨#[]⟩, .int .i64 0, .string ⟨#[]⟩, .string ⟨#[]⟩]) 6 80 Tryz.underlying24 hi hz0 hz1 hz2 rfl (by decide) _ _ _ rfl ((unhide HU3).row.alloc _) ⟨w5.heap.size, 0, none⟩ 1 1 (Ft.cs ⟨5, q.nm, q.vr, i, q2.nm, q2.vr⟩) rfl rfl (news_ft w5 ⟨5, q.nm, q.vr, i, q2.nm, q2.vr⟩ 31) (one_ft _) (by unfold maxLen; omega) (by omega) (by simp; omega) ?_); intro v' w9 hown hgrow _; have HU9 := hide ((unhide HU3).grow hown hgrow); clear hown hgrow))
    go_roundw
    case rel => exact ⟨i + 1, by go_num, by omega, by rw [unhide HE2]; exact HU9⟩
    case measure => simp [intOf]; omega
  ·obtain rfl : i = N := by omega
   go_wp2_with fail
   go_ret
   refine ⟨_, rfl, ?_, bl_t (unhide HW1).1 hu.bw⟩
   exact row_lo2 hu.row (unhide HW1).1.size
end
end Go.Proofs.YtdkpglmdncjnbaaGreatDoor
