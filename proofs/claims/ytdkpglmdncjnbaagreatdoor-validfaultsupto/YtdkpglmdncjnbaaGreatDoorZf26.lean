import Derived.Test.YtdkpglmdncjnbaaGreatDoorZf25
import Derived.WalkMore
namespace Go.Proofs.YtdkpglmdncjnbaaGreatDoor
section
open Go.RowKit Go.Maps
structure Pw (W wr : World) (s : Value) (css : List (List Value)) : Prop where
 row : wr.ownsRow W.heap.size 46 43 s css.length css.flatten
 bw : RowKit.Below W.heap.size W wr
theorem Pw.start (W : World) : Pw W W (.slice none 0 0) [] := ⟨⟨rfl, .inl ⟨rfl, rfl⟩⟩, Below.refl _ _⟩
theorem Pw.later {W wr w2 : World} {s : Value} {l : List (List Value)} (h : Pw W wr s l) (hb : RowKit.Below wr.heap.size wr w2) : Pw W w2 s l := ⟨own_same h.row fun b e => hb.block b (World.ownsRow.lt h.row b e).2, bl_t h.bw hb⟩
theorem Pw.grow {W wr w9 : World} {s v' : Value} {l : List (List Value)} {c : List Value} (h : Pw W wr s l) (hown : w9.ownsRow W.heap.size 46 43 v' (l.length + 1) (l.flatten ++ c)) (hg : wr.grownBy w9 s.ownBlock) : Pw W w9 v' (l ++ [c]) := by
 refine ⟨?_, h.bw.grown hg h.bw.size fun j e => (World.ownsRow.lt h.row j e).1⟩
 rw [List.length_append, List.flatten_append, List.flatten_singleton]
 exact hown
theorem infoP3 : ∃ zc : List Value, (Tryz.prog.info? 46).map (fun i => (i.zero, i.size, i.bytes)) = some (some (.agg zc.toArray), 43, 232) ∧ zc.length = 43 :=
 ⟨((((Tryz.prog.info? 46).bind (·.zero)).map fun z => z.cells.toList).getD []), by kernel_rfl, by kernel_rfl⟩
theorem flat_atT {c : List Value} {j : Nat} {u : Value} : ∀ (css : List (List Value)) (i : Nat), (∀ c ∈ css, c.length = 43) → css[i]? = some c → c[j]? = some u → css.flatten[i * 43 + j]? = some u
 | [], i, _, h, _ => by simp at h
 | d :: css, 0, hl, h, hj => by
   simp at h
   subst h
   have := (List.getElem?_eq_some_iff.1 hj).1
   rw [List.flatten_cons, Nat.zero_mul, Nat.zero_add, List.getElem?_append_left this]
   exact hj
 | d :: css, i + 1, hl, h, hj => by
   have hd := hl d List.mem_cons_self
   rw [List.getElem?_cons_succ] at h
   have ih := flat_atT css i (fun c hc => hl c (List.mem_cons_of_mem _ hc)) h hj
   rw [List.flatten_cons, List.getElem?_append_right (by omega), hd, show (i + 1) * 43 + j - 43 = i * 43 + j by omega]
   exact ih
def Cf (w : World) (b o : Nat) (ps : List Pk) (f : Nat → List Value) : Prop := b < w.heap.size ∧ ∀ (i : Nat) (q : Pk), ps[i]? = some q → w.rangeAt b (o + i * 43) (f i) ∧ ∃ d r c v g, PkC (f i) q d r c v g ∧ PkL w q d r c v g
theorem Pkl.cf {w : World} {va : Option Addr} {n vc : Nat} {ps : List Pk} (h : Pkl w (.slice va n vc) ps) (h0 : 0 < ps.length) : ∃ b o f, va = some ⟨b, o, none⟩ ∧ Cf w b o ps f := by
 obtain ⟨a, c, e, h2⟩ := h
 obtain ⟨b, o, rfl, h3, h4⟩ := h2 h0
 have hc : ∀ i, ∃ cs : List Value, ∀ q, ps[i]? = some q → w.rangeAt b (o + i * 43) cs ∧ ∃ d r c v g, PkC cs q d r c v g ∧ PkL w q d r c v g := fun i => by
  cases e : ps[i]? with
  | none => exact ⟨[], fun q hq => by cases hq⟩
  | some q =>
    obtain ⟨cs, d, r, c, v, g, k1, k2, k3⟩ := h4 i q e
    exact ⟨cs, fun q2 hq => by cases hq; exact ⟨k1, d, r, c, v, g, k2, k3⟩⟩
 obtain ⟨f, hf⟩ := Classical.axiomOfChoice hc
 injection e with e1
 exact ⟨b, o, f, e1, h3, hf⟩
theorem Cf.later {w w2 : World} {b o : Nat} {ps : List Pk} {f : Nat → List Value} (h : Cf w b o ps f) (hb : RowKit.Below w.heap.size w w2) : Cf w2 b o ps f :=
 ⟨Nat.lt_of_lt_of_le h.1 hb.size, fun i q hq => let ⟨k1, d, r, c, v, g, k2, k3⟩ := h.2 i q hq; ⟨range_bel k1 h.1 hb, d, r, c, v, g, k2, k3.later hb⟩⟩
def pAt (ps : List Pk) (i : Nat) : Pk := ps.getD i (pkL ⟨#[]⟩ [])
theorem pAt_at {ps : List Pk} {i : Nat} (h : i < ps.length) : ps[i]? = some (pAt ps i) := by
 unfold pAt
 rw [List.getD_eq_getElem?_getD, List.getElem?_eq_getElem h]
 rfl
theorem Pw.pkl {w W wr : World} {s : Value} {b o : Nat} {ps : List Pk} {f : Nat → List Value} {L : List Nat} (h : Pw W wr s (L.map f)) (hc : Cf w b o ps f) (hb : RowKit.Below w.heap.size w wr) (hL : ∀ i ∈ L, i < ps.length) : Pkl wr s (L.map (pAt ps)) := by
 have hlen : ∀ c ∈ L.map f, c.length = 43 := fun c hcm => by
  obtain ⟨i, hi, rfl⟩ := List.mem_map.1 hcm
  obtain ⟨_, d, r, c, v, g, k2, _⟩ := hc.2 i _ (pAt_at (hL i hi))
  exact k2.len
 rcases h.row.2 with ⟨q, q2⟩ | ⟨g, cap, cur, q, _, q3, _⟩
 ·have hl0 : L = [] := by
   have : (L.map f).length = 0 := q2
   rw [List.length_map] at this
   exact List.length_eq_zero_iff.1 this
  subst hl0
  exact ⟨none, 0, by rw [q]; rfl, fun h => absurd h (by simp)⟩
 ·rw [List.length_map] at q
  have hcell := h.row.cells (g := g) (by rw [q]; rfl)
  have hg := (World.ownsRow.lt h.row g (by rw [q]; rfl)).2
  refine ⟨some ⟨g, 0, none⟩, cap, by rw [List.length_map]; exact q, fun _ => ⟨g, 0, rfl, hg, fun i p hp => ?_⟩⟩
  rw [List.getElem?_map] at hp
  obtain ⟨k, hk, rfl⟩ := Option.map_eq_some_iff.1 hp
  have hkl := hL k (List.mem_of_getElem? hk)
  obtain ⟨_, d, r, c, v, g2, k2, k3⟩ := hc.2 k _ (pAt_at hkl)
  refine ⟨f k, d, r, c, v, g2, fun j u hj => ?_, k2, k3.later hb⟩
  rw [Nat.zero_add]
  have h9 := hcell _ _ (flat_atT (L.map f) i hlen (by rw [List.getElem?_map, hk]; rfl) hj)
  rw [Addr.add_mid, Nat.zero_add] at h9
  exact h9
def flP (n : Nat) (fl : List Bool) : List Nat := (List.range n).filter fun i => fl.getD i false
end
section
open Go.RowKit Go.Maps
structure Pi (W wr : World) (s : Value) (l : List Nat) : Prop where
 row : wr.ownsRow W.heap.size 3 1 s l.length (ints l)
 bw : RowKit.Below W.heap.size W wr
theorem Pi.start (W : World) : Pi W W (.slice none 0 0) [] := ⟨⟨rfl, .inl ⟨rfl, rfl⟩⟩, Below.refl _ _⟩
theorem Pi.grow {W wr w9 : World} {s v' : Value} {l : List Nat} {p : Nat} {o : Obj} (h : Pi W wr s l) (hown : w9.ownsRow W.heap.size 3 1 v' (l.length + 1) (ints l ++ [.int .i64 (p : Int)])) (hg : (wr.alloc o).grownBy w9 s.ownBlock) : Pi W w9 v' (l ++ [p]) := by
 refine ⟨?_, (h.bw.alloc h.bw.size o).grown hg ?_ fun j e => (World.ownsRow.lt h.row j e).1⟩
 ·rw [List.length_append, show ints (l ++ [p]) = ints l ++ [.int .i64 (p : Int)] from by simp [ints]]
  exact hown
 ·have := h.bw.size
  rw [World.size_alloc]
  omega
theorem infoI8 : (Tryz.prog.info? 3).map (fun i => (i.zero, i.size, i.bytes)) = some (some (.int .i64 0), 1, 8) := by kernel_rfl
def plL (f : Nat → Bool) (n : Nat) : List Nat := (List.range n).filter f
theorem plL_succ (f : Nat → Bool) (n : Nat) : plL f (n + 1) = plL f n ++ (if f n then [n] else []) := by
 unfold plL
 rw [List.range_succ, List.filter_append, List.filter_cons, List.filter_nil]
theorem plL_len (f : Nat → Bool) (n : Nat) : (plL f n).length ≤ n := by
 unfold plL
 refine Nat.le_trans (List.length_filter_le _ _) ?_
 rw [List.length_range]; exact Nat.le_refl _
set_option maxRecDepth 100000 in
set_option maxHeartbeats 4000000 in
theorem places_any {w : World} {v : Value} {f : Nat → Bool} {n : Nat} (hn : n ≤ 1048576) (h : Bls w v f n) :
 Calls Tryz.prog 42 #[v] w fun e w' => ∃ r, e = .returned r ∧ w'.ownsRow w.heap.size 3 1 r (plL f n).length (ints (plL f n)) ∧ RowKit.Below w.heap.size w w' := by
 obtain ⟨i0, hi, hz0, hz1, hz2⟩ := info_parts2 infoI8
 obtain ⟨va, vc, rfl, h2⟩ := h
 have HV := hide h2
 have HST := hide (Pi.start w)
 clear h2
 go_enter Tryz.func42, Tryz.ntmps42
 go_wp2_with fail
 go_loopg [3, 4, 5, 8] n (fun gq sv _ _ iv wr => ∃ i : Nat, iv = .int .i64 i ∧ i ≤ n ∧ n - i ≤ gq ∧ Hid (Pi w wr sv (plL f i)))
 case atStart => exact ⟨0, by go_num, by omega, by omega, HST⟩
 case round =>
  clear HST
  obtain ⟨i, rfl, hj, hgj, HW⟩ := hrel
  by_cases hlt : i < n
  ·have hin : (i : Int) < (n : Int) := by omega
   obtain ⟨b, rfl, hb, hc⟩ := unhide HV (by omega)
   have c0 := ((unhide HW).bw.cell (p := ⟨b, i, none⟩) hb).trans (hc i hlt)
   have HMS := hide (plL_succ f i)
   have hln := plL_len f i
   have hzw := (unhide HW).bw.size
   clear hc
   generalize plL f i = l at *
   cases hf : f i with
   | true =>
     rw [hf] at c0 HMS
     clear hf
     go_wp2_with (at_builtin; go_must (refine wpList_append_own _ rfl _ _ 34 rfl w.heap.size 3 i0 (.int .i64 0) 1 8 Tryz.underlying34 hi hz0 hz1 hz2 rfl (by decide) _ _ _ rfl (own_same (unhide HW).row fun b e => Below.heap_alloc _ _ _ (World.ownsRow.lt (unhide HW).row b e).2) ⟨wr.heap.size, 0, none⟩ 1 1 [.int .i64 (i : Int)] rfl rfl (fun k u hk => by rw [Addr.add_mid, Nat.zero_add, World.cell?_alloc_new]; simpa using hk) (fun u hu => by simp at hu; subst hu; rfl) (by unfold maxLen; omega) (by omega) (by rw [World.size_alloc]; omega) ?_); intro v' w9 hown hgrow _; have HF9 := hide ((unhide HW).grow hown hgrow); clear hown hgrow)
     go_roundg (n - (i + 1))
     case measure => omega
     case rel => exact ⟨i + 1, by go_num, by omega, by omega, by rw [unhide HMS]; exact HF9⟩
   | false =>
     rw [hf] at c0 HMS
     clear hf
     go_wp2_with fail
     go_roundg (n - (i + 1))
     case measure => omega
     case rel => exact ⟨i + 1, by go_num, by omega, by omega, by rw [unhide HMS]; simpa using HW⟩
  ·obtain rfl : i = n := by omega
   go_wp2_with fail
   go_ret
   exact ⟨_, rfl, (unhide HW).row, (unhide HW).bw⟩
end
section
open Go.RowKit Go.Maps Go.Shelf
attribute [local go_sem] Oper.semAt_some
attribute [local simp] wide_fn
attribute [local go_sem] wide_fn
structure Iz (w wr : World) (s : Array Value) (av : Value) (r : Bool) : Prop where
 b0 : wr.heap[w.heap.size]? = some (.cells s 62 (0, 0))
 b1 : wr.heap[w.heap.size + 1]? = some (.cells #[av] 63 (0, 0))
 b2 : wr.heap[w.heap.size + 2]? = some (.cells #[.bool r] 4 (0, 0))
 bw : RowKit.Below w.heap.size w wr
theorem Iz.lt {w wr : World} {s : Array Value} {av : Value} {r : Bool} (h : Iz w wr s av r) : w.heap.size + 3 ≤ wr.heap.size := blk_lt h.b2
theorem Iz.turn {w X Y : World} {s : Array Value} {av : Value} {r : Bool} {C : Nat} {row : Option Nat} (h : Iz w X s av r) (hg : X.grownBy Y row) (hr : ∀ k, row = some k → C ≤ k) (hC : w.heap.size + 3 ≤ C) : Iz w Y s av r := by
 have ne : ∀ j, j < C → some j ≠ row := fun j hj e => by have := hr j e.symm; omega
 have k : ∀ j o, j < C → X.heap[j]? = some o → Y.heap[j]? = some o := fun j o hj e => (hg.block j (blk_lt e) (ne j hj)).trans e
 refine ⟨k _ _ (by omega) h.b0, k _ _ (by omega) h.b1, k _ _ (by omega) h.b2, hg.os.trans h.bw.os, hg.tape.trans h.bw.tape, hg.output.trans h.bw.output, Nat.le_trans h.bw.size hg.size, fun j hj => ?_⟩
 have := h.bw.size
 exact (hg.block j (by omega) (ne j (by omega))).trans (h.bw.block j hj)
theorem Iz.later {w X Y : World} {s : Array Value} {av : Value} {r : Bool} (h : Iz w X s av r) (hb : RowKit.Below X.heap.size X Y) : Iz w Y s av r := h.turn (C := X.heap.size) (grown_below hb) (fun k e => by cases e) h.lt
theorem Iz.set {w X : World} {s : Array Value} {av : Value} {r : Bool} (h : Iz w X s av r) (q : Bool) : Iz w (X.setCell ⟨w.heap.size + 2, 0, none⟩ (.bool q)) s av q := by
 have k : ∀ j o, j ≠ w.heap.size + 2 → X.heap[j]? = some o → (X.setCell ⟨w.heap.size + 2, 0, none⟩ (.bool q)).heap[j]? = some o := fun j o hj e => (set_other X _ 0 (.bool q) j hj).trans e
 exact ⟨k _ _ (by omega) h.b0, k _ _ (by omega) h.b1, set_blk h.b2 0 (.bool q), h.bw.setCell (p := ⟨w.heap.size + 2, 0, none⟩) (by show w.heap.size ≤ w.heap.size + 2; omega) _⟩
theorem iz_new (w : World) (s : Array Value) (av : Value) : Iz w (((w.alloc (.cells s 62)).alloc (.cells #[av] 63)).alloc (.cells #[.bool false] 4)) s av false := by
 obtain ⟨A, hA⟩ : ∃ x, x = w.alloc (.cells s 62) := ⟨_, rfl⟩
 obtain ⟨B, hB⟩ : ∃ x, x = A.alloc (.cells #[av] 63) := ⟨_, rfl⟩
 rw [← hA, ← hB]
 have zA : A.heap.size = w.heap.size + 1 := by rw [hA]; exact World.size_alloc _ _
 have zB : B.heap.size = w.heap.size + 2 := by rw [hB, World.size_alloc]; omega
 have bA : RowKit.Below w.heap.size w A := by rw [hA]; exact (Below.refl _ w).alloc (Nat.le_refl _) _
 have bB : RowKit.Below A.heap.size A B := by rw [hB]; exact (Below.refl _ A).alloc (Nat.le_refl _) _
 have bD : RowKit.Below B.heap.size B (B.alloc (.cells #[.bool false] 4)) := (Below.refl _ B).alloc (Nat.le_refl _) _
 have h0 : A.heap[w.heap.size]? = some (.cells s 62 (0, 0)) := by rw [hA]; exact heap_alloc_new _ _
 have h1 : B.heap[w.heap.size + 1]? = some (.cells #[av] 63 (0, 0)) := by rw [← zA, hB]; exact heap_alloc_new _ _
 have h2 : (B.alloc (.cells #[.bool false] 4)).heap[w.heap.size + 2]? = some (.cells #[.bool false] 4 (0, 0)) := by rw [← zB]; exact heap_alloc_new _ _
 exact ⟨(bD.block _ (by omega)).trans ((bB.block _ (by omega)).trans h0), (bD.block _ (by omega)).trans h1, h2, bl_t (bl_t bA bB) bD⟩
def Wh (ps : List Pk) (inn : Nat → Bool) (p : Nat) (q : Pk) : Prop := (∀ al ∈ q.dp, imP ps inn (-1) al = true) ∧ (∀ al ∈ q.pr, imP ps inn (p : Int) al = true)
theorem wh_all (ps : List Pk) (inn : Nat → Bool) (p : Nat) (q : Pk) (f g : Nat → Hd) : (∀ x ∈ nvL p q.dp q.pr f g, imP ps inn x.bt x.al = true) ↔ Wh ps inn p q := by
 unfold Wh nvL
 constructor
 ·intro h
  refine ⟨fun al hal => ?_, fun al hal => ?_⟩
  ·obtain ⟨i, hi, rfl⟩ := List.getElem_of_mem hal
   have := h (nvD q.dp f i) (List.mem_append.2 (.inl (List.mem_map.2 ⟨i, List.mem_range.2 hi, rfl⟩)))
   unfold nvD at this
   rwa [List.getD_eq_getElem?_getD, List.getElem?_eq_getElem hi] at this
  ·obtain ⟨i, hi, rfl⟩ := List.getElem_of_mem hal
   have := h (nvR p q.pr g i) (List.mem_append.2 (.inr (List.mem_map.2 ⟨i, List.mem_range.2 hi, rfl⟩)))
   unfold nvR at this
   rwa [List.getD_eq_getElem?_getD, List.getElem?_eq_getElem hi] at this
 ·rintro ⟨h1, h2⟩ x hx
  rcases List.mem_append.1 hx with hx | hx
  ·obtain ⟨i, hi, rfl⟩ := List.mem_map.1 hx
   exact h1 _ (getD_mem (List.mem_range.1 hi))
  ·obtain ⟨i, hi, rfl⟩ := List.mem_map.1 hx
   exact h2 _ (getD_mem (List.mem_range.1 hi))
set_option maxRecDepth 100000 in
set_option maxHeartbeats 8000000 in
theorem isWhole_any {w : World} {b1 b2 : Nat} {v av : Value} {xs : List Pd} {ps : List Pk} {base : Nat} {H1 H2 : Nm → Option Hd} {k1 k2 p : Nat} {q : Pk} (inn : Nat → Bool) (m1 : Mi w base (.map (some b1)) H1 (nmP xs xs.length) k1) (m2 : Mi w base (.map (some b2)) H2 (pvP xs xs.length) k2) (pks : Pks w v xs) (hs : Sim xs ps) (sm : SmP ps) (pk : Pkl w v ps) (hin : Bls w av inn ps.length) (hq : ps[p]? = some q) :
 Calls Tryz.prog 67 #[.agg #[v, .map (some b1), .map (some b2)], .int .i64 (p : Int), av] w fun e w' => ∃ b : Bool, e = .returned (.bool b) ∧ (b = true ↔ Wh ps inn p q) ∧ RowKit.Below w.heap.size w w' := by
 have hpl := (List.getElem?_eq_some_iff.1 hq).1
 have hpn : (p : Int) < (ps.length : Int) := by omega
 have hmem := List.mem_of_getElem? hq
 have hdl : q.dp.length ≤ 1048576 := Nat.le_trans (le_sum (fun p : Pk => p.dp.length) hmem) sm.sd
 have hrl : q.pr.length ≤ 1048576 := Nat.le_trans (le_sum (fun p : Pk => p.pr.length) hmem) sm.sr
 obtain ⟨vb, vo, vc, cs, dd, rr, cc, pv, ff, rfl, hvb, hr, hpc, hll⟩ := pk.at2 hq
 obtain ⟨da, dc, f, rfl, hcd⟩ := cv_of hll.dl
 obtain ⟨ra, rc, g, rfl, hcr⟩ := cv_of hll.rl
 have hc3 : w.cell? ⟨vb, vo + p * 43 + 3, none⟩ = some (.slice da q.dp.length dc) := hr 3 _ hpc.c3
 have hc4 : w.cell? ⟨vb, vo + p * 43 + 4, none⟩ = some (.slice ra q.pr.length rc) := hr 4 _ hpc.c4
 obtain ⟨ia, ic, rfl⟩ : ∃ a c, av = .slice a ps.length c := let ⟨a, c, e, _⟩ := hin; ⟨a, c, e⟩
 have HNA := hide (show ∀ (X : World) (B : Nat), RowKit.Below w.heap.size w X → X.heap[B]? = some (.cells #[.slice (some ⟨vb, vo, none⟩) ps.length vc, .map (some b1), .map (some b2)] 62 (0, 0)) → X.heap[B + 1]? = some (.cells #[.int .i64 (p : Int)] 3 (0, 0)) → SeqB Fence.wide 8 Tryz.prog 87 #[.pointer (some ⟨B, 0, none⟩), .pointer (some ⟨B + 1, 0, none⟩)] encN (Kb w.heap.size B (B + 1)) (fun l => l = nvL p q.dp q.pr f g) (fun pre => pre <+: nvL p q.dp q.pr f g) ((nvL p q.dp q.pr f g).length + 1) X from fun X B hX h1 h2 =>
  need_b 8 ⟨⟨hX, h1, h2⟩, ⟨vb, vo, ps.length, vc, rfl, hvb, hpn, hc3, hc4⟩, hcd, hcr⟩ (by omega) (by omega))
 have HME := hide (show ∀ x ∈ nvL p q.dp q.pr f g, ∀ X, RowKit.Below w.heap.size w X → Calls Tryz.prog 71 #[.agg #[.slice (some ⟨vb, vo, none⟩) ps.length vc, .map (some b1), .map (some b2)], .agg #[.int .i64 x.kd, .int .i64 (x.ix : Int), .slice x.cv.a x.cv.n x.cv.c, .int .i64 x.bt], .slice ia ps.length ic] X fun e w' => e = .returned (.bool (imP ps inn x.bt x.al)) ∧ RowKit.Below X.heap.size X w' from fun x hx X hX => by
  unfold nvL at hx
  rcases List.mem_append.1 hx with hx | hx
  ·obtain ⟨i, hi, rfl⟩ := List.mem_map.1 hx
   rw [List.mem_range] at hi
   obtain ⟨_, _, _, _, _, ha⟩ := (hcd.later hX).at_ i hi
   have hb := sm.d q hmem _ (getD_mem hi)
   exact isMet_any 2 i (-1) (q.dp.getD i []) inn (m1.later hX) (m2.later hX) (pks.later hX) hs sm ha (by omega) hb.2 (hin.later hX)
  ·obtain ⟨i, hi, rfl⟩ := List.mem_map.1 hx
   rw [List.mem_range] at hi
   obtain ⟨_, _, _, _, _, ha⟩ := (hcr.later hX).at_ i hi
   have hb := sm.r q hmem _ (getD_mem hi)
   exact isMet_any 3 i p (q.pr.getD i []) inn (m1.later hX) (m2.later hX) (pks.later hX) hs sm ha (by omega) hb.2 (hin.later hX))
 have HUN := hide (iz_new w #[.slice (some ⟨vb, vo, none⟩) ps.length vc, .map (some b1), .map (some b2)] (.slice ia ps.length ic))
 have HWH := hide (wh_all ps inn p q f g)
 generalize nvL p q.dp q.pr f g = L at *
 clear m1 m2 pks hs sm pk hin hq hr hpc hll hcd hcr hc3 hc4 hmem hdl hrl hpl hvb
 obtain ⟨W3, hW3⟩ : ∃ x, x = (((w.alloc (.cells #[.slice (some ⟨vb, vo, none⟩) ps.length vc, .map (some b1), .map (some b2)] 62)).alloc (.cells #[.slice ia ps.length ic] 63)).alloc (.cells #[.bool false] 4)) := ⟨_, rfl⟩
 rw [← hW3] at HUN
 refine (callsIn_wide (n := 9)).1 ?_
 refine callsIn_of_wp_marks Tryz.func67 rfl trivial ?_ rfl
 simp only [Tryz.ntmps67, List.size_toArray, List.length_cons, List.length_nil, Nat.reduceAdd, Nat.reduceSub, Array.replicate_succ, Array.replicate_zero, List.push_toArray, List.append_toArray, List.nil_append, List.cons_append]
 gi_wp2_with (gi_at_call 70; rw [← hW3]; refine (callsIn_wide.2 (needs_any (.slice (some ⟨vb, vo, none⟩) ps.length vc) (.map (some b1)) (.map (some b2)) (p : Int) W3)).mono ?_; rintro e w5 ⟨rfl, hs5, ha5, hb5⟩; have HS5 := hide (And.intro hs5 (And.intro ha5 hb5)); clear hs5 ha5 hb5 hW3)
 obtain ⟨s1, s2, hb5⟩ := unhide HS5
 have un5 := (unhide HUN).later hb5
 have hW3z := (unhide HUN).lt
 have hzs := blk_lt s1
 have hza := blk_lt s2
 have iw5 : Iw w W3.heap.size (W3.heap.size + 1) (.cells #[.slice (some ⟨vb, vo, none⟩) ps.length vc, .map (some b1), .map (some b2)] 62 (0, 0)) (.cells #[.int .i64 (p : Int)] 3 (0, 0)) w5 := ⟨un5.bw, s1, s2⟩
 have hsq := unhide HNA w5 W3.heap.size un5.bw s1 s2
 have hlt5 := un5.lt
 clear HS5 s1 s2 hb5 HNA HUN
 refine rangeFunc_2h rfl (by decide) (gf := 87) (lb := #[.pointer (some ⟨W3.heap.size, 0, none⟩), .pointer (some ⟨W3.heap.size + 1, 0, none⟩)]) rfl trivial (enters_of Tryz.func87 (by kernel_rfl) rfl)
  hsq Kb.trans (Kb.put un5.bw.size hzs hza) (fun W o h => Kb.alloc W o (Nat.le_trans un5.bw.size h) (by omega) (by omega)) (Below.refl _ _) (fun _ => rfl) (fun pre Z => (Iz w Z #[.slice (some ⟨vb, vo, none⟩) ps.length vc, .map (some b1), .map (some b2)] (.slice ia ps.length ic) false ∧ Iw w W3.heap.size (W3.heap.size + 1) (.cells #[.slice (some ⟨vb, vo, none⟩) ps.length vc, .map (some b1), .map (some b2)] 62 (0, 0)) (.cells #[.int .i64 (p : Int)] 3 (0, 0)) Z) ∧ ∀ x ∈ pre, imP ps inn x.bt x.al = true) (fun c pre Z => c = .ret ∧ Iz w Z #[.slice (some ⟨vb, vo, none⟩) ps.length vc, .map (some b1), .map (some b2)] (.slice ia ps.length ic) false ∧ ∃ x ∈ pre, imP ps inn x.bt x.al = false) (fun s X Y row ⟨⟨h, hi⟩, h2⟩ hg hr => ⟨⟨h.turn hg (fun k e => (hr k e).1) hlt5, hi.turn hg (fun r e => (hr r e).1) un5.bw.size hzs hza⟩, h2⟩) (fun c s X Y row h hg hr => ⟨h.1, h.2.1.turn hg (fun k e => (hr k e).1) hlt5, h.2.2⟩) ⟨⟨un5, iw5⟩, fun x h => by cases h⟩ (fun x => .cells #[.int .i64 x.kd, .int .i64 (x.ix : Int), .slice x.cv.a x.cv.n x.cv.c, .int .i64 x.bt] 116) (fun (x : Nv) (g : Nat) => { tmps := #[.agg #[.slice (some ⟨vb, vo, none⟩) ps.length vc, .map (some b1), .map (some b2)], .int .i64 (p : Int), .slice ia ps.length ic, .pointer (some ⟨w.heap.size, 0, none⟩), undef, .pointer (some ⟨w.heap.size + 1, 0, none⟩), .pointer (some ⟨w.heap.size + 1 + 1, 0, none⟩), .pointer (some ⟨g, 0, none⟩), .agg #[.slice (some ⟨vb, vo, none⟩) ps.length vc, .map (some b1), .map (some b2)], .int .i64 (p : Int), .func (.func 87) #[] #[.pointer (some ⟨W3.heap.size, 0, none⟩), .pointer (some ⟨W3.heap.size + 1, 0, none⟩)], .agg #[.int .i64 x.kd, .int .i64 (x.ix : Int), .slice x.cv.a x.cv.n x.cv.c, .int .i64 x.bt], undef, undef, undef, undef, undef], defers := [] }) ?as0 ?bo0 ?do0 ?st0
 case as0 =>
  intro l x W K hK
  gi_wp2
  exact hK
 case st0 =>
  intro D c pre Z hD hS hI hK
  obtain ⟨rfl, iz, x, hx, hf⟩ := hI
  have HNO := hide (show ¬ Wh ps inn p q from fun h => by rw [(unhide HWH).2 h x (hS.subset hx)] at hf; cases hf)
  have HM := hide (show Mks Z (w.heap.size + 3) [D] from ⟨by simp, fun E he => by simp at he; subst he; exact ⟨by rw [hD]; exact hlt5, hK⟩⟩)
  have HIZ := hide iz
  clear hD hS iz hx hf hK hsq un5 iw5
  gi_wp2
  have iz := unhide HIZ
  refine leaves_marks (lo := w.heap.size + 3) [D] Z (unhide HM) fun W2 hsh => ?_
  have c7 := (cell_blk (hsh.cel _ _ _ _ iz.b2) 0).1.trans (show #[Value.bool false][0]? = some (.bool false) from rfl)
  exact ⟨_, results_u1 (show Tryz.f67.results = #[.cell 6 4] from Tryz.results67) _ _ _ ⟨w.heap.size + 1 + 1, 0, none⟩ (.bool false) rfl (by simp [loadVar, go_sem, c7]), false, rfl, ⟨fun h => (by cases h), fun h => absurd h (unhide HNO)⟩, iz.bw.trans (hsh.bel.mono (by omega))⟩
 case do0 =>
  intro D L2 Z hD hS hI hK
  obtain ⟨⟨iz, _⟩, hall⟩ := hI
  have HYES := hide (show Wh ps inn p q from (unhide HWH).1 (by rw [← hS]; exact hall))
  have r0 := (cell_blk iz.b2 0).1.trans (show #[Value.bool false][0]? = some (.bool false) from rfl)
  have f0 := (cell_blk iz.b2 0).2
  have HM := hide (show Mks (Z.setCell ⟨w.heap.size + 2, 0, none⟩ (.bool true)) (w.heap.size + 3) [D] from ⟨by simp, fun E he => by simp at he; subst he; exact ⟨by rw [hD]; exact hlt5, (set_other Z _ 0 (.bool true) _ (by rw [hD]; omega)).trans hK⟩⟩)
  have HIZ := hide (iz.set true)
  clear hD hS iz hall hK hsq un5 iw5
  gi_wp2
  have iz := unhide HIZ
  refine leaves_marks (lo := w.heap.size + 3) [D] _ (unhide HM) fun W2 hsh => ?_
  have c7 := (cell_blk (hsh.cel _ _ _ _ iz.b2) 0).1.trans (show #[Value.bool true][0]? = some (.bool true) from rfl)
  exact ⟨_, results_u1 (show Tryz.f67.results = #[.cell 6 4] from Tryz.results67) _ _ _ ⟨w.heap.size + 1 + 1, 0, none⟩ (.bool true) rfl (by simp [loadVar, go_sem, c7]), true, rfl, ⟨fun _ => unhide HYES, fun _ => rfl⟩, iz.bw.trans (hsh.bel.mono (by omega))⟩
 case bo0 =>
  intro l pre x g W hg hgx hD hLp hI hlen hpre
  obtain ⟨⟨iz, iw⟩, hall⟩ := hI
  obtain ⟨lr, hLr⟩ := hLp
  have hxL : x ∈ L := hpre.subset (by simp)
  have hW5 : w5.heap.size ≤ W.heap.size := by have := blk_lt hD; omega
  have c0 := (cell_blk iz.b0 0).1.trans (show #[Value.slice (some ⟨vb, vo, none⟩) ps.length vc, .map (some b1), .map (some b2)][0]? = some (.slice (some ⟨vb, vo, none⟩) ps.length vc) from rfl)
  have c1 := (cell_blk iz.b0 1).1.trans (show #[Value.slice (some ⟨vb, vo, none⟩) ps.length vc, .map (some b1), .map (some b2)][1]? = some (.map (some b1)) from rfl)
  have c2 := (cell_blk iz.b0 2).1.trans (show #[Value.slice (some ⟨vb, vo, none⟩) ps.length vc, .map (some b1), .map (some b2)][2]? = some (.map (some b2)) from rfl)
  have i0 := (cell_blk iz.b1 0).1.trans (show #[Value.slice ia ps.length ic][0]? = some (.slice ia ps.length ic) from rfl)
  obtain ⟨n0, n1, n2, n3⟩ := four hgx
  have C := hide (unhide HME x hxL W iz.bw)
  have HDD := hide (And.intro hD hLr)
  have HIZ := hide iz
  have HIW := hide iw
  have HALL := hide hall
  clear hgx hD hLr hlen hpre iz iw hall hsq HME un5 iw5
  cases hb : imP ps inn x.bt x.al with
  | true =>
    rw [hb] at C
    gi_wp2_with fail
    refine (CallsIn.inRound l (callsIn_wide.2 (unhide C))).mono ?_
    rintro e w6 ⟨rfl, hb6⟩
    have HP := hide (show post2 w5.heap.size (Kb w.heap.size W3.heap.size (W3.heap.size + 1)) (fun pre Z => (Iz w Z #[.slice (some ⟨vb, vo, none⟩) ps.length vc, .map (some b1), .map (some b2)] (.slice ia ps.length ic) false ∧ Iw w W3.heap.size (W3.heap.size + 1) (.cells #[.slice (some ⟨vb, vo, none⟩) ps.length vc, .map (some b1), .map (some b2)] 62 (0, 0)) (.cells #[.int .i64 (p : Int)] 3 (0, 0)) Z) ∧ ∀ x ∈ pre, imP ps inn x.bt x.al = true) (fun c pre Z => c = .ret ∧ Iz w Z #[.slice (some ⟨vb, vo, none⟩) ps.length vc, .map (some b1), .map (some b2)] (.slice ia ps.length ic) false ∧ ∃ x ∈ pre, imP ps inn x.bt x.al = false) (pre ++ [x]) W .normal ⟨#[], []⟩ w6 from ⟨⟨hb6.block _ (blk_lt (unhide HDD).1), hb6.block _ (blk_lt (unhide HDD).2)⟩, Kb.of hb6 (unhide HIZ).bw.size (by omega) (by omega), ⟨(unhide HIZ).later hb6, (unhide HIW).later hb6⟩, fun y hy => by
     rcases List.mem_append.1 hy with hy | hy
     ·exact unhide HALL y hy
     ·rw [List.mem_singleton] at hy; rw [hy]; exact hb⟩)
    clear hb6 c0 c1 c2 i0 n0 n1 n2 n3 C
    gi_wp2_with fail
    exact unhide HP
  | false =>
    rw [hb] at C
    gi_wp2_with fail
    refine (CallsIn.inRound l (callsIn_wide.2 (unhide C))).mono ?_
    rintro e w6 ⟨rfl, hb6⟩
    have iz6 := (unhide HIZ).later hb6
    have r0 := (cell_blk iz6.b2 0).1.trans (show #[Value.bool false][0]? = some (.bool false) from rfl)
    have f0 := (cell_blk iz6.b2 0).2
    have hd6 := (hb6.block _ (blk_lt (unhide HDD).1)).trans (unhide HDD).1
    have hl6 := (hb6.block _ (blk_lt (unhide HDD).2)).trans (unhide HDD).2
    have H6 := hide (And.intro hb6 (And.intro iz6 (And.intro hd6 hl6)))
    clear hb6 iz6 hd6 hl6 c0 c1 c2 i0 n0 n1 n2 n3 C
    gi_wp2_with fail
    obtain ⟨hb6, iz6, hd6, hl6⟩ := unhide H6
    exact ⟨⟨(set_other w6 _ 0 (.bool false) _ (by omega)).trans (hb6.block _ (blk_lt (unhide HDD).1)), (set_other w6 _ 0 (.bool false) _ (by omega)).trans (hb6.block _ (blk_lt (unhide HDD).2))⟩, rfl, iz6.set false, x, by simp, hb⟩
end
section
open Go.RowKit Go.Maps
theorem three {W : World} {g : Nat} {v0 v1 v2 : Value} {t : TypeId} (h : W.heap[g]? = some (.cells #[v0, v1, v2] t (0, 0))) : W.cell? ⟨g, 0, none⟩ = some v0 ∧ W.cell? ⟨g, 1, none⟩ = some v1 ∧ W.cell? ⟨g, 2, none⟩ = some v2 ∧ W.frozen? ⟨g, 0, none⟩ = false ∧ W.frozen? ⟨g, 1, none⟩ = false ∧ W.frozen? ⟨g, 2, none⟩ = false :=
 ⟨(cell_blk h 0).1, (cell_blk h 1).1, (cell_blk h 2).1, (cell_blk h 0).2, (cell_blk h 1).2, (cell_blk h 2).2⟩
theorem Mi.not_cells {X : World} {base : Nat} {d : Value} {H : Nm → Option Hd} {F : Nm → List Nat} {k : Nat} (m : Mi X base d H F k) {g : Nat} {cs : Array Value} {t : TypeId} (hg : X.heap[g]? = some (.cells cs t (0, 0))) (ht : t ≠ 3) : (∀ b, mb d = some b → b ≠ g) ∧ ∀ x h b, H x = some h → bk h = some b → b ≠ g := by
 refine ⟨fun b e q => ?_, fun x h b e eb q => ?_⟩
 ·subst q
  rcases m.dm with ⟨rfl, _⟩ | ⟨b2, D, rfl, ho, _⟩
  ·cases e
  ·cases e
   obtain ⟨es, clock, h1, _⟩ := ho
   rw [hg] at h1
   cases h1
 ·subst q
  refine row_not (m.con x h e) hg (fun cs2 e2 => ?_) (by rw [bk_own]; exact eb)
  injection e2 with _ e3 _
  exact ht e3
def M2 (F1 F2 : Nm → List Nat) (X : World) (b1 b2 : Nat) : Prop := ∃ base H1 k1 H2 k2, Mi X base (.map (some b1)) H1 F1 k1 ∧ Mi X base (.map (some b2)) H2 F2 k2
theorem M2.mono {F1 F2 : Nm → List Nat} {X Y : World} {b1 b2 : Nat} (h : M2 F1 F2 X b1 b2) (hb : ∀ j, j < X.heap.size → Y.heap[j]? = X.heap[j]?) : M2 F1 F2 Y b1 b2 := by
 obtain ⟨base, H1, k1, H2, k2, m1, m2⟩ := h
 exact ⟨base, H1, k1, H2, k2, m1.same (fun b e => hb b (m1.dm.lt e)) fun _ _ b e eb => hb b (m1.lt e eb).2, m2.same (fun b e => hb b (m2.dm.lt e)) fun _ _ b e eb => hb b (m2.lt e eb).2⟩
theorem M2.put {F1 F2 : Nm → List Nat} {X Y : World} {b1 b2 g : Nat} {cs : Array Value} (h : M2 F1 F2 X b1 b2) (hg : X.heap[g]? = some (.cells cs 62 (0, 0))) (hb : ∀ j, j ≠ g → Y.heap[j]? = X.heap[j]?) : M2 F1 F2 Y b1 b2 := by
 obtain ⟨base, H1, k1, H2, k2, m1, m2⟩ := h
 obtain ⟨p1, p2⟩ := m1.not_cells hg (by decide)
 obtain ⟨p3, p4⟩ := m2.not_cells hg (by decide)
 exact ⟨base, H1, k1, H2, k2, m1.same (fun b e => hb b (p1 b e)) fun x h b e eb => hb b (p2 x h b e eb), m2.same (fun b e => hb b (p3 b e)) fun x h b e eb => hb b (p4 x h b e eb)⟩
end
end Go.Proofs.YtdkpglmdncjnbaaGreatDoor
