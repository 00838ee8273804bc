import Derived.Test.YtdkpglmdncjnbaaGreatDoorZf28
import Derived.Sort.KeysCollected
import Derived.Maps.RangeWalk
namespace Go.Proofs.YtdkpglmdncjnbaaGreatDoor
section
open Go.RowKit Go.Maps
theorem rows_ne {w : World} {lo1 lo2 e1 e2 k1 k2 n1 n2 : Nat} {v1 v2 : Value} {x1 x2 : List Value} (h1 : w.ownsRow lo1 e1 k1 v1 n1 x1) (h2 : w.ownsRow lo2 e2 k2 v2 n2 x2) (he : e1 ≠ e2) {b : Nat} (q1 : v1.ownBlock = some b) (q2 : v2.ownBlock = some b) : False := by
 rcases h1.2 with ⟨p, _⟩ | ⟨g, cap, cur, p, _, p3, _⟩
 ·rw [p] at q1; cases q1
 ·rcases h2.2 with ⟨r, _⟩ | ⟨g2, cap2, cur2, r, _, r3, _⟩
  ·rw [r] at q2; cases q2
  ·rw [p] at q1
   rw [r] at q2
   have e3 : g = b := by simpa [Value.ownBlock] using q1
   have e4 : g2 = b := by simpa [Value.ownBlock] using q2
   subst e3
   subst e4
   rw [p3] at r3
   injection r3 with r3
   injection r3 with _ r4 _
   exact he r4
structure Pq (W wr : World) (s t : Value) (css : List (List Value)) (L : List Nat) : Prop where
 pw : Pw W wr s css
 row : wr.ownsRow W.heap.size 3 1 t L.length (ints L)
theorem Pq.start (W : World) : Pq W W (.slice none 0 0) (.slice none 0 0) [] [] := ⟨Pw.start W, ⟨rfl, .inl ⟨rfl, rfl⟩⟩⟩
theorem Pq.grow1 {W wr w5 w9 : World} {s t v' : Value} {css : List (List Value)} {c : List Value} {L : List Nat} (h : Pq W wr s t css L) (k5 : RowKit.Below wr.heap.size wr w5) (hown : w9.ownsRow W.heap.size 46 43 v' (css.length + 1) (css.flatten ++ c)) (hg : w5.grownBy w9 s.ownBlock) : Pq W w9 v' t (css ++ [c]) L := by
 refine ⟨(h.pw.later k5).grow hown hg, own_same h.row fun b e => ?_⟩
 have hb := (World.ownsRow.lt h.row b e).2
 exact (hg.block b (Nat.lt_of_lt_of_le hb k5.size) (fun q => rows_ne h.pw.row h.row (by decide) q.symm e)).trans (k5.block b hb)
theorem Pq.grow2 {W wr w9 : World} {s t v' : Value} {css : List (List Value)} {L : List Nat} {p : Nat} {o : Obj} (h : Pq W wr s t css L) (hown : w9.ownsRow W.heap.size 3 1 v' (L.length + 1) (ints L ++ [.int .i64 (p : Int)])) (hg : (wr.alloc o).grownBy w9 t.ownBlock) : Pq W w9 s v' css (L ++ [p]) := by
 have b1 : RowKit.Below wr.heap.size wr (wr.alloc o) := (Below.refl _ wr).alloc (Nat.le_refl _) _
 refine ⟨⟨own_same h.pw.row fun b e => ?_, (h.pw.bw.alloc h.pw.bw.size o).grown hg ?_ fun j e => (World.ownsRow.lt h.row j e).1⟩, ?_⟩
 ·have hb := (World.ownsRow.lt h.pw.row b e).2
  exact (hg.block b (Nat.lt_of_lt_of_le hb b1.size) (fun q => rows_ne h.pw.row h.row (by decide) e q.symm)).trans (b1.block b hb)
 ·have := h.pw.bw.size
  rw [World.size_alloc]
  omega
 ·rw [List.length_append, show ints (L ++ [p]) = ints L ++ [.int .i64 (p : Int)] from by simp [ints]]
  exact hown
set_option maxRecDepth 100000 in
set_option maxHeartbeats 4000000 in
theorem rfpart_gen {W0 w : World} {v : Value} {ps : List Pk} {gi : Nat} {inn : Nat → Bool} (h0 : RowKit.Below W0.heap.size W0 w) (sm : SmP ps) (pk : Pkl W0 v ps) (hin : Bb w gi ps.length inn) :
 Calls Tryz.prog 37 #[v, .slice (some ⟨gi, 0, none⟩) ps.length ps.length] w fun e w' => ∃ r1 r2, e = .returned (.tuple #[r1, r2]) ∧ (∀ X, (∀ b, r1.ownBlock = some b → X.heap[b]? = w'.heap[b]?) → RowKit.Below W0.heap.size W0 X → Pkl X r1 ((plL inn ps.length).map (pAt ps))) ∧ (∀ b, r1.ownBlock = some b → w.heap.size ≤ b ∧ b < w'.heap.size) ∧ w'.ownsRow w.heap.size 3 1 r2 (plL inn ps.length).length (ints (plL inn ps.length)) ∧ RowKit.Below w.heap.size w w' := by
 obtain ⟨va, vc, rfl⟩ : ∃ a c, v = .slice a ps.length c := let ⟨a, c, e, _⟩ := pk; ⟨a, c, e⟩
 obtain ⟨zc, hi3, hzl⟩ := infoP3
 obtain ⟨i0, hi, hz0, hz1, hz2⟩ := info_parts2 hi3
 obtain ⟨j0, hj, hy0, hy1, hy2⟩ := info_parts2 infoI8
 have hl := sm.l
 obtain ⟨N, hN⟩ : ∃ N, ps.length = N := ⟨_, rfl⟩
 have HN := hide hN
 have HP := hide (show Pkl W0 (.slice va N vc) ps from by rw [← hN]; exact pk)
 rw [hN] at hl hin ⊢
 have HIN := hide (show ∀ X, RowKit.Below w.heap.size w X → ∀ i, i < N → X.cell? ⟨gi, i, none⟩ = some (.bool (inn i)) from fun X hX i hi => ((hin.later hX).cell hi).1)
 have H0 := hide h0
 clear sm pk hN hin h0
 obtain ⟨f, HF0⟩ : ∃ f : Nat → List Value, Hid ((0 < N → ∃ b o, va = some ⟨b, o, none⟩ ∧ Cf W0 b o ps f)) := by
  by_cases h0 : 0 < N
  ·obtain ⟨b, o, f, e, cf⟩ := (unhide HP).cf (by have := unhide HN; omega)
   exact ⟨f, hide fun _ => ⟨b, o, e, cf⟩⟩
  ·exact ⟨fun _ => [], hide fun h => absurd h h0⟩
 have HST := hide (Pq.start w)
 go_enter Tryz.func37, Tryz.ntmps37
 go_wp2_with fail
 go_loopg [6, 7, 8] N (fun gq sv tv iv wr => ∃ i : Nat, iv = .int .i64 i ∧ i ≤ N ∧ N - i ≤ gq ∧ Hid (Pq w wr sv tv ((plL inn i).map f) (plL inn i)))
 case atStart => exact ⟨0, by go_num, by omega, by omega, HST⟩
 case round =>
  clear HST
  obtain ⟨i, rfl, hj2, hgj, HW⟩ := hrel
  by_cases hlt : i < N
  ·have hin : (i : Int) < (N : Int) := by omega
   obtain ⟨b, o, rfl, cf⟩ := unhide HF0 (by omega)
   obtain ⟨k1, d, r, c, v, g, k2, k3⟩ := cf.2 i _ (pAt_at (by have := unhide HN; omega))
   have f0 := unhide HIN wr (unhide HW).pw.bw i hlt
   have HI2 := hide (show (Tryz.prog.info? 46).map (·.size) = some (f i).length by rw [k2.len]; exact info43)
   have HRW := hide (range_bel k1 cf.1 (bl_t (unhide H0) (unhide HW).pw.bw))
   have H1 := hide (And.intro k2.len k2.one)
   have hmf : ∀ b : Bool, inn i = b → Hid ((plL inn (i + 1)).map f = (plL inn i).map f ++ (if b then [f i] else []) ∧ plL inn (i + 1) = plL inn i ++ (if b then [i] else [])) := fun b hb => hide (by rw [plL_succ, hb, List.map_append]; cases b <;> exact ⟨rfl, rfl⟩)
   have hln : ((plL inn i).map f).length ≤ i := by rw [List.length_map]; exact plL_len inn i
   have hln2 := plL_len inn i
   clear k1 k2 k3 cf
   generalize (plL inn i).map f = css at *
   generalize plL inn i = L at *
   generalize f i = cs at *
   cases hx : inn i with
   | true =>
     rw [hx] at f0
     have HE := hmf true hx
     clear hx hmf
     go_wp2_with (first
      | ((with_reducible refine wpList_load_p (op := ⟨some 23, .load 46 (.tmp 22), 46, "ref.go:150", #[⟨3, .data⟩], none⟩) ?pxa 46 (.tmp 22) ?pxb b (o + i * 43) ?pxc cs _ (unhide HRW) Tryz.underlying46 ?pxd (unhide HI2) ?pxe); (case pxa => rfl); (case pxb => rfl); (case pxc => rfl); (case pxd => rfl))
      | (refine p_sl1 _ rfl rfl cs rfl (unhide H1).1 ?_; intro w5 r5 k5 z5; have HW5 := hide ((unhide HW).pw.later k5); have HK5 := hide k5; have HR5 := hide r5; have hz5 := k5.size; clear r5 k5)
      | (at_builtin; refine wpList_append_own _ rfl _ _ 22 rfl w.heap.size 46 i0 (.agg zc.toArray) 43 232 Tryz.underlying22 hi hz0 hz1 hz2 (by simp [Value.cells, hzl]) (by decide) _ _ _ rfl (unhide HW5).row ⟨wr.heap.size, 0, none⟩ 1 1 cs rfl (by rw [(unhide H1).1]) (fun k u hk => by have := unhide HR5 k u hk; rw [Addr.add_mid]; exact this) (unhide H1).2 (by unfold maxLen; omega) (by omega) (unhide HW5).bw.size ?_; intro v' w9 hown hgrow _; have HF9 := hide ((unhide HW).grow1 (unhide HK5) hown hgrow); clear hown hgrow HW5)
      | (at_builtin; go_must (refine wpList_append_own _ rfl _ _ 34 rfl w.heap.size 3 j0 (.int .i64 0) 1 8 Tryz.underlying34 hj hy0 hy1 hy2 rfl (by decide) _ _ _ rfl (own_same (unhide HF9).row fun b e => Below.heap_alloc _ _ _ (World.ownsRow.lt (unhide HF9).row b e).2) ⟨w9.heap.size, 0, none⟩ 1 1 [.int .i64 (i : Int)] rfl rfl (fun k u hk => by rw [Addr.add_mid, Nat.zero_add, World.cell?_alloc_new]; simpa using hk) (fun u hu => by simp at hu; subst hu; rfl) (by unfold maxLen; omega) (by omega) (by have := (unhide HF9).pw.bw.size; rw [World.size_alloc]; omega) ?_); intro v'' w10 hown hgrow _; have HF10 := hide ((unhide HF9).grow2 hown hgrow); clear hown hgrow))
     go_roundg (N - (i + 1))
     case measure => omega
     case rel => exact ⟨i + 1, by go_num, by omega, by omega, by rw [(unhide HE).1, (unhide HE).2]; exact HF10⟩
   | false =>
     rw [hx] at f0
     have HE := hmf false hx
     clear hx hmf
     go_wp2_with fail
     go_roundg (N - (i + 1))
     case measure => omega
     case rel => exact ⟨i + 1, by go_num, by omega, by omega, by rw [(unhide HE).1, (unhide HE).2]; simpa using HW⟩
  ·obtain rfl : i = N := by omega
   go_wp2_with fail
   go_ret2
   have hw := (unhide HW).pw
   refine ⟨_, _, rfl, fun X hX hb => ?_, fun b e => World.ownsRow.lt hw.row b e, (unhide HW).row, hw.bw⟩
   by_cases h0 : 0 < i
   ·obtain ⟨b, o, _, cf⟩ := unhide HF0 h0
    exact Pw.pkl (W := W0) ⟨row_lo2 (own_same hw.row hX) (unhide H0).size, hb⟩ cf hb fun k hk => by have := List.mem_range.1 (List.mem_filter.1 hk).1; have := unhide HN; omega
   ·obtain rfl : i = 0 := by omega
    have hr := hw.row.2
    rcases hr with ⟨q, _⟩ | ⟨g, cap, cur, q, _⟩
    ·exact ⟨none, 0, by rw [q]; rfl, fun h => absurd h (by simp [plL])⟩
    ·exact ⟨some ⟨g, 0, none⟩, cap, by rw [q]; rfl, fun h => absurd h (by simp [plL])⟩
end
section
open Go.RowKit Go.Maps Go.Sort
def hsN (l : List Nm) : Nm → Option Value := fun x => if (l.any fun y => decide (y = x)) = true then some (.agg #[]) else none
theorem hsN_in {l : List Nm} {x : Nm} (h : x ∈ l) : hsN l x = some (.agg #[]) := if_pos (List.any_eq_true.2 ⟨x, h, decide_eq_true rfl⟩)
theorem hsN_out {l : List Nm} {x : Nm} (h : x ∉ l) : hsN l x = none := if_neg fun e => by
 obtain ⟨y, hy, e2⟩ := List.any_eq_true.1 e
 exact h (by rw [← of_decide_eq_true e2]; exact hy)
theorem hsN_some {l : List Nm} {x : Nm} (h : (hsN l x).isSome = true) : x ∈ l := Classical.byContradiction fun hn => by rw [hsN_out hn] at h; cases h
theorem hsN_snoc (l : List Nm) (x : Nm) : up (hsN l) x (some (.agg #[])) = hsN (l ++ [x]) := by
 funext y
 by_cases e : y = x
 ·subst e
  rw [up_same, hsN_in (by simp)]
 ·rw [up_other _ _ e]
  by_cases h : y ∈ l
  ·rw [hsN_in h, hsN_in (by simp [h])]
  ·rw [hsN_out h, hsN_out (by simp [h, e])]
theorem Dv.putS {W : World} {b k : Nat} {H : Nm → Option Value} (h : Dv W b H k) (hk : k < maxLen) {x : Nm} (hx : x.size ≤ maxLen) (f : Value) :
 ∃ W2, (Instr.mapUpdate 106 (.map (some b)) (.string x) f).run Tryz.prog W = .ok () W2 ∧ Dv W2 b (up H x (some f)) (k + 1) ∧ Fx (fun c => c = b) W W2 := by
 obtain ⟨D, ho, r⟩ := h
 obtain ⟨W2, hr, ho2, ht⟩ := ho.store law9 Tryz.underlying106 hk (key9 (x := x) hx) (val := f) (d := .held f) (ps := []) rfl
 have hg := ht.grown
 exact ⟨W2, hr, ⟨_, ho2, r.put ho.isMap f⟩, ⟨hg.1, hg.2, hg.3, hg.size, fun _ h => absurd h (Nat.not_lt_zero _)⟩, fun c hc hn => hg.block c hc (by intro q; cases q; exact hn rfl)⟩
structure Nl (w wr : World) (S : Array Value) (l : List Nm) : Prop where
 s : wr.heap[w.heap.size]? = some (.cells S 62 (0, 0))
 d : Dv wr (w.heap.size + 1) (hsN l) l.length
 bw : RowKit.Below w.heap.size w wr
 z : ∀ x ∈ l, x.size ≤ maxLen
theorem Nl.put {w wr : World} {S : Array Value} {l : List Nm} (h : Nl w wr S l) (hl : l.length < maxLen) {x : Nm} (hx : x.size ≤ maxLen) : ∃ W2, (Instr.mapUpdate 106 (.map (some (w.heap.size + 1))) (.string x) (.agg #[])).run Tryz.prog wr = .ok () W2 ∧ Nl w W2 S (l ++ [x]) := by
 obtain ⟨W2, hr, d2, f2⟩ := h.d.putS hl hx (.agg #[])
 have hz := h.bw.size
 have hz2 := h.d.lt
 rw [hsN_snoc] at d2
 refine ⟨W2, hr, (f2.blk _ (by omega) (by omega)).trans h.s, by rw [List.length_append]; exact d2, ⟨f2.bel.os.trans h.bw.os, f2.bel.tape.trans h.bw.tape, f2.bel.output.trans h.bw.output, Nat.le_trans hz f2.bel.size, fun c hc => (f2.blk c (by omega) (by omega)).trans (h.bw.block c hc)⟩, fun y hy => ?_⟩
 rcases List.mem_append.1 hy with hy | hy
 ·exact h.z y hy
 ·rw [List.mem_singleton] at hy; rw [hy]; exact hx
theorem nl_start (w : World) (S : Array Value) : Nl w ((w.alloc (.cells S 62)).alloc (.map #[] 0)) S [] := by
 have z1 : (w.alloc (.cells S 62)).heap.size = w.heap.size + 1 := World.size_alloc _ _
 have b1 : RowKit.Below w.heap.size w (w.alloc (.cells S 62)) := (Below.refl _ w).alloc (Nat.le_refl _) _
 have b2 : RowKit.Below (w.alloc (.cells S 62)).heap.size (w.alloc (.cells S 62)) ((w.alloc (.cells S 62)).alloc (.map #[] 0)) := (Below.refl _ _).alloc (Nat.le_refl _) _
 refine ⟨(b2.block _ (by omega)).trans (World.alloc_heap_new w _), ?_, bl_t b1 b2, fun x h => by cases h⟩
 have := Dv.make (w.alloc (.cells S 62))
 rw [z1] at this
 rw [show hsN [] = (fun _ => none) from by funext x; exact hsN_out (by simp)]
 exact this
def nmL (ps : List Pk) (L : List Nat) : List Nm := (L.map fun f => (pAt ps f).nm :: (pAt ps f).pv).flatten
theorem nmL_mem (ps : List Pk) (L : List Nat) (x : Nm) : x ∈ nmL ps L ↔ ∃ f ∈ L, x = (pAt ps f).nm ∨ x ∈ (pAt ps f).pv := by
 unfold nmL
 rw [List.mem_flatten]
 constructor
 ·rintro ⟨l, hl, hx⟩
  obtain ⟨f, hf, rfl⟩ := List.mem_map.1 hl
  exact ⟨f, hf, List.mem_cons.1 hx⟩
 ·rintro ⟨f, hf, hx⟩
  exact ⟨_, List.mem_map.2 ⟨f, hf, rfl⟩, List.mem_cons.2 hx⟩
theorem nmL_snoc (ps : List Pk) (L : List Nat) (j : Nat) (h : j < L.length) : nmL ps (L.take (j + 1)) = nmL ps (L.take j) ++ [(pAt ps L[j]).nm] ++ (pAt ps L[j]).pv := by
 unfold nmL
 rw [List.take_add_one, List.getElem?_eq_getElem h, List.map_append, List.flatten_append]
 simp
def cN (x : Nm) (l : List Nm) : Nat := (l.filter fun y => decide (y = x)).length
theorem cN_nil (x : Nm) : cN x [] = 0 := rfl
theorem cN_cons (x y : Nm) (l : List Nm) : cN x (y :: l) = cN x l + (if y = x then 1 else 0) := by
 unfold cN
 rw [List.filter_cons]
 by_cases e : y = x
 ·rw [if_pos (by simp [e]), if_pos e]; rfl
 ·rw [if_neg (by simp [e]), if_neg e]; rfl
theorem cN_one (y : Nm) : ∀ ss : List Nm, ss.Nodup → cN y ss ≤ 1 ∧ (y ∉ ss → cN y ss = 0)
 | [], _ => ⟨by rw [cN_nil]; omega, fun _ => rfl⟩
 | a :: ss, h => by
   obtain ⟨h1, h2⟩ := List.nodup_cons.1 h
   obtain ⟨i1, i2⟩ := cN_one y ss h2
   rw [cN_cons]
   by_cases e : a = y
   ·subst e
    rw [i2 h1, if_pos rfl]
    exact ⟨by omega, fun hn => absurd List.mem_cons_self hn⟩
   ·rw [if_neg e]
    exact ⟨by omega, fun hn => i2 fun hm => hn (List.mem_cons_of_mem _ hm)⟩
theorem count_sum (l : List Nm) : ∀ ss : List Nm, ss.Nodup → (ss.map fun x => cN x l).sum ≤ l.length := by
 induction l with
 | nil =>
   intro ss _
   have : (ss.map fun x => cN x []).sum = 0 := by
    induction ss with
    | nil => rfl
    | cons a ss ih => rw [List.map_cons, List.sum_cons, cN_nil, ih (List.nodup_cons.1 (by assumption)).2]
   rw [this]
   exact Nat.zero_le _
 | cons y l ih =>
   intro ss hs
   have h1 := ih ss hs
   have h2 : (ss.map fun x => cN x (y :: l)).sum = (ss.map fun x => cN x l).sum + cN y ss := by
    clear hs h1
    induction ss with
    | nil => rfl
    | cons a ss ih2 =>
      rw [List.map_cons, List.sum_cons, List.map_cons, List.sum_cons, ih2, cN_cons, cN_cons]
      by_cases e : a = y
      ·subst e; rw [if_pos rfl]; omega
      ·rw [if_neg (fun h => e h.symm), if_neg e]; omega
   have h3 := (cN_one y ss hs).1
   rw [h2, List.length_cons]
   omega
theorem fo_count (F : Nm → List Nat) (i : Nat) (l : List Nm) (x : Nm) : (fo F i l x).length = (F x).length + cN x l := by
 induction l generalizing F with
 | nil => rfl
 | cons y l ih =>
   show (fo (upF F y (F y ++ [i])) i l x).length = _
   rw [ih, cN_cons]
   by_cases e : x = y
   ·subst e; rw [upF_same, if_pos rfl, List.length_append, List.length_singleton]; omega
   ·rw [upF_other _ _ e, if_neg (fun h => e h.symm)]; omega
theorem ak_sum (ps : List Pk) (ss : List Nm) (hs : ss.Nodup) : ∀ n, (ss.map fun x => (akP ps n x).length).sum ≤ akK ps n
 | 0 => by
   have : (ss.map fun x => (akP ps 0 x).length).sum = 0 := by
    clear hs
    induction ss with
    | nil => rfl
    | cons a ss ih => rw [List.map_cons, List.sum_cons, ih]; rfl
   omega
 | n + 1 => by
   have ih := ak_sum ps ss hs n
   cases e : ps[n]? with
   | none =>
     have e2 : akP ps (n + 1) = akP ps n := by rw [akP, e]
     have e3 : akK ps (n + 1) = akK ps n := by
      unfold akK
      rw [List.take_add_one, e]
      simp
     rw [e2, e3]
     exact ih
   | some q =>
     have e2 : akP ps (n + 1) = fo (akP ps n) n (akN q) := by rw [akP, e]
     rw [e2, akK_succ e]
     have h3 : (ss.map fun x => (fo (akP ps n) n (akN q) x).length).sum = (ss.map fun x => (akP ps n x).length).sum + (ss.map fun x => cN x (akN q)).sum := by
      clear hs ih
      induction ss with
      | nil => rfl
      | cons a ss ih2 => rw [List.map_cons, List.sum_cons, ih2, List.map_cons, List.sum_cons, List.map_cons, List.sum_cons, fo_count]; omega
     have h4 := count_sum (akN q) ss hs
     omega
structure Vi (D : DataW Value) (l : List Nm) (left : Lit → Bool) (ss : List (List UInt8)) : Prop where
 nd : ss.Nodup
 gone : ∀ s ∈ ss, left (.string s) = false
 of : ∀ s ∈ ss, (⟨s.toArray⟩ : Nm) ∈ l
 all : ∀ s, Maps.has D (.string s) = true → left (.string s) = false → s ∈ ss
theorem Vi.start (D : DataW Value) (l : List Nm) : Vi D l (Maps.has D) [] := ⟨List.nodup_nil, fun s h => (by cases h), fun s h => (by cases h), fun s h1 h2 => by rw [h1] at h2; cases h2⟩
theorem Vi.step {D : DataW Value} {l : List Nm} {left : Lit → Bool} {ss : List (List UInt8)} (h : Vi D l left ss) {x : List UInt8} (hl : left (.string x) = true) (hx : (⟨x.toArray⟩ : Nm) ∈ l) : Vi D l (fun z => left z && !z.sameKey (.string x)) (ss ++ [x]) := by
 have hnew : x ∉ ss := fun hm => by have := h.gone x hm; rw [hl] at this; cases this
 refine ⟨List.nodup_append.2 ⟨h.nd, by simp, fun a ha b hb => by simp at hb; subst hb; exact fun e => hnew (e ▸ ha)⟩, fun s hs => ?_, fun s hs => ?_, fun s h1 h2 => ?_⟩
 ·rcases List.mem_append.1 hs with hs | hs
  ·rw [h.gone s hs]; rfl
  ·rw [List.mem_singleton] at hs; subst hs; simp [Lit.sameKey]
 ·rcases List.mem_append.1 hs with hs | hs
  ·exact h.of s hs
  ·rw [List.mem_singleton] at hs; subst hs; exact hx
 ·by_cases e : s = x
  ·subst e; simp
  ·refine List.mem_append.2 (.inl (h.all s h1 ?_))
   simpa [Lit.sameKey, e] using h2
theorem Vi.mem {D : DataW Value} {l : List Nm} {left : Lit → Bool} {ss : List (List UInt8)} (h : Vi D l left ss) (r : RepV D (hsN l)) (hz : ∀ x ∈ l, x.size ≤ maxLen) (he : ∀ k, left k = false) (x : Nm) : x ∈ ss.map (fun s => (⟨s.toArray⟩ : Nm)) ↔ x ∈ l := by
 constructor
 ·intro hx
  obtain ⟨s, hs, rfl⟩ := List.mem_map.1 hx
  exact h.of s hs
 ·intro hx
  refine List.mem_map.2 ⟨x.data.toList, h.all _ ?_ (he _), by simp⟩
  have := r.has x (hz x hx)
  unfold kl at this
  rw [this, hsN_in hx]
  rfl
theorem Vi.nd2 {D : DataW Value} {l : List Nm} {left : Lit → Bool} {ss : List (List UInt8)} (h : Vi D l left ss) : (ss.map (fun s => (⟨s.toArray⟩ : Nm))).Nodup := by
 refine List.Pairwise.map _ (fun a b hab e => hab ?_) h.nd
 injection e with e
 simpa using congrArg Array.toList e
def asL (F : Nm → List Nat) (ss : List (List UInt8)) : List Nat := (ss.map fun s => F ⟨s.toArray⟩).flatten
theorem asL_snoc (F : Nm → List Nat) (ss : List (List UInt8)) (x : List UInt8) : asL F (ss ++ [x]) = asL F ss ++ F ⟨x.toArray⟩ := by
 unfold asL
 rw [List.map_append, List.flatten_append]
 simp
theorem asL_len (F : Nm → List Nat) (ss : List (List UInt8)) : (asL F ss).length = ((ss.map (fun s => (⟨s.toArray⟩ : Nm))).map fun x => (F x).length).sum := by
 unfold asL
 rw [List.length_flatten, List.map_map, List.map_map]
 rfl
theorem asL_mem (F : Nm → List Nat) (ss : List (List UInt8)) (p : Nat) : p ∈ asL F ss ↔ ∃ x ∈ ss.map (fun s => (⟨s.toArray⟩ : Nm)), p ∈ F x := by
 unfold asL
 rw [List.mem_flatten]
 constructor
 ·rintro ⟨l, hl, hp⟩
  obtain ⟨s, hs, rfl⟩ := List.mem_map.1 hl
  exact ⟨_, List.mem_map.2 ⟨s, hs, rfl⟩, hp⟩
 ·rintro ⟨x, hx, hp⟩
  obtain ⟨s, hs, rfl⟩ := List.mem_map.1 hx
  exact ⟨_, List.mem_map.2 ⟨s, hs, rfl⟩, hp⟩
theorem sort_row {w w2 : World} {r : Value} {L : List Nat} (hL : L.length ≤ 2097152) (hrow : w2.ownsRow w.heap.size 3 1 r L.length (ints L)) (hb : RowKit.Below w.heap.size w w2) :
 Calls Tryz.prog 68 #[r] w2 fun e w' => e = .returned (.tuple #[]) ∧ RowKit.Below w.heap.size w w' ∧ So w w' r L := by
 rcases hrow.2 with ⟨rfl, h0⟩ | ⟨g, cap, cur, rfl, hbase, hbl, h1, h2, h3, h4⟩
 ·refine (sort_nil w2).mono ?_
  rintro e w3 ⟨rfl, rfl⟩
  exact ⟨rfl, hb, .inl ⟨rfl, List.length_eq_zero_iff.1 h0⟩⟩
 ·rw [Nat.mul_one, ints_zs, ← zsI_len L] at h4
  have hH : Holds (Value.int .i64) w2 g 0 (zsI L).toArray := holds_of_blockI hbl h4
  have hgl := blk_lt hbl
  have hc := Any.slices_Sort_int Tryz.lays189 g 0 cap (zsI L) w2 hH hgl (by rw [zsI_len]; omega)
  rw [zsI_len] at hc
  have hc : Calls Tryz.prog 68 #[.slice (some ⟨g, 0, none⟩) L.length cap] w2 _ := hc
  refine hc.mono ?_
  rintro e w3 ⟨rfl, nn, os, rfl⟩
  have hgr := grownBy_sortedI (w := w2) (g := g) (n := nn) (os := os) ((zsI L).mergeSort fun x y => decide (x ≤ y)).toArray
  refine ⟨rfl, hb.grown hgr hb.size (fun j hj => by cases hj; exact hbase), .inr ⟨g, cap, rfl, h1, hbase, Nat.lt_of_lt_of_le hgl hgr.size, ?_⟩⟩
  have hown := ownsRow_sortedI (os := os) (n := nn) (ss := zsI L) (ts := (zsI L).mergeSort fun x y => decide (x ≤ y)) (by simp) hbase hbl (by rw [zsI_len]; exact h1) h2 h3
  rcases hown.2 with ⟨q, _⟩ | ⟨g2, cap2, cur2, q, _, q3, _, _, _, q4⟩
  ·cases q
  ·cases q
   rw [Nat.mul_one, show (zsI L).length = ((zsI L).mergeSort fun x y => decide (x ≤ y)).length by simp] at q4
   exact holds_of_blockI q3 q4
end
section
open Go.RowKit Go.Maps Go.Sort
set_option maxRecDepth 100000 in
set_option maxHeartbeats 8000000 in
theorem leaning_any {w : World} {v r : Value} {ps : List Pk} {base ba ka lo : Nat} {HA : Nm → Option Hd} {L : List Nat} (b1 b2 : Nat) (sm : SmP ps) (pk : Pkl w v ps) (ma : Mi w base (.map (some ba)) HA (akP ps ps.length) ka) (ht : akK ps ps.length ≤ 1048576) (hr : Pl lo w r L) (hlen : L.length ≤ 1048576) (hL : ∀ p ∈ L, p < ps.length) :
 Calls Tryz.prog 44 #[.agg #[v, .map (some b1), .map (some b2)], .map (some ba), r] w fun e w' => ∃ u D, e = .returned u ∧ Pl w.heap.size w' u D ∧ D.Pairwise (· < ·) ∧ (∀ p, p ∈ D ↔ Ln ps L p) ∧ RowKit.Below w.heap.size w w' := by
 obtain ⟨i0, hi, hz0, hz1, hz2⟩ := info_parts2 infoI8
 obtain ⟨va, vc, rfl⟩ : ∃ a c, v = .slice a ps.length c := let ⟨a, c, e, _⟩ := pk; ⟨a, c, e⟩
 obtain ⟨ra, rk, rfl, hpl⟩ := hr
 have HR := hide hpl
 have HPK := hide pk
 have HSM := hide sm
 have HL := hide hL
 have HMA := hide ma
 have HAK := hide (fun (ss : List Nm) (hs : ss.Nodup) => Nat.le_trans (ak_sum ps ss hs ps.length) ht)
 have HLT := hide (show ∀ (x : Nm) (p : Nat), p ∈ akP ps ps.length x → p < ps.length from fun x p hp => ((akP_mem ps x p ps.length).1 hp).1)
 have HLN := hide (show ∀ p, Ln ps L p ↔ ∃ x ∈ nmL ps L, p ∈ akP ps ps.length x from fun p => by
  unfold Ln
  constructor
  ·rintro ⟨f, hf, q, hq, x, hx, hp⟩
   have e : pAt ps f = q := by have := pAt_at (hL f hf); rw [hq] at this; exact (Option.some.inj this).symm
   exact ⟨x, (nmL_mem ps L x).2 ⟨f, hf, by rw [e]; exact hx⟩, hp⟩
  ·rintro ⟨x, hx, hp⟩
   obtain ⟨f, hf, hx⟩ := (nmL_mem ps L x).1 hx
   exact ⟨f, hf, _, pAt_at (hL f hf), x, hx, hp⟩)
 have HST := hide (nl_start w #[.slice va ps.length vc, .map (some b1), .map (some b2)])
 obtain ⟨N, hN⟩ : ∃ N, N = L.length := ⟨_, rfl⟩
 have HN := hide hN
 rw [← hN] at hlen ⊢
 clear hpl pk sm hL ma ht hN
 generalize akP ps ps.length = F at *
 have hmm := @run_makeMap Tryz.prog
 go_enter Tryz.func44, Tryz.ntmps44
 go_wp2_with fail
 clear hmm
 go_loopg [9, 11, 17] N (fun gq _ _ iv wr => ∃ j : Nat, iv = .int .i64 j ∧ j ≤ N ∧ N - j ≤ gq ∧ Hid (Nl w wr #[.slice va ps.length vc, .map (some b1), .map (some b2)] (nmL ps (L.take j)) ∧ (nmL ps (L.take j)).length ≤ j * 1048577))
 case atStart => exact ⟨0, by go_num, by omega, by omega, hide ⟨unhide HST, by simp [nmL]⟩⟩
 case round =>
  clear HST
  obtain ⟨j, rfl, hj, hgj, HB⟩ := hrel
  by_cases hlt : j < N
  ·have hjn : (j : Int) < (N : Int) := by omega
   have hjl : j < L.length := by have := unhide HN; omega
   have hp := unhide HL L[j] (List.getElem_mem hjl)
   have hpn : (L[j] : Int) < (ps.length : Int) := by omega
   obtain ⟨vb, vo, vc2, cs, dd, rr, cc, pv, ff, e, hvb, hrg, hpc, hll⟩ := (unhide HPK).at2 (pAt_at hp)
   injection e with e1 _ e3
   subst e1 e3
   obtain ⟨g, rfl, _, hgl, g0⟩ := unhide HR j L[j] (List.getElem?_eq_getElem hjl)
   have hsz := (unhide HSM).z _ (List.mem_of_getElem? (pAt_at hp))
   have hpvl : (pAt ps L[j]).pv.length ≤ 1048576 := Nat.le_trans (le_sum (fun p : Pk => p.pv.length) (List.mem_of_getElem? (pAt_at hp))) (unhide HSM).t
   have HTK := hide (nmL_snoc ps L j hjl)
   obtain ⟨hnl, hnb⟩ := unhide HB
   obtain ⟨W2, hup, hn2⟩ := hnl.put (x := (pAt ps L[j]).nm) (Nat.lt_of_le_of_lt hnb (by unfold maxLen; omega)) hsz.1
   have r0 := (hnl.bw.cell (p := ⟨g, j, none⟩) hgl).trans g0
   have s0 := (cell_blk hnl.s 0).1.trans (show #[Value.slice (some ⟨vb, vo, none⟩) ps.length vc, .map (some b1), .map (some b2)][0]? = some (.slice (some ⟨vb, vo, none⟩) ps.length vc) from rfl)
   have t0 := (cell_blk hn2.s 0).1.trans (show #[Value.slice (some ⟨vb, vo, none⟩) ps.length vc, .map (some b1), .map (some b2)][0]? = some (.slice (some ⟨vb, vo, none⟩) ps.length vc) from rfl)
   have c0 := (hnl.bw.cell (p := ⟨vb, vo + L[j] * 43, none⟩) hvb).trans (hrg 0 _ hpc.c0)
   have c6 := (hn2.bw.cell (p := ⟨vb, vo + L[j] * 43 + 6, none⟩) hvb).trans (hrg 6 _ hpc.c6)
   obtain ⟨pa, pc, e6⟩ : ∃ a c, pv = .slice a (pAt ps L[j]).pv.length c := let ⟨a, c, e, _⟩ := hll.vl; ⟨a, c, e⟩
   subst e6
   have HPV := hide (And.intro hll.vl hsz.2.2)
   have HN0 := hide (show Nl w W2 #[.slice (some ⟨vb, vo, none⟩) ps.length vc, .map (some b1), .map (some b2)] (nmL ps (L.take j) ++ [(pAt ps L[j]).nm] ++ (pAt ps L[j]).pv.take 0) from by rw [List.take_zero, List.append_nil]; exact hn2)
   clear hrg hpc hll hgl g0 hsz hnl hn2 HB
   generalize L[j] = p at *
   generalize (pAt ps p).nm = nm at *
   generalize (pAt ps p).pv = pl at *
   generalize nmL ps (L.take j) = l0 at *
   obtain ⟨M, hM⟩ : ∃ M, M = pl.length := ⟨_, rfl⟩
   rw [← hM] at c6 hpvl
   have HM := hide hM
   clear hM
   go_wp2_with fail
   clear r0 s0 t0 c0 c6 hup
   go_loopg [11, 36] M (fun g2 _ vi wx => ∃ i : Nat, vi = .int .i64 i ∧ i ≤ M ∧ M - i ≤ g2 ∧ Hid (Nl w wx #[.slice (some ⟨vb, vo, none⟩) ps.length vc, .map (some b1), .map (some b2)] (l0 ++ [nm] ++ pl.take i)))
   case atStart => exact ⟨0, by go_num, by omega, by omega, HN0⟩
   case round =>
    clear HN0
    obtain ⟨i, rfl, hi2, hgi, HI⟩ := hrel
    by_cases hit : i < M
    ·have hin : (i : Int) < (M : Int) := by omega
     have hil : i < pl.length := by have := unhide HM; omega
     obtain ⟨sb, so, rfl, hsb, sc⟩ : ∃ b o, pa = some ⟨b, o, none⟩ ∧ b < w.heap.size ∧ w.cell? ⟨b, o + i, none⟩ = some (.string pl[i]) := by
      have h := (unhide HPV).1
      exact h.at (List.getElem?_eq_getElem hil)
     have hx := (unhide HPV).2 pl[i] (List.getElem_mem hil)
     have HTI := hide (show l0 ++ [nm] ++ pl.take (i + 1) = l0 ++ [nm] ++ pl.take i ++ [pl[i]] from by rw [List.take_add_one, List.getElem?_eq_getElem hil, ← List.append_assoc]; rfl)
     have hni := unhide HI
     have hlb : (l0 ++ [nm] ++ pl.take i).length < maxLen := by
      rw [List.length_append, List.length_append, List.length_singleton, List.length_take]
      unfold maxLen
      omega
     obtain ⟨W3, hup, hn3⟩ := hni.put hlb hx
     have k0 := (hni.bw.cell (p := ⟨sb, so + i, none⟩) hsb).trans sc
     have HF := hide hn3
     clear hni hn3 sc hlb hx
     generalize pl[i] = x at *
     go_wp2_with fail
     go_roundg (M - (i + 1))
     case measure => omega
     case rel => exact ⟨i + 1, by go_num, by omega, by omega, by rw [unhide HTI]; exact HF⟩
    ·obtain rfl : i = M := by omega
     have HF := hide (show Nl w wr #[.slice (some ⟨vb, vo, none⟩) ps.length vc, .map (some b1), .map (some b2)] (nmL ps (L.take (j + 1))) ∧ (nmL ps (L.take (j + 1))).length ≤ (j + 1) * 1048577 from by
      have h := unhide HI
      rw [unhide HM, List.take_length] at h
      rw [unhide HTK]
      refine ⟨h, ?_⟩
      rw [List.length_append, List.length_append, List.length_singleton, ← unhide HM]
      omega)
     go_wp2_with fail
     go_roundg (N - (j + 1))
     case measure => omega
     case rel => exact ⟨j + 1, by go_num, by omega, by omega, HF⟩
  ·obtain rfl : j = N := by omega
   rename World => Wm
   have hnl := (unhide HB).1
   rw [unhide HN, List.take_length] at hnl
   obtain ⟨D, hown, hrep⟩ := hnl.d
   have hbl := hnl.d.lt
   have HREP := hide hrep
   have HZ := hide hnl.z
   have HBW := hide hnl.bw
   generalize (nmL ps L).length = K at *
   generalize nmL ps L = nl at *
   clear hnl hrep HB HPK HSM HL HR
   go_wp2_with (first
    | (at_range; refine wpList_range_own _ rfl _ 106 rfl 9 107 law9 Tryz.underlying106 _ (w.heap.size + 1) K _ rfl hown ?_; intro w0 hrg0 hg0 hs0)
    | go_in)
   go_frame
   go_loopw [12, 13] (fun v _ wx => ∃ (left : Lit → Bool) (cnt : Nat) (ss : List (List UInt8)), wx.ranges Tryz.prog 9 raw (w.heap.size + 1) Wm.heap.size K D left cnt ∧ wx.ownsRow Wm.heap.size 3 1 v (asL F ss).length (ints (asL F ss)) ∧ Vi D nl left ss ∧ RowKit.Below Wm.heap.size Wm wx)
    (fun _ _ wx => wx.rangeLeft (w.heap.size + 1) Wm.heap.size)
   case atStart =>
    exact ⟨_, _, [], hrg0, World.ownsRow_nil _ _ _ _, Vi.start D nl, (Below.refl _ _).grown hg0 (Nat.le_refl _) (fun j hj => by cases hj)⟩
   case round =>
    obtain ⟨left, cnt, ss, hrg, hrow, hV, hnx⟩ := hrel
    have hlas : (asL F ss).length ≤ 1048576 := by rw [asL_len]; exact unhide HAK _ hV.nd2
    go_wp2_with (first
     | (at_next; refine wpList_next_ranges _ rfl _ rfl 9 law9 raw encStr (fun c : Value => c) (fun key kl hk => by obtain ⟨x, hx, _⟩ := Maps.keyOf_str Tryz.underlying9 hk; exact ⟨x, hx⟩) (fun v y _ => ⟨v, rfl⟩) (w.heap.size + 1) Wm.heap.size K _ _ _ rfl hrg ?_ ?_)
     | go_in)
    ·intro hc0 hl0
     have HEND := hide (fun x => hV.mem (unhide HREP) (unhide HZ) hl0 x)
     have bwx := bl_t (unhide HBW) hnx
     have CS := hide (sort_row (w := w) (Nat.le_trans hlas (by decide)) (row_lo2 hrow (unhide HBW).size) bwx)
     have HMM := hide (show ∀ p, p ∈ asL F ss ↔ p ∈ (List.range ps.length).filter fun p => decide (p ∈ asL F ss) from fun p => by
      rw [List.mem_filter, List.mem_range]
      refine ⟨fun h => ⟨?_, decide_eq_true h⟩, fun h => of_decide_eq_true h.2⟩
      obtain ⟨x, _, hx⟩ := (asL_mem F ss p).1 h
      exact unhide HLT x p hx)
     have HAL := hide hlas
     have HSM2 := hide (asL_mem F ss)
     clear hrow hV hnx hrg bwx hlas hown
     generalize asL F ss = AL at *
     go_wp2_with (first
      | (go_at_call 68; refine (unhide CS).mono ?_; rintro e w3 ⟨rfl, hb3, hso⟩; have C3 := hide (compact_any (w0 := w) (Nat.le_trans (unhide HAL) (by decide)) hso (List.Pairwise.filter (fun p => decide (p ∈ AL)) (List.pairwise_lt_range (n := ps.length))) (unhide HMM) hb3); clear hb3 hso CS)
      | (go_at_call 69; refine (unhide C3).mono ?_; rintro e w4 ⟨r4, rfl, hb4, hp4⟩; have H4 := hide (And.intro hb4 hp4); clear hb4 hp4 C3)
      | go_in)
     go_ret
     refine ⟨_, _, rfl, (unhide H4).2, List.Pairwise.filter _ List.pairwise_lt_range, fun p => ?_, (unhide H4).1⟩
     rw [← unhide HMM p, unhide HSM2 p, unhide HLN p]
     constructor
     ·rintro ⟨x, hx, hp⟩; exact ⟨x, (unhide HEND x).1 hx, hp⟩
     ·rintro ⟨x, hx, hp⟩; exact ⟨x, (unhide HEND x).2 hx, hp⟩
    ·intro x c kl2 yd yp w2 cnt2 hkey hlk hv hat hrg2 hlt2 hg2 hs2 hen
     obtain ⟨x', ex, rfl, hxl⟩ := Maps.keyOf_str Tryz.underlying9 hkey
     obtain rfl : x = x' := encStr_inj ex
     have hrow2 := hrow.kept hg2 (Or.inr (row_ne_iter hrow hrg).symm)
     have hxz : (⟨x.toArray⟩ : Nm).size ≤ maxLen := by show x.toArray.size ≤ maxLen; simpa using hxl
     have hxin : (⟨x.toArray⟩ : Nm) ∈ nl := by
      have h1 := (unhide HREP).has ⟨x.toArray⟩ hxz
      have h2 : Maps.has D (.string x) = true := has_true_of_atKey hat
      rw [show kl ⟨x.toArray⟩ = .string x from rfl, h2] at h1
      exact hsN_some h1.symm
     have hV2 := hV.step hlk hxin
     have bX := hnx.grown hg2 hnx.size (fun j hj => by cases hj; exact Nat.le_refl _)
     have m2 := (unhide HMA).later (bl_t (unhide HBW) bX)
     have lk := look1 m2.dm hxz
     have hown2 := m2.own ⟨x.toArray⟩
     have hFl : (asL F ss).length + (F ⟨x.toArray⟩).length ≤ 1048576 := by
      have := unhide HAK _ hV2.nd2
      rw [← asL_len, asL_snoc, List.length_append] at this
      exact this
     have hmeas : w2.rangeLeft (w.heap.size + 1) Wm.heap.size < wr.rangeLeft (w.heap.size + 1) Wm.heap.size := by rw [hrg2.left_eq, hrg.left_eq]; exact hlt2
     have hzx := bX.size
     clear hs2 ex hkey hlk hv hat hxin m2
     rcases hown2.2 with ⟨q1, q2⟩ | ⟨g, cap, cur, q1, _⟩
     ·rw [q1] at lk
      have HE := hide (show asL F (ss ++ [x]) = asL F ss from by rw [asL_snoc, List.length_eq_zero_iff.1 q2, List.append_nil])
      clear hown2 q1 q2
      go_wp2_with (first
       | (at_builtin; go_must (refine wpList_append_own_none rfl _ _ 34 rfl Wm.heap.size 3 i0 1 Tryz.underlying34 hi _ _ _ rfl hrow2 rfl ?_))
       | go_in)
      go_roundw
      case rel => exact ⟨_, cnt2, ss ++ [x], hrg2, by rw [unhide HE]; exact hrow2, hV2, bX⟩
      case measure => exact hmeas
     ·rw [q1] at lk
      have hcells := hown2.cells (g := g) (by rw [q1]; rfl)
      clear hown2 q1
      go_wp2_with (first
       | (at_builtin; go_must (refine wpList_append_own_at _ rfl _ _ 34 rfl Wm.heap.size 3 i0 (.int .i64 0) 1 8 Tryz.underlying34 hi hz0 hz1 hz2 rfl (by decide) _ _ _ rfl hrow2 ⟨g, 0, none⟩ (F ⟨x.toArray⟩).length cap (ints (F ⟨x.toArray⟩)) rfl (by rw [ints_len, Nat.mul_one]) hcells (fun u hu => by unfold ints at hu; obtain ⟨_, _, rfl⟩ := List.mem_map.1 hu; rfl) (by unfold maxLen; omega) (by omega) hzx ?_); intro v' w3 hown' hg3 hnil3 hat3; go_frame)
       | go_in)
      have hrg3 := hrg2.kept hg3 (row_ne_low hrow2 hbl) (row_ne_iter hrow2 hrg2)
      go_roundw
      case rel => exact ⟨_, cnt2, ss ++ [x], hrg3, by rw [asL_snoc, List.length_append, show ints (asL F ss ++ F ⟨x.toArray⟩) = ints (asL F ss) ++ ints (F ⟨x.toArray⟩) from by simp [ints]]; exact hown', hV2, bX.grown hg3 hzx (fun j hj => (hrow2.lt j hj).1)⟩
      case measure => rw [hrg3.left_eq, hrg.left_eq]; exact hlt2
end
end Go.Proofs.YtdkpglmdncjnbaaGreatDoor
