import Derived.Test.YtiibobjbcgbknaaDoorStR
namespace Go.Proofs.YtiibobjbcgbknaaDoor
open Go.RowKit Go.Shelf
attribute [local go_sem] Oper.semAt_some
attribute [local simp] wide_fn
attribute [local go_sem] wide_fn

structure Bd (n : Nat) (st : St) : Prop where
  b : bd n st.p
  z : nz st.p
  a : st.all.length ≤ n
theorem bd_nil (n : Nat) : bd n [] := ⟨Nat.zero_le _, fun f hf => (by cases hf)⟩
theorem nz_nil : nz [] := fun f hf => (by cases hf)
theorem bd.mono {n m : Nat} {p : List Fd} (h : bd n p) (hm : n ≤ m) : bd m p := ⟨Nat.le_trans h.1 hm, fun f hf => ⟨Nat.le_trans (h.2 f hf).1 hm, Nat.le_trans (h.2 f hf).2 hm⟩⟩
theorem bd_take {n : Nat} {p : List Fd} (hb : bd n p) (hz : nz p) (k : Nat) (s : Bs) : bd (n + 1) (takeP p k s).2 ∧ nz (takeP p k s).2 := by
  have same : bd (n + 1) p ∧ nz p := ⟨hb.mono (by omega), hz⟩
  unfold takeP
  split
  · exact same
  · split
    · unfold goP
      split
      · exact same
      · rcases List.eq_nil_or_concat p with rfl | ⟨q, f, rfl⟩
        · exact same
        · simp only [List.concat_eq_append] at *
          rw [extL_snoc]
          have hl := hb.1
          have hf := hb.2 f (by simp)
          simp only [List.length_append, List.length_cons, List.length_nil] at hl
          refine ⟨⟨by simp; omega, fun g hg => ?_⟩, fun g hg => ?_⟩
          · rcases List.mem_append.1 hg with hg | hg
            · have := hb.2 g (List.mem_append_left _ hg)
              omega
            · obtain rfl : g = _ := by simpa using hg
              simp
              omega
          · rcases List.mem_append.1 hg with hg | hg
            · exact hz g (List.mem_append_left _ hg)
            · obtain rfl : g = _ := by simpa using hg
              simp
    · split
      · unfold beP
        split
        · split
          · exact same
          · have hl := hb.1
            refine ⟨⟨by simp; omega, fun g hg => ?_⟩, fun g hg => ?_⟩
            · rcases List.mem_append.1 hg with hg | hg
              · have := hb.2 g hg
                omega
              · obtain rfl : g = _ := by simpa using hg
                simp
            · rcases List.mem_append.1 hg with hg | hg
              · exact hz g hg
              · obtain rfl : g = _ := by simpa using hg
                simp
        · exact same
      · exact same
theorem Bd.step {n : Nat} {st : St} (h : Bd n st) (x : Nat × Bs) : Bd (n + 1) (stp st x) := by
  unfold stp
  split
  · exact ⟨h.b.mono (by omega), h.z, by have := h.a; omega⟩
  · split
    · refine ⟨bd_nil _, nz_nil, ?_⟩
      show (shut st).length ≤ n + 1
      unfold shut
      have := h.a
      split
      · omega
      · simp; omega
    · split
      · exact ⟨(bd_take h.b h.z _ _).1, (bd_take h.b h.z _ _).2, by have := h.a; show st.all.length ≤ n + 1; omega⟩
      · exact ⟨h.b.mono (by omega), h.z, by have := h.a; show st.all.length ≤ n + 1; omega⟩
theorem Bd.foldl (xs : List (Nat × Bs)) : ∀ (n : Nat) (st : St), Bd n st → Bd (n + xs.length) (xs.foldl stp st) := by
  induction xs with
  | nil => intro n st h; exact h
  | cons x r ih =>
    intro n st h
    have := ih (n + 1) (stp st x) (h.step x)
    rw [List.length_cons, show n + (r.length + 1) = n + 1 + r.length by omega]
    exact this
theorem Bd.run (xs : List (Nat × Bs)) : Bd xs.length (runL xs) := by
  have := Bd.foldl xs 0 st0 ⟨bd_nil _, nz_nil, Nat.le_refl _⟩
  rwa [Nat.zero_add] at this
theorem err_stays (st : St) (h : st.err.isSome = true) (xs : List (Nat × Bs)) : xs.foldl stp st = st := by
  induction xs with
  | nil => rfl
  | cons x r ih =>
    have : stp st x = st := by
      unfold stp
      cases e : st.err with
      | none => rw [e] at h; cases h
      | some a => rfl
    rw [List.foldl_cons, this, ih]
theorem runL_err {a b : List (Nat × Bs)} (h : (runL a).err.isSome = true) : runL (a ++ b) = runL a := by
  unfold runL
  rw [List.foldl_append]
  exact err_stays _ h b

theorem al_ (W : World) (o : Obj) : (W.alloc o).heap.size = W.heap.size + 1 ∧ (W.alloc o).heap[W.heap.size]? = some o ∧ ∀ k, k < W.heap.size → (W.alloc o).heap[k]? = W.heap[k]? :=
  ⟨by simp, World.alloc_heap_new W o, fun k hk => Below.heap_alloc W o k hk⟩
/-- WHERE THE LOOP OVER THE LINES BEGINS. -/
structure Start (t : Bs) (yv : Value) (Bl : Nat) (w w0 : World) : Prop where
  z : w0.heap.size = w.heap.size + 1 + 1 + 1 + 1 + 1
  old : ∀ k, k < w.heap.size → w0.heap[k]? = w.heap[k]?
  y : w0.heap[w.heap.size]? = some (.cells #[yv] 63 (0, 0))
  n : w0.heap[w.heap.size + 1]? = some (.cells #[.int .i64 0] 3 (0, 0))
  e : w0.heap[w.heap.size + 1 + 1]? = some (.cells #[.int .i64 0] 25 (0, 0))
  b : w0.heap[w.heap.size + 1 + 1 + 1]? = some (.cells #[.slice none 0 0, .map none] 76 (0, 0))
  t : w0.heap[w.heap.size + 1 + 1 + 1 + 1]? = some (.cells #[.string (ba t)] 9 (0, 0))
  bel : Below w.heap.size w w0
theorem start_of (t : Bs) (yv : Value) (Bl : Nat) (w : World) : ∃ w0, (((((w.alloc (.cells #[yv] 63)).alloc (.cells #[.int .i64 0] 3)).alloc (.cells #[.int .i64 0] 25)).alloc (.cells #[.slice none 0 0, .map none] 76)).alloc (.cells #[.string (ba t)] 9)) = w0 ∧ Start t yv Bl w w0 := by
  obtain ⟨z1, n1, o1⟩ := al_ w (.cells #[yv] 63)
  obtain ⟨z2, n2, o2⟩ := al_ (w.alloc (.cells #[yv] 63)) (.cells #[.int .i64 0] 3)
  obtain ⟨z3, n3, o3⟩ := al_ ((w.alloc (.cells #[yv] 63)).alloc (.cells #[.int .i64 0] 3)) (.cells #[.int .i64 0] 25)
  obtain ⟨z4, n4, o4⟩ := al_ (((w.alloc (.cells #[yv] 63)).alloc (.cells #[.int .i64 0] 3)).alloc (.cells #[.int .i64 0] 25)) (.cells #[.slice none 0 0, .map none] 76)
  obtain ⟨z5, n5, o5⟩ := al_ ((((w.alloc (.cells #[yv] 63)).alloc (.cells #[.int .i64 0] 3)).alloc (.cells #[.int .i64 0] 25)).alloc (.cells #[.slice none 0 0, .map none] 76)) (.cells #[.string (ba t)] 9)
  refine ⟨_, rfl, ⟨by rw [z5, z4, z3, z2, z1], fun k hk => ?_, ?_, ?_, ?_, ?_, ?_, ?_⟩⟩
  · rw [o5 k (by omega), o4 k (by omega), o3 k (by omega), o2 k (by omega), o1 k hk]
  · rw [o5 _ (by omega), o4 _ (by omega), o3 _ (by omega), o2 _ (by omega), n1]
  · rw [o5 _ (by omega), o4 _ (by omega), o3 _ (by omega), ← z1, n2]
  · rw [o5 _ (by omega), o4 _ (by omega), ← z1, ← z2, n3]
  · rw [o5 _ (by omega), ← z1, ← z2, ← z3, n4]
  · rw [← z1, ← z2, ← z3, ← z4, n5]
  · exact ((((((Below.refl _ w).alloc (Nat.le_refl _) _).alloc (by simp) _).alloc (by simp; omega) _).alloc (by simp; omega) _).alloc (by simp; omega) _)
theorem results_cells2 {fn : Func} {a b : Tmp} {t u : TypeId} (h : fn.results = #[.cell a t, .cell b u]) (tmps : Array Value) (P : Program) (w : World) (ad bd : Addr) (v x : Value) (ha : tmps.getD a undef = .pointer (some ad)) (hb : tmps.getD b undef = .pointer (some bd)) (hl : (loadVar t ad).run P w = .ok v w) (hm : (loadVar u bd).run P w = .ok x w) :
    (results fn tmps).run P w = .ok (.tuple #[v, x]) w := by
  have ha2 : tmps[a]?.getD undef = .pointer (some ad) := by simpa using ha
  have hb2 : tmps[b]?.getD undef = .pointer (some bd) := by simpa using hb
  simp [results, h, asAddr, ha2, hb2, hl, hm]
theorem numb_len : ∀ (l : List Bs) (k : Nat), (numb k l).length = l.length
  | [], _ => rfl
  | s :: r, k => by rw [numb_cons, List.length_cons, numb_len r (k + 1), List.length_cons]
theorem Hold.bx {n0 B Bl : Nat} {w0 W : World} {st : St} (h : Hold n0 B Bl w0 W st) : ∃ v mv, W.heap[B]? = some (.cells #[v, mv] 76 (0, 0)) := by
  obtain ⟨base, lv, vs, _, _, h3, _⟩ := h.sh
  obtain ⟨v, mv, xs, h1, _⟩ := h3.sh
  exact ⟨v, mv, h1⟩
theorem Hold.glob {n0 B Bl : Nat} {w0 W : World} {st : St} (h : Hold n0 B Bl w0 W st) (hG : Glob w0) (hz : w0.heap.size = n0) (hB : 0 ≠ B) (hBl : 0 ≠ Bl) : Glob W :=
  hG.kp ⟨h.fr _ (by have := hG.big; omega) hB hBl, by rw [hz]; exact h.hn⟩

set_option maxRecDepth 100000 in
set_option maxHeartbeats 4000000 in
theorem read_gen (t : Bs) (ht : t.length ≤ 16777216) (n : Nat) (hn : 5 ≤ n) (Bl : Nat) (T : Fn) (L : Array Value) (w : World) (hG : Glob w) (hBl : 2 < Bl) (hBx : w.heap[Bl]? = some (.cells #[.slice none 0 0] 24 (0, 0)))
    (hHO : ∀ (n0 B : Nat) (w0 W : World) (st : St), (∀ i, i < w.heap.size → w0.heap[i]? = w.heap[i]?) → w.heap.size ≤ n0 → w.heap.size ≤ B → B < n0 → Hold n0 B Bl w0 W st → nz st.p → st.all.length ≤ 16777216 →
      Calls Tryd.prog 56 #[.pointer (some ⟨B, 0, none⟩), .func T #[] L] W fun e W2 => e = .returned (.bool true) ∧ Mid n0 B Bl w0 W W2 (shut st)) :
    CallsIn Fence.wide n Tryd.prog 35 #[.string (ba t), .func T #[] L] w fun e W2 => ∃ k er : Nat, e = .returned (.tuple #[.int .i64 k, .int .i64 er]) ∧
      Env w W2 ∧ (∀ i, i < w.heap.size → i ≠ Bl → W2.heap[i]? = w.heap[i]?) ∧ w.heap.size ≤ W2.heap.size ∧
      (((parseT t).err = none ∧ k = 0 ∧ er = 0 ∧ ∃ lv vs, Dn w.heap.size Bl W2.heap.size W2 lv vs (shut (parseT t))) ∨ ((parseT t).err = some (k, er) ∧ ∃ lv vs, Dn w.heap.size Bl W2.heap.size W2 lv vs (parseT t).all)) := by
  have HHO := hide hHO
  clear hHO
  have h1 : 1 ≤ n := by omega
  have hbig := hG.big
  refine callsIn_of_wp_marks Tryd.func35 rfl trivial ?_ rfl
  simp only [Tryd.ntmps35, List.size_toArray, List.length_cons, List.length_nil, Nat.reduceAdd, Nat.reduceSub, Array.replicate_succ, Array.replicate_zero, List.push_toArray, List.append_toArray, List.nil_append, List.cons_append]
  gi_wp2_with (gi_at_call 54; refine (lines_in _ (n - 1) _).mono ?_; rintro e w' ⟨rfl, rfl⟩)
  obtain ⟨w0, hw0, hS⟩ := start_of t (.func T #[] L) Bl w
  rw [hw0]
  clear hw0
  have hz := hS.z
  have hltB : Bl < w.heap.size := (Array.getElem?_eq_some_iff.1 hBx).1
  have hG0 : Glob w0 := hG.later (n := w.heap.size) hbig hS.bel
  have hBl0 : w0.heap[Bl]? = some (.cells #[.slice none 0 0] 24 (0, 0)) := (hS.old Bl hltB).trans hBx
  have H0 : Hold w0.heap.size (w.heap.size + 1 + 1 + 1) Bl w0 w0 st0 := ⟨Env.refl _, rfl, fun _ _ _ _ => rfl, ⟨w0.heap.size, .slice none 0 0, [], Nat.le_refl _, .inr ⟨rfl, hS.b⟩, Par.fresh _ (by omega) (Nat.le_refl _) hS.b, ⟨hBl0, by omega, World.ownsRow_nil _ _ _ _, fun g hg => (by cases hg), rfl, fun _ => w0.heap.size, fun _ _ _ => Nat.le_refl _, Nat.le_refl _, Nat.le_refl _, fun i v p hv => (by simp at hv)⟩⟩, Nat.le_refl _⟩
  refine rangeFunc_two rfl h1 (gf := 70) (lb := #[.pointer (some ⟨w.heap.size + 1 + 1 + 1 + 1, 0, none⟩)]) rfl trivial (enters_of Tryd.func70 (by kernel_rfl) rfl)
    (lines_seq t ht (n - 1) (by omega) (w.heap.size + 1 + 1 + 1 + 1) w0 (by omega) (cell_blk hS.t 0).1 hG0) (fun h k => ⟨k.1.trans h.1, Nat.le_trans h.2 k.2⟩) ?kb (Below.refl _ _) (fun _ => rfl)
    (fun pre W => Hold w0.heap.size (w.heap.size + 1 + 1 + 1) Bl w0 W (runL (pre.map (·.1))))
    (fun c pre W => c = .ret ∧ Env w0 W ∧ ∃ k er : Nat, (runL (pre.map (·.1))).err = some (k, er) ∧ W.heap[w.heap.size + 1]? = some (.cells #[.int .i64 k] 3 (0, 0)) ∧ W.heap[w.heap.size + 1 + 1]? = some (.cells #[.int .i64 er] 25 (0, 0)) ∧ (∀ i, i < w.heap.size → i ≠ Bl → W.heap[i]? = w.heap[i]?) ∧ w0.heap.size ≤ W.heap.size ∧ ∃ lv vs, Dn w0.heap.size Bl W.heap.size W lv vs (runL (pre.map (·.1))).all)
    ?ab ?abx H0
    (fun x => { tmps := #[.string (ba t), .func T #[] L, undef, .pointer (some ⟨w.heap.size, 0, none⟩), .pointer (some ⟨w.heap.size + 1, 0, none⟩), .pointer (some ⟨w.heap.size + 1 + 1, 0, none⟩), .pointer (some ⟨w.heap.size + 1 + 1 + 1, 0, none⟩), .int .i64 x.1.1, .string (ba x.1.2), undef, undef, .string (ba t), .func (.func 70) #[] #[.pointer (some ⟨w.heap.size + 1 + 1 + 1 + 1, 0, none⟩)], .int .i64 x.1.1, .string (ba x.1.2), undef, undef, undef, undef, undef, undef, undef, undef, undef, undef, undef, undef, undef, undef, undef, undef, undef, undef], defers := [] }) ?assign ?body ?done ?stop
  case kb =>
    intro W l o o2 hl ho _ _
    exact ⟨World.putObj_heap_other (by omega), (grownBy_putObj' W l o2).size⟩
  case ab =>
    intro s X Y row hs hg hr
    refine hs.cm (CM.of_grown hg hr) fun k hk => hg.block k (by have := hs.hn; omega) fun e => ?_
    have := (hr k e.symm).1
    omega
  case abx =>
    rintro c s X Y row ⟨hc, hev, k, er, a1, a2, a3, a4, a5, lv, vs, a6⟩ hg hr
    have hk := CM.of_grown hg hr
    refine ⟨hc, hev.trans hk.env, k, er, a1, (hk.c _ _ _ _ a2).trans a2, (hk.c _ _ _ _ a3).trans a3, fun i hi hiB => (hg.block i (by omega) fun e => ?_).trans (a4 i hi hiB), Nat.le_trans a5 hk.size, lv, vs, (a6.keep fun k c t _ _ _ hc => hk.c k c t (0, 0) hc).mono hk.size⟩
    have := (hr i e.symm).1
    omega
  case assign =>
    intro l x W K hK
    gi_wp2
    exact hK
  case body =>
    rintro l pre x W hD ⟨r, hL⟩ hH hlen
    obtain ⟨⟨k, s⟩, hx1, hx2, hx3⟩ := x
    simp only at hx1 hx2 hx3
    have hpost : ∀ W2 st2, stp (runL (pre.map (·.1))) (k, s) = st2 → Hold w0.heap.size (w.heap.size + 1 + 1 + 1) Bl w0 W2 st2 → Hold w0.heap.size (w.heap.size + 1 + 1 + 1) Bl w0 W2 (runL ((pre ++ [(⟨(k, s), hx1, hx2, hx3⟩ : Ln)]).map (·.1))) := fun W2 st2 e h => by
      rw [List.map_append]
      show Hold _ _ _ _ _ (runL (pre.map (·.1) ++ [(k, s)]))
      rw [runL_snoc, e]
      exact h
    have hpx : ∀ a b, (stp (runL (pre.map (·.1))) (k, s)).err = some (a, b) → (runL ((pre ++ [(⟨(k, s), hx1, hx2, hx3⟩ : Ln)]).map (·.1))).err = some (a, b) := fun a b e => by
      rw [List.map_append]
      show (runL (pre.map (·.1) ++ [(k, s)])).err = _
      rw [runL_snoc, e]
    have hpa : (runL ((pre ++ [(⟨(k, s), hx1, hx2, hx3⟩ : Ln)]).map (·.1))).all = (stp (runL (pre.map (·.1))) (k, s)).all := by
      rw [List.map_append]
      show (runL (pre.map (·.1) ++ [(k, s)])).all = _
      rw [runL_snoc]
    have hbd := Bd.run (pre.map (·.1))
    rw [List.length_map] at hbd
    generalize runL (pre.map (·.1)) = st at *
    have HP := hide hpost
    have HPA := hide hpa
    have HPX := hide hpx
    clear hpost hpx hpa H0
    have cK := hide (show Calls Tryd.prog 55 #[.string (ba s)] W fun e w' => e = .returned (.int .i64 (kd s)) ∧ Below W.heap.size W w' by
      have := kindOf_any (ba s) W (by rw [ba_size]; omega)
      rw [ba_list] at this
      exact this)
    have HH := hide (fun Wk (hb : Below W.heap.size W Wk) => show Hold w0.heap.size (w.heap.size + 1 + 1 + 1) Bl w0 Wk st from hH.cm (CM.of_below hb) fun k hk => hb.block k (by have := hH.hn; omega))
    have herr := hH.err
    have hltD : w0.heap.size < W.heap.size := (Array.getElem?_eq_some_iff.1 hD).1
    have hltL : w0.heap.size + 1 < W.heap.size := (Array.getElem?_eq_some_iff.1 hL).1
    have HDL := hide (fun Wk (hb : Below W.heap.size W Wk) => show Wk.heap[w0.heap.size]? = some (.deferred (some [])) ∧ Wk.heap[w0.heap.size + 1]? = some (.loop r) from ⟨(hb.block _ hltD).trans hD, (hb.block _ hltL).trans hL⟩)
    have HYb := hide (show ∀ Wk, Hold w0.heap.size (w.heap.size + 1 + 1 + 1) Bl w0 Wk st → Wk.cell? ⟨w.heap.size, 0, none⟩ = some (.func T #[] L) from fun Wk h => (cell_blk ((h.fr w.heap.size (by omega) (by omega) (by omega)).trans hS.y) 0).1)
    by_cases hk0 : kd s = 0
    · have hst : stp st (k, s) = ⟨shut st, [], none⟩ := by
        unfold stp
        rw [herr]
        simp [hk0]
      rw [hk0] at cK
      gi_wp2_with (first | (refine ⟨fun _ => (by omega), ?_⟩; gi_at_call 55; refine (CallsIn.inRound l (callsIn_wide.2 (unhide cK))).mono ?_; rintro e Wk ⟨rfl, hbk⟩; have HBk := hide hbk; have cy := unhide HYb Wk (unhide HH Wk hbk); clear hbk) | (refine ⟨fun _ => (by omega), ?_⟩; gi_at_call 56; refine (CallsIn.inRound l (callsIn_wide.2 (unhide HHO w0.heap.size (w.heap.size + 1 + 1 + 1) w0 Wk st hS.old (by omega) (by omega) (by omega) (unhide HH Wk (unhide HBk)) hbd.z (by have := hbd.a; omega)))).mono ?_; rintro e W2 ⟨rfl, hmid⟩; have HMid := hide hmid; have HXk := hide (Hold.bx (unhide HH Wk (unhide HBk))).choose_spec.choose_spec; have HX2 := hide (hmid.bB.trans (unhide HXk)); have d0 := (cell_blk (unhide HX2) 0).1; have f0 := (cell_blk (unhide HX2) 0).2; have d1 := (cell_blk (unhide HX2) 1).1; have f1 := (cell_blk (unhide HX2) 1).2; clear hmid))
      obtain ⟨hr1, hr2⟩ := (unhide HMid).reset (by omega) (unhide HXk) (by have := (unhide HBk).size; omega)
      obtain ⟨hd1, hd2⟩ := unhide HDL Wk (unhide HBk)
      have hm := unhide HMid
      have hbk := unhide HBk
      have hzk := hbk.size
      refine ⟨⟨?_, ?_⟩, ⟨?_, ?_⟩, unhide HP _ _ hst hr1⟩
      · rw [hr2 _ (by omega), hm.non _ (by omega) (fun c t fr e => by rw [hd1] at e; cases e), hbk.block _ hltD]
      · rw [hr2 _ (by omega), hm.non _ (by omega) (fun c t fr e => by rw [hd2] at e; cases e), hbk.block _ hltL]
      · rw [hr2 _ (by omega), hm.fr _ (by omega) (by omega) (by omega), hH.fr _ (by omega) (by omega) (by omega)]
      · have := hm.size
        have h7 : ((W2.setCell ⟨w.heap.size + 1 + 1 + 1, 0, none⟩ (.slice none 0 0)).setCell ⟨w.heap.size + 1 + 1 + 1, 1, none⟩ (.map none)).heap.size = W2.heap.size := by rw [set_size, set_size]
        rw [h7]
        omega
    · have HOp := hide (fun Wk (hb : Below W.heap.size W Wk) => (unhide HH Wk hb).open' (by omega) (by have := hb.size; omega))
      have HGl := hide (fun Wk (hb : Below W.heap.size W Wk) => (unhide HH Wk hb).glob hG0 rfl (by omega) (by omega))
      have hbd2 : bd 16777216 st.p := hbd.b.mono (by omega)
      by_cases hT : (takeP st.p k s).1 = 0
      · have hst : stp st (k, s) = ⟨st.all, (takeP st.p k s).2, none⟩ := by
          unfold stp
          rw [herr]
          simp [hk0, hT]
        have hT2 : ((takeP st.p k s).1 : Int) = 0 := by omega
        have hkn : ¬ ((kd s : Int) = 0) := by omega
        gi_wp2_with (first | (refine ⟨fun _ => (by omega), ?_⟩; gi_at_call 55; refine (CallsIn.inRound l (callsIn_wide.2 (unhide cK))).mono ?_; rintro e Wk ⟨rfl, hbk⟩; have HBk := hide hbk; obtain ⟨base, lv, vs, q1, q2, q3, q4⟩ := unhide HOp Wk hbk; have HQ3 := hide q3; have HQ4 := hide q4; clear hbk q3 q4) | (refine ⟨fun _ => (by omega), ?_⟩; gi_at_call 57; refine (CallsIn.inRound l (callsIn_wide.2 (take_any base (w.heap.size + 1 + 1 + 1) st.p k s Wk hx3 hk0 (unhide HQ3) (unhide HGl Wk (unhide HBk)) hbd2 hx1 hx2))).mono ?_; rintro e W2 ⟨rfl, hp2, hf2⟩; have HP2 := hide hp2; have HF2 := hide hf2; clear hp2 hf2))
        have hf := unhide HF2
        have hbk := unhide HBk
        have hzk := hbk.size
        have hzf := hf.size
        refine ⟨⟨?_, ?_⟩, ⟨?_, by omega⟩, unhide HP _ _ hst ((unhide HH Wk hbk).take q2 (unhide HQ4) (unhide HQ3) (unhide HP2) hf)⟩
        · rw [hf.same _ (by omega) (by omega), hbk.block _ hltD]
        · rw [hf.same _ (by omega) (by omega), hbk.block _ hltL]
        · rw [hf.same _ (by omega) (by omega), hbk.block _ (by omega)]
      · have hste : (stp st (k, s)).err = some (k, (takeP st.p k s).1) := by
          unfold stp
          rw [herr]
          simp [hk0, hT]
        have hT2 : ¬ ((takeP st.p k s).1 : Int) = 0 := by omega
        have hkn : ¬ ((kd s : Int) = 0) := by omega
        gi_wp2_with (first | (refine ⟨fun _ => (by omega), ?_⟩; gi_at_call 55; refine (CallsIn.inRound l (callsIn_wide.2 (unhide cK))).mono ?_; rintro e Wk ⟨rfl, hbk⟩; have HBk := hide hbk; obtain ⟨base, lv, vs, q1, q2, q3, q4⟩ := unhide HOp Wk hbk; have HQ3 := hide q3; have HQ4 := hide q4; clear hbk q3 q4) | (refine ⟨fun _ => (by omega), ?_⟩; gi_at_call 57; refine (CallsIn.inRound l (callsIn_wide.2 (take_any base (w.heap.size + 1 + 1 + 1) st.p k s Wk hx3 hk0 (unhide HQ3) (unhide HGl Wk (unhide HBk)) hbd2 hx1 hx2))).mono ?_; rintro e W2 ⟨rfl, hp2, hf2⟩; have HP2 := hide hp2; have HF2 := hide hf2; have HXn := hide ((hf2.same (w.heap.size + 1) (by omega) (by omega)).trans (((unhide HH Wk (unhide HBk)).fr (w.heap.size + 1) (by omega) (by omega) (by omega)).trans hS.n)); have HXe := hide ((hf2.same (w.heap.size + 1 + 1) (by omega) (by omega)).trans (((unhide HH Wk (unhide HBk)).fr (w.heap.size + 1 + 1) (by omega) (by omega) (by omega)).trans hS.e)); have dn := (cell_blk (unhide HXn) 0).1; have fn := (cell_blk (unhide HXn) 0).2; have de := (cell_blk (unhide HXe) 0).1; have fe := (cell_blk (unhide HXe) 0).2; clear hp2 hf2))
        have hf := unhide HF2
        have hbk := unhide HBk
        have hzk := hbk.size
        have hzf := hf.size
        have s1 : ∀ i, i ≠ w.heap.size + 1 → i ≠ w.heap.size + 1 + 1 → ((W2.setCell ⟨w.heap.size + 1, 0, none⟩ (.int .i64 k)).setCell ⟨w.heap.size + 1 + 1, 0, none⟩ (.int .i64 (takeP st.p k s).1)).heap[i]? = W2.heap[i]? := fun i h2 h3 => (set_other _ _ _ _ _ h3).trans (set_other _ _ _ _ _ h2)
        have s2 : ((W2.setCell ⟨w.heap.size + 1, 0, none⟩ (.int .i64 k)).setCell ⟨w.heap.size + 1 + 1, 0, none⟩ (.int .i64 (takeP st.p k s).1)).heap.size = W2.heap.size := by rw [set_size, set_size]
        refine ⟨⟨?_, ?_⟩, rfl, hH.env.trans ((Env.bel hbk).trans (hf.env.trans ((Env.set _ _ _).trans (Env.set _ _ _)))), k, (takeP st.p k s).1, unhide HPX _ _ hste, ?_, ?_, ?_, by rw [s2]; omega, lv, vs, ?_⟩
        · rw [s1 _ (by omega) (by omega), hf.same _ (by omega) (by omega), hbk.block _ hltD]
        · rw [s1 _ (by omega) (by omega), hf.same _ (by omega) (by omega), hbk.block _ hltL]
        · rw [set_other _ _ _ _ _ (by omega)]
          exact set_blk (unhide HXn) 0 (.int .i64 k)
        · exact set_blk ((set_other _ _ _ _ _ (by omega)).trans (unhide HXe)) 0 (.int .i64 (takeP st.p k s).1)
        · intro i hi hiB
          rw [s1 _ (by omega) (by omega), hf.same _ (by omega) (by omega), (unhide HH Wk hbk).fr _ (by omega) (by omega) hiB, hS.old _ hi]
        · have hal : (stp st (k, s)).all = st.all := by
            unfold stp
            rw [herr]
            simp [hk0, hT]
          rw [s2, unhide HPA, hal]
          refine ((unhide HQ4).keep fun i c t ht hlo hi hc => ?_).mono (by omega)
          rw [s1 _ (by omega) (by omega), hf.same _ hi (by omega)]
  case done =>
    rintro D ys W hDz hSx hH hK
    have hrun : runL (ys.map (·.1)) = parseT t := by rw [hSx]; rfl
    have hbd := Bd.run (ys.map (·.1))
    have hln : (ys.map (·.1)).length ≤ 16777216 := by
      rw [hSx]
      unfold lnsOf
      rw [numb_len]
      have := linesL_len t.length t (Nat.le_refl _)
      omega
    rw [hrun] at hH hbd
    have cy : W.cell? ⟨w.heap.size, 0, none⟩ = some (.func T #[] L) := (cell_blk ((hH.fr w.heap.size (by omega) (by omega) (by omega)).trans hS.y) 0).1
    have cH := hide (unhide HHO w0.heap.size (w.heap.size + 1 + 1 + 1) w0 W (parseT t) hS.old (by omega) (by omega) (by omega) hH hbd.z (by have := hbd.a; omega))
    have herr := hH.err
    have hn0 := hH.hn
    have hDl : D < W.heap.size := (Array.getElem?_eq_some_iff.1 hK).1
    have HK := hide hK
    clear hK hSx H0
    gi_wp2_with (gi_at_call 56; refine (callsIn_wide.2 (unhide cH)).mono ?_; rintro e W2 ⟨rfl, hmid⟩; have HMid := hide hmid; have HXn := hide ((hmid.fr (w.heap.size + 1) (by omega) (by omega) (by omega)).trans hS.n); have HXe := hide ((hmid.fr (w.heap.size + 1 + 1) (by omega) (by omega) (by omega)).trans hS.e); have dn := (cell_blk (unhide HXn) 0).1; have fn := (cell_blk (unhide HXn) 0).2; have de := (cell_blk (unhide HXe) 0).1; have fe := (cell_blk (unhide HXe) 0).2; clear hmid)
    have hm := unhide HMid
    have hms := hm.size
    have hK := unhide HK
    have s2 : ((W2.setCell ⟨w.heap.size + 1, 0, none⟩ (.int .i64 0)).setCell ⟨w.heap.size + 1 + 1, 0, none⟩ (.int .i64 0)).heap.size = W2.heap.size := by rw [set_size, set_size]
    have x1 : ((W2.setCell ⟨w.heap.size + 1, 0, none⟩ (.int .i64 0)).setCell ⟨w.heap.size + 1 + 1, 0, none⟩ (.int .i64 0)).heap[w.heap.size + 1]? = some (.cells #[.int .i64 0] 3 (0, 0)) := (set_other _ _ _ _ _ (by omega)).trans (set_blk (unhide HXn) 0 (.int .i64 0))
    have x2 : ((W2.setCell ⟨w.heap.size + 1, 0, none⟩ (.int .i64 0)).setCell ⟨w.heap.size + 1 + 1, 0, none⟩ (.int .i64 0)).heap[w.heap.size + 1 + 1]? = some (.cells #[.int .i64 0] 25 (0, 0)) := set_blk ((set_other _ _ _ _ _ (by omega)).trans (unhide HXe)) 0 (.int .i64 0)
    have s1 : ∀ i, ((W2.setCell ⟨w.heap.size + 1, 0, none⟩ (.int .i64 0)).setCell ⟨w.heap.size + 1 + 1, 0, none⟩ (.int .i64 0)).heap[i]? = W2.heap[i]? := fun i => by
      by_cases h2 : i = w.heap.size + 1
      · rw [h2, x1, unhide HXn]
      · by_cases h3 : i = w.heap.size + 1 + 1
        · rw [h3, x2, unhide HXe]
        · exact (set_other _ _ _ _ _ h3).trans (set_other _ _ _ _ _ h2)
    have hev3 : Env w ((W2.setCell ⟨w.heap.size + 1, 0, none⟩ (.int .i64 0)).setCell ⟨w.heap.size + 1 + 1, 0, none⟩ (.int .i64 0)) := (Env.bel hS.bel).trans (hm.env.trans ((Env.set _ _ _).trans (Env.set _ _ _)))
    generalize (W2.setCell ⟨w.heap.size + 1, 0, none⟩ (.int .i64 0)).setCell ⟨w.heap.size + 1 + 1, 0, none⟩ (.int .i64 0) = W3 at *
    have hK3 : W3.heap[D]? = some (.deferred (some [])) := by rw [s1, hm.non D hDl (fun c t fr e => by rw [hK] at e; cases e), hK]
    refine ⟨by simp, .inl ⟨_, _, rfl, run_takeDeferred hK3, ?_⟩⟩
    have p1 : ∀ i, i ≠ D → (W3.putObj D (.deferred none)).heap[i]? = W3.heap[i]? := fun i hi => World.putObj_heap_other hi
    have ps : (W3.putObj D (.deferred none)).heap.size = W3.heap.size := by
      show (W3.heap.setIfInBounds D _).size = _
      simp
    have l1 := (cell_blk ((p1 (w.heap.size + 1) (by omega)).trans x1) 0).1
    have l2 := (cell_blk ((p1 (w.heap.size + 1 + 1) (by omega)).trans x2) 0).1
    have hev := hev3.trans (Env.put W3 D (.deferred none))
    generalize W3.putObj D (.deferred none) = W4 at *
    have hl1 : (loadVar 3 ⟨w.heap.size + 1, 0, none⟩).run Tryd.prog W4 = .ok (.int .i64 0) W4 := by go_simp
    have hl2 : (loadVar 25 ⟨w.heap.size + 1 + 1, 0, none⟩).run Tryd.prog W4 = .ok (.int .i64 0) W4 := by go_simp
    refine ⟨_, results_cells2 (show Tryd.f35.results = #[.cell 4 3, .cell 5 25] from Tryd.results35) _ _ _ _ _ _ _ rfl rfl hl1 hl2, 0, 0, rfl, hev, fun i hi hiB => ?_, by omega, .inl ⟨herr, rfl, rfl, ?_⟩⟩
    · rw [p1 _ (by omega), s1, hm.fr _ (by omega) (by omega) hiB, hS.old _ hi]
    · obtain ⟨lv, vs, hd⟩ := hm.dn
      have hd2 : Dn w.heap.size Bl W2.heap.size W2 lv vs (shut (parseT t)) := hd.lower (by omega)
      refine ⟨lv, vs, (hd2.keep fun i c t _ _ hi hc => ?_).mono (by omega)⟩
      have hne : i ≠ D := fun e => by
        rw [e, hm.non D hDl (fun c t fr e => by rw [hK] at e; cases e), hK] at hc
        cases hc
      rw [p1 i hne, s1]
  case stop =>
    rintro D c pre W hDz ⟨r, hr⟩ ⟨rfl, hev, k, er, a1, a2, a3, a4, a5, lv, vs, a6⟩ hK
    have hpe : (parseT t).err = some (k, er) := by
      unfold parseT
      show (runL (lnsOf t)).err = _
      rw [hr, runL_err (by rw [a1]; rfl), a1]
    have hpa : (parseT t).all = (runL (pre.map (·.1))).all := by
      unfold parseT
      show (runL (lnsOf t)).all = _
      rw [hr, runL_err (by rw [a1]; rfl)]
    gi_wp2
    refine ⟨by simp, .inl ⟨_, _, rfl, run_takeDeferred hK, ?_⟩⟩
    have p1 : ∀ i, i ≠ D → (W.putObj D (.deferred none)).heap[i]? = W.heap[i]? := fun i hi => World.putObj_heap_other hi
    have ps : (W.putObj D (.deferred none)).heap.size = W.heap.size := by
      show (W.heap.setIfInBounds D _).size = _
      simp
    have l1 := (cell_blk ((p1 (w.heap.size + 1) (by omega)).trans a2) 0).1
    have l2 := (cell_blk ((p1 (w.heap.size + 1 + 1) (by omega)).trans a3) 0).1
    have hev2 := (Env.bel hS.bel).trans (hev.trans (Env.put W D (.deferred none)))
    generalize W.putObj D (.deferred none) = W4 at *
    have hl1 : (loadVar 3 ⟨w.heap.size + 1, 0, none⟩).run Tryd.prog W4 = .ok (.int .i64 k) W4 := by go_simp
    have hl2 : (loadVar 25 ⟨w.heap.size + 1 + 1, 0, none⟩).run Tryd.prog W4 = .ok (.int .i64 er) W4 := by go_simp
    refine ⟨_, results_cells2 (show Tryd.f35.results = #[.cell 4 3, .cell 5 25] from Tryd.results35) _ _ _ _ _ _ _ rfl rfl hl1 hl2, k, er, rfl, hev2, fun i hi hiB => by rw [p1 _ (by omega), a4 i hi hiB], by omega, .inr ⟨hpe, lv, vs, ?_⟩⟩
    rw [hpa, ps]
    refine (a6.lower (by omega)).keep fun i c t _ _ hi hc => p1 i fun e => ?_
    rw [e, hK] at hc
    cases hc

theorem read_in (t : Bs) (ht : t.length ≤ 16777216) (n : Nat) (hn : 5 ≤ n) (Bl : Nat) (w : World) (hG : Glob w) (hBl : 2 < Bl) (hBx : w.heap[Bl]? = some (.cells #[.slice none 0 0] 24 (0, 0))) :
    CallsIn Fence.wide n Tryd.prog 35 #[.string (ba t), .func (.func 36) #[] #[.pointer (some ⟨Bl, 0, none⟩)]] w fun e W2 => ∃ k er : Nat, e = .returned (.tuple #[.int .i64 k, .int .i64 er]) ∧
      Env w W2 ∧ (∀ i, i < w.heap.size → i ≠ Bl → W2.heap[i]? = w.heap[i]?) ∧ w.heap.size ≤ W2.heap.size ∧
      (((parseT t).err = none ∧ k = 0 ∧ er = 0 ∧ ∃ lv vs, Dn w.heap.size Bl W2.heap.size W2 lv vs (shut (parseT t))) ∨ (parseT t).err = some (k, er)) := by
  refine (read_gen t ht n hn Bl (.func 36) #[.pointer (some ⟨Bl, 0, none⟩)] w hG hBl hBx fun n0 B w0 W st _ _ _ hB hH hnz hl => handOn_any n0 B Bl w0 W st hB hH hnz hl).mono ?_
  rintro e W2 ⟨k, er, h1, h2, h3, h4, h5⟩
  refine ⟨k, er, h1, h2, h3, h4, ?_⟩
  rcases h5 with h5 | h5
  · exact .inl h5
  · exact .inr h5.1

end Go.Proofs.YtiibobjbcgbknaaDoor
