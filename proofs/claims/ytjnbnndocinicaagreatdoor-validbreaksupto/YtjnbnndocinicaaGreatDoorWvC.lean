import Derived.Test.YtjnbnndocinicaaGreatDoorWvB
import Derived.Test.YtjnbnndocinicaaGreatDoorWvR
namespace Go.Proofs.YtjnbnndocinicaaGreatDoor
open Go.RowKit Go.Maps Go.Shelf
attribute [local go_sem] Oper.semAt_some
attribute [local simp] wide_fn
attribute [local go_sem] wide_fn

/-- WHAT AppendSeq HAS COLLECTED. -/
structure Cs (w Z : World) (s : Value) (l : List Nat) : Prop where
  b0 : Z.heap[w.heap.size]? = some (.cells #[s] 24 (0, 0))
  row : Z.ownsRow (w.heap.size + 1) 3 1 s l.length (ints l)
  bw : RowKit.Below w.heap.size w Z
theorem Cs.lt {w Z : World} {s : Value} {l : List Nat} (h : Cs w Z s l) : w.heap.size + 1 ≤ Z.heap.size := blk_lt h.b0
theorem Cs.turn {w X Y : World} {s : Value} {l : List Nat} {B : Nat} {row : Option Nat} (h : Cs w X s l) (hg : X.grownBy Y row) (hr : ∀ r, row = some r → B ≤ r ∧ ∃ o : Obj, X.heap[r]? = some o ∧ o.isCells = false) (hB : w.heap.size + 1 ≤ B) : Cs w Y s l := by
  have ne : ∀ j, j < B → some j ≠ row := fun j hj e => by have := (hr j e.symm).1; omega
  refine ⟨(hg.block _ (blk_lt h.b0) (ne _ (by omega))).trans h.b0, ⟨h.row.1, ?_⟩, hg.os.trans h.bw.os, hg.tape.trans h.bw.tape, hg.output.trans h.bw.output, Nat.le_trans h.bw.size hg.size, fun j hj => ?_⟩
  · rcases h.row.2 with z | ⟨g, cap, cur, h1, h2, h3, h4⟩
    · exact .inl z
    · refine .inr ⟨g, cap, cur, h1, h2, (hg.block g (blk_lt h3) fun e => ?_).trans h3, h4⟩
      obtain ⟨_, o, ho, hc⟩ := hr g e.symm
      rw [h3] at ho
      cases ho
      cases hc
  · have := h.bw.size
    exact (hg.block j (by omega) (ne j (by omega))).trans (h.bw.block j hj)
theorem Cs.grow {w X w9 : World} {s v' : Value} {l : List Nat} {x : Nat} {o : Obj} (h : Cs w X s l) (hown : w9.ownsRow (w.heap.size + 1) 3 1 v' (l.length + 1) (ints l ++ [.int .i64 (x : Int)])) (hg : (X.alloc o).grownBy w9 s.ownBlock) :
    w9.heap[w.heap.size]? = some (.cells #[s] 24 (0, 0)) ∧ Cs w (w9.setCell ⟨w.heap.size, 0, none⟩ v') v' (l ++ [x]) ∧ RowKit.Below w.heap.size X (w9.setCell ⟨w.heap.size, 0, none⟩ v') ∧ ∀ c, c < X.heap.size → c ≠ w.heap.size → s.ownBlock ≠ some c → (w9.setCell ⟨w.heap.size, 0, none⟩ v').heap[c]? = X.heap[c]? := by
  have hz := h.lt
  have ne : ∀ j, j < w.heap.size + 1 → some j ≠ s.ownBlock := fun j hj e => by have := (World.ownsRow.lt h.row j e.symm).1; omega
  have k9 : ∀ j, j < X.heap.size → some j ≠ s.ownBlock → w9.heap[j]? = X.heap[j]? := fun j hj e => (hg.block j (by rw [World.size_alloc]; omega) e).trans (Below.heap_alloc _ _ _ hj)
  have hb9 : RowKit.Below w.heap.size w w9 := (h.bw.alloc h.bw.size o).grown hg (by have := h.bw.size; rw [World.size_alloc]; omega) fun j e => by have := (World.ownsRow.lt h.row j e).1; omega
  have hX9 : RowKit.Below w.heap.size X w9 := ((Below.refl _ X).alloc h.bw.size o).grown hg (by rw [World.size_alloc]; have := h.bw.size; omega) fun j e => by have := (World.ownsRow.lt h.row j e).1; omega
  have hbx := (k9 w.heap.size (by omega) (ne _ (by omega))).trans h.b0
  have hob : ∀ b, v'.ownBlock = some b → b ≠ w.heap.size := fun b e => by have := (World.ownsRow.lt hown b e).1; omega
  refine ⟨hbx, ⟨set_blk hbx 0 v', ?_, hb9.setCell (p := ⟨w.heap.size, 0, none⟩) (Nat.le_refl _) _⟩, hX9.setCell (p := ⟨w.heap.size, 0, none⟩) (Nat.le_refl _) _, fun c hc hn hs => ?_⟩
  · rw [List.length_append, show ints (l ++ [x]) = ints l ++ [.int .i64 (x : Int)] from by simp [ints]]
    exact own_same hown fun b e => set_other w9 _ 0 v' b (hob b e)
  · exact (set_other w9 _ 0 v' c hn).trans (k9 c hc (fun e => hs e.symm))
theorem row_lo9 {w : World} {lo lo2 e size n : Nat} {v : Value} {xs : List Value} (h : w.ownsRow lo e size v n xs) (hl : lo2 ≤ lo) : w.ownsRow lo2 e size v n xs := by
  refine ⟨h.1, ?_⟩
  rcases h.2 with h | ⟨g, cap, cur, e, h1, h2, h3⟩
  · exact .inl h
  · exact .inr ⟨g, cap, cur, e, Nat.le_trans hl h1, h2, h3⟩
theorem row_not2 {w : World} {base e size n : Nat} {v : Value} {xs : List Value} (h : w.ownsRow base e size v n xs) {c : Nat} (hc : c < base) : v.ownBlock ≠ some c := fun q => by have := (World.ownsRow.lt h c q).1; omega
theorem row_not3 {w : World} {base e size n : Nat} {v : Value} {xs : List Value} (h : w.ownsRow base e size v n xs) {c : Nat} {o : Obj} (ho : w.heap[c]? = some o) (hn : ∀ cs, o ≠ .cells cs e (0, 0)) : v.ownBlock ≠ some c := fun q => by
  rcases h.2 with ⟨h1, _⟩ | ⟨g, cap, cur, h1, _, h3, _⟩
  · rw [h1] at q; cases q
  · rw [h1] at q
    cases q
    rw [ho] at h3
    cases h3
    exact hn _ rfl
set_option maxRecDepth 100000 in
set_option maxHeartbeats 8000000 in
theorem appendSeq_any {w0 w : World} {Bs Ba : Nat} {v : Value} {b1 b2 : Nat} {an : Nm} {op : Int} {bd : ByteArray} {ps : List Pd} {base : Nat} {H1 H2 : Nm → Option Hd} {F1 F2 : Nm → List Nat} {k1 k2 : Nat} (h : Sb w0 w Bs Ba v b1 b2 an op bd ps base H1 H2 F1 F2 k1 k2) (hl1 : (F1 an).length ≤ 1048576) (hl2 : (F2 an).length ≤ 1048576) :
    Calls Tryz.prog 87 #[.slice none 0 0, .func (.func 74) #[] #[.pointer (some ⟨Bs, 0, none⟩), .pointer (some ⟨Ba, 0, none⟩)]] w fun e w' => ∃ r, e = .returned r ∧ w'.ownsRow w.heap.size 3 1 r (satL ps an op bd (F1 an) (F2 an)).length (ints (satL ps an op bd (F1 an) (F2 an))) ∧ RowKit.Below w.heap.size w w' := by
  obtain ⟨i0, hi, hz0, hz1, hz2⟩ := info_parts2 infoI
  have hll : (satL ps an op bd (F1 an) (F2 an)).length ≤ 2097152 := by
    unfold satL
    refine Nat.le_trans (List.length_filter_le _ _) ?_
    rw [List.length_append]
    omega
  obtain ⟨W1, hW1⟩ : ∃ W, W = w.alloc (.cells #[.slice none 0 0] 24) := ⟨_, rfl⟩
  have hb1 : RowKit.Below w.heap.size w W1 := by rw [hW1]; exact (Below.refl _ w).alloc (Nat.le_refl _) _
  have cs1 : Cs w W1 (.slice none 0 0) [] := ⟨by rw [hW1]; exact World.alloc_heap_new w _, ⟨rfl, .inl ⟨rfl, rfl⟩⟩, hb1⟩
  have iw1 := h.iw.later hb1
  have hsq := sat_b 8 (w := W1) ⟨iw1, h.m1, h.m2, h.pk, h.pl, h.an, h.bd⟩ (by omega) (by omega)
  have hw0 := h.iw.bel.size
  have hBs := blk_lt h.iw.s
  have hBa := blk_lt h.iw.a
  generalize satL ps an op bd (F1 an) (F2 an) = L at *
  have HLL := hide hll
  have hlt1 := cs1.lt
  clear h hl1 hl2 hll hb1
  refine (callsIn_wide (n := 9)).1 ?_
  refine callsIn_of_wp_marks Tryz.func87 rfl trivial ?_ rfl
  simp only [Tryz.ntmps87, List.size_toArray, List.length_cons, List.length_nil, Nat.reduceAdd, Nat.reduceSub, Array.replicate_succ, Array.replicate_zero, List.push_toArray, List.append_toArray, List.nil_append, List.cons_append]
  gi_wp2_with fail
  rw [← hW1]
  clear hW1
  refine rangeFunc_2b rfl (by decide) (gf := 74) (lb := #[.pointer (some ⟨Bs, 0, none⟩), .pointer (some ⟨Ba, 0, none⟩)]) rfl trivial (enters_of Tryz.func74 (by kernel_rfl) rfl)
    hsq Kb.trans (Kb.put (by omega) (by omega) (by omega)) (Below.refl _ _) (fun _ => rfl) (fun pre Z => (∃ sa sc, Cs w Z (.slice sa pre.length sc) pre) ∧ Iw w0 Bs Ba (.cells #[v, .map (some b1), .map (some b2)] 44 (0, 0)) (.cells #[.string an, .int .i64 op, .string bd] 55 (0, 0)) Z) (fun _ _ _ => False) (fun s X Y row ⟨⟨sa, sc, h⟩, hi⟩ hg hr => ⟨⟨sa, sc, h.turn hg (fun r e => ⟨(hr r e).1, let ⟨o, h1, h2, _⟩ := (hr r e).2; ⟨o, h1, h2⟩⟩) hlt1⟩, hi.turn hg (fun r e => (hr r e).1) (by omega) (by omega) (by omega)⟩) (fun c s X Y row h hg hr => h) ⟨⟨none, 0, cs1⟩, iw1⟩ ?a10 ?as0 ?bo0 ?do0 ?st0
  case as0 =>
    intro l x W K hK
    gi_wp2
    exact hK
  case st0 =>
    intro D c pre Z hD hS hI hK
    exact hI.elim
  case do0 =>
    intro D L2 Z hD hS hI hK
    obtain ⟨⟨sa, sc, cz⟩, _⟩ := hI
    rw [hS] at cz
    have c0 : Z.cell? ⟨w.heap.size, 0, none⟩ = some (.slice sa L.length sc) := (cell_blk cz.b0 0).1
    have HU := hide cz
    have HK := hide (And.intro hD hK)
    clear hS hK hD cz hsq cs1 iw1
    gi_wp2
    obtain ⟨hD, hK⟩ := unhide HK
    have cz := unhide HU
    have hsh := sh_put (W := Z) (lo := w.heap.size + 1) (D := D) (.deferred none) (by omega) hK rfl rfl
    refine ⟨by simp, .inl ⟨_, _, rfl, run_takeDeferred hK, ?_⟩⟩
    exact ⟨_, results_tmp (show Tryz.f87.results = #[.tmp 4] from Tryz.results87) _ _ _, _, rfl, row_lo9 (lo := w.heap.size + 1) (lo2 := w.heap.size) (hsh.row cz.row) (by omega), cz.bw.trans (hsh.bel.mono (show w.heap.size ≤ w.heap.size + 1 by omega))⟩
  case bo0 =>
    intro l pre x W hD hLp hI hlen hpre
    obtain ⟨⟨sa, sc, cz⟩, iw⟩ := hI
    obtain ⟨lr, hLr⟩ := hLp
    have hpl : pre.length ≤ 2097152 := by
      have h2 := hpre.length_le
      rw [List.length_append] at h2
      have := unhide HLL
      omega
    have c0 : W.cell? ⟨w.heap.size, 0, none⟩ = some (.slice sa pre.length sc) := (cell_blk cz.b0 0).1
    have hzc := cz.lt
    have hzw : w.heap.size < W.heap.size := by omega
    have HC := hide cz
    have HR := hide (And.intro iw (And.intro hD hLr))
    clear hD hLr hlen hpre cz iw hsq cs1 iw1
    gi_wp2_with (gi_at_builtin; refine wpListIn_append_own _ rfl _ _ 24 rfl (w.heap.size + 1) 3 i0 (.int .i64 0) 1 8 Tryz.underlying24 hi hz0 hz1 hz2 rfl (by decide) _ _ _ rfl ((unhide HC).row.alloc _) ⟨W.heap.size, 0, none⟩ 1 1 [.int .i64 (x : Int)] rfl rfl (cell_one_new _ _ _) (by simp [Value.oneCell']) (by unfold maxLen; omega) (by omega) (by simp; omega) ?_; intro v' w9 hown hgrow _; obtain ⟨g9, c9, rfl⟩ := ownsRow_succ hown; obtain ⟨hbx, hc9, hB9, hk9⟩ := (unhide HC).grow hown hgrow; have e0 : w9.cell? ⟨w.heap.size, 0, none⟩ = some (.slice sa pre.length sc) := (cell_blk hbx 0).1; have f0 := (cell_blk hbx 0).2; have H9 := hide (And.intro hc9 (And.intro hB9 hk9)); clear hbx hc9 hB9 hk9 hown hgrow)
    obtain ⟨hc9, hB9, hk9⟩ := unhide H9
    obtain ⟨iw, hD, hLr⟩ := unhide HR
    have cz := unhide HC
    have hw9 : ∀ c, c < w.heap.size → (w9.setCell ⟨w.heap.size, 0, none⟩ (.slice (some ⟨g9, 0, none⟩) (pre.length + 1) c9)).heap[c]? = W.heap[c]? := fun c hc => hk9 c (by omega) (by omega) (row_not2 cz.row (by omega))
    refine ⟨⟨hk9 _ (blk_lt hD) (by omega) (row_not3 cz.row hD (fun cs e => by cases e)), hk9 _ (blk_lt hLr) (by omega) (row_not3 cz.row hLr (fun cs e => by cases e))⟩, ⟨hB9.mono hw0, hw9 _ hBs, hw9 _ hBa⟩, ⟨some ⟨g9, 0, none⟩, c9, ?_⟩, iw.kb ⟨hB9.mono hw0, hw9 _ hBs, hw9 _ hBa⟩⟩
    rw [List.length_append, List.length_singleton]
    exact hc9
theorem collect_any {w : World} {f : Value} {R : Ending → World → Prop} (h : Calls Tryz.prog 87 #[.slice none 0 0, f] w R) (hR : ∀ e w2, R e w2 → ∃ r, e = .returned r) : Calls Tryz.prog 73 #[f] w R := by
  have C := hide h
  have HR := hide hR
  clear h hR
  go_enter Tryz.func73, Tryz.ntmps73
  go_wp2_with (go_at_call 87; refine (unhide C).mono ?_; intro e w2 hr; obtain ⟨r, rfl⟩ := unhide HR e w2 hr; have H2 := hide hr; clear hr)
  exact unhide H2
end Go.Proofs.YtjnbnndocinicaaGreatDoor
