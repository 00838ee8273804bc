import Derived.Test.YtokgegbodbnimaaPqU
namespace Go.Proofs.Ytokgegbodbnimaa
open Go.RowKit Go.Maps Go.Sort

theorem results_c1 {fn : Func} {a : Tmp} {t : TypeId} (h : fn.results = #[.cell a t]) (tmps : Array Value) (P : Program) (w : World) (ad : Addr) (v : Value) (ha : tmps.getD a undef = .pointer (some ad)) (hl : (loadVar t ad).run P w = .ok v w) :
    (results fn tmps).run P w = .ok v w := by
  have ha2 : tmps[a]?.getD undef = .pointer (some ad) := by simpa using ha
  simp [results, h, asAddr, ha2, hl]
def ones (n : Nat) : List Value := List.replicate n (.int .i64 1)
theorem ones_succ (n : Nat) : ones (n + 1) = ones n ++ [.int .i64 1] := List.replicate_succ'
/-- A CHOICE THAT IS BEING MADE. -/
structure Ch (W wr : World) (i : Nat) (v : Value) : Prop where
  r : wr.heap[W.heap.size]? = some (.cells #[.slice none 0 0] 34 (0, 0))
  c : wr.heap[W.heap.size + 1]? = some (.cells #[v] 34 (0, 0))
  row : wr.ownsRow (W.heap.size + 2) 3 1 v i (ones i)
  bw : RowKit.Below W.heap.size W wr
theorem Ch.start (W : World) : Ch W ((W.alloc (.cells #[.slice none 0 0] 34)).alloc (.cells #[.slice none 0 0] 34)) 0 (.slice none 0 0) := by
  have h1 := heap_new W (.cells #[.slice none 0 0] 34)
  have h2 := heap_new (W.alloc (.cells #[.slice none 0 0] 34)) (.cells #[.slice none 0 0] 34)
  rw [World.size_alloc] at h2
  refine ⟨?_, h2, World.ownsRow_nil _ _ _ _, ?_⟩
  · rw [((Below.refl _ (W.alloc (.cells #[.slice none 0 0] 34))).alloc (Nat.le_refl _) (.cells #[.slice none 0 0] 34)).block _ (by rw [World.size_alloc]; omega)]
    exact h1
  · exact bl_t ((Below.refl _ W).alloc (Nat.le_refl _) _) ((Below.refl _ _).alloc (Nat.le_refl _) _)
theorem Ch.size {W wr : World} {i : Nat} {v : Value} (h : Ch W wr i v) : W.heap.size + 2 ≤ wr.heap.size := by
  have := blk_lt h.c
  omega
theorem Ch.next {W wr w3 : World} {i : Nat} {v v' : Value} (h : Ch W wr i v) (hown : w3.ownsRow (W.heap.size + 2) 3 1 v' (i + 1) (ones i ++ [.int .i64 1])) (hg : (wr.alloc (.cells #[.int .i64 1] 3)).grownBy w3 v.ownBlock) :
    w3.cell? ⟨W.heap.size + 1, 0, none⟩ = some v ∧ w3.frozen? ⟨W.heap.size + 1, 0, none⟩ = false ∧ Ch W (w3.setCell ⟨W.heap.size + 1, 0, none⟩ v') (i + 1) v' := by
  have hz := h.size
  have hne : ∀ b, b < W.heap.size + 2 → v.ownBlock ≠ some b := fun b hb e => by have := (World.ownsRow.lt h.row b e).1; omega
  have hb : ∀ b, b < W.heap.size + 2 → w3.heap[b]? = wr.heap[b]? := fun b hb => by
    rw [hg.block b (by rw [World.size_alloc]; omega) (hne b hb).symm]
    exact ((Below.refl _ wr).alloc (Nat.le_refl _) (.cells #[.int .i64 1] 3)).block b (by omega)
  have c3 := (hb (W.heap.size + 1) (by omega)).trans h.c
  refine ⟨(cell_blk c3 0).1.trans rfl, (cell_blk c3 0).2, ?_, set_blk c3 0 v', ?_, ?_⟩
  · rw [set_other _ _ _ _ _ (by omega), hb _ (by omega)]
    exact h.r
  · rw [ones_succ]
    refine own_same hown fun b e => set_other _ _ _ _ _ fun z => ?_
    have := (World.ownsRow.lt hown b e).1
    omega
  · refine Below.setCell (p := ⟨W.heap.size + 1, 0, none⟩) (h.bw.trans ?_) (by show W.heap.size ≤ W.heap.size + 1; omega) v'
    exact (((Below.refl _ wr).alloc (Nat.le_refl _) (.cells #[.int .i64 1] 3)).mono (by omega)).grown hg (by rw [World.size_alloc]; omega) (fun j hj => by have := (World.ownsRow.lt h.row j hj).1; omega)
set_option maxRecDepth 100000 in
set_option maxHeartbeats 4000000 in
theorem all_any (W : World) (N : Nat) (hN : N ≤ 1099511627776) :
    Calls Try.prog 30 #[.int .i64 (N : Int)] W fun e W' => ∃ a c, e = .returned (.agg #[.slice a N c]) ∧ W'.ownsRow (W.heap.size + 2) 3 1 (.slice a N c) N (ones N) ∧ RowKit.Below W.heap.size W W' := by
  obtain ⟨i0, hi, hz0, hz1, hz2⟩ := info_parts infoI
  have HST := hide (Ch.start W)
  go_enter Try.func30, Try.ntmps30
  go_wp2_with fail
  go_loopg [4] N (fun g1 vi wr => ∃ (i : Nat) (v : Value), vi = .int .i64 i ∧ i ≤ N ∧ N - i ≤ g1 ∧ Hid (Ch W wr i v))
  case atStart => exact ⟨0, _, by go_num, by omega, by omega, HST⟩
  case round =>
    clear HST
    obtain ⟨i, v, rfl, hile, hg, HCH⟩ := hrel
    by_cases hlt : i < N
    · have hlt2 : (i : Int) < (N : Int) := by omega
      have hc := unhide HCH
      have hsz := hc.size
      obtain ⟨va, vc, rfl⟩ := owns_form hc.row
      have c0 := (cell_blk hc.c 0).1.trans (show #[Value.slice va i vc][0]? = some (.slice va i vc) from rfl)
      clear hc
      go_wp2_with (first
        | (at_builtin; go_must (refine wpList_append_own_at _ rfl _ _ 32 rfl (W.heap.size + 2) 3 i0 (.int .i64 0) 1 8 Try.underlying32 hi hz0 hz1 hz2 rfl (by decide) (.slice va i vc) i (ones i) rfl ((unhide HCH).row.alloc _) ⟨wr.heap.size, 0, none⟩ 1 1 [.int .i64 1] rfl rfl (cell_one_new _ _ _) (by simp [Value.oneCell']) (by unfold maxLen; omega) (by omega) (by rw [World.size_alloc]; omega) ?_); intro v' w3 hown' hg3 hnil3 hat3; obtain ⟨q1, q2, q3⟩ := (unhide HCH).next hown' hg3; obtain ⟨vb, vd, rfl⟩ := owns_form hown'; have HNX := hide q3; clear q3 hown' hg3 hnil3 hat3; go_frame)
        | go_in)
      go_roundg (N - (i + 1))
      case measure => omega
      case rel => exact ⟨i + 1, _, by go_num, by omega, by omega, HNX⟩
    · obtain rfl : i = N := by omega
      have hc := unhide HCH
      obtain ⟨va, vc, rfl⟩ := owns_form hc.row
      have c0 := (cell_blk hc.c 0).1.trans (show #[Value.slice va i vc][0]? = some (.slice va i vc) from rfl)
      have c1 := (cell_blk hc.r 0).1.trans (show #[Value.slice none 0 0][0]? = some (.slice none 0 0) from rfl)
      have f1 := (cell_blk hc.r 0).2
      have HE := hide (show ((wr.setCell ⟨W.heap.size, 0, none⟩ (.slice va i vc)).cell? ⟨W.heap.size, 0, none⟩ = some (.slice va i vc)) ∧ (wr.setCell ⟨W.heap.size, 0, none⟩ (.slice va i vc)).ownsRow (W.heap.size + 2) 3 1 (.slice va i vc) i (ones i) ∧ RowKit.Below W.heap.size W (wr.setCell ⟨W.heap.size, 0, none⟩ (.slice va i vc)) from ⟨(cell_blk (set_blk hc.r 0 _) 0).1.trans rfl, own_same hc.row fun b e => set_other _ _ _ _ _ (fun z => by have := (World.ownsRow.lt hc.row b e).1; omega), Below.setCell (p := ⟨W.heap.size, 0, none⟩) hc.bw (Nat.le_refl _) _⟩)
      clear hc
      go_wp2_with fail
      obtain ⟨e1, e2, e3⟩ := unhide HE
      refine bodyPost_ret (results_c1 (show Try.f30.results = #[.cell 2 34] from Try.results30) _ _ _ ⟨W.heap.size, 0, none⟩ (.agg #[.slice va i vc]) rfl (by simp [loadVar, go_sem, e1])) rfl ?_
      exact ⟨va, vc, rfl, e2, e3⟩
end Go.Proofs.Ytokgegbodbnimaa
