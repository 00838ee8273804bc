import Derived.Test.YtocjcbdkihbbiaaDoorRsB
import Derived.OwnWalk
import Derived.Deep.CutRange
import Derived.BigRegion
import Derived.Deep.RegionLaw
namespace Go.Proofs.YtocjcbdkihbbiaaDoor
open Go.RowKit Go.Shelf

theorem infoS46 : (Tryd.prog.info? 9).map (fun i => (i.zero, i.size, i.bytes)) = some (some (.string ⟨#[]⟩), 1, 16) := by kernel_rfl
theorem infoI47 : (Tryd.prog.info? 3).map (fun i => (i.zero, i.size, i.bytes)) = some (some (.int .i64 0), 1, 8) := by kernel_rfl
theorem infoF39 : (Tryd.prog.info? 49).map (fun i => (i.zero, i.size, i.bytes)) = some (some (.agg #[.string ⟨#[]⟩, .slice none 0 0, .slice none 0 0]), 3, 64) := by kernel_rfl
theorem wpList_append_run {P : Program} {ops : Array Oper} {rest : List Oper} {o : Oper} {a : Act} {w w' : World} {v' : Value} {Q : Exit → Act → World → Prop} (hgd : o.guard = none) (s x : Operand) (t : TypeId)
    (ho : o.op = .call { callee := .builtin .append, args := #[s, x], argTypes := #[t, t] }) (vs vx : Value) (hs : a.eval s = vs) (hx : a.eval x = vx)
    (hr : (Builtin.append_ #[t, t] o.type #[vs, vx]).run P w = .ok v' w') (h : wpList P ops Q rest (a.put o.dst v') w') : wpList P ops Q (o :: rest) a w :=
  wpList_plain hgd fun _ hK => by
    unfold Oper.wp execOp
    simp only [ho, resolve, invoke, builtin, Sem.run_bind, Sem.run_pure, Result.andThen_ok, List.map_toArray, List.map_cons, List.map_nil, hs, hx, hr]
    exact hK _ _ h

theorem own_cap {W : World} {B : Nat} {e : TypeId} {s g n cap m : Nat} {xs : List Value} (h : W.ownsRow B e s (.slice (some ⟨g, 0, none⟩) n cap) m xs) : m ≤ cap := by
  rcases h.2 with ⟨e, _⟩ | ⟨g', cap', cur, e, _, _, h4, _⟩
  · cases e
  · cases e
    exact h4
set_option maxRecDepth 100000 in
set_option maxHeartbeats 4000000 in
theorem rline_go (m g cap : Nat) (s : ByteArray) (k : Nat) (nm : ByteArray) (lb lc ln ab ac an : Nat) (ls : List Bs) (ns : List Nat) (xs : List Value) (w : World) (hs : 0 < s.size) (hs2 : s.size ≤ 16777216) (hb : blB s[0] = true) (hm : m ≤ 16777216)
    (c0 : w.cell? ⟨g, m * 3, none⟩ = some (.string nm)) (c1 : w.cell? ⟨g, m * 3 + 1, none⟩ = some (.slice (some ⟨lb, 0, none⟩) ln lc)) (c2 : w.cell? ⟨g, m * 3 + 2, none⟩ = some (.slice (some ⟨ab, 0, none⟩) an ac))
    (hlb : lb < w.heap.size) (hln : ln = ls.length) (hl : ls.length ≤ 16777216) (hls : ∀ i u, (strs ls)[i]? = some u → w.cell? ⟨lb, i, none⟩ = some u) (hab : ab < w.heap.size) (han : an = ns.length) (hn : ns.length ≤ 16777216) (hns : ∀ i u, (ints ns)[i]? = some u → w.cell? ⟨ab, i, none⟩ = some u)
    (hg : g < w.heap.size) (hmc : m ≤ cap) (hx : xs.length = m * 3) (hx1 : ∀ u ∈ xs, u.oneCell' = true) (hxc : ∀ j u, xs[j]? = some u → w.cell? ⟨g, j, none⟩ = some u) :
    Calls Tryd.prog 69 #[.slice (some ⟨g, 0, none⟩) (m + 1) cap, .string s, .int .i64 k] w fun e w' => ∃ v' g1 cap1 g2 cap2, e = .returned (.tuple #[v', .int .i64 0]) ∧ Below w.heap.size w w' ∧
      w'.ownsRow w.heap.size 49 3 v' (m + 1) (xs ++ [.string nm, .slice (some ⟨g1, 0, none⟩) (ln + 1) cap1, .slice (some ⟨g2, 0, none⟩) (an + 1) cap2]) ∧
      w'.ownsRow w.heap.size 9 1 (.slice (some ⟨g1, 0, none⟩) (ln + 1) cap1) (ln + 1) (strs ls ++ [.string (ba (Lib.trimRightS (s.extract 1 s.size).data.toList bl2))]) ∧
      w'.ownsRow w.heap.size 3 1 (.slice (some ⟨g2, 0, none⟩) (an + 1) cap2) (an + 1) (ints ns ++ [.int .i64 k]) := by
  have cb := hide (fun w => by have := rblank_any s[0] w; rw [hb] at this; exact this)
  have cBk := hide (fun w => rBack_any (s.extract 1 s.size) w (by rw [ByteArray.size_extract]; omega))
  have e1 : ((m : Int) + 1).toNat = m + 1 := by omega
  have e2 : ¬ ((m : Int) + 1 = 0) := by omega
  have e3 : IntKind.i64.wrap (m : Int) = (m : Int) := by rw [IntKind.wrap_i64]; omega
  have e4 : (m : Int) < (m : Int) + 1 := by omega
  generalize htx : ba (Lib.trimRightS (s.extract 1 s.size).data.toList bl2) = tx at cBk ⊢
  have HTX := hide htx
  have e5 : (1 : Int) ≤ (s.size : Int) := by omega
  have e6 : 1 ≤ s.size := by omega
  have HLN := hide hln
  have HAN := hide han
  have hl' : ln ≤ 16777216 := by omega
  have hn' : an ≤ 16777216 := by omega
  have HLS := hide hls
  have HNS := hide hns
  have HXC := hide hxc
  have HX1 := hide hx1
  have jm : (m : Int) ≤ (cap : Int) := by omega
  clear hb htx hls hns hln han hl hn hxc hx1
  go_enter Tryd.func69, Tryd.ntmps69
  go_upto_region 5 with (go_at_call 86; refine (unhide cb _).mono ?_; rintro e w' ⟨rfl, rfl⟩)
  have hb0 : Below w'.heap.size w' (w'.alloc (.cells #[.string nm, .slice (some ⟨lb, 0, none⟩) ln lc, .slice (some ⟨ab, 0, none⟩) an ac] 49)) := (Below.refl _ _).alloc (Nat.le_refl _) _
  have hz0 : (w'.alloc (.cells #[.string nm, .slice (some ⟨lb, 0, none⟩) ln lc, .slice (some ⟨ab, 0, none⟩) an ac] 49)).heap.size = w'.heap.size + 1 := by simp
  have hB0 := World.alloc_heap_new w' (.cells #[.string nm, .slice (some ⟨lb, 0, none⟩) ln lc, .slice (some ⟨ab, 0, none⟩) an ac] 49)
  generalize w'.alloc (.cells #[.string nm, .slice (some ⟨lb, 0, none⟩) ln lc, .slice (some ⟨ab, 0, none⟩) an ac] 49) = W0 at *
  obtain ⟨B, hBe⟩ : ∃ B, w'.heap.size = B := ⟨_, rfl⟩
  rw [hBe] at hb0 hz0 hB0 hlb hab hg ⊢
  have hBlt : B < W0.heap.size := by omega
  have d1 := (cell_blk hB0 1).1
  have f1 := (cell_blk hB0 1).2
  simp only [List.getElem?_toArray, List.getElem?_cons_succ, List.getElem?_cons_zero] at d1
  obtain ⟨i0, hi0, hz0', hz1, hz2⟩ := info_parts infoS46
  obtain ⟨v1, W1, g1, cap1, W2, r1, r2, ho2, hb2, hb1⟩ := app2 (P := Tryd.prog) 46 46 9 i0 (.string ⟨#[]⟩) 1 16 Tryd.underlying46 hi0 hz0' hz1 hz2 rfl (by decide) ln (strs ls) [.string tx] (by simp [strs, unhide HLN]) (by simp [strs, Value.oneCell']) rfl (by simp [Value.oneCell']) (by omega) (by unfold maxLen; omega) (some ⟨lb, 0, none⟩) lc W0.drew
    (.inr ⟨lb, 0, rfl, by show lb < W0.heap.size; omega, fun j u hj => by rw [Nat.zero_add]; exact (hb0.cell (p := ⟨lb, j, none⟩) (by omega)).trans (unhide HLS j u hj)⟩)
  have HO2 := hide ho2
  have B1 := hide hb1
  have B2 := hide hb2
  have HZ0 := hide hz0
  have HBE := hide hBe
  clear ho2 hb1 hb2 hi0 hz0' hz1 hz2 hz0 hBe
  have d1' := ((unhide B2).cell (p := ⟨B, 1, none⟩) hBlt).trans d1
  have f1' := ((unhide B2).frozen (p := ⟨B, 1, none⟩) hBlt).trans f1
  go_region_law (first | (go_simp; go_at_call 67; refine (unhide cBk _).mono ?_; rintro e w5 ⟨rfl, rfl⟩) | (refine step_run (by rfl) (.tmp 26) (.tmp 28) 46 (by rfl) _ _ (by rfl) (by rfl) _ _ r1 ?_) | (refine step_run (by rfl) (.tmp 29) (.tmp 33) 46 (by rfl) _ _ (by rfl) (by rfl) _ _ r2 ?_))
  all_goals
    have hB2 : W2.heap[B]? = some (.cells #[.string nm, .slice (some ⟨lb, 0, none⟩) ln lc, .slice (some ⟨ab, 0, none⟩) an ac] 49 (0, 0)) := ((unhide B2).block B hBlt).trans hB0
    have hg1 := (ownsRow_blk (unhide HO2) (g := g1) rfl).choose_spec.2
    have hB3 := set_blk hB2 1 (.slice (some ⟨g1, 0, none⟩) (ln + 1) cap1)
    have hs3 := set_size W2 B 1 (.slice (some ⟨g1, 0, none⟩) (ln + 1) cap1)
    have hbW2 : Below B w' W2 := hb0.drew.trans ((unhide B2).mono (Nat.le_of_lt hBlt))
    have hb3 : Below B w' (W2.setCell ⟨B, 1, none⟩ (.slice (some ⟨g1, 0, none⟩) (ln + 1) cap1)) := hbW2.setCell (p := ⟨B, 1, none⟩) (Nat.le_refl _) _
    have hO3 : (W2.setCell ⟨B, 1, none⟩ (.slice (some ⟨g1, 0, none⟩) (ln + 1) cap1)).ownsRow B 9 1 (.slice (some ⟨g1, 0, none⟩) (ln + 1) cap1) (ln + 1) (strs ls ++ [.string tx]) := ownsRow_lower (ownsRow_same (unhide HO2) fun q c hq _ => set_other _ _ _ _ _ (fun e => by have e2 : g1 = q := (by simpa [Value.ownBlock] using hq); have : W0.heap.size ≤ g1 := hg1.1; omega)) (show B ≤ W0.heap.size by omega)
    have hz2 := (unhide B2).size
    have hBW2 : B < W2.heap.size := Nat.lt_of_lt_of_le hBlt hz2
    clear r1 r2 d1' f1' hB2 hg1 hbW2
    have HO3 := hide hO3
    clear HO2 B2 B1 hO3
    obtain ⟨W3, hW3⟩ : ∃ W3, W2.setCell ⟨B, 1, none⟩ (.slice (some ⟨g1, 0, none⟩) (ln + 1) cap1) = W3 := ⟨_, rfl⟩
    rw [hW3] at hB3 hs3 hb3 HO3 ⊢
    have hB3' : W3.heap[B]? = some (.cells #[.string nm, .slice (some ⟨g1, 0, none⟩) (ln + 1) cap1, .slice (some ⟨ab, 0, none⟩) an ac] 49 (0, 0)) := hB3
    have hBlt3 : B < W3.heap.size := by rw [hs3]; exact hBW2
    clear hB3 hW3 hs3 hBW2 hz2
    have d2 := (cell_blk hB3' 2).1
    have f2 := (cell_blk hB3' 2).2
    simp only [List.getElem?_toArray, List.getElem?_cons_succ, List.getElem?_cons_zero] at d2
    have d2a := (((Below.refl W3.heap.size W3).alloc (Nat.le_refl _) (.cells #[] 3)).cell (p := ⟨B, 2, none⟩) hBlt3).trans d2
    obtain ⟨i3, hi3, hy0, hy1, hy2⟩ := info_parts infoI47
    obtain ⟨v3, W4, g2, cap2, W5, r3, r4, ho5, hb5, hb4⟩ := app2 (P := Tryd.prog) 47 47 3 i3 (.int .i64 0) 1 8 Tryd.underlying47 hi3 hy0 hy1 hy2 rfl (by decide) an (ints ns) [.int .i64 k] (by simp [ints, unhide HAN]) (by simp [ints, Value.oneCell']) rfl (by simp [Value.oneCell']) (by omega) (by unfold maxLen; omega) (some ⟨ab, 0, none⟩) ac W3
      (.inr ⟨ab, 0, rfl, by omega, fun j u hj => by rw [Nat.zero_add]; exact (hb3.cell (p := ⟨ab, j, none⟩) hab).trans (unhide HNS j u hj)⟩)
    have d2' := (hb5.cell (p := ⟨B, 2, none⟩) hBlt3).trans d2
    have f2' := (hb5.frozen (p := ⟨B, 2, none⟩) hBlt3).trans f2
    have HO5 := hide ho5
    have B5 := hide hb5
    clear ho5 hb5 hb4 hi3 hy0 hy1 hy2
    go_upto_region 7 with (first | ((with_reducible refine wpList_append_run (o := { dst := some 39, op := Op.call { callee := Callee.builtin Builtin.append, args := #[Operand.tmp 36, Operand.tmp 38], argTypes := #[47, 47] }, type := 47, pos := "ref.go:120", after := #[{ on := 0, ground := Ground.data }, { on := 2, ground := Ground.data }], guard := none }) ?_ (.tmp 36) (.tmp 38) 47 ?_ _ _ ?_ ?_ r3 ?_); (next => rfl); (next => rfl); (next => rfl); (next => rfl)) | ((with_reducible refine wpList_append_run (o := { dst := some 42, op := Op.call { callee := Callee.builtin Builtin.append, args := #[Operand.tmp 39, Operand.tmp 41], argTypes := #[47, 47] }, type := 47, pos := "ref.go:120", after := #[{ on := 3, ground := Ground.data }, { on := 5, ground := Ground.data }, { on := 3, ground := Ground.chain }], guard := none }) ?_ (.tmp 39) (.tmp 41) 47 ?_ _ _ ?_ ?_ r4 ?_); (next => rfl); (next => rfl); (next => rfl); (next => rfl)))
    have hB5 := ((unhide B5).block B hBlt3).trans hB3'
    have hB6 := set_blk hB5 2 (.slice (some ⟨g2, 0, none⟩) (an + 1) cap2)
    have hs6 := set_size W5 B 2 (.slice (some ⟨g2, 0, none⟩) (an + 1) cap2)
    have hb6 : Below B w' (W5.setCell ⟨B, 2, none⟩ (.slice (some ⟨g2, 0, none⟩) (an + 1) cap2)) := (hb3.trans ((unhide B5).mono (Nat.le_of_lt hBlt3))).setCell (p := ⟨B, 2, none⟩) (Nat.le_refl _) _
    have hO6 : (W5.setCell ⟨B, 2, none⟩ (.slice (some ⟨g2, 0, none⟩) (an + 1) cap2)).ownsRow B 9 1 (.slice (some ⟨g1, 0, none⟩) (ln + 1) cap1) (ln + 1) (strs ls ++ [.string tx]) := ownsRow_same (ownsRow_below (unhide HO3) (unhide B5)) fun q c _ hc => set_other _ _ _ _ _ (fun e => by rw [e, hB5] at hc; cases hc)
    have hN6 : (W5.setCell ⟨B, 2, none⟩ (.slice (some ⟨g2, 0, none⟩) (an + 1) cap2)).ownsRow W3.heap.size 3 1 (.slice (some ⟨g2, 0, none⟩) (an + 1) cap2) (an + 1) (ints ns ++ [.int .i64 k]) := ownsRow_same (unhide HO5) fun q c _ hc => set_other _ _ _ _ _ (fun e => by rw [e, hB5] at hc; cases hc)
    have hBW5 : B < W5.heap.size := Nat.lt_of_lt_of_le hBlt3 (unhide B5).size
    clear r3 r4 HO3 HO5 B5 d2 f2 d2a d2' f2' hB5 hB3' hBlt3
    obtain ⟨W6, hW6⟩ : ∃ W6, W5.setCell ⟨B, 2, none⟩ (.slice (some ⟨g2, 0, none⟩) (an + 1) cap2) = W6 := ⟨_, rfl⟩
    rw [hW6] at hB6 hs6 hb6 hO6 hN6 ⊢
    have hB6' : W6.heap[B]? = some (.cells #[.string nm, .slice (some ⟨g1, 0, none⟩) (ln + 1) cap1, .slice (some ⟨g2, 0, none⟩) (an + 1) cap2] 49 (0, 0)) := hB6
    have hBlt6 : B < W6.heap.size := by rw [hs6]; exact hBW5
    clear hB6 hW6 hs6 hBW5
    have q0 := (cell_blk hB6' 0).1
    have q1 := (cell_blk hB6' 1).1
    have q2 := (cell_blk hB6' 2).1
    simp only [List.getElem?_toArray, List.getElem?_cons_succ, List.getElem?_cons_zero] at q0 q1 q2
    obtain ⟨i4, hi4, hx0, hx1', hx2⟩ := info_parts infoF39
    have hsrc : m = 0 ∨ ∃ b o, (some ⟨g, 0, none⟩ : Option Addr) = some ⟨b, o, none⟩ ∧ b < W6.drew.heap.size ∧ ∀ j u, xs[j]? = some u → W6.drew.cell? ⟨b, o + j, none⟩ = some u :=
      .inr ⟨g, 0, rfl, by show g < W6.heap.size; omega, fun j u hj => by rw [Nat.zero_add]; exact (hb6.cell (p := ⟨g, j, none⟩) hg).trans (unhide HXC j u hj)⟩
    obtain ⟨⟨vb, Wb1, gb, capb, Wb2, rb1, rb2, hob, hbb2, hbb1⟩, ⟨vc, Wc1, gc, capc, Wc2, rc1, rc2, hoc, hbc2, hbc1⟩⟩ := app2x (P := Tryd.prog) 39 39 49 i4 (.agg #[.string ⟨#[]⟩, .slice none 0 0, .slice none 0 0]) 3 64 Tryd.underlying39 hi4 hx0 hx1' hx2 rfl (by decide) m xs [.string nm, .slice (some ⟨g1, 0, none⟩) (ln + 1) cap1, .slice (some ⟨g2, 0, none⟩) (an + 1) cap2] hx (unhide HX1) rfl (by simp [Value.oneCell']) (by omega) (by unfold maxLen; omega) (some ⟨g, 0, none⟩) cap W6.drew hsrc
    obtain ⟨va, Wa1, ga, capa, Wa2, ra1, ra2, hoa, hba2, hba1⟩ := app2 (P := Tryd.prog) 39 39 49 i4 (.agg #[.string ⟨#[]⟩, .slice none 0 0, .slice none 0 0]) 3 64 Tryd.underlying39 hi4 hx0 hx1' hx2 rfl (by decide) m xs [.string nm, .slice (some ⟨g1, 0, none⟩) (ln + 1) cap1, .slice (some ⟨g2, 0, none⟩) (an + 1) cap2] hx (unhide HX1) rfl (by simp [Value.oneCell']) (by omega) (by unfold maxLen; omega) (some ⟨g, 0, none⟩) cap W6.drew hsrc
    have FIN := hide (show ∀ (W8 : World) (g3 cap3 : Nat), W8.ownsRow W6.drew.heap.size 49 3 (.slice (some ⟨g3, 0, none⟩) (m + 1) cap3) (m + 1) (xs ++ [.string nm, .slice (some ⟨g1, 0, none⟩) (ln + 1) cap1, .slice (some ⟨g2, 0, none⟩) (an + 1) cap2]) → Below W6.drew.heap.size W6.drew W8 →
        Below w'.heap.size w' W8 ∧ W8.ownsRow w'.heap.size 49 3 (.slice (some ⟨g3, 0, none⟩) (m + 1) cap3) (m + 1) (xs ++ [.string nm, .slice (some ⟨g1, 0, none⟩) (ln + 1) cap1, .slice (some ⟨g2, 0, none⟩) (an + 1) cap2]) ∧
        W8.ownsRow w'.heap.size 9 1 (.slice (some ⟨g1, 0, none⟩) (ln + 1) cap1) (ln + 1) (strs ls ++ [.string tx]) ∧ W8.ownsRow w'.heap.size 3 1 (.slice (some ⟨g2, 0, none⟩) (an + 1) cap2) (an + 1) (ints ns ++ [.int .i64 k]) from fun W8 g3 cap3 ho hbw => by
      rw [unhide HBE]
      have hO8 := ownsRow_below (w := W6.drew) (w' := W8) hO6 hbw
      have hN8 := ownsRow_below (w := W6.drew) (w' := W8) hN6 hbw
      exact ⟨hb6.drew.trans (hbw.mono (Nat.le_of_lt hBlt6)), ownsRow_lower ho (Nat.le_of_lt hBlt6), ownsRow_lower hO8 (Nat.le_refl _), ownsRow_lower hN8 (by have := hb3.size; rw [unhide HBE] at this; exact this)⟩)
    have KS := hide (show ∀ X : World, Below W6.drew.heap.size W6.drew X → X.cell? ⟨B, 0, none⟩ = some (.string nm) ∧ X.cell? ⟨B, 1, none⟩ = some (.slice (some ⟨g1, 0, none⟩) (ln + 1) cap1) ∧ X.cell? ⟨B, 2, none⟩ = some (.slice (some ⟨g2, 0, none⟩) (an + 1) cap2) from fun X hX => ⟨(hX.cell (p := ⟨B, 0, none⟩) hBlt6).trans q0, (hX.cell (p := ⟨B, 1, none⟩) hBlt6).trans q1, (hX.cell (p := ⟨B, 2, none⟩) hBlt6).trans q2⟩)
    have BA1 := hide hba1
    have BB1 := hide hbb1
    have BC1 := hide hbc1
    have HOA := hide hoa
    have BA := hide hba2
    have HOB := hide hob
    have BB := hide hbb2
    have HOC := hide hoc
    have BC := hide hbc2
    clear hoa hba2 hba1 hob hbb2 hbb1 hoc hbc2 hbc1 hi4 hx0 hx1' hx2 hO6 hN6 hb6 hsrc hB6' hb3 hb0 hB0
    refine wp_region_held_drew (S := fun w9 => w9.cell? ⟨B, 0, none⟩ = some (.string nm) ∧ w9.cell? ⟨B, 1, none⟩ = some (.slice (some ⟨g1, 0, none⟩) (ln + 1) cap1) ∧ w9.cell? ⟨B, 2, none⟩ = some (.slice (some ⟨g2, 0, none⟩) (an + 1) cap2)) (by kernel_rfl) ?_ (fun hHeld => ?_)
    · exact ⟨q0, q1, q2⟩
    refine wpAnyH_take (i := 1) (oi := { dst := some 45, op := Op.move (Operand.tmp 0), type := 39, pos := "ref.go:121", after := #[], guard := none }) (v := ?_) rfl (by kernel_rfl) (by kernel_rfl) (by kernel_rfl) (fun _ _ _ h => h) (Or.inl ⟨by rfl, ?_⟩) (by assumption) ?_
    rotate_left
    · intro w hSw; (try dsimp only at hSw); go_simp; (try with_reducible rfl)
    try simp only [Act.put, List.setIfInBounds_toArray, List.set_cons_zero, List.set_cons_succ]
    refine wpAnyH_take (i := 2) (oi := { dst := some 46, op := Op.move (Operand.tmp 0), type := 39, pos := "ref.go:121", after := #[], guard := none }) (v := ?_) rfl (by kernel_rfl) (by kernel_rfl) (by kernel_rfl) (fun _ _ _ h => h) (Or.inl ⟨by rfl, ?_⟩) (by assumption) ?_
    rotate_left
    · intro w hSw; (try dsimp only at hSw); go_simp; (try with_reducible rfl)
    try simp only [Act.put, List.setIfInBounds_toArray, List.set_cons_zero, List.set_cons_succ]
    refine wpAnyH_take (i := 3) (oi := { dst := some 47, op := Op.call { callee := Callee.builtin Builtin.len, args := #[Operand.tmp 46], argTypes := #[39] }, type := 3, pos := "ref.go:121", after := #[{ on := 2, ground := Ground.data }], guard := none }) (v := ?_) rfl (by kernel_rfl) (by kernel_rfl) (by kernel_rfl) (fun _ _ _ h => h) (Or.inl ⟨by rfl, ?_⟩) (by assumption) ?_
    rotate_left
    · intro w hSw; (try dsimp only at hSw); go_simp; (try with_reducible rfl)
    try simp only [Act.put, List.setIfInBounds_toArray, List.set_cons_zero, List.set_cons_succ]
    refine wpAnyH_take (i := 4) (oi := { dst := some 48, op := Op.binOp BinOp.sub 3 (Operand.tmp 47) (Operand.const (Value.int IntKind.i64 1)) 3, type := 3, pos := "ref.go:121", after := #[{ on := 3, ground := Ground.data }], guard := none }) (v := ?_) rfl (by kernel_rfl) (by kernel_rfl) (by kernel_rfl) (fun _ _ _ h => h) (Or.inl ⟨by rfl, ?_⟩) (by assumption) ?_
    rotate_left
    · intro w hSw; (try dsimp only at hSw); go_simp; (try with_reducible rfl)
    try simp only [Act.put, List.setIfInBounds_toArray, List.set_cons_zero, List.set_cons_succ]
    refine wpAnyH_take (i := 5) (oi := { dst := some 49, op := Op.slice 39 (Operand.tmp 45) none (some (Operand.tmp 48)) none, type := 39, pos := "ref.go:121", after := #[{ on := 1, ground := Ground.data }, { on := 4, ground := Ground.data }], guard := none }) (v := ?_) rfl (by kernel_rfl) (by kernel_rfl) (by kernel_rfl) (fun _ _ _ h => h) (Or.inl ⟨by rfl, ?_⟩) (by assumption) ?_
    rotate_left
    · intro w hSw; (try dsimp only at hSw); go_simp; (try with_reducible rfl)
    try simp only [Act.put, List.setIfInBounds_toArray, List.set_cons_zero, List.set_cons_succ]
    refine wpAnyH_take (i := 7) (oi := { dst := some 51, op := Op.load 49 (Operand.tmp 8), type := 49, pos := "ref.go:121", after := #[], guard := none }) (v := .agg #[.string nm, .slice (some ⟨g1, 0, none⟩) (ln + 1) cap1, .slice (some ⟨g2, 0, none⟩) (an + 1) cap2]) rfl (by kernel_rfl) (by kernel_rfl) (by kernel_rfl) (fun _ _ _ h => h) (Or.inl ⟨by rfl, by intro w hSw; obtain ⟨s0, s1, s2⟩ := hSw; go_simp; (try with_reducible rfl)⟩) (by assumption) ?_
    try simp only [Act.put, List.setIfInBounds_toArray, List.set_cons_zero, List.set_cons_succ]
    refine wpAnyH_ready (rs := [0, 8]) (by kernel_rfl) (by simp) ?_
    refine AllReadyH.cons (o := { dst := some 44, op := Op.buildSlice 39 0 #[], type := 39, pos := "ref.go:121", after := #[], guard := none }) rfl (fun K hK => ?_) (AllReadyH.cons (o := { dst := some 52, op := Op.buildSlice 39 1 #[(0, Operand.tmp 51)], type := 39, pos := "ref.go:121", after := #[{ on := 7, ground := Ground.data }], guard := none }) rfl (fun K hK => ?_) AllReadyH.nil)
    · go_simp
      refine hK.out _ _ (unhide KS _ ((Below.refl _ W6.drew).alloc (Nat.le_refl _) (.cells #[] 49))) (fun hHeld2 => ?_)
      clear hHeld
      have hHeld := hHeld2
      clear hHeld2 hK K
      try simp only [Act.put, List.setIfInBounds_toArray, List.set_cons_zero, List.set_cons_succ]
      refine wpAnyH_ready (rs := [6, 8]) (by kernel_rfl) (by simp) ?_
      refine AllReadyH.cons (o := { dst := some 50, op := Op.call { callee := Callee.builtin Builtin.append, args := #[Operand.tmp 44, Operand.tmp 49], argTypes := #[39, 39] }, type := 39, pos := "ref.go:121", after := #[{ on := 0, ground := Ground.data }, { on := 5, ground := Ground.data }], guard := none }) rfl (fun K hK => ?_) (AllReadyH.cons (o := { dst := some 52, op := Op.buildSlice 39 1 #[(0, Operand.tmp 51)], type := 39, pos := "ref.go:121", after := #[{ on := 7, ground := Ground.data }], guard := none }) rfl (fun K hK => ?_) AllReadyH.nil)
      · refine step_run (by rfl) (.tmp 44) (.tmp 49) 39 rfl _ _ rfl rfl _ _ ra1 ?_
        refine hK.out _ _ (unhide KS _ (unhide BA1)) (fun hHeld2 => ?_)
        clear hHeld
        have hHeld := hHeld2
        clear hHeld2 hK K
        try simp only [Act.put, List.setIfInBounds_toArray, List.set_cons_zero, List.set_cons_succ]
        refine wpAnyH_ready (rs := [8]) (by kernel_rfl) (by simp) ?_
        refine AllReadyH.cons (o := { dst := some 52, op := Op.buildSlice 39 1 #[(0, Operand.tmp 51)], type := 39, pos := "ref.go:121", after := #[{ on := 7, ground := Ground.data }], guard := none }) rfl (fun K hK => ?_) AllReadyH.nil
        go_simp
        refine hK.out _ _ (unhide KS _ ((unhide BA1).alloc (unhide BA1).size (.cells #[.string nm, .slice (some ⟨g1, 0, none⟩) (ln + 1) cap1, .slice (some ⟨g2, 0, none⟩) (an + 1) cap2] 49))) (fun hHeld2 => ?_)
        clear hHeld
        have hHeld := hHeld2
        clear hHeld2 hK K
        try simp only [Act.put, List.setIfInBounds_toArray, List.set_cons_zero, List.set_cons_succ]
        refine wpAnyH_ready (rs := [9]) (by kernel_rfl) (by simp) ?_
        refine AllReadyH.cons (o := { dst := some 53, op := Op.call { callee := Callee.builtin Builtin.append, args := #[Operand.tmp 50, Operand.tmp 52], argTypes := #[39, 39] }, type := 39, pos := "ref.go:121", after := #[{ on := 6, ground := Ground.data }, { on := 8, ground := Ground.data }, { on := 6, ground := Ground.chain }], guard := none }) rfl (fun K hK => ?_) AllReadyH.nil
        refine step_run (by rfl) (.tmp 50) (.tmp 52) 39 rfl _ _ rfl rfl _ _ ra2 ?_
        refine hK.out _ _ (unhide KS _ (unhide BA)) (fun hHeld2 => ?_)
        clear hHeld
        have hHeld := hHeld2
        clear hHeld2 hK K
        try simp only [Act.put, List.setIfInBounds_toArray, List.set_cons_zero, List.set_cons_succ]
        refine wpAnyH_take (i := 10) (oi := { dst := some 6, op := Op.assign (Operand.tmp 53), type := 39, pos := "ref.go:121", after := #[{ on := 9, ground := Ground.data }, { on := 9, ground := Ground.chain }, { on := 0, ground := Ground.phase }, { on := 1, ground := Ground.phase }, { on := 2, ground := Ground.phase }, { on := 3, ground := Ground.phase }, { on := 4, ground := Ground.phase }, { on := 5, ground := Ground.phase }, { on := 6, ground := Ground.phase }, { on := 7, ground := Ground.phase }, { on := 8, ground := Ground.phase }, { on := 9, ground := Ground.phase }], guard := none }) (v := ?_) rfl (by kernel_rfl) (by kernel_rfl) (by kernel_rfl) (fun _ _ _ h => h) (Or.inl ⟨by rfl, ?_⟩) (by assumption) ?_
        rotate_left
        · intro w hSw; (try dsimp only at hSw); go_simp; (try with_reducible rfl)
        try simp only [Act.put, List.setIfInBounds_toArray, List.set_cons_zero, List.set_cons_succ]
        refine wpAnyH_take (i := 11) (oi := { dst := some 7, op := Op.assign (Operand.const (Value.int IntKind.i64 0)), type := 3, pos := "ref.go:121", after := #[{ on := 10, ground := Ground.chain }, { on := 0, ground := Ground.phase }, { on := 1, ground := Ground.phase }, { on := 2, ground := Ground.phase }, { on := 3, ground := Ground.phase }, { on := 4, ground := Ground.phase }, { on := 5, ground := Ground.phase }, { on := 6, ground := Ground.phase }, { on := 7, ground := Ground.phase }, { on := 8, ground := Ground.phase }, { on := 9, ground := Ground.phase }, { on := 10, ground := Ground.phase }], guard := none }) (v := ?_) rfl (by kernel_rfl) (by kernel_rfl) (by kernel_rfl) (fun _ _ _ h => h) (Or.inl ⟨by rfl, ?_⟩) (by assumption) ?_
        rotate_left
        · intro w hSw; (try dsimp only at hSw); go_simp; (try with_reducible rfl)
        try simp only [Act.put, List.setIfInBounds_toArray, List.set_cons_zero, List.set_cons_succ]
        refine wpAnyH_done (by kernel_rfl) ?_ _
        go_wp2_with fail
        go_ret2
        exact ⟨_, g1, cap1, g2, cap2, rfl, unhide FIN _ _ _ (unhide HOA) (unhide BA)⟩
      · go_simp
        refine hK.out _ _ (unhide KS _ ((((Below.refl _ W6.drew).alloc (Nat.le_refl _) (.cells #[] 49))).alloc (by simp) (.cells #[.string nm, .slice (some ⟨g1, 0, none⟩) (ln + 1) cap1, .slice (some ⟨g2, 0, none⟩) (an + 1) cap2] 49))) (fun hHeld2 => ?_)
        clear hHeld
        have hHeld := hHeld2
        clear hHeld2 hK K
        try simp only [Act.put, List.setIfInBounds_toArray, List.set_cons_zero, List.set_cons_succ]
        refine wpAnyH_ready (rs := [6]) (by kernel_rfl) (by simp) ?_
        refine AllReadyH.cons (o := { dst := some 50, op := Op.call { callee := Callee.builtin Builtin.append, args := #[Operand.tmp 44, Operand.tmp 49], argTypes := #[39, 39] }, type := 39, pos := "ref.go:121", after := #[{ on := 0, ground := Ground.data }, { on := 5, ground := Ground.data }], guard := none }) rfl (fun K hK => ?_) AllReadyH.nil
        refine step_run (by rfl) (.tmp 44) (.tmp 49) 39 rfl _ _ rfl rfl _ _ rb1 ?_
        refine hK.out _ _ (unhide KS _ (unhide BB1)) (fun hHeld2 => ?_)
        clear hHeld
        have hHeld := hHeld2
        clear hHeld2 hK K
        try simp only [Act.put, List.setIfInBounds_toArray, List.set_cons_zero, List.set_cons_succ]
        refine wpAnyH_ready (rs := [9]) (by kernel_rfl) (by simp) ?_
        refine AllReadyH.cons (o := { dst := some 53, op := Op.call { callee := Callee.builtin Builtin.append, args := #[Operand.tmp 50, Operand.tmp 52], argTypes := #[39, 39] }, type := 39, pos := "ref.go:121", after := #[{ on := 6, ground := Ground.data }, { on := 8, ground := Ground.data }, { on := 6, ground := Ground.chain }], guard := none }) rfl (fun K hK => ?_) AllReadyH.nil
        refine step_run (by rfl) (.tmp 50) (.tmp 52) 39 rfl _ _ rfl rfl _ _ rb2 ?_
        refine hK.out _ _ (unhide KS _ (unhide BB)) (fun hHeld2 => ?_)
        clear hHeld
        have hHeld := hHeld2
        clear hHeld2 hK K
        try simp only [Act.put, List.setIfInBounds_toArray, List.set_cons_zero, List.set_cons_succ]
        refine wpAnyH_take (i := 10) (oi := { dst := some 6, op := Op.assign (Operand.tmp 53), type := 39, pos := "ref.go:121", after := #[{ on := 9, ground := Ground.data }, { on := 9, ground := Ground.chain }, { on := 0, ground := Ground.phase }, { on := 1, ground := Ground.phase }, { on := 2, ground := Ground.phase }, { on := 3, ground := Ground.phase }, { on := 4, ground := Ground.phase }, { on := 5, ground := Ground.phase }, { on := 6, ground := Ground.phase }, { on := 7, ground := Ground.phase }, { on := 8, ground := Ground.phase }, { on := 9, ground := Ground.phase }], guard := none }) (v := ?_) rfl (by kernel_rfl) (by kernel_rfl) (by kernel_rfl) (fun _ _ _ h => h) (Or.inl ⟨by rfl, ?_⟩) (by assumption) ?_
        rotate_left
        · intro w hSw; (try dsimp only at hSw); go_simp; (try with_reducible rfl)
        try simp only [Act.put, List.setIfInBounds_toArray, List.set_cons_zero, List.set_cons_succ]
        refine wpAnyH_take (i := 11) (oi := { dst := some 7, op := Op.assign (Operand.const (Value.int IntKind.i64 0)), type := 3, pos := "ref.go:121", after := #[{ on := 10, ground := Ground.chain }, { on := 0, ground := Ground.phase }, { on := 1, ground := Ground.phase }, { on := 2, ground := Ground.phase }, { on := 3, ground := Ground.phase }, { on := 4, ground := Ground.phase }, { on := 5, ground := Ground.phase }, { on := 6, ground := Ground.phase }, { on := 7, ground := Ground.phase }, { on := 8, ground := Ground.phase }, { on := 9, ground := Ground.phase }, { on := 10, ground := Ground.phase }], guard := none }) (v := ?_) rfl (by kernel_rfl) (by kernel_rfl) (by kernel_rfl) (fun _ _ _ h => h) (Or.inl ⟨by rfl, ?_⟩) (by assumption) ?_
        rotate_left
        · intro w hSw; (try dsimp only at hSw); go_simp; (try with_reducible rfl)
        try simp only [Act.put, List.setIfInBounds_toArray, List.set_cons_zero, List.set_cons_succ]
        refine wpAnyH_done (by kernel_rfl) ?_ _
        go_wp2_with fail
        go_ret2
        exact ⟨_, g1, cap1, g2, cap2, rfl, unhide FIN _ _ _ (unhide HOB) (unhide BB)⟩
    · go_simp
      refine hK.out _ _ (unhide KS _ ((Below.refl _ W6.drew).alloc (Nat.le_refl _) (.cells #[.string nm, .slice (some ⟨g1, 0, none⟩) (ln + 1) cap1, .slice (some ⟨g2, 0, none⟩) (an + 1) cap2] 49))) (fun hHeld2 => ?_)
      clear hHeld
      have hHeld := hHeld2
      clear hHeld2 hK K
      try simp only [Act.put, List.setIfInBounds_toArray, List.set_cons_zero, List.set_cons_succ]
      refine wpAnyH_ready (rs := [0]) (by kernel_rfl) (by simp) ?_
      refine AllReadyH.cons (o := { dst := some 44, op := Op.buildSlice 39 0 #[], type := 39, pos := "ref.go:121", after := #[], guard := none }) rfl (fun K hK => ?_) AllReadyH.nil
      go_simp
      refine hK.out _ _ (unhide KS _ ((((Below.refl _ W6.drew).alloc (Nat.le_refl _) (.cells #[.string nm, .slice (some ⟨g1, 0, none⟩) (ln + 1) cap1, .slice (some ⟨g2, 0, none⟩) (an + 1) cap2] 49))).alloc (by simp) (.cells #[] 49))) (fun hHeld2 => ?_)
      clear hHeld
      have hHeld := hHeld2
      clear hHeld2 hK K
      try simp only [Act.put, List.setIfInBounds_toArray, List.set_cons_zero, List.set_cons_succ]
      refine wpAnyH_ready (rs := [6]) (by kernel_rfl) (by simp) ?_
      refine AllReadyH.cons (o := { dst := some 50, op := Op.call { callee := Callee.builtin Builtin.append, args := #[Operand.tmp 44, Operand.tmp 49], argTypes := #[39, 39] }, type := 39, pos := "ref.go:121", after := #[{ on := 0, ground := Ground.data }, { on := 5, ground := Ground.data }], guard := none }) rfl (fun K hK => ?_) AllReadyH.nil
      refine step_run (by rfl) (.tmp 44) (.tmp 49) 39 rfl _ _ rfl rfl _ _ rc1 ?_
      refine hK.out _ _ (unhide KS _ (unhide BC1)) (fun hHeld2 => ?_)
      clear hHeld
      have hHeld := hHeld2
      clear hHeld2 hK K
      try simp only [Act.put, List.setIfInBounds_toArray, List.set_cons_zero, List.set_cons_succ]
      refine wpAnyH_ready (rs := [9]) (by kernel_rfl) (by simp) ?_
      refine AllReadyH.cons (o := { dst := some 53, op := Op.call { callee := Callee.builtin Builtin.append, args := #[Operand.tmp 50, Operand.tmp 52], argTypes := #[39, 39] }, type := 39, pos := "ref.go:121", after := #[{ on := 6, ground := Ground.data }, { on := 8, ground := Ground.data }, { on := 6, ground := Ground.chain }], guard := none }) rfl (fun K hK => ?_) AllReadyH.nil
      refine step_run (by rfl) (.tmp 50) (.tmp 52) 39 rfl _ _ rfl rfl _ _ rc2 ?_
      refine hK.out _ _ (unhide KS _ (unhide BC)) (fun hHeld2 => ?_)
      clear hHeld
      have hHeld := hHeld2
      clear hHeld2 hK K
      try simp only [Act.put, List.setIfInBounds_toArray, List.set_cons_zero, List.set_cons_succ]
      refine wpAnyH_take (i := 10) (oi := { dst := some 6, op := Op.assign (Operand.tmp 53), type := 39, pos := "ref.go:121", after := #[{ on := 9, ground := Ground.data }, { on := 9, ground := Ground.chain }, { on := 0, ground := Ground.phase }, { on := 1, ground := Ground.phase }, { on := 2, ground := Ground.phase }, { on := 3, ground := Ground.phase }, { on := 4, ground := Ground.phase }, { on := 5, ground := Ground.phase }, { on := 6, ground := Ground.phase }, { on := 7, ground := Ground.phase }, { on := 8, ground := Ground.phase }, { on := 9, ground := Ground.phase }], guard := none }) (v := ?_) rfl (by kernel_rfl) (by kernel_rfl) (by kernel_rfl) (fun _ _ _ h => h) (Or.inl ⟨by rfl, ?_⟩) (by assumption) ?_
      rotate_left
      · intro w hSw; (try dsimp only at hSw); go_simp; (try with_reducible rfl)
      try simp only [Act.put, List.setIfInBounds_toArray, List.set_cons_zero, List.set_cons_succ]
      refine wpAnyH_take (i := 11) (oi := { dst := some 7, op := Op.assign (Operand.const (Value.int IntKind.i64 0)), type := 3, pos := "ref.go:121", after := #[{ on := 10, ground := Ground.chain }, { on := 0, ground := Ground.phase }, { on := 1, ground := Ground.phase }, { on := 2, ground := Ground.phase }, { on := 3, ground := Ground.phase }, { on := 4, ground := Ground.phase }, { on := 5, ground := Ground.phase }, { on := 6, ground := Ground.phase }, { on := 7, ground := Ground.phase }, { on := 8, ground := Ground.phase }, { on := 9, ground := Ground.phase }, { on := 10, ground := Ground.phase }], guard := none }) (v := ?_) rfl (by kernel_rfl) (by kernel_rfl) (by kernel_rfl) (fun _ _ _ h => h) (Or.inl ⟨by rfl, ?_⟩) (by assumption) ?_
      rotate_left
      · intro w hSw; (try dsimp only at hSw); go_simp; (try with_reducible rfl)
      try simp only [Act.put, List.setIfInBounds_toArray, List.set_cons_zero, List.set_cons_succ]
      refine wpAnyH_done (by kernel_rfl) ?_ _
      go_wp2_with fail
      go_ret2
      exact ⟨_, g1, cap1, g2, cap2, rfl, unhide FIN _ _ _ (unhide HOC) (unhide BC)⟩
end Go.Proofs.YtocjcbdkihbbiaaDoor
