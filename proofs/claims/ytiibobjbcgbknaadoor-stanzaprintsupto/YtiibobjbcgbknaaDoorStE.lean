import Derived.Test.YtiibobjbcgbknaaDoorStD
namespace Go.Proofs.YtiibobjbcgbknaaDoor
open Go.RowKit

theorem extL_snoc (k : Nat) (s : Bs) (f : Fd) : ∀ p : List Fd, extL k s (p ++ [f]) = p ++ [⟨f.nm, f.ls ++ [Lib.trimRightS (s.drop 1) bl2], f.ns ++ [k]⟩]
  | [] => rfl
  | [g] => rfl
  | g :: h :: r => by
    have := extL_snoc k s f (h :: r)
    show g :: extL k s (h :: (r ++ [f])) = _
    rw [show h :: (r ++ [f]) = (h :: r) ++ [f] from rfl, this]
    rfl
theorem cells3_len (xs : List Fs) : (xs.flatMap cells3).length = xs.length * 3 := by
  induction xs with
  | nil => rfl
  | cons x r ih => simp only [List.flatMap_cons, List.length_append, ih, List.length_cons]; show 3 + _ = _; omega
theorem cells3_at (ys : List Fs) (x : Fs) (zs : List Fs) (j : Nat) (hj : j < 3) : ((ys ++ x :: zs).flatMap cells3)[ys.length * 3 + j]? = (cells3 x)[j]? := by
  rw [List.flatMap_append, List.getElem?_append_right (by rw [cells3_len]; omega), cells3_len, List.flatMap_cons, List.getElem?_append_left (by show _ < 3; omega)]
  congr 1
  omega

set_option maxRecDepth 100000 in
set_option maxHeartbeats 2000000 in
theorem goOn_none (base B : Nat) (k : Int) (s : ByteArray) (w : World) (hP : Par base B w []) :
    Calls Tryd.prog 73 #[.pointer (some ⟨B, 0, none⟩), .int .i64 k, .string s] w fun e w' => e = .returned (.int .i64 32) ∧ w' = w := by
  obtain ⟨v, mv, xs, hB, hx, hpf, _⟩ := hP.sh
  have hx0 : xs = [] := List.map_eq_nil_iff.1 hx
  subst hx0
  have hv : ∃ a c, v = .slice a 0 c := by
    rcases hpf.row.2 with ⟨h, _⟩ | ⟨g, cap, cur, h, _⟩
    · exact ⟨_, _, h⟩
    · exact ⟨_, _, h⟩
  obtain ⟨a, c, rfl⟩ := hv
  have c0 : w.cell? ⟨B, 0, none⟩ = some (.slice a 0 c) := by simp [World.cell?, hB]
  clear hpf hx hB hP
  go_enter Tryd.func73, Tryd.ntmps73
  go_wp2
  go_ret
  exact ⟨rfl, rfl⟩

theorem bl_d {w w1 w2 : World} (h : Below w.heap.size w w1) (h2 : Below w1.drew.heap.size w1.drew w2) : Below w.heap.size w w2 := (h.drew).trans (h2.mono h.drew.size)
theorem ca {W : World} {a : Addr} {v : Value} (o : Obj) (h : W.cell? a = some v) : (W.alloc o).cell? a = some v := cell_kept h (World.grownBy_alloc W o none) (fun r e => by cases e)
theorem grown_at {W W2 : World} {o : Obj} {r : Nat} (h : (W.alloc o).grownBy W2 (some r)) {k : Nat} (hk : k < W.heap.size) (hr : k ≠ r) : W2.heap[k]? = W.heap[k]? :=
  (h.block k (by simp; omega) (by simpa using hr)).trans (Below.heap_alloc W o k hk)
theorem cell_blk {W : World} {g : Nat} {cur : Array Value} {t : TypeId} (h : W.heap[g]? = some (.cells cur t (0, 0))) (j : Nat) : W.cell? ⟨g, j, none⟩ = cur[j]? ∧ W.frozen? ⟨g, j, none⟩ = false := by
  constructor
  · simp [World.cell?, h]
  · simp [World.frozen?, h]
theorem set_blk {W : World} {g : Nat} {cur : Array Value} {t : TypeId} (h : W.heap[g]? = some (.cells cur t (0, 0))) (j : Nat) (u : Value) : (W.setCell ⟨g, j, none⟩ u).heap[g]? = some (.cells (cur.setIfInBounds j u) t (0, 0)) := by
  obtain ⟨hlt, hk⟩ := Array.getElem?_eq_some_iff.1 h
  show (W.heap.modify g _)[g]? = _
  rw [Array.getElem?_eq_getElem (by rw [Array.size_modify]; exact hlt), Array.getElem_modify_self, hk]
  rfl
theorem set_other (W : World) (g j : Nat) (u : Value) (k : Nat) (hk : k ≠ g) : (W.setCell ⟨g, j, none⟩ u).heap[k]? = W.heap[k]? := Below.heap_setCell W ⟨g, j, none⟩ u k hk
theorem set_size (W : World) (g j : Nat) (u : Value) : (W.setCell ⟨g, j, none⟩ u).heap.size = W.heap.size := by
  show (W.heap.modify g _).size = _
  rw [Array.size_modify]
theorem slice_of {W : World} {base : Nat} {e : TypeId} {size n : Nat} {v : Value} {xs : List Value} (h : W.ownsRow base e size v (n + 1) xs) : ∃ g cap cur, v = .slice (some ⟨g, 0, none⟩) (n + 1) cap ∧ W.heap[g]? = some (.cells cur e (0, 0)) ∧ base ≤ g ∧ cur.toList.take ((n + 1) * size) = xs ∧ (n + 1) * size ≤ cur.size := by
  rcases h.2 with ⟨_, h0⟩ | ⟨g, cap, cur, rfl, hb, hg, r1, _, r3, r4⟩
  · omega
  · exact ⟨g, cap, cur, rfl, hg, hb, r4, by rw [r3]; exact Nat.mul_le_mul_right _ r1⟩
theorem take_get {cur : Array Value} {n : Nat} {xs : List Value} (h : cur.toList.take n = xs) {j : Nat} {u : Value} (hj : xs[j]? = some u) : cur[j]? = some u := by
  have hlt : j < n := by
    have := (List.getElem?_eq_some_iff.1 hj).1
    rw [← h, List.length_take] at this
    omega
  rw [← h, List.getElem?_take_of_lt hlt, Array.getElem?_toList] at hj
  exact hj

theorem drop1_ba (s : Bs) : (ba s).extract 1 (ba s).size = ba (s.drop 1) := by
  have h := Lib.extract_toList (ba s) 1 (ba s).size
  rw [Lib.toList_data, ba_list] at h
  rw [← ba_of ((ba s).extract 1 (ba s).size), h, ba_size]
  congr 1
  exact List.take_of_length_le (by simp)

set_option maxRecDepth 100000 in
set_option maxHeartbeats 4000000 in
theorem goOn_walk (base B g m cap : Nat) (cur : Array Value) (x : Fs) (k : Nat) (sb tb : ByteArray) (w : World) (hs1 : (1 : Int) ≤ (sb.size : Int))
    (c0 : ∀ w, Calls Tryd.prog 64 #[.string (sb.extract 1 sb.size), .string ⟨#[32, 9]⟩] w fun e w' => e = .returned (.string tb) ∧ Below w.heap.size w w')
    (hB : w.cell? ⟨B, 0, none⟩ = some (.slice (some ⟨g, 0, none⟩) (m + 1) cap)) (hg : w.heap[g]? = some (.cells cur 49 (0, 0)))
    (h1 : cur[m * 3 + 1]? = some x.lv) (h2 : cur[m * 3 + 2]? = some x.av) (hx : Fok base w x) (hm : m < 16777216) (hL : x.f.ls.length ≤ 16777216) (hN : x.f.ns.length ≤ 16777216) (hb : base ≤ w.heap.size) :
    Calls Tryd.prog 73 #[.pointer (some ⟨B, 0, none⟩), .int .i64 k, .string sb] w fun e w5 => e = .returned (.int .i64 0) ∧
      ∃ w1 w2 w4 v2 v4, Below w.heap.size w w1 ∧ (w1.alloc (.cells #[.string tb] 9)).grownBy w2 (some x.lg) ∧ w2.ownsRow base 9 1 v2 (x.f.ls.length + 1) (strs x.f.ls ++ [.string tb]) ∧ (v2.ownBlock = some x.lg ∨ v2.ownBlock = some (w1.heap.size + 1)) ∧
        ((w2.setCell ⟨g, m * 3 + 1, none⟩ v2).alloc (.cells #[.int .i64 k] 3)).grownBy w4 (some x.ag) ∧ w4.ownsRow base 3 1 v4 (x.f.ns.length + 1) (ints x.f.ns ++ [.int .i64 k]) ∧ (v4.ownBlock = some x.ag ∨ v4.ownBlock = some (w2.heap.size + 1)) ∧ w5 = w4.setCell ⟨g, m * 3 + 2, none⟩ v4 := by
  obtain ⟨i9, hi9, z9a, z9b, z9c⟩ := info_parts info9
  obtain ⟨i3, hi3, z3a, z3b, z3c⟩ := info_parts info3
  have c1 := hide c0
  clear c0
  have cg1 := (cell_blk hg (m * 3 + 1)).1.trans h1
  have cg2 := (cell_blk hg (m * 3 + 2)).1.trans h2
  go_enter Tryd.func73, Tryd.ntmps73
  go_wp2
  go_region
  go_wp2
  have glt : g < w.heap.size := (Array.getElem?_eq_some_iff.1 hg).1
  have gl : g ≠ x.lg := by
    obtain ⟨c, hc, _⟩ := ownsRow_blk hx.l (g := x.lg) rfl
    intro e
    subst e
    rw [hg] at hc
    cases hc
  have ga : g ≠ x.ag := by
    obtain ⟨c, hc, _⟩ := ownsRow_blk hx.a (g := x.ag) rfl
    intro e
    subst e
    rw [hg] at hc
    cases hc
  have la : x.ag ≠ x.lg := by
    obtain ⟨c, hc, _⟩ := ownsRow_blk hx.a (g := x.ag) rfl
    obtain ⟨c2, hc2, _⟩ := ownsRow_blk hx.l (g := x.lg) rfl
    intro e
    rw [e, hc2] at hc
    cases hc
  have llt : x.lg < w.heap.size := (ownsRow_blk hx.l (g := x.lg) rfl).choose_spec.2.2
  have alt : x.ag < w.heap.size := (ownsRow_blk hx.a (g := x.ag) rfl).choose_spec.2.2
  have fg1 := (cell_blk hg (m * 3 + 1)).2
  go_region_law (first | (go_simp; go_at_call 64; refine (unhide c1 _).mono ?_; rintro e w1 ⟨rfl, hbw⟩; have HB1 := hide (show Below w.heap.size w w1 from bl_d (w := w) (w1 := w.drew) (Below.refl _ _).drew hbw); have HG1 := hide (((unhide HB1).block g glt).trans hg); have e1 := (cell_blk (unhide HG1) (m * 3 + 1)).1.trans h1; have e1b := ca (.cells #[.string tb] 9) e1; have HZ1 := hide (show w.heap.size ≤ w1.heap.size from (unhide HB1).size); clear hbw) | (refine step_append_own (by rfl) _ _ 46 (by rfl) base 9 i9 (.string ⟨#[]⟩) 1 16 Tryd.underlying46 hi9 z9a z9b z9c rfl (by decide) x.lv x.f.ls.length (strs x.f.ls) (by rfl) ((ownsRow_same hx.l (fun k _ hk _ => (unhide HB1).block k (by cases hk; exact llt))).alloc _) ⟨w1.heap.size, 0, none⟩ 1 1 [.string tb] (by rfl) rfl (cell_one_new _ _ _) (by simp [Value.oneCell']) (by unfold maxLen; omega) (by omega) (by have := unhide HZ1; simp; omega) ?_; intro v2 w2 hown2 hgrow2 hv2; have HG2 := hide ((grown_at hgrow2 (by have := unhide HZ1; omega) gl).trans (unhide HG1)); have e2 := (cell_blk (unhide HG2) (m * 3 + 1)).1.trans h1; have f2 := (cell_blk (unhide HG2) (m * 3 + 1)).2; have HO2 := hide hown2; have HW2 := hide hgrow2; have HV2 := hide hv2; obtain ⟨g2, cap2, cur2, rfl, -⟩ := slice_of hown2; clear hown2 hgrow2 hv2))
  all_goals
    have hz1 := unhide HZ1
    have hz2 : w1.heap.size + 1 ≤ w2.heap.size := by have := (unhide HW2).size; simpa using this
    have HA2 := hide ((grown_at (unhide HW2) (k := x.ag) (by omega) la).trans ((unhide HB1).block x.ag alt))
    have e3 : (w2.setCell ⟨g, m * 3 + 1, none⟩ (.slice (some ⟨g2, 0, none⟩) (x.f.ls.length + 1) cap2)).cell? ⟨g, m * 3 + 2, none⟩ = some x.av := by
      rw [co _ _ _ _ (by intro h; simp at h)]
      exact (cell_blk (unhide HG2) (m * 3 + 2)).1.trans h2
    have HX3 := hide (show (w2.setCell ⟨g, m * 3 + 1, none⟩ (.slice (some ⟨g2, 0, none⟩) (x.f.ls.length + 1) cap2)).ownsRow base 3 1 x.av x.f.ns.length (ints x.f.ns) from ownsRow_same hx.a fun k _ hk _ => by
      obtain rfl : x.ag = k := by simpa [Value.ownBlock] using hk
      rw [set_other _ _ _ _ _ ga.symm]
      exact unhide HA2)
    have HG3 := hide (set_blk (unhide HG2) (m * 3 + 1) (.slice (some ⟨g2, 0, none⟩) (x.f.ls.length + 1) cap2))
    have HZ3 := hide (set_size w2 g (m * 3 + 1) (.slice (some ⟨g2, 0, none⟩) (x.f.ls.length + 1) cap2))
    have HE3 := hide e3
    generalize hw3 : w2.setCell ⟨g, m * 3 + 1, none⟩ (.slice (some ⟨g2, 0, none⟩) (x.f.ls.length + 1) cap2) = w3 at *
    have HW3 := hide hw3
    clear hw3
    go_wp2_with (at_builtin; go_must (refine wpList_append_own_at _ rfl _ _ 47 rfl base 3 i3 (.int .i64 0) 1 8 Tryd.underlying47 hi3 z3a z3b z3c rfl (by decide) x.av x.f.ns.length (ints x.f.ns) rfl ((unhide HX3).alloc _) ⟨w3.heap.size, 0, none⟩ 1 1 [.int .i64 k] rfl rfl (cell_one_new _ _ _) (by simp [Value.oneCell']) (by unfold maxLen; omega) (by omega) (by have := unhide HZ3; simp; omega) ?_); intro v4 w4 hown4 hgrow4 _ hv4; have HG4 := hide ((grown_at hgrow4 (by have := unhide HZ3; omega) ga).trans (unhide HG3)); have e4 : ∃ u, w4.cell? ⟨g, m * 3 + 2, none⟩ = some u := ⟨_, (cell_blk (unhide HG4) (m * 3 + 2)).1.trans ((cell_blk (unhide HG3) (m * 3 + 2)).1.symm.trans (unhide HE3))⟩; obtain ⟨u4, e4⟩ := e4; have f4 := (cell_blk (unhide HG4) (m * 3 + 2)).2; have HO4 := hide hown4; have HW4 := hide hgrow4; have HV4 := hide hv4; obtain ⟨g4, cap4, cur4, rfl, -⟩ := slice_of hown4; clear hown4 hgrow4 hv4)
    go_ret
    have h3 := unhide HW3
    subst h3
    refine ⟨rfl, w1, w2, w4, _, _, unhide HB1, unhide HW2, unhide HO2, ?_, unhide HW4, unhide HO4, ?_, rfl⟩
    · have := unhide HV2
      rw [World.size_alloc] at this
      exact this
    · have := unhide HV4
      have h5 := unhide HZ3
      rw [World.size_alloc, h5] at this
      exact this

end Go.Proofs.YtiibobjbcgbknaaDoor
