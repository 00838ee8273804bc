import Derived.Test.YtokgegbodbnimaaMsA
namespace Go.Proofs.Ytokgegbodbnimaa
open Go.RowKit Go.Maps

def u8 (bs : List Int) : List Value := bs.map (Value.int .u8)
theorem u8_len (bs : List Int) : (u8 bs).length = bs.length := by simp [u8]
theorem u8_app (a b : List Int) : u8 (a ++ b) = u8 a ++ u8 b := by simp [u8]
theorem u8_one (bs : List Int) : ∀ u ∈ u8 bs, u.oneCell' = true := fun u hu => by
  obtain ⟨x, _, rfl⟩ := List.mem_map.1 hu
  rfl
theorem u8_at (bs : List Int) (k : Nat) (h : k < bs.length) : (u8 bs)[k]? = some (.int .u8 bs[k]) := by simp [u8, h]
/-- BYTES IN A BLOCK OF THEIR HEADER'S. -/
def Bt (W : World) (h : Hd) (bs : List Int) : Prop := W.ownsRow 0 5 1 (hv h) h.n (u8 bs)
def bk (h : Hd) : Option Nat := h.a.map (·.block)
theorem bk_own (h : Hd) : (hv h).ownBlock = bk h := by
  obtain ⟨a, n, c⟩ := h
  cases a <;> rfl
theorem Bt.len {W : World} {h : Hd} {bs : List Int} (b : Bt W h bs) : bs.length = h.n := by
  have := b.1
  rw [u8_len] at this
  omega
theorem Bt.lt {W : World} {h : Hd} {bs : List Int} (b : Bt W h bs) {g : Nat} (e : bk h = some g) : g < W.heap.size := (World.ownsRow.lt b g ((bk_own h).trans e)).2
theorem Bt.same {W W2 : World} {h : Hd} {bs : List Int} (b : Bt W h bs) (q : ∀ g, bk h = some g → W2.heap[g]? = W.heap[g]?) : Bt W2 h bs := by
  refine ⟨b.1, ?_⟩
  rcases b.2 with z | ⟨g, cap, cur, h1, h2, h3, h4⟩
  · exact .inl z
  · refine .inr ⟨g, cap, cur, h1, h2, (q g ?_).trans h3, h4⟩
    rw [← bk_own, h1]
    rfl
theorem Bt.fx {P : Nat → Prop} {W W2 : World} {h : Hd} {bs : List Int} (b : Bt W h bs) (f : Fx P W W2) (hp : ∀ g, bk h = some g → ¬ P g) : Bt W2 h bs := b.same fun g e => f.blk g (b.lt e) (hp g e)
theorem Bt.later {W W2 : World} {h : Hd} {bs : List Int} (b : Bt W h bs) (f : Below W.heap.size W W2) : Bt W2 h bs := b.same fun g e => f.block g (b.lt e)
theorem Bt.form {W : World} {h : Hd} {bs : List Int} (b : Bt W h bs) : (h = ⟨none, 0, 0⟩ ∧ bs = []) ∨ ∃ g cur, h.a = some ⟨g, 0, none⟩ ∧ W.heap[g]? = some (.cells cur 5 (0, 0)) ∧ h.n ≤ h.c ∧ h.c ≤ maxLen ∧ cur.size = h.c ∧ cur.toList.take h.n = u8 bs := by
  have hl := b.len
  obtain ⟨a, n, c⟩ := h
  rcases b.2 with ⟨h1, h2⟩ | ⟨g, cap, cur, h1, h2, h3, h4, h5, h6, h7⟩
  · unfold hv at h1
    injection h1 with e1 e2 e3
    simp only at e1 e2 e3 hl
    subst e1 e2 e3
    exact .inl ⟨rfl, List.length_eq_zero_iff.1 hl⟩
  · unfold hv at h1
    injection h1 with e1 e2 e3
    simp only at e1 e2 e3
    subst e1 e3
    exact .inr ⟨g, cur, rfl, h3, h4, h5, by simpa using h6, by simpa using h7⟩
theorem Bt.nil (W : World) : Bt W ⟨none, 0, 0⟩ [] := ⟨rfl, .inl ⟨rfl, rfl⟩⟩
/-- Bytes as they lie, to be read. -/
def Rb (W : World) (pa : Option Addr) (bs : List Int) : Prop := bs = [] ∨ ∃ b o, pa = some ⟨b, o, none⟩ ∧ b < W.heap.size ∧ ∀ (j : Nat) u, (u8 bs)[j]? = some u → W.cell? ⟨b, o + j, none⟩ = some u
theorem Rb.later {W W2 : World} {pa : Option Addr} {bs : List Int} (h : Rb W pa bs) (f : Below W.heap.size W W2) : Rb W2 pa bs := by
  rcases h with h | ⟨b, o, h1, h2, h3⟩
  · exact .inl h
  · exact .inr ⟨b, o, h1, Nat.lt_of_lt_of_le h2 f.size, fun j u hj => (f.cell (p := ⟨b, o + j, none⟩) h2).trans (h3 j u hj)⟩
theorem Bt.rb {W : World} {h : Hd} {bs : List Int} (b : Bt W h bs) : Rb W h.a bs := by
  rcases b.form with ⟨_, e⟩ | ⟨g, cur, e, hg, _, _, _, ht⟩
  · exact .inl e
  · refine .inr ⟨g, 0, e, blk_lt hg, fun j u hj => ?_⟩
    rw [Nat.zero_add, (cell_blk hg j).1]
    rw [← ht, List.getElem?_take] at hj
    split at hj
    · simpa using hj
    · cases hj
theorem info5 : (Try.prog.info? 5).map (fun i => (i.zero, i.size, i.bytes)) = some (some (.int .u8 0), 1, 1) := by kernel_rfl
theorem grew (w : World) (cs : Array Value) (e : TypeId) : Below w.heap.size w (w.drew.alloc (.cells cs e)) := (Below.refl _ w).drew.alloc (Nat.le_refl _) _
theorem set_row_blk {W : World} {g : Nat} {cur cs : Array Value} {t : TypeId} {f : Nat × Nat} (h : W.heap[g]? = some (.cells cur t f)) : (W.setRow g cs).heap[g]? = some (.cells cs t f) := setRow_heap W g cur cs t f h
/-- BYTES PUT BEHIND A FILE'S: in its own block, or in a new one. -/
theorem app_in {W : World} {h : Hd} {bs cs : List Int} (b : Bt W h bs) (xa : Option Addr) (xc : Nat) (hx : Rb W xa cs) (hz : h.n + cs.length ≤ 70368744177664) (ty : TypeId) :
    ∃ h' W', (Builtin.append_ #[22, 22] ty #[hv h, .slice xa cs.length xc]).run Try.prog W = .ok (hv h') W' ∧ Bt W' h' (bs ++ cs) ∧ h'.n = h.n + cs.length ∧ (bk h' = bk h ∨ bk h' = some W.heap.size) ∧ Fx (fun g => bk h = some g) W W' ∧
      ∀ h2 bs2, Bt W h2 bs2 → (∀ g, bk h2 = some g → bk h = some g → h2.n ≤ h.n) → Bt W' h2 bs2 := by
  obtain ⟨i0, hi, hz0, hz1, hz2⟩ := info_parts info5
  have ht := Try.underlying22
  have hml : h.n + cs.length ≤ maxLen := Nat.le_trans hz (by decide)
  rcases hx with rfl | ⟨xb, xo, rfl, hxl, hxc⟩
  · have hr : (Builtin.append_ #[22, 22] ty #[hv h, .slice xa 0 xc]).run Try.prog W = .ok (hv h) W := by
      have hle : h.n ≤ h.c := by
        rcases b.form with ⟨e, _⟩ | ⟨g, cur, _, _, q, _⟩
        · rw [e]; exact Nat.le_refl _
        · exact q
      have hl : ∀ (x : Addr), (loadCells x 0).run Try.prog W = .ok #[] W := fun x => by simpa using run_loadCells_list (P := Try.prog) W x [] (by simp)
      obtain ⟨a, n, c⟩ := h
      unfold hv
      cases a <;> cases xa <;> simp [Builtin.append_, run_underlying ht, sizeOf, typeInfo, hi, Builtin.lenOf, Builtin.firstCells, storeCells, hl, hle]
    exact ⟨h, W, hr, by simpa using b, rfl, .inl rfl, Fx.refl _ _, fun h2 bs2 q _ => q⟩
  · have hnews : ∀ j u, (u8 cs)[j]? = some u → W.cell? ((⟨xb, xo, none⟩ : Addr).add j) = some u := fun j u hj => by rw [Addr.add_mid]; exact hxc j u hj
    have hlen : (u8 cs).length = cs.length * i0.size := by rw [u8_len, hz1]; omega
    by_cases hm : cs.length = 0
    · obtain rfl : cs = [] := List.length_eq_zero_iff.1 hm
      have hr : (Builtin.append_ #[22, 22] ty #[hv h, .slice (some ⟨xb, xo, none⟩) 0 xc]).run Try.prog W = .ok (hv h) W := by
        have hle : h.n ≤ h.c := by
          rcases b.form with ⟨e, _⟩ | ⟨g, cur, _, _, q, _⟩
          · rw [e]; exact Nat.le_refl _
          · exact q
        have hl : ∀ (x : Addr), (loadCells x 0).run Try.prog W = .ok #[] W := fun x => by simpa using run_loadCells_list (P := Try.prog) W x [] (by simp)
        obtain ⟨a, n, c⟩ := h
        unfold hv
        cases a <;> simp [Builtin.append_, run_underlying ht, sizeOf, typeInfo, hi, Builtin.lenOf, Builtin.firstCells, storeCells, hl, hle]
      exact ⟨h, W, hr, by simpa using b, rfl, .inl rfl, Fx.refl _ _, fun h2 bs2 q _ => q⟩
    · have hl := b.len
      have mk : ∀ (W' : World) (a' : Option Addr) (c' : Nat), W'.ownsRow 0 5 1 (.slice a' (h.n + cs.length) c') (h.n + cs.length) (u8 bs ++ u8 cs) → Bt W' ⟨a', h.n + cs.length, c'⟩ (bs ++ cs) := fun W' a' c' q => by
        unfold Bt
        rw [u8_app]
        exact q
      obtain ⟨v', W', hr, h2, h3, _, h5⟩ := run_append_own_at (P := Try.prog) W 0 22 ty 5 i0 (.int .u8 0) 1 1 ht hi hz0 hz1 hz2 rfl (by decide) (hv h) h.n (u8 bs) b ⟨xb, xo, none⟩ cs.length xc (u8 cs) (by rw [u8_len]; omega) hnews (u8_one _) hml (by omega) (Nat.zero_le _)
      obtain ⟨a', c', rfl⟩ := owns_form h2
      refine ⟨⟨a', h.n + cs.length, c'⟩, W', hr, mk W' a' c' h2, rfl, ?_, ⟨⟨h3.1, h3.2, h3.3, h3.size, fun _ q => absurd q (Nat.not_lt_zero _)⟩, fun g hg hn => h3.block g hg fun q => hn (by rw [← bk_own]; exact q.symm)⟩, ?_⟩
      · rcases h5 with h5 | h5
        · left
          rw [← bk_own, ← bk_own]
          exact h5
        · right
          rw [← bk_own]
          exact h5
      · intro h4 bs4 b4 hle
        rcases b.form with ⟨e, _⟩ | ⟨g, cur, e, hg, hnc, hcm, hcs, htk⟩
        · refine b4.same fun g eg => h3.block g (b4.lt eg) ?_
          rw [e]
          intro q
          cases q
        · have he : hv h = .slice (some ⟨g, 0, none⟩) h.n h.c := by unfold hv; rw [e]
          by_cases hroom : h.n + cs.length ≤ h.c
          · have hr2 := run_append_room (P := Try.prog) W 22 ty 5 i0 ht hi g h.n h.c cur hg ⟨xb, xo, none⟩ cs.length xc (u8 cs) hlen hnews (u8_one _) hroom (by rw [u8_len, hz1]; omega)
            rw [he, hr2] at hr
            injection hr with _ hr
            subst hr
            rw [hz1] at h2 h3 ⊢
            rcases b4.form with ⟨e4, _⟩ | ⟨g4, cur4, e4, hg4, hnc4, hcm4, hcs4, htk4⟩
            · refine b4.same fun z ez => ?_
              rw [e4] at ez
              cases ez
            · by_cases eg : g4 = g
              · subst eg
                rw [hg] at hg4
                injection hg4 with hg4
                injection hg4 with hg4 _ _
                subst hg4
                have hnn := hle g4 (by unfold bk; rw [e4]; rfl) (by unfold bk; rw [e]; rfl)
                refine ⟨b4.1, .inr ⟨g4, h4.c, _, by unfold hv; rw [e4], Nat.zero_le _, set_row_blk hg, hnc4, hcm4, ?_, ?_⟩⟩
                · simp only [List.size_toArray, List.length_append, List.length_take, List.length_drop, Array.length_toList, u8_len]
                  omega
                · simp only [Nat.mul_one]
                  rw [List.append_assoc, List.take_append_of_le_length (by simp; omega), List.take_take, Nat.min_eq_left hnn]
                  exact htk4
              · refine b4.same fun z ez => h3.block z (b4.lt ez) ?_
                intro q
                have : z = g4 := by
                  unfold bk at ez
                  rw [e4] at ez
                  cases ez
                  rfl
                rw [he] at q
                cases q
                exact eg this.symm
          · have hr2 := run_append_grow (P := Try.prog) W 22 ty 5 i0 (.int .u8 0) ht hi hz0 ⟨g, 0, none⟩ h.n h.c (u8 bs) (by rw [u8_len, hz1]; omega) (fun j u hj => World.ownsRow.cells b (g := g) (by rw [he]; rfl) j u hj) ⟨xb, xo, none⟩ cs.length xc (u8 cs) hlen hnews (by omega) (by omega) (growslice_fits (by omega) (by rw [hz2]; omega))
            rw [he, hr2] at hr
            injection hr with _ hr
            subst hr
            exact b4.later (grew _ _ _)
end Go.Proofs.Ytokgegbodbnimaa
