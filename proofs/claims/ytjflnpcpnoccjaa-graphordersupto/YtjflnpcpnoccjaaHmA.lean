import Derived.Test.YtjflnpcpnoccjaaGrE
import Derived.Test.YtjflnpcpnoccjaaHeC
import Derived.Test.YtjflnpcpnoccjaaTjH
namespace Go.Proofs.Ytjflnpcpnoccjaa
open Go.RowKit

/-! A heap of numbers, as a function on places. -/
def swf (f : Nat → Int) (i j k : Nat) : Int := if k = i then f j else if k = j then f i else f k
theorem swf_1 (f : Nat → Int) (i j : Nat) : swf f i j i = f j := if_pos rfl
theorem swf_2 (f : Nat → Int) (i j : Nat) : swf f i j j = f i := by
  unfold swf
  by_cases e : j = i
  · rw [if_pos e, e]
  · rw [if_neg e, if_pos rfl]
theorem swf_0 (f : Nat → Int) {i j k : Nat} (h1 : k ≠ i) (h2 : k ≠ j) : swf f i j k = f k := by
  unfold swf
  rw [if_neg h1, if_neg h2]
def fL (f : Nat → Int) (n : Nat) : List Int := (List.range n).map f
theorem fL_len (f : Nat → Int) (n : Nat) : (fL f n).length = n := by simp [fL]
theorem fL_at (f : Nat → Int) (n k : Nat) (h : k < n) : (fL f n)[k]? = some (f k) := by simp [fL, h]
theorem fL_succ (f : Nat → Int) (n : Nat) : fL f (n + 1) = fL f n ++ [f n] := by simp [fL, List.range_succ]
theorem fL_congr {f g : Nat → Int} {n : Nat} (h : ∀ k, k < n → f k = g k) : fL f n = fL g n := by
  unfold fL
  exact List.map_congr_left fun k hk => h k (List.mem_range.1 hk)
theorem fL_sets (f : Nat → Int) {n i j : Nat} (hi : i < n) (hj : j < n) : fL (swf f i j) n = ((fL f n).set i (f j)).set j (f i) := by
  apply List.ext_getElem?
  intro k
  by_cases hk : k < n
  · rw [fL_at _ _ _ hk, List.getElem?_set, List.getElem?_set]
    unfold swf
    by_cases e1 : j = k
    · subst e1
      by_cases e2 : j = i
      · simp [e2, fL_len, hi]
      · simp [e2, fL_len, hj]
    · have e1' : ¬ k = j := fun q => e1 q.symm
      by_cases e2 : i = k
      · subst e2
        simp [e1, fL_len, hi]
      · have e2' : ¬ k = i := fun q => e2 q.symm
        rw [if_neg e2', if_neg e1', if_neg e1, if_neg e2, fL_at _ _ _ hk]
  · rw [List.getElem?_eq_none (by rw [fL_len]; omega), List.getElem?_eq_none (by simp [fL_len]; omega)]
theorem fL_swf (f : Nat → Int) {n i j : Nat} (hi : i < n) (hj : j < n) : (fL (swf f i j) n).Perm (fL f n) := by
  have h1 : i < (fL f n).length := by rw [fL_len]; exact hi
  have h2 : j < (fL f n).length := by rw [fL_len]; exact hj
  have e : fL (swf f i j) n = ((fL f n).set i (fL f n)[j]).set j (fL f n)[i] := by
    rw [fL_sets f hi hj]
    have a1 : (fL f n)[j] = f j := by simp [fL]
    have a2 : (fL f n)[i] = f i := by simp [fL]
    rw [a1, a2]
  rw [e]
  exact List.set_set_perm h1 h2
def HO (f : Nat → Int) (n : Nat) : Prop := ∀ k, 0 < k → k < n → f ((k - 1) / 2) ≤ f k
theorem HO.min {f : Nat → Int} {n : Nat} (h : HO f n) : ∀ k, k < n → f 0 ≤ f k := fun k => by
  induction k using Nat.strongRecOn with
  | ind k ih =>
    intro hk
    by_cases e : k = 0
    · rw [e]; exact Int.le_refl _
    · exact Int.le_trans (ih ((k - 1) / 2) (by omega) (by omega)) (h k (by omega) hk)
/-- Right but for the place j, which may be too small. -/
def HU (f : Nat → Int) (n j : Nat) : Prop := (∀ k, 0 < k → k < n → k ≠ j → f ((k - 1) / 2) ≤ f k) ∧ ∀ k, 0 < k → k < n → (k - 1) / 2 = j → 0 < j → f ((j - 1) / 2) ≤ f k
theorem HU.start {f : Nat → Int} {n : Nat} (h : HO f n) : HU f (n + 1) n := ⟨fun k h1 h2 h3 => h k h1 (by omega), fun k h1 h2 h3 _ => by omega⟩
theorem HU.done {f : Nat → Int} {n j : Nat} (h : HU f n j) (hj : j = 0 ∨ f ((j - 1) / 2) ≤ f j) : HO f n := fun k h1 h2 => by
  by_cases e : k = j
  · subst e
    rcases hj with q | q
    · omega
    · exact q
  · exact h.1 k h1 h2 e
theorem HU.step {f : Nat → Int} {n j : Nat} (h : HU f n j) (hj : 0 < j) (hjn : j < n) (hlt : f j < f ((j - 1) / 2)) : HU (swf f ((j - 1) / 2) j) n ((j - 1) / 2) := by
  obtain ⟨i, hi⟩ : ∃ i, i = (j - 1) / 2 := ⟨_, rfl⟩
  rw [← hi] at hlt ⊢
  have hij : i < j := by omega
  refine ⟨fun k h1 h2 h3 => ?_, fun k h1 h2 h3 h4 => ?_⟩
  · by_cases e : k = j
    · subst e
      rw [← hi, swf_1, swf_2]
      exact Int.le_of_lt hlt
    · rw [swf_0 f h3 e]
      by_cases e2 : (k - 1) / 2 = j
      · rw [e2, swf_2]
        have := h.2 k h1 h2 e2 hj
        rwa [← hi] at this
      · by_cases e3 : (k - 1) / 2 = i
        · rw [e3, swf_1]
          have := h.1 k h1 h2 e
          rw [e3] at this
          omega
        · rw [swf_0 f e3 e2]
          exact h.1 k h1 h2 e
  · have hp : f ((i - 1) / 2) ≤ f i := h.1 i h4 (by omega) (by omega)
    rw [swf_0 f (k := (i - 1) / 2) (by omega) (by omega)]
    by_cases e : k = j
    · subst e
      rw [swf_2]
      exact hp
    · rw [swf_0 f (by omega) e]
      have := h.1 k h1 h2 e
      rw [h3] at this
      omega
/-- Right but for the place i, which may be too great. -/
def HD (f : Nat → Int) (n i : Nat) : Prop := (∀ k, 0 < k → k < n → (k - 1) / 2 ≠ i → f ((k - 1) / 2) ≤ f k) ∧ ∀ k, 0 < k → k < n → (k - 1) / 2 = i → 0 < i → f ((i - 1) / 2) ≤ f k
theorem HD.start {f : Nat → Int} {n : Nat} (h : HO f (n + 1)) : HD (swf f 0 n) n 0 := by
  refine ⟨fun k h1 h2 h3 => ?_, fun k _ _ _ h4 => by omega⟩
  rw [swf_0 f (by omega) (by omega), swf_0 f (by omega) (by omega)]
  exact h k h1 (by omega)
theorem HD.done {f : Nat → Int} {n i : Nat} (h : HD f n i) (hi : ∀ k, 0 < k → k < n → (k - 1) / 2 = i → f i ≤ f k) : HO f n := fun k h1 h2 => by
  by_cases e : (k - 1) / 2 = i
  · rw [e]; exact hi k h1 h2 e
  · exact h.1 k h1 h2 e
theorem HD.step {f : Nat → Int} {n i j : Nat} (h : HD f n i) (hj0 : 0 < j) (hjn : j < n) (hji : (j - 1) / 2 = i) (hmin : ∀ k, 0 < k → k < n → (k - 1) / 2 = i → f j ≤ f k) (hlt : f j < f i) : HD (swf f i j) n j := by
  have hij : i < j := by omega
  refine ⟨fun k h1 h2 h3 => ?_, fun k h1 h2 h3 h4 => ?_⟩
  · by_cases e : (k - 1) / 2 = i
    · rw [e, swf_1]
      by_cases e2 : k = j
      · subst e2
        rw [swf_2]
        exact Int.le_of_lt hlt
      · rw [swf_0 f (by omega) e2]
        exact hmin k h1 h2 e
    · rw [swf_0 f e h3]
      by_cases e2 : k = i
      · subst e2
        rw [swf_1]
        exact h.2 j hj0 hjn hji h1
      · rw [swf_0 f e2 (fun q => by subst q; exact e hji)]
        exact h.1 k h1 h2 e
  · rw [hji, swf_1, swf_0 f (by omega) (by omega)]
    have := h.1 k h1 h2 (by omega)
    rwa [h3] at this
end Go.Proofs.Ytjflnpcpnoccjaa

namespace Go.Proofs.Ytjflnpcpnoccjaa
open Go.RowKit

/-- THE QUEUE AS IT LIES. -/
structure Qu (Bq : Nat) (qa : Option Addr) (n c : Nat) (f : Nat → Int) (W : World) : Prop where
  blk : W.heap[Bq]? = some (.cells #[.slice qa n c] 78 (0, 0))
  own : W.ownsRow 0 3 1 (.slice qa n c) n (tV (fL f n))
theorem Qu.cell {Bq : Nat} {qa : Option Addr} {n c : Nat} {f : Nat → Int} {W : World} (h : Qu Bq qa n c f W) : W.cell? ⟨Bq, 0, none⟩ = some (.slice qa n c) ∧ W.frozen? ⟨Bq, 0, none⟩ = false := cell_blk h.blk 0
theorem Qu.form {Bq : Nat} {qa : Option Addr} {n c : Nat} {f : Nat → Int} {W : World} (h : Qu Bq qa n c f W) : (qa = none ∧ n = 0 ∧ c = 0) ∨ ∃ g, qa = some ⟨g, 0, none⟩ ∧ g < W.heap.size ∧ g ≠ Bq ∧ n ≤ c ∧ c ≤ maxLen := by
  rcases h.own.2 with ⟨h1, h2⟩ | ⟨g, cap, cur, h1, h2, h3, h4, h5, _⟩
  · injection h1 with q1 q2 q3
    exact .inl ⟨q1, q2, q3⟩
  · cases h1
    exact .inr ⟨g, rfl, blk_lt h3, fun e => blk_ne (by decide) h3 h.blk e.symm, h4, h5⟩
theorem tV_fL (f : Nat → Int) (n k : Nat) (hk : k < n) : (tV (fL f n))[k]? = some (.int .i64 (f k)) := by
  unfold tV
  rw [List.getElem?_map, fL_at f n k hk]
  rfl
theorem Qu.at {Bq g : Nat} {n c : Nat} {f : Nat → Int} {W : World} (h : Qu Bq (some ⟨g, 0, none⟩) n c f W) {k : Nat} (hk : k < n) : W.cell? ⟨g, k, none⟩ = some (.int .i64 (f k)) ∧ W.frozen? ⟨g, k, none⟩ = false := ⟨owns_at h.own k _ (tV_fL f n k hk), owns_fro h.own k⟩
/-- NOTHING BUT BLOCKS OF P HAS CHANGED. -/
def Fy (P : Nat → Prop) (W W2 : World) : Prop := Fx P W W2 ∧ Below 0 W W2
theorem Fy.bel {P : Nat → Prop} {W W2 : World} (h : Fy P W W2) {s : Nat} (hs : s ≤ W.heap.size) (hp : ∀ b, P b → s ≤ b) : Below s W W2 := ⟨h.2.os, h.2.tape, h.2.output, h.2.size, fun k hk => h.1.blk k (by omega) fun q => by have := hp k q; omega⟩
theorem Fy.trans {P : Nat → Prop} {A B C : World} (h : Fy P A B) (k : Fy P B C) : Fy P A C := ⟨h.1.trans k.1, h.2.trans k.2⟩
theorem Fy.of {P : Nat → Prop} {W W2 : World} (h : Below W.heap.size W W2) : Fy P W W2 := ⟨Fx.of h, h.mono (Nat.zero_le _)⟩
theorem Fy.set {P : Nat → Prop} {W W2 : World} (h : Fy P W W2) {g : Nat} (hp : P g) (j : Nat) (u : Value) : Fy P W (W2.setCell ⟨g, j, none⟩ u) := ⟨h.1.set hp j u, h.2.setCell (p := ⟨g, j, none⟩) (Nat.zero_le _) u⟩
theorem Fy.mono {P Q : Nat → Prop} {W W2 : World} (h : Fy P W W2) (hp : ∀ b, b < W.heap.size → P b → Q b) : Fy Q W W2 := ⟨⟨h.1.size, fun b hb hn => h.1.blk b hb fun q => hn (hp b hb q)⟩, h.2⟩
theorem Qu.later {Bq : Nat} {qa : Option Addr} {n c : Nat} {f : Nat → Int} {W W2 : World} (h : Qu Bq qa n c f W) (hb : Below W.heap.size W W2) : Qu Bq qa n c f W2 := ⟨(hb.block _ (blk_lt h.blk)).trans h.blk, owns_below h.own hb⟩
theorem Qu.fx {P : Nat → Prop} {Bq : Nat} {qa : Option Addr} {n c : Nat} {f : Nat → Int} {W W2 : World} (h : Qu Bq qa n c f W) (x : Fx P W W2) (hB : ¬ P Bq) (hg : ∀ g, qa = some ⟨g, 0, none⟩ → ¬ P g) : Qu Bq qa n c f W2 := by
  refine ⟨(x.blk Bq (blk_lt h.blk) hB).trans h.blk, own_same h.own fun b cur t hb eb => x.blk b (blk_lt hb) ?_⟩
  rcases h.form with ⟨q, _⟩ | ⟨g, q, _⟩
  · rw [q] at eb; cases eb
  · rw [q] at eb
    have e : g = b := by simpa [Value.ownBlock] using eb
    exact hg b (by rw [q, e])
theorem Qu.swap {Bq g : Nat} {n c : Nat} {f : Nat → Int} {W : World} (h : Qu Bq (some ⟨g, 0, none⟩) n c f W) {i j : Nat} (hi : i < n) (hj : j < n) : Qu Bq (some ⟨g, 0, none⟩) n c (swf f i j) (((W.setCell ⟨g, i, none⟩ (.int .i64 (f j))).setCell ⟨g, j, none⟩ (.int .i64 (f i))).drew) := by
  have hne : Bq ≠ g := by
    rcases h.form with ⟨q, _⟩ | ⟨g2, q, _, q2, _⟩
    · cases q
    · cases q; exact fun e => q2 e.symm
  have h1 : Qu Bq (some ⟨g, 0, none⟩) n c (swf f i j) ((W.setCell ⟨g, i, none⟩ (.int .i64 (f j))).setCell ⟨g, j, none⟩ (.int .i64 (f i))) := by
    refine ⟨(set_other _ _ _ _ _ hne).trans ((set_other _ _ _ _ _ hne).trans h.blk), ?_⟩
    have q := own_put (k := j) (own_put (k := i) h.own (.int .i64 (f j))) (.int .i64 (f i))
    have e : tV (fL (swf f i j) n) = ((tV (fL f n)).set i (.int .i64 (f j))).set j (.int .i64 (f i)) := by
      rw [fL_sets f hi hj]
      unfold tV
      rw [List.map_set, List.map_set]
    rw [e]
    exact q
  exact h1.later ((Below.refl _ _).drew)
/-! The interface's methods. -/
theorem qcell (Bq : Nat) (a : Option Addr) (n c : Nat) (w : World) (h : w.cell? ⟨Bq, 0, none⟩ = some (.slice a n c)) : (loadVar 76 ⟨Bq, 0, none⟩).run Try.prog w = .ok (.slice a n c) w := by
  simp [loadVar, go_sem, h]
set_option maxRecDepth 100000 in
theorem mLen (Bq : Nat) (a : Option Addr) (n c : Nat) (w : World) (h : w.cell? ⟨Bq, 0, none⟩ = some (.slice a n c)) : (method 216 75 (.pointer (some ⟨Bq, 0, none⟩)) "Len").run Try.prog w = .ok (67, .slice a n c) w := by
  have hf : Array.find? (fun x => x.name == "Len") Try.t75.methods = some { name := "Len", sig := 80, path := #[{ struct := 78, index := 0, deref := true }], func := some (67, false) } := by kernel_rfl
  unfold method
  simp [go_sem, hf, follow, receiverAt, Place.get, h]
set_option maxRecDepth 100000 in
theorem mLess (Bq : Nat) (a : Option Addr) (n c : Nat) (w : World) (h : w.cell? ⟨Bq, 0, none⟩ = some (.slice a n c)) : (method 216 75 (.pointer (some ⟨Bq, 0, none⟩)) "Less").run Try.prog w = .ok (96, .slice a n c) w := by
  have hf : Array.find? (fun x => x.name == "Less") Try.t75.methods = some { name := "Less", sig := 82, path := #[{ struct := 78, index := 0, deref := true }], func := some (96, false) } := by kernel_rfl
  unfold method
  simp [go_sem, hf, follow, receiverAt, Place.get, h]
set_option maxRecDepth 100000 in
theorem mSwap (Bq : Nat) (a : Option Addr) (n c : Nat) (w : World) (h : w.cell? ⟨Bq, 0, none⟩ = some (.slice a n c)) : (method 216 75 (.pointer (some ⟨Bq, 0, none⟩)) "Swap").run Try.prog w = .ok (100, .slice a n c) w := by
  have hf : Array.find? (fun x => x.name == "Swap") Try.t75.methods = some { name := "Swap", sig := 93, path := #[{ struct := 78, index := 0, deref := true }], func := some (100, false) } := by kernel_rfl
  unfold method
  simp [go_sem, hf, follow, receiverAt, Place.get, h]
theorem mPush (Bq : Nat) (w : World) : (method 216 75 (.pointer (some ⟨Bq, 0, none⟩)) "Push").run Try.prog w = .ok (98, .pointer (some ⟨Bq, 0, none⟩)) w := by kernel_rfl
theorem mPop (Bq : Nat) (w : World) : (method 216 75 (.pointer (some ⟨Bq, 0, none⟩)) "Pop").run Try.prog w = .ok (97, .pointer (some ⟨Bq, 0, none⟩)) w := by kernel_rfl
theorem qlen_any (a : Option Addr) (n c : Nat) (w : World) : Calls Try.prog 67 #[.slice a n c] w fun x w' => x = .returned (.int .i64 n) ∧ w' = w := by
  go_enter Try.func67, Try.ntmps67
  go_wp2
  go_ret
  exact ⟨rfl, rfl⟩
set_option maxRecDepth 100000 in
set_option maxHeartbeats 2000000 in
theorem qless_any {Bq g n c : Nat} {f : Nat → Int} {W : World} (h : Qu Bq (some ⟨g, 0, none⟩) n c f W) {i j : Nat} (hi : i < n) (hj : j < n) :
    Calls Try.prog 96 #[.slice (some ⟨g, 0, none⟩) n c, .int .i64 (i : Int), .int .i64 (j : Int)] W fun x w' => x = .returned (.bool (decide (f i < f j))) ∧ ∃ t, w' = W.drewN t := by
  have c1 := (h.at hi).1
  have c2 := (h.at hj).1
  have h1 : (i : Int) < (n : Int) := by omega
  have h2 : (j : Int) < (n : Int) := by omega
  clear h
  generalize f i = x at *
  generalize f j = y at *
  go_enter Try.func96, Try.ntmps96
  go_upto_region 1 with fail
  go_quiet (fail)
  go_wp2_with fail
  go_ret
  exact ⟨rfl, _, rfl⟩
set_option maxRecDepth 100000 in
set_option maxHeartbeats 4000000 in
theorem qswap_any {Bq g n c : Nat} {f : Nat → Int} {W : World} (h : Qu Bq (some ⟨g, 0, none⟩) n c f W) {i j : Nat} (hi : i < n) (hj : j < n) :
    Calls Try.prog 100 #[.slice (some ⟨g, 0, none⟩) n c, .int .i64 (i : Int), .int .i64 (j : Int)] W fun x w' => x = .returned (.tuple #[]) ∧ Qu Bq (some ⟨g, 0, none⟩) n c (swf f i j) w' ∧ Fy (fun b => b = g) W w' := by
  obtain ⟨c1, f1⟩ := h.at hi
  obtain ⟨c2, f2⟩ := h.at hj
  have h1 : (i : Int) < (n : Int) := by omega
  have h2 : (j : Int) < (n : Int) := by omega
  have HQ := hide (h.swap hi hj)
  have HF := hide (show Fy (fun b => b = g) W (((W.setCell ⟨g, i, none⟩ (.int .i64 (f j))).setCell ⟨g, j, none⟩ (.int .i64 (f i))).drew) from (((Fy.of (P := fun b => b = g) (Below.refl _ W)).set rfl i _).set rfl j _).trans (Fy.of ((Below.refl _ _).drew)))
  obtain ⟨u, c3⟩ : ∃ u, (W.setCell ⟨g, i, none⟩ (.int .i64 (f j))).cell? ⟨g, j, none⟩ = some u := by
    have q := own_put (k := i) h.own (.int .i64 (f j))
    have hl : j < ((tV (fL f n)).set i (.int .i64 (f j))).length := by simp [tV, fL_len, hj]
    exact ⟨_, owns_at q j _ (List.getElem?_eq_getElem hl)⟩
  clear h
  generalize swf f i j = f9 at *
  generalize f i = x at *
  generalize f j = y at *
  go_enter Try.func100, Try.ntmps100
  go_upto_region 0 with fail
  go_big_region
  go_end0
  exact ⟨rfl, unhide HQ, unhide HF⟩
end Go.Proofs.Ytjflnpcpnoccjaa

namespace Go.Proofs.Ytjflnpcpnoccjaa
open Go.RowKit

set_option maxRecDepth 100000 in
set_option maxHeartbeats 4000000 in
/-- heap.up. -/
theorem up_any {Bq g n c j0 : Nat} {f0 : Nat → Int} {W : World} (hn : n ≤ 4194304) (h : Qu Bq (some ⟨g, 0, none⟩) n c f0 W) (hu : HU f0 n j0) (hj : j0 < n) :
    Calls Try.prog 73 #[.iface 75 (.pointer (some ⟨Bq, 0, none⟩)), .int .i64 (j0 : Int)] W fun x w' => x = .returned (.tuple #[]) ∧ ∃ f, Qu Bq (some ⟨g, 0, none⟩) n c f w' ∧ HO f n ∧ (fL f n).Perm (fL f0 n) ∧ Fy (fun b => b = g) W w' := by
  have HQ := hide h
  have HU0 := hide hu
  clear h hu
  go_enter Try.func73, Try.ntmps73
  go_wp2_with fail
  go_loopg [1, 4] n (fun g1 vj _ wr => ∃ (j : Nat) (f : Nat → Int), vj = .int .i64 j ∧ j < n ∧ j ≤ g1 ∧ Hid (Qu Bq (some ⟨g, 0, none⟩) n c f wr) ∧ Hid (HU f n j) ∧ Hid ((fL f n).Perm (fL f0 n)) ∧ Hid (Fy (fun b => b = g) W wr))
  case atStart => exact ⟨j0, f0, by go_num, hj, by omega, HQ, HU0, hide (List.Perm.refl _), hide (Fy.of (Below.refl _ _))⟩
  case round =>
    clear HQ HU0 hj
    obtain ⟨j, f, rfl, hj, hg1, HQ, HU0, HP, HF⟩ := hrel
    by_cases h0 : j = 0
    · subst h0
      have HH := hide ((unhide HU0).done (.inl rfl))
      go_wp2_with fail
      go_end0
      exact ⟨rfl, f, unhide HQ, unhide HH, unhide HP, unhide HF⟩
    · obtain ⟨i, hi⟩ : ∃ i, i = (j - 1) / 2 := ⟨_, rfl⟩
      have hij : i < j := by omega
      have q1 : IntKind.i64.wrap ((j : Int) - 1) = (j : Int) - 1 := IntWalk.i64_in _ (by omega)
      have q2 : ((j : Int) - 1).tdiv 2 = (i : Int) := by rw [Int.tdiv_eq_ediv_of_nonneg (by omega)]; omega
      have q3 : IntKind.i64.wrap (i : Int) = (i : Int) := IntWalk.i64_in _ (by omega)
      have q4 : ((i : Int) == (j : Int)) = false := by simp; omega
      have mL := mLess Bq (some ⟨g, 0, none⟩) n c wr (unhide HQ).cell.1
      have mS := fun t => mSwap Bq (some ⟨g, 0, none⟩) n c (wr.drewN t) ((unhide HQ).later (bl_drewN wr t)).cell.1
      have cL := hide (qless_any (unhide HQ) hj (show i < n by omega))
      have cS := hide (fun t => qswap_any ((unhide HQ).later (bl_drewN wr t)) (show i < n by omega) hj)
      have HI := hide hi
      clear hi h0
      by_cases hlt : f j < f i
      · rw [show decide (f j < f i) = true from decide_eq_true hlt] at cL
        have HU1 := hide (show HU (swf f i j) n i from by
          have := (unhide HU0).step (by omega) hj (by rw [← unhide HI]; exact hlt)
          rwa [← unhide HI] at this)
        have HP1 := hide ((fL_swf f (show i < n by omega) hj).trans (unhide HP))
        clear hlt HQ HU0 HP
        go_wp2_with (first | (go_at_call 96; refine (unhide cL).mono ?_; rintro x1 w1 ⟨rfl, t, rfl⟩) | (go_at_call 100; refine (unhide cS t).mono ?_; rintro x2 w2 ⟨rfl, hq, hf⟩; have HQ2 := hide hq; have HF2 := hide (((unhide HF).trans (Fy.of (bl_drewN wr t))).trans hf); clear hq hf))
        go_roundg i
        case measure => omega
        case rel => exact ⟨i, swf f i j, by go_num, by omega, by omega, HQ2, HU1, HP1, HF2⟩
      · rw [show decide (f j < f i) = false from decide_eq_false hlt] at cL
        have HH := hide ((unhide HU0).done (.inr (by rw [← unhide HI]; omega)))
        have HE := hide (fun t => And.intro ((unhide HQ).later (bl_drewN wr t)) ((unhide HF).trans (Fy.of (bl_drewN wr t))))
        clear hlt HQ HU0 HF
        go_wp2_with (go_at_call 96; refine (unhide cL).mono ?_; rintro x1 w1 ⟨rfl, t, rfl⟩)
        go_end0
        exact ⟨rfl, f, (unhide HE t).1, unhide HH, unhide HP, (unhide HE t).2⟩
end Go.Proofs.Ytjflnpcpnoccjaa

namespace Go.Proofs.Ytjflnpcpnoccjaa
open Go.RowKit

theorem qless_at {Bq g n c : Nat} {f : Nat → Int} {W : World} (h : Qu Bq (some ⟨g, 0, none⟩) n c f W) {i j : Nat} {I J : Int} (eI : I = (i : Int)) (eJ : J = (j : Int)) (hi : i < n) (hj : j < n) {b : Bool} (hb : decide (f i < f j) = b) :
    Calls Try.prog 96 #[.slice (some ⟨g, 0, none⟩) n c, .int .i64 I, .int .i64 J] W fun x w' => x = .returned (.bool b) ∧ ∃ t, w' = W.drewN t := by
  subst eI; subst eJ; subst hb
  exact qless_any h hi hj
theorem qswap_at {Bq g n c : Nat} {f : Nat → Int} {W : World} (h : Qu Bq (some ⟨g, 0, none⟩) n c f W) {i j : Nat} {I J : Int} (eI : I = (i : Int)) (eJ : J = (j : Int)) (hi : i < n) (hj : j < n) :
    Calls Try.prog 100 #[.slice (some ⟨g, 0, none⟩) n c, .int .i64 I, .int .i64 J] W fun x w' => x = .returned (.tuple #[]) ∧ Qu Bq (some ⟨g, 0, none⟩) n c (swf f i j) w' ∧ Fy (fun b => b = g) W w' := by
  subst eI; subst eJ
  exact qswap_any h hi hj

set_option maxRecDepth 100000 in
set_option maxHeartbeats 8000000 in
/-- heap.down. -/
theorem down_any {Bq g n c m : Nat} {f0 : Nat → Int} {W : World} (hn : n ≤ 4194304) (hm : m ≤ n) (h : Qu Bq (some ⟨g, 0, none⟩) n c f0 W) (hd : HD f0 m 0) :
    Calls Try.prog 74 #[.iface 75 (.pointer (some ⟨Bq, 0, none⟩)), .int .i64 0, .int .i64 (m : Int)] W fun x w' => (∃ b, x = .returned (.bool b)) ∧ ∃ f, Qu Bq (some ⟨g, 0, none⟩) n c f w' ∧ HO f m ∧ (fL f m).Perm (fL f0 m) ∧ (∀ k, m ≤ k → f k = f0 k) ∧ Fy (fun b => b = g) W w' := by
  have HQ := hide h
  have HD0 := hide hd
  clear h hd
  go_enter Try.func74, Try.ntmps74
  go_wp2_with fail
  go_loopg [7, 8, 9, 10] (m + 1) (fun g1 vi _ _ _ wr => ∃ (i : Nat) (f : Nat → Int), vi = .int .i64 i ∧ i ≤ m ∧ m - i ≤ g1 ∧ Hid (Qu Bq (some ⟨g, 0, none⟩) n c f wr) ∧ Hid (HD f m i) ∧ Hid ((fL f m).Perm (fL f0 m)) ∧ Hid (∀ k, m ≤ k → f k = f0 k) ∧ Hid (Fy (fun b => b = g) W wr))
  case atStart => exact ⟨0, f0, by go_num, by omega, by omega, HQ, HD0, hide (List.Perm.refl _), hide (fun _ _ => rfl), hide (Fy.of (Below.refl _ _))⟩
  case round =>
    clear HQ HD0
    obtain ⟨i, f, rfl, hi, hg1, HQ, HD0, HP, HK, HF⟩ := hrel
    have q1 : IntKind.i64.wrap (2 * (i : Int)) = 2 * (i : Int) := IntWalk.i64_in _ (by omega)
    have q2 : IntKind.i64.wrap (2 * (i : Int) + 1) = 2 * (i : Int) + 1 := IntWalk.i64_in _ (by omega)
    by_cases h1 : m ≤ 2 * i + 1
    · have HH := hide ((unhide HD0).done fun k k1 k2 k3 => by omega)
      have q3 : (m : Int) ≤ 2 * (i : Int) + 1 := by omega
      clear HD0 h1
      go_wp2_with fail
      go_ret
      exact ⟨⟨_, rfl⟩, f, unhide HQ, unhide HH, unhide HP, unhide HK, unhide HF⟩
    · obtain ⟨j1, hj1⟩ : ∃ j, j = 2 * i + 1 := ⟨_, rfl⟩
      have e1 : 2 * (i : Int) + 1 = (j1 : Int) := by omega
      have q3 : ¬ (m : Int) ≤ (j1 : Int) := by omega
      have q4 : ¬ (j1 : Int) < 0 := by omega
      have q5 : IntKind.i64.wrap ((j1 : Int) + 1) = (j1 : Int) + 1 := IntWalk.i64_in _ (by omega)
      have hl1 : j1 < m := by omega
      have hin : i < n := by omega
      have mL := fun t => mLess Bq (some ⟨g, 0, none⟩) n c (wr.drewN t) ((unhide HQ).later (bl_drewN wr t)).cell.1
      have mL0 := mLess Bq (some ⟨g, 0, none⟩) n c wr (unhide HQ).cell.1
      have mS := fun t => mSwap Bq (some ⟨g, 0, none⟩) n c (wr.drewN t) ((unhide HQ).later (bl_drewN wr t)).cell.1
      have q7 : IntKind.i64.wrap (2 * (i : Int) + 1) = (j1 : Int) := by rw [q2]; exact e1
      clear q2
      have HJ := hide hj1
      clear hj1 h1 e1
      by_cases h2 : j1 + 1 < m
      · have q6 : (j1 : Int) + 1 < (m : Int) := by omega
        have G1 := hide trivial
        by_cases hc : f (j1 + 1) < f j1
        · have cL1 := hide (qless_at (I := (j1 : Int) + 1) (J := (j1 : Int)) (i := j1 + 1) (j := j1) (unhide HQ) (by omega) rfl (by omega) (by omega) (decide_eq_true hc))
          have hjm : (j1 + 1) < m := by omega
          have hjn : (j1 + 1) < n := by omega
          have HMN := hide (show ∀ k, 0 < k → k < m → (k - 1) / 2 = i → f (j1 + 1) ≤ f k from fun k k1 k2 k3 => by
            have e := unhide HJ
            rcases (show k = j1 ∨ k = j1 + 1 by omega) with q | q
            · rw [q]; exact Int.le_of_lt hc
            · rw [q]; exact Int.le_refl _)
          have cS := hide (fun t t2 => qswap_at (I := (i : Int)) (J := ((j1 : Int) + 1)) (i := i) (j := (j1 + 1)) ((unhide HQ).later (bl_drewN wr (t + t2))) rfl (by omega) hin hjn)
          have G2 := hide trivial
          by_cases hlt : f (j1 + 1) < f i
          · have cL2 := hide (fun (t : Nat) => qless_at (I := ((j1 : Int) + 1)) (J := (i : Int)) (i := (j1 + 1)) (j := i) ((unhide HQ).later (bl_drewN wr t)) (by omega) rfl hjn hin (decide_eq_true hlt))
            have HD1 := hide ((unhide HD0).step (j := (j1 + 1)) (by have := unhide HJ; omega) hjm (by have := unhide HJ; omega) (unhide HMN) hlt)
            have HP1 := hide ((fL_swf f (show i < m by have := unhide HJ; omega) hjm).trans (unhide HP))
            have HK1 := hide (show ∀ k, m ≤ k → swf f i (j1 + 1) k = f0 k from fun k hk => by rw [swf_0 f (by have := unhide HJ; omega) (by omega)]; exact unhide HK k hk)
            have hij : i < j1 := by have := unhide HJ; omega
            clear hlt HQ HD0 HP HK HMN
            go_wp2_with (first | (go_at_call 96; have _u := G1; clear _u G1; refine (unhide cL1).mono ?_; rintro x1 w1 ⟨rfl, t, rfl⟩) | (go_at_call 96; have _u := G2; clear _u G2; refine (unhide cL2 t).mono ?_; rintro x2 w2 ⟨rfl, t2, rfl⟩) | (go_at_call 100; refine (unhide cS t t2).mono ?_; rintro x3 w3 ⟨rfl, hq, hf⟩; have HQ2 := hide hq; have HF2 := hide (((unhide HF).trans (Fy.of (bl_drewN wr (t + t2)))).trans hf); clear hq hf))
            go_roundg (m - (j1 + 1 : Nat))
            case measure => omega
            case rel => exact ⟨(j1 + 1 : Nat), _, by go_num, by omega, by omega, HQ2, HD1, HP1, HK1, HF2⟩
          · have cL2 := hide (fun (t : Nat) => qless_at (I := ((j1 : Int) + 1)) (J := (i : Int)) (i := (j1 + 1)) (j := i) ((unhide HQ).later (bl_drewN wr t)) (by omega) rfl hjn hin (decide_eq_false hlt))
            have HH := hide ((unhide HD0).done fun k k1 k2 k3 => Int.le_trans (show f i ≤ f (j1 + 1) by omega) (unhide HMN k k1 k2 k3))
            have HE := hide (fun (t t2 : Nat) => And.intro ((unhide HQ).later (bl_drewN wr (t + t2))) ((unhide HF).trans (Fy.of (bl_drewN wr (t + t2)))))
            clear hlt HQ HD0 HMN HF
            go_wp2_with (first | (go_at_call 96; have _u := G1; clear _u G1; refine (unhide cL1).mono ?_; rintro x1 w1 ⟨rfl, t, rfl⟩) | (go_at_call 96; have _u := G2; clear _u G2; refine (unhide cL2 t).mono ?_; rintro x2 w2 ⟨rfl, t2, rfl⟩))
            go_ret
            exact ⟨⟨_, rfl⟩, f, (unhide HE t t2).1, unhide HH, unhide HP, unhide HK, (unhide HE t t2).2⟩
        · have cL1 := hide (qless_at (I := (j1 : Int) + 1) (J := (j1 : Int)) (i := j1 + 1) (j := j1) (unhide HQ) (by omega) rfl (by omega) (by omega) (decide_eq_false hc))
          have hjm : j1 < m := by omega
          have hjn : j1 < n := by omega
          have HMN := hide (show ∀ k, 0 < k → k < m → (k - 1) / 2 = i → f j1 ≤ f k from fun k k1 k2 k3 => by
            have e := unhide HJ
            rcases (show k = j1 ∨ k = j1 + 1 by omega) with q | q
            · rw [q]; exact Int.le_refl _
            · rw [q]; omega)
          have cS := hide (fun t t2 => qswap_at (I := (i : Int)) (J := (j1 : Int)) (i := i) (j := j1) ((unhide HQ).later (bl_drewN wr (t + t2))) rfl (by omega) hin hjn)
          have G2 := hide trivial
          by_cases hlt : f j1 < f i
          · have cL2 := hide (fun (t : Nat) => qless_at (I := (j1 : Int)) (J := (i : Int)) (i := j1) (j := i) ((unhide HQ).later (bl_drewN wr t)) (by omega) rfl hjn hin (decide_eq_true hlt))
            have HD1 := hide ((unhide HD0).step (j := j1) (by have := unhide HJ; omega) hjm (by have := unhide HJ; omega) (unhide HMN) hlt)
            have HP1 := hide ((fL_swf f (show i < m by have := unhide HJ; omega) hjm).trans (unhide HP))
            have HK1 := hide (show ∀ k, m ≤ k → swf f i j1 k = f0 k from fun k hk => by rw [swf_0 f (by have := unhide HJ; omega) (by omega)]; exact unhide HK k hk)
            have hij : i < j1 := by have := unhide HJ; omega
            clear hlt HQ HD0 HP HK HMN
            go_wp2_with (first | (go_at_call 96; have _u := G1; clear _u G1; refine (unhide cL1).mono ?_; rintro x1 w1 ⟨rfl, t, rfl⟩) | (go_at_call 96; have _u := G2; clear _u G2; refine (unhide cL2 t).mono ?_; rintro x2 w2 ⟨rfl, t2, rfl⟩) | (go_at_call 100; refine (unhide cS t t2).mono ?_; rintro x3 w3 ⟨rfl, hq, hf⟩; have HQ2 := hide hq; have HF2 := hide (((unhide HF).trans (Fy.of (bl_drewN wr (t + t2)))).trans hf); clear hq hf))
            go_roundg (m - j1)
            case measure => omega
            case rel => exact ⟨j1, _, by go_num, by omega, by omega, HQ2, HD1, HP1, HK1, HF2⟩
          · have cL2 := hide (fun (t : Nat) => qless_at (I := (j1 : Int)) (J := (i : Int)) (i := j1) (j := i) ((unhide HQ).later (bl_drewN wr t)) (by omega) rfl hjn hin (decide_eq_false hlt))
            have HH := hide ((unhide HD0).done fun k k1 k2 k3 => Int.le_trans (show f i ≤ f j1 by omega) (unhide HMN k k1 k2 k3))
            have HE := hide (fun (t t2 : Nat) => And.intro ((unhide HQ).later (bl_drewN wr (t + t2))) ((unhide HF).trans (Fy.of (bl_drewN wr (t + t2)))))
            clear hlt HQ HD0 HMN HF
            go_wp2_with (first | (go_at_call 96; have _u := G1; clear _u G1; refine (unhide cL1).mono ?_; rintro x1 w1 ⟨rfl, t, rfl⟩) | (go_at_call 96; have _u := G2; clear _u G2; refine (unhide cL2 t).mono ?_; rintro x2 w2 ⟨rfl, t2, rfl⟩))
            go_ret
            exact ⟨⟨_, rfl⟩, f, (unhide HE t t2).1, unhide HH, unhide HP, unhide HK, (unhide HE t t2).2⟩
      · have q6 : ¬ (j1 : Int) + 1 < (m : Int) := by omega
        have hjm : j1 < m := by omega
        have hjn : j1 < n := by omega
        have HMN := hide (show ∀ k, 0 < k → k < m → (k - 1) / 2 = i → f j1 ≤ f k from fun k k1 k2 k3 => by
          have e := unhide HJ
          rw [show k = j1 by omega]
          exact Int.le_refl _)
        have cS := hide (fun t => qswap_at (I := (i : Int)) (J := (j1 : Int)) (i := i) (j := j1) ((unhide HQ).later (bl_drewN wr t)) rfl (by omega) hin hjn)
        have G2 := hide trivial
        by_cases hlt : f j1 < f i
        · have cL2 := hide (qless_at (I := (j1 : Int)) (J := (i : Int)) (i := j1) (j := i) (unhide HQ) (by omega) rfl hjn hin (decide_eq_true hlt))
          have HD1 := hide ((unhide HD0).step (j := j1) (by have := unhide HJ; omega) hjm (by have := unhide HJ; omega) (unhide HMN) hlt)
          have HP1 := hide ((fL_swf f (show i < m by have := unhide HJ; omega) hjm).trans (unhide HP))
          have HK1 := hide (show ∀ k, m ≤ k → swf f i j1 k = f0 k from fun k hk => by rw [swf_0 f (by have := unhide HJ; omega) (by omega)]; exact unhide HK k hk)
          have hij : i < j1 := by have := unhide HJ; omega
          clear hlt HQ HD0 HP HK HMN
          go_wp2_with (first | (go_at_call 96; have _u := G2; clear _u G2; refine (unhide cL2).mono ?_; rintro x2 w2 ⟨rfl, t, rfl⟩) | (go_at_call 100; refine (unhide cS t).mono ?_; rintro x3 w3 ⟨rfl, hq, hf⟩; have HQ2 := hide hq; have HF2 := hide (((unhide HF).trans (Fy.of (bl_drewN wr t))).trans hf); clear hq hf))
          go_roundg (m - j1)
          case measure => omega
          case rel => exact ⟨j1, _, by go_num, by omega, by omega, HQ2, HD1, HP1, HK1, HF2⟩
        · have cL2 := hide (qless_at (I := (j1 : Int)) (J := (i : Int)) (i := j1) (j := i) (unhide HQ) (by omega) rfl hjn hin (decide_eq_false hlt))
          have HH := hide ((unhide HD0).done fun k k1 k2 k3 => Int.le_trans (show f i ≤ f j1 by omega) (unhide HMN k k1 k2 k3))
          have HE := hide (fun (t : Nat) => And.intro ((unhide HQ).later (bl_drewN wr t)) ((unhide HF).trans (Fy.of (bl_drewN wr t))))
          clear hlt HQ HD0 HMN HF
          go_wp2_with (first | (go_at_call 96; have _u := G2; clear _u G2; refine (unhide cL2).mono ?_; rintro x2 w2 ⟨rfl, t, rfl⟩))
          go_ret
          exact ⟨⟨_, rfl⟩, f, (unhide HE t).1, unhide HH, unhide HP, unhide HK, (unhide HE t).2⟩
end Go.Proofs.Ytjflnpcpnoccjaa

