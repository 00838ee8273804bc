import Derived.Test.YtcdajbfoneifaaaDoorLsT
namespace Go.Proofs.YtcdajbfoneifaaaDoor
open Go.RowKit

def l4 : List ByteArray := [⟨#[50]⟩, ⟨#[49]⟩, ⟨#[49, 46, 48, 45, 48]⟩, ⟨#[49]⟩]
theorem l4_ok : ∀ k, k < 4 → erOf l4 k = 0 := by
  have h : (List.range 4).all (fun k => erOf l4 k == 0) = true := by decide +kernel
  intro k hk
  have := List.all_eq_true.1 h k (List.mem_range.2 hk)
  simpa using this
theorem l4_small : ∀ k, k < l4.length → (l4.getD k nob).size ≤ maxLen := by
  have h : (List.range 4).all (fun k => decide ((l4.getD k nob).size ≤ 5)) = true := by decide +kernel
  intro k hk
  have := List.all_eq_true.1 h k (List.mem_range.2 hk)
  have : (l4.getD k nob).size ≤ 5 := by simpa using this
  unfold maxLen
  omega
theorem l4_det {ec : Int} {cnt : Nat} {G : Nat → Nat} (h : Det l4 ec cnt G) : ec = 0 ∧ cnt = 4 := by
  rcases h with ⟨h1, h2, _⟩ | ⟨_, k, hk, hne, _⟩
  · exact ⟨h1, h2⟩
  · exact absurd (l4_ok k hk) hne
theorem l4_lies (W : World) : Ls (W.alloc (.cells #[.string ⟨#[50]⟩, .string ⟨#[49]⟩, .string ⟨#[49, 46, 48, 45, 48]⟩, .string ⟨#[49]⟩] 9)) (some ⟨W.heap.size, 0, none⟩) l4 := fun i hi => by
  refine ⟨W.heap.size, 0, rfl, by simp, ?_⟩
  rw [Nat.zero_add, World.cell?_alloc_new]
  have h4 : i < 4 := hi
  rcases (by omega : i = 0 ∨ i = 1 ∨ i = 2 ∨ i = 3) with e | e | e | e <;> subst e <;> rfl

theorem rSort_n (l : List ByteArray) (n : Nat) (hn : n = l.length) (hl : n ≤ 1048576) (hz : ∀ k, k < n → (l.getD k nob).size ≤ maxLen) (pa : Option Addr) (lc : Nat) (w : World) (hL : Ls w pa l) :
    Calls Tryd.prog 9 #[.slice pa n lc] w fun e w' => ∃ ec cnt G ov, e = .returned (.tuple #[ov, .int .i64 ec]) ∧ Det l ec cnt G ∧ w'.ownsRow w.heap.size 3 1 ov cnt (IV G cnt) ∧ Below w.heap.size w w' := by
  subst hn
  exact rSort_det l pa lc w (by omega) hz hL
theorem Sort_n (l : List ByteArray) (n : Nat) (hn : n = l.length) (hl : n ≤ 1048576) (hz : ∀ k, k < n → (l.getD k nob).size ≤ maxLen) (ec : Int) (cnt : Nat) (G : Nat → Nat) (hD : Det l ec cnt G) (pa : Option Addr) (lc : Nat) (w : World) (hL : Ls w pa l) :
    Calls Tryd.prog 6 #[.slice pa n lc] w fun e w' => ∃ ov, e = .returned (.tuple #[ov, .int .i64 ec]) ∧ w'.ownsRow w.heap.size 3 1 ov cnt (IV G cnt) ∧ Below w.heap.size w w' := by
  subst hn
  exact Sort_det l ec cnt G hD pa lc w (by omega) hz hL
theorem same_n (l : List ByteArray) (n : Nat) (hn : n = l.length) (hl : n ≤ 1048576) (va ua : Option Addr) (vc uc : Nat) (w : World) (h1 : Ls w va l) (h2 : Ls w ua l) :
    Calls Tryd.prog 13 #[.slice va n vc, .slice ua n uc] w fun e w' => e = .returned (.bool true) ∧ Below w.heap.size w w' := by
  subst hn
  refine (same_any l (by omega) va ua vc uc w h1 h2).mono ?_
  rintro e w' ⟨rfl, m, rfl⟩
  exact ⟨rfl, below_drewN (Below.refl _ _) m⟩
theorem places_n (v u : Value) (N : Nat) (g : Nat → Nat) (hN : N ≤ 1048576) (w : World) (h1 : Ps w v N g) (h2 : Ps w u N g) :
    Calls Tryd.prog 11 #[v, u] w fun e w' => e = .returned (.bool true) ∧ Below w.heap.size w w' := by
  refine (places_any v u N g (by omega) w h1 h2).mono ?_
  rintro e w' ⟨rfl, m, rfl⟩
  exact ⟨rfl, below_drewN (Below.refl _ _) m⟩
theorem num_n (ec : Int) (w : World) : Calls Tryd.prog 10 #[.int .i64 ec] w fun e w' => e = .returned (.int .i64 ec) ∧ Below w.heap.size w w' := by
  refine (num_any ec w).mono ?_
  rintro e w' ⟨rfl, rfl⟩
  exact ⟨rfl, Below.refl _ _⟩

/-- WHAT THE LAW HAS LAID AHEAD OF ITS LOOPS. -/
structure Fx (w : World) (l : List ByteArray) (n : Nat) (pa : Option Addr) (F O : Nat) (bv ov : Value) (cnt : Nat) (G G4 : Nat → Nat) (W : World) : Prop where
  lst : Ls W pa l
  giv : Gv F n (fun k => l.getD k nob) W
  beh : W.cell? ⟨F, n, none⟩ = some (.string ⟨#[98, 101, 104, 105, 110, 100]⟩)
  it : W.cell? ⟨F, n + 1, none⟩ = some (.string ⟨#[105, 116]⟩)
  oth : Ls W (some ⟨O, 0, none⟩) l4
  pb : Ps W bv cnt G
  po : Ps W ov 4 G4
  ge : w.heap.size ≤ F
  bel : Below w.heap.size w W
theorem Fx.later {w : World} {l : List ByteArray} {n : Nat} {pa : Option Addr} {F O : Nat} {bv ov : Value} {cnt : Nat} {G G4 : Nat → Nat} {W W' : World} (h : Fx w l n pa F O bv ov cnt G G4 W) (hb : Below W.heap.size W W') : Fx w l n pa F O bv ov cnt G G4 W' :=
  ⟨h.lst.later hb, h.giv.later hb, (hb.cell (p := ⟨F, n, none⟩) h.giv.lt).trans h.beh, (hb.cell (p := ⟨F, n + 1, none⟩) h.giv.lt).trans h.it, h.oth.later hb, h.pb.later hb, h.po.later hb, h.ge, h.bel.trans (hb.mono h.bel.size)⟩
theorem Gv.lsl {F n : Nat} {l : List ByteArray} {W : World} (h : Gv F n (fun k => l.getD k nob) W) (hn : n = l.length) : Ls W (some ⟨F, 0, none⟩) l := fun i hi => ⟨F, 0, rfl, h.lt, by rw [Nat.zero_add]; exact h.cell i (by omega)⟩
/-- The list with two texts behind it, in a row of our own. -/
theorem fx_giv {W : World} {base F n cap : Nat} {l : List ByteArray} (hn : n = l.length) (hz : ∀ k, k < n → (l.getD k nob).size ≤ maxLen) (h : W.ownsRow base 9 1 (.slice (some ⟨F, 0, none⟩) (n + 2) cap) (n + 2) (SV l ++ [.string ⟨#[98, 101, 104, 105, 110, 100]⟩, .string ⟨#[105, 116]⟩])) :
    Gv F n (fun k => l.getD k nob) W ∧ W.cell? ⟨F, n, none⟩ = some (.string ⟨#[98, 101, 104, 105, 110, 100]⟩) ∧ W.cell? ⟨F, n + 1, none⟩ = some (.string ⟨#[105, 116]⟩) ∧ base ≤ F ∧ n + 2 ≤ cap := by
  have hl : (SV l).length = n := by simp [SV, hn]
  have ht := h.lt F rfl
  refine ⟨⟨ht.2, fun k hk => ?_, fun k => ?_, hz⟩, ?_, ?_, ht.1, ?_⟩
  · exact owns_at h k _ (by rw [List.getElem?_append_left (by omega)]; exact SV_at l k (by omega))
  · rcases h.2 with ⟨e, _⟩ | ⟨g, c, cur, e, _, hg, _⟩
    · cases e
    · cases e
      simp [World.frozen?, hg]
  · exact owns_at h n _ (by rw [List.getElem?_append_right (by omega), hl]; simp)
  · exact owns_at h (n + 1) _ (by rw [List.getElem?_append_right (by omega), hl]; simp)
  · rcases h.2 with ⟨e, _⟩ | ⟨g, c, cur, e, _, _, h4, _⟩
    · cases e
    · cases e
      exact h4

/-- THE FIVE ANSWERS SO FAR. -/
def Nj (cnt j : Nat) : Nat := if j = 2 ∨ j = 3 then 4 else cnt
def Gj (G G4 : Nat → Nat) (j : Nat) : Nat → Nat := if j = 2 ∨ j = 3 then G4 else G
def VV (vv : Nat → Value) (k : Nat) : List Value := (List.range k).map vv
theorem VV_at (vv : Nat → Value) (n k : Nat) (h : k < n) : (VV vv n)[k]? = some (vv k) := by simp [VV, h]
structure AL (base : Nat) (W4 : World) (cnt : Nat) (G G4 : Nat → Nat) (k : Nat) (av : Value) (vv : Nat → Value) (W : World) : Prop where
  row : W.ownsRow base 24 1 av k (VV vv k)
  rows : ∀ j, j < k → W.ownsRow base 3 1 (vv j) (Nj cnt j) (IV (Gj G G4 j) (Nj cnt j))
  apart : ∀ i j, i < k → j < k → i ≠ j → (vv j).ownBlock = none ∨ (vv j).ownBlock ≠ (vv i).ownBlock
  bel : Below base W4 W
  le : base ≤ W.heap.size
theorem AL.start (base : Nat) (W4 : World) (cnt : Nat) (G G4 : Nat → Nat) (hb : base ≤ W4.heap.size) : AL base W4 cnt G G4 0 (.slice none 0 0) (fun _ => .slice none 0 0) W4 :=
  ⟨World.ownsRow_nil _ _ _ _, fun _ hj => absurd hj (Nat.not_lt_zero _), fun _ _ hi => absurd hi (Nat.not_lt_zero _), Below.refl _ _, hb⟩
theorem AL.later {base : Nat} {W4 : World} {cnt : Nat} {G G4 : Nat → Nat} {k : Nat} {av : Value} {vv : Nat → Value} {W W' : World} (h : AL base W4 cnt G G4 k av vv W) (hb : Below W.heap.size W W') : AL base W4 cnt G G4 k av vv W' :=
  ⟨owns_below h.row hb, fun j hj => owns_below (h.rows j hj) hb, h.apart, h.bel.trans (hb.mono h.le), Nat.le_trans h.le hb.size⟩
theorem AL.put {base : Nat} {W4 : World} {cnt : Nat} {G G4 : Nat → Nat} {k : Nat} {av : Value} {vv : Nat → Value} {W W5 W7 : World} {x av' : Value} {lo : Nat} (h : AL base W4 cnt G G4 k av vv W) (hlo : ∀ j, j < k → ∀ g, (vv j).ownBlock = some g → g < lo) (hbl : base ≤ lo)
    (hx : W.ownsRow lo 3 1 x (Nj cnt k) (IV (Gj G G4 k) (Nj cnt k))) (h5 : W5 = W.alloc (.cells #[x] 24)) (ho : W7.ownsRow base 24 1 av' (k + 1) (VV vv k ++ [x])) (hg : W5.grownBy W7 av.ownBlock) :
    AL base W4 cnt G G4 (k + 1) av' (fun j => if j = k then x else vv j) W7 := by
  subst h5
  have hb := (Below.refl W.heap.size W).alloc (Nat.le_refl _) (.cells #[x] 24)
  have h6 := h.later hb
  have hx6 := owns_below hx hb
  have ev : VV (fun j => if j = k then x else vv j) (k + 1) = VV vv k ++ [x] := by
    unfold VV
    rw [List.range_succ, List.map_append]
    congr 1
    · apply List.map_congr_left
      intro j hj
      have := List.mem_range.1 hj
      rw [if_neg (by omega)]
    · simp
  refine ⟨by rw [ev]; exact ho, fun j hj => ?_, fun i j hi hj hij => ?_, ?_, ?_⟩
  · by_cases e : j = k
    · subst e
      simp only [if_pos]
      exact (hx6.mono hbl).kept hg (owns_two (by decide) hx6 h6.row)
    · simp only [if_neg e]
      exact (h6.rows j (by omega)).kept hg (owns_two (by decide) (h6.rows j (by omega)) h6.row)
  · by_cases e1 : i = k
    · subst e1
      have hj' : j ≠ i := fun q => hij q.symm
      simp only [if_pos, if_neg hj']
      rcases hq : (vv j).ownBlock with _ | g
      · exact .inl rfl
      · refine .inr fun q => ?_
        have a := hlo j (by omega) g hq
        have b := (hx.lt g (q.symm)).1
        omega
    · by_cases e2 : j = k
      · subst e2
        simp only [if_pos, if_neg e1]
        rcases hq : x.ownBlock with _ | g
        · exact .inl rfl
        · refine .inr fun q => ?_
          have a := hlo i (by omega) g q.symm
          have b := (hx.lt g hq).1
          omega
      · simp only [if_neg e1, if_neg e2]
        exact h.apart i j (by omega) (by omega) hij
  · exact h6.bel.grown hg h6.le (fun j e => (h6.row.lt j e).1)
  · exact Nat.le_trans h6.le hg.size
/-- The five answers, apart from each other and from the row that holds them. -/
theorem AL.pa {base : Nat} {W4 : World} {cnt : Nat} {G G4 : Nat → Nat} {Lb ac : Nat} {vv : Nat → Value} {W : World} (h : AL base W4 cnt G G4 5 (.slice (some ⟨Lb, 0, none⟩) 5 ac) vv W) : PA W base Lb vv (Nj cnt) (fun j => IV (Gj G G4 j) (Nj cnt j)) := by
  have hl := h.row.lt Lb rfl
  refine ⟨fun i hi => owns_at h.row i _ (VV_at vv 5 i hi), h.rows, h.apart, fun i hi e => ?_, hl.2, hl.1⟩
  rcases owns_two (by decide) (h.rows i hi) h.row with q | q
  · rw [q] at e; cases e
  · exact q (e.trans rfl)
theorem ls_owns {W : World} {base n c : Nat} {a : Option Addr} {l : List ByteArray} (h : W.ownsRow base 9 1 (.slice a n c) n (SV l)) (hn : n = l.length) : Ls W a l := fun i hi => by
  rcases h.2 with ⟨e, e2⟩ | ⟨g, cap, cur, e, _, hg, _⟩
  · omega
  · cases e
    exact ⟨g, 0, rfl, (Array.getElem?_eq_some_iff.1 hg).1, by rw [Nat.zero_add]; exact owns_at h i _ (SV_at l i hi)⟩
end Go.Proofs.YtcdajbfoneifaaaDoor
