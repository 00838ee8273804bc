import Derived.Test.YtohnjmhdbbkmbaaDoorFrA
import Derived.Test.YtohnjmhdbbkmbaaDoorStT
import Derived.Test.YtohnjmhdbbkmbaaDoorSbR
import Derived.Test.YtohnjmhdbbkmbaaDoorSbJ
namespace Go.Proofs.YtohnjmhdbbkmbaaDoor
open Go.RowKit Go.Shelf

/-- WHAT Each GIVES: the paragraphs ahead of what is wrong. -/
def gv (t : Bs) : List (List Fd) := match (parseT t).err with
  | none => shut (parseT t)
  | some _ => (parseT t).all
theorem gv_ok (t : Bs) : (∀ p ∈ gv t, okP p = true) ∧ (prT (gv t)).length ≤ 5 * t.length + 1 := by
  unfold gv
  cases hx : (parseT t).err with
  | none => exact parse_ok t
  | some x =>
    obtain ⟨h1, h2⟩ := lines_sum t.length t (Nat.le_refl _)
    obtain ⟨h3, h4⟩ := run_keep (linesL t) 1 st0 h2 ⟨(fun p hp => by cases hp), rfl, rfl⟩
    refine ⟨h3.1, ?_⟩
    have h7 := prT_wt (parseT t).all
    have h8 : wtS st0 = 0 := rfl
    have h9 : wtL (parseT t).all ≤ wtS (parseT t) := Nat.le_add_right _ _
    have h10 : wtS (parseT t) ≤ wtS st0 + sumL (linesL t) := h4
    show (prT (parseT t).all).length ≤ _
    omega

/-- WHAT A ROUND IS CALLED WITH. -/
structure Yx where
  n0 : Nat
  m : Nat
  lv : Value
  cs : List Value
  k : Int
  g : Nat
  n : Nat
  cap : Nat
abbrev encY (x : Yx) : Array Value := #[.int .i64 x.k, .slice (some ⟨x.g, 0, none⟩) x.n x.cap]
def PreY (Bl : Nat) (x : Yx) (W : World) : Prop := W.heap[Bl]? = some (.cells #[x.lv] 24 (0, 0)) ∧ W.ownsRow x.n0 39 1 x.lv x.m x.cs ∧ x.m ≤ 16777216 ∧ x.n0 ≤ W.heap.size
def RelY (Bl : Nat) (x : Yx) (W W2 : World) : Prop := Took x.n0 Bl x.m x.lv x.cs (.slice (some ⟨x.g, 0, none⟩) x.n x.cap) W W2

set_option maxHeartbeats 1000000 in
theorem each2_y (t : Bs) (ht : t.length ≤ 16777216) (Bk lo D Bl q : Nat) (rc : Loop) (w : World) (hG : Glob w) (hT : w.cell? ⟨Bk, 0, none⟩ = some (.string (ba t))) (hBl : 2 < Bl) (hBx : w.heap[Bl]? = some (.cells #[.slice none 0 0] 24 (0, 0)))
    (hl : w.heap[lo]? = some (.loop rc)) (hd : w.heap[D]? = some (.deferred (some [])))
    (hY : ∀ (x : Yx) (W : World), W.heap[lo]? = some (.loop rc) → W.heap[D]? = some (.deferred (some [])) → PreY Bl x W → YieldAt Fence.wide q Tryd.prog lo (encY x) W fun e W2 => e = .returned (.bool true) ∧ RelY Bl x W W2 ∧ W2.heap[lo]? = some (.loop rc) ∧ W2.heap[D]? = some (.deferred (some []))) :
    Calls Tryd.prog 42 #[.func (.yield lo) #[] #[], .pointer (some ⟨Bk, 0, none⟩)] w fun e W2 => (∃ v, e = .returned v) ∧ Env w W2 ∧ (∀ i, i < w.heap.size → i ≠ Bl → W2.heap[i]? = w.heap[i]?) ∧ w.heap.size ≤ W2.heap.size ∧ ∃ lv vs, Dn w.heap.size Bl W2.heap.size W2 lv vs (gv t) := by
  have hne : lo ≠ Bl := fun e => by rw [e, hBx] at hl; cases hl
  have hne2 : D ≠ Bl := fun e => by rw [e, hBx] at hd; cases hd
  have hlt : lo < w.heap.size := (Array.getElem?_eq_some_iff.1 hl).1
  have hlt2 : D < w.heap.size := (Array.getElem?_eq_some_iff.1 hd).1
  have cR := (callsIn_wide (n := 5)).1 (read_gen t ht 5 (Nat.le_refl _) Bl (.yield lo) #[] w hG hBl hBx (by
    intro n0 B w0 W st hold hn0 hBw hB hH hnz hlen
    refine handOn_gen n0 B Bl w0 W st hB hH hnz hlen _ ?_
    intro g n cap ag ac N m k lv cs h1 h2 h3 h4 h5 h6 h7 h8 h9
    refine handOn_y lo B Bl g n cap ag ac N n0 m q k lv cs W h1 h2 h3 h4 h5 ?_
    intro W' hh _
    have kl : W'.heap[lo]? = some (.loop rc) := by rw [hh, hH.fr lo (by omega) (by omega) hne, hold lo hlt, hl]
    have kd : W'.heap[D]? = some (.deferred (some [])) := by rw [hh, hH.fr D (by omega) (by omega) hne2, hold D hlt2, hd]
    obtain ⟨fn, tmps, ass, bd, hy, hR⟩ := hY ⟨n0, m, lv, cs, k, g, n, cap⟩ W' kl kd ⟨by rw [hh]; exact h6, ownsRow_same h7 (fun g c _ _ => by rw [hh]), h8, by rw [hh]; exact h9⟩
    exact ⟨fn, tmps, ass, bd, hy, hR.mono fun e W2 h => ⟨h.1, h.2.1⟩⟩))
  have cR2 := hide (show Calls Tryd.prog 35 #[.string (ba t), .func (.yield lo) #[] #[]] w fun e W2 => (∃ k er : Nat, e = .returned (.tuple #[.int .i64 k, .int .i64 er])) ∧ Env w W2 ∧ (∀ i, i < w.heap.size → i ≠ Bl → W2.heap[i]? = w.heap[i]?) ∧ w.heap.size ≤ W2.heap.size ∧ ∃ lv vs, Dn w.heap.size Bl W2.heap.size W2 lv vs (gv t) from cR.mono fun e W2 ⟨k, er, h1, h2, h3, h4, h5⟩ => by
    refine ⟨⟨k, er, h1⟩, h2, h3, h4, ?_⟩
    unfold gv
    rcases h5 with ⟨h5, _, _, h6⟩ | ⟨h5, h6⟩
    · rw [h5]; exact h6
    · rw [h5]; exact h6)
  clear cR hY hl hd
  go_enter Tryd.func42, Tryd.ntmps42
  go_wp2_with (go_at_call 35; refine (unhide cR2).mono ?_; rintro e W2 ⟨⟨k, er, rfl⟩, hres⟩; have HR := hide hres; clear hres)
  go_end0
  exact ⟨⟨_, rfl⟩, unhide HR⟩
theorem each1_y (yv : Value) (w : World) : Calls Tryd.prog 41 #[yv] w fun e w' => (∃ v, e = .returned v) ∧ w' = w := by
  go_enter Tryd.func41, Tryd.ntmps41
  go_wp2_with fail
  go_end0
  exact ⟨⟨_, rfl⟩, rfl⟩

theorem Each_long (t : Bs) (pa : Option Addr) (c : Nat) (w : World) (ht : 16777216 < t.length) :
    Calls Tryd.prog 17 #[.slice pa t.length c] w fun e w' => e = .returned (.func (.func 41) #[] #[]) ∧ w' = w := by
  have h1 : (16777216 : Int) < (t.length : Int) := by omega
  go_enter Tryd.func17, Tryd.ntmps17
  go_wp2_with fail
  go_ret
  exact ⟨rfl, rfl⟩
theorem Each_short (t : Bs) (pa : Option Addr) (c : Nat) (w : World) (ht : t.length ≤ 16777216)
    (hcv : ∀ W, Below w.heap.size w W → (convert 22 9 (.slice pa t.length c)).run Tryd.prog W = .ok (.string (ba t)) W) :
    Calls Tryd.prog 17 #[.slice pa t.length c] w fun e w' => ∃ Bk, e = .returned (.func (.func 42) #[] #[.pointer (some ⟨Bk, 0, none⟩)]) ∧ Bk < w'.heap.size ∧ w'.cell? ⟨Bk, 0, none⟩ = some (.string (ba t)) ∧ Below w.heap.size w w' := by
  have h1 : ¬ (16777216 : Int) < (t.length : Int) := by omega
  have hcv1 := hcv w (Below.refl _ _)
  clear hcv
  go_enter Tryd.func17, Tryd.ntmps17
  go_wp2_with fail
  go_ret
  exact ⟨_, rfl, by simp, by rw [World.cell?_alloc_new]; rfl, (Below.refl _ _).alloc (Nat.le_refl _) _⟩
end Go.Proofs.YtohnjmhdbbkmbaaDoor
