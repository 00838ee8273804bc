import Derived.Test.YtjflnpcpnoccjaaHmD
import Derived.Test.YtjflnpcpnoccjaaLpM
namespace Go.Proofs.Ytjflnpcpnoccjaa
open Go.RowKit

/-! The least graphs. -/
def lnB (_ : Nat) : Nat := 1
def LB (u _ : Nat) : Int := if u = 0 then 1 else 0
theorem rgtB : rgt 3 lnB LB = true := by decide
theorem egB (u v : Nat) : Eg 3 lnB LB u v ↔ (u = 0 ∧ v = 1) ∨ (u = 1 ∧ v = 0) ∨ (u = 2 ∧ v = 0) := by
  constructor
  · rintro ⟨hu, i, hi, e⟩
    unfold LB at e
    by_cases h : u = 0
    · rw [if_pos h] at e; omega
    · rw [if_neg h] at e; omega
  · rintro (⟨rfl, rfl⟩ | ⟨rfl, rfl⟩ | ⟨rfl, rfl⟩)
    · exact ⟨by omega, 0, by decide, rfl⟩
    · exact ⟨by omega, 0, by decide, rfl⟩
    · exact ⟨by omega, 0, by decide, rfl⟩
theorem muB : Mu 3 lnB LB 0 1 := ⟨(Rch.refl _ 0).tail ((egB 0 1).2 (.inl ⟨rfl, rfl⟩)), (Rch.refl _ 1).tail ((egB 1 0).2 (.inr (.inl ⟨rfl, rfl⟩)))⟩
theorem nwB0 : nw (Mu 3 lnB LB) 0 := fun _ hj => absurd hj (Nat.not_lt_zero _)
theorem nwB1 : ¬ nw (Mu 3 lnB LB) 1 := fun h => h 0 (by omega) muB
theorem nwB2 : nw (Mu 3 lnB LB) 2 := fun j hj h => by
  have := Rch.closed (p := fun x => x < 2) (fun x w hx he => by
    have := (egB x w).1 he
    omega) h.1 (show j < 2 by omega)
  omega
theorem ndB1 : nds (Mu 3 lnB LB) 1 = 1 := by rw [nds_new nwB0]; rfl
theorem ndB2 : nds (Mu 3 lnB LB) 2 = 1 := by rw [nds_old nwB1, ndB1]
theorem pcB : pc 3 lnB LB = 2 := by
  show nds (Mu 3 lnB LB) 3 = 2
  rw [nds_new nwB2, ndB2]
theorem pnB0 : pn 3 lnB LB 0 = 0 := by
  show no (Mu 3 lnB LB) 0 = 0
  rw [no_new (kd_mu _ _ _) nwB0]; rfl
theorem pnB1 : pn 3 lnB LB 1 = 0 := by
  have : no (Mu 3 lnB LB) 0 = no (Mu 3 lnB LB) 1 := no_same (kd_mu _ _ _) muB
  show no (Mu 3 lnB LB) 1 = 0
  rw [← this]
  exact pnB0
theorem pnB2 : pn 3 lnB LB 2 = 1 := by
  show no (Mu 3 lnB LB) 2 = 1
  rw [no_new (kd_mu _ _ _) nwB2, ndB2]
theorem ptB (k : Nat) (hk : k < 2) : ptL (pn 3 lnB LB) 3 k = oL k := by
  match k, hk with
  | 0, _ => simp [ptL, List.range_succ, pnB0, pnB1, pnB2, oL]
  | 1, _ => simp [ptL, List.range_succ, pnB0, pnB1, pnB2, oL]
theorem Parts_B {na : Option Addr} {nc : Nat} {w : World} (hR : Rr w na 3 lnB LB) :
    Calls Try.prog 30 #[.slice na 3 nc] w fun x w' => ∃ ga, x = .returned (.tuple #[.slice ga 2 2, .int .i64 0]) ∧ AnL w.heap.size w'.heap.size ga 2 oL w' ∧ Below w.heap.size w w' := by
  have h := Parts_L (nc := nc) (by omega) (fun k _ => show lnB k ≤ 1048576 from (by decide : 1 ≤ 1048576)) hR
  rw [show ptN 3 lnB LB = 2 from by unfold ptN; rw [if_pos rgtB, pcB], show ptE 3 lnB LB = 0 from by unfold ptE; rw [if_pos rgtB]] at h
  exact h.mono fun _ _ ⟨ga, e, h, hb⟩ => ⟨ga, e, h.congr ptB, hb⟩
def lnC (u : Nat) : Nat := if u = 0 then 1 else 0
def LC (_ _ : Nat) : Int := 1
theorem rgtC : rgt 2 lnC LC = true := by decide
theorem egC (u v : Nat) : Eg 2 lnC LC u v ↔ u = 0 ∧ v = 1 := by
  constructor
  · rintro ⟨hu, i, hi, e⟩
    have e2 : (1 : Int) = (v : Int) := e
    unfold lnC at hi
    by_cases h : u = 0
    · omega
    · rw [if_neg h] at hi; omega
  · rintro ⟨rfl, rfl⟩
    exact ⟨by omega, 0, by decide, rfl⟩
theorem odC : od 2 lnC LC = [1, 0] := by
  have h1 : Lst 2 lnC LC [] 1 := ⟨⟨by omega, List.not_mem_nil, fun v hv => by have := (egC 1 v).1 hv; omega⟩, fun x hx => by
    by_cases e : x = 0
    · subst e
      exact absurd (hx.2.2 1 ((egC 0 1).2 ⟨rfl, rfl⟩)) List.not_mem_nil
    · omega⟩
  have h2 : Lst 2 lnC LC [1] 0 := ⟨⟨by omega, by simp, fun v hv => by have := (egC 0 v).1 hv; simp [this.2]⟩, fun x _ => Nat.zero_le _⟩
  show ordL 2 lnC LC 2 [] = _
  rw [ordL_some h1, show ([] : List Nat) ++ [1] = [1] from rfl, ordL_some h2]
  rfl
def lnD (_ : Nat) : Nat := 1
def LD (_ _ : Nat) : Int := 0
theorem rgtD : rgt 1 lnD LD = true := by decide
theorem odD : od 1 lnD LD = [] := ordL_none (fun x hx => by
  have h0 : x = 0 := by have := hx.1; omega
  subst h0
  exact absurd (hx.2.2 0 ⟨by omega, 0, by decide, rfl⟩) List.not_mem_nil) 1
def bV (j : Nat) : Int := if j = 0 then 1 else 0
theorem Order_C {na : Option Addr} {nc : Nat} {w : World} (hR : Rr w na 2 lnC LC) :
    Calls Try.prog 29 #[.slice na 2 nc] w fun x w' => ∃ ga g gc, x = .returned (.tuple #[.slice ga 2 gc, .int .i64 0]) ∧ Rw w.heap.size w'.heap.size ga g 2 gc bV w' ∧ Below w.heap.size w w' := by
  have h := Order_any (nc := nc) (by omega) (fun k _ => show lnC k ≤ 1048576 from by unfold lnC; split <;> omega) hR
  rw [show orN 2 lnC LC = 2 from by unfold orN; rw [if_pos rgtC, odC]; rfl, show orE 2 lnC LC = 0 from by unfold orE; rw [if_pos rgtC, odC]; rfl] at h
  exact h.mono fun _ _ ⟨ga, g, gc, e, h, hb⟩ => ⟨ga, g, gc, e, h.cong fun j hj => by
    unfold oV
    rw [odC]
    match j, hj with
    | 0, _ => rfl
    | 1, _ => rfl, hb⟩
theorem Order_D {na : Option Addr} {nc : Nat} {w : World} (hR : Rr w na 1 lnD LD) :
    Calls Try.prog 29 #[.slice na 1 nc] w fun x w' => ∃ ga gc, x = .returned (.tuple #[.slice ga 0 gc, .int .i64 121]) ∧ Below w.heap.size w w' := by
  have h := Order_any (nc := nc) (by omega) (fun k _ => show lnD k ≤ 1048576 from (by decide : 1 ≤ 1048576)) hR
  rw [show orN 1 lnD LD = 0 from by unfold orN; rw [if_pos rgtD, odD]; rfl, show orE 1 lnD LD = 121 from by unfold orE; rw [if_pos rgtD, odD]; rfl] at h
  exact h.mono fun _ _ ⟨ga, g, gc, e, h, hb⟩ => ⟨ga, gc, e, hb⟩
/-! Graphs that are written out. -/
theorem rr_three {W : World} {x y z : Nat} {c1 c2 c3 : Array Value} {n1 n2 n3 m1 m2 m3 : Nat} {ln : Nat → Nat} {L : Nat → Nat → Int} (h1 : W.heap[x]? = some (.cells c1 3 (0, 0))) (h2 : W.heap[y]? = some (.cells c2 3 (0, 0))) (h3 : W.heap[z]? = some (.cells c3 3 (0, 0))) (e1 : ∀ i, i < n1 → c1[i]? = some (.int .i64 (L 0 i))) (e2 : ∀ i, i < n2 → c2[i]? = some (.int .i64 (L 1 i))) (e3 : ∀ i, i < n3 → c3[i]? = some (.int .i64 (L 2 i))) (hn1 : ln 0 = n1) (hn2 : ln 1 = n2) (hn3 : ln 2 = n3) :
    Rr (W.alloc (.cells #[.slice (some ⟨x, 0, none⟩) n1 m1, .slice (some ⟨y, 0, none⟩) n2 m2, .slice (some ⟨z, 0, none⟩) n3 m3] 23)) (some ⟨W.heap.size, 0, none⟩) 3 ln L := by
  refine ⟨fun k => if k = 0 then some ⟨x, 0, none⟩ else if k = 1 then some ⟨y, 0, none⟩ else some ⟨z, 0, none⟩, fun k => if k = 0 then m1 else if k = 1 then m2 else m3, fun _ => ⟨_, 0, rfl, blk_lt (heap_new _ _), fun i hi => ?_⟩, fun k hk => ?_⟩
  · rw [Nat.zero_add, (cell_blk (heap_new _ _) i).1]
    match i, hi with
    | 0, _ => simp [hn1]
    | 1, _ => simp [hn2]
    | 2, _ => simp [hn3]
  · match k, hk with
    | 0, _ => exact Ri.later (by show Ri W _ (ln 0) _; rw [hn1]; exact ri_vals h1 e1) (al _ _)
    | 1, _ => exact Ri.later (by show Ri W _ (ln 1) _; rw [hn2]; exact ri_vals h2 e2) (al _ _)
    | 2, _ => exact Ri.later (by show Ri W _ (ln 2) _; rw [hn3]; exact ri_vals h3 e3) (al _ _)
theorem rr_two {W : World} {x y : Nat} {c1 c2 : Array Value} {n1 n2 m1 m2 : Nat} {ln : Nat → Nat} {L : Nat → Nat → Int} (h1 : W.heap[x]? = some (.cells c1 3 (0, 0))) (h2 : W.heap[y]? = some (.cells c2 3 (0, 0))) (e1 : ∀ i, i < n1 → c1[i]? = some (.int .i64 (L 0 i))) (e2 : ∀ i, i < n2 → c2[i]? = some (.int .i64 (L 1 i))) (hn1 : ln 0 = n1) (hn2 : ln 1 = n2) :
    Rr (W.alloc (.cells #[.slice (some ⟨x, 0, none⟩) n1 m1, .slice (some ⟨y, 0, none⟩) n2 m2] 23)) (some ⟨W.heap.size, 0, none⟩) 2 ln L := by
  refine ⟨fun k => if k = 0 then some ⟨x, 0, none⟩ else some ⟨y, 0, none⟩, fun k => if k = 0 then m1 else m2, fun _ => ⟨_, 0, rfl, blk_lt (heap_new _ _), fun i hi => ?_⟩, fun k hk => ?_⟩
  · rw [Nat.zero_add, (cell_blk (heap_new _ _) i).1]
    match i, hi with
    | 0, _ => simp [hn1]
    | 1, _ => simp [hn2]
  · match k, hk with
    | 0, _ => exact Ri.later (by show Ri W _ (ln 0) _; rw [hn1]; exact ri_vals h1 e1) (al _ _)
    | 1, _ => exact Ri.later (by show Ri W _ (ln 1) _; rw [hn2]; exact ri_vals h2 e2) (al _ _)
theorem rr_one {W : World} {x : Nat} {c1 : Array Value} {n1 m1 : Nat} {ln : Nat → Nat} {L : Nat → Nat → Int} (h1 : W.heap[x]? = some (.cells c1 3 (0, 0))) (e1 : ∀ i, i < n1 → c1[i]? = some (.int .i64 (L 0 i))) (hn1 : ln 0 = n1) :
    Rr (W.alloc (.cells #[.slice (some ⟨x, 0, none⟩) n1 m1] 23)) (some ⟨W.heap.size, 0, none⟩) 1 ln L := by
  refine ⟨fun _ => some ⟨x, 0, none⟩, fun _ => m1, fun _ => ⟨_, 0, rfl, blk_lt (heap_new _ _), fun i hi => ?_⟩, fun k hk => ?_⟩
  · rw [Nat.zero_add, (cell_blk (heap_new _ _) i).1]
    match i, hi with
    | 0, _ => simp [hn1]
  · match k, hk with
    | 0, _ => exact Ri.later (by show Ri W _ (ln 0) _; rw [hn1]; exact ri_vals h1 e1) (al _ _)
theorem only_one {n : Nat} {P : Nat → Prop} (hn : n ≤ 1) (h : P 0) : ∀ i, i < n → P i := fun i hi => by
  have : i = 0 := by omega
  rw [this]; exact h
theorem lit_B (W : World) : Rr ((((W.alloc (.cells #[.int .i64 1] 3)).alloc (.cells #[.int .i64 0] 3)).alloc (.cells #[.int .i64 0] 3)).alloc (.cells #[.slice (some ⟨W.heap.size, 0, none⟩) 1 1, .slice (some ⟨W.heap.size + 1, 0, none⟩) 1 1, .slice (some ⟨W.heap.size + 1 + 1, 0, none⟩) 1 1] 23)) (some ⟨W.heap.size + 1 + 1 + 1, 0, none⟩) 3 lnB LB := by
  have b3 := heap_new ((W.alloc (.cells #[.int .i64 1] 3)).alloc (.cells #[.int .i64 0] 3)) (.cells #[.int .i64 0] 3)
  have b0 : ((W.alloc (.cells #[.int .i64 1] 3)).alloc (.cells #[.int .i64 0] 3)).heap[W.heap.size + 1]? = some (.cells #[.int .i64 0] 3 (0, 0)) := by
    have := heap_new (W.alloc (.cells #[.int .i64 1] 3)) (.cells #[.int .i64 0] 3)
    rw [World.size_alloc] at this
    exact this
  have b2 := ((al ((W.alloc (.cells #[.int .i64 1] 3)).alloc (.cells #[.int .i64 0] 3)) (.cells #[.int .i64 0] 3)).block (W.heap.size + 1) (by simp)).trans b0
  have b1 := ((bl_t (al (W.alloc (.cells #[.int .i64 1] 3)) (.cells #[.int .i64 0] 3)) (al _ (.cells #[.int .i64 0] 3))).block W.heap.size (by simp)).trans (heap_new W (.cells #[.int .i64 1] 3))
  simp only [World.size_alloc] at b3
  have h := rr_three (n1 := 1) (n2 := 1) (n3 := 1) (m1 := 1) (m2 := 1) (m3 := 1) (ln := lnB) (L := LB) b1 b2 b3 (only_one (Nat.le_refl _) rfl) (only_one (Nat.le_refl _) rfl) (only_one (Nat.le_refl _) rfl) rfl rfl rfl
  simp only [World.size_alloc] at h
  exact h
theorem lit_C (W : World) : Rr (((W.alloc (.cells #[.int .i64 1] 3)).alloc (.cells #[] 3)).alloc (.cells #[.slice (some ⟨W.heap.size, 0, none⟩) 1 1, .slice (some ⟨W.heap.size + 1, 0, none⟩) 0 0] 23)) (some ⟨W.heap.size + 1 + 1, 0, none⟩) 2 lnC LC := by
  have b2 := heap_new (W.alloc (.cells #[.int .i64 1] 3)) (.cells #[] 3)
  have b1 := ((al (W.alloc (.cells #[.int .i64 1] 3)) (.cells #[] 3)).block W.heap.size (by simp)).trans (heap_new W (.cells #[.int .i64 1] 3))
  rw [World.size_alloc] at b2
  have h := rr_two (n1 := 1) (n2 := 0) (m1 := 1) (m2 := 0) (ln := lnC) (L := LC) b1 b2 (only_one (Nat.le_refl _) rfl) (fun i hi => absurd hi (Nat.not_lt_zero _)) rfl rfl
  simp only [World.size_alloc] at h
  exact h
theorem lit_D (W : World) : Rr ((W.alloc (.cells #[.int .i64 0] 3)).alloc (.cells #[.slice (some ⟨W.heap.size, 0, none⟩) 1 1] 23)) (some ⟨W.heap.size + 1, 0, none⟩) 1 lnD LD := by
  have h := rr_one (n1 := 1) (m1 := 1) (ln := lnD) (L := LD) (heap_new W (.cells #[.int .i64 0] 3)) (only_one (Nat.le_refl _) rfl) rfl
  simp only [World.size_alloc] at h
  exact h
theorem lit_b (W : World) : Ri (W.alloc (.cells #[.int .i64 1, .int .i64 0] 3)) (some ⟨W.heap.size, 0, none⟩) 2 bV := ri_vals (heap_new _ _) fun i hi => by
  match i, hi with
  | 0, _ => rfl
  | 1, _ => rfl
theorem bl4 (W : World) (o1 o2 o3 o4 : Obj) : Below W.heap.size W ((((W.alloc o1).alloc o2).alloc o3).alloc o4) := bl_t (bl3 _ _ _ _) (al _ _)
theorem bl2 (W : World) (o1 o2 : Obj) : Below W.heap.size W ((W.alloc o1).alloc o2) := bl_t (al _ _) (al _ _)
set_option maxRecDepth 100000 in
set_option maxHeartbeats 4000000 in
theorem lives_any (w : World) : Calls Try.prog 25 #[] w fun x w' => x = .returned (.bool true) ∧ Below w.heap.size w w' := by
  have c1 := hide (Parts_B (nc := 3) (lit_B w))
  go_enter Try.func25, Try.ntmps25
  go_upto_region 2 with (go_at_call 30; refine (unhide c1).mono ?_; rintro x1 w1 ⟨ga, rfl, q1, q2⟩; have A1 := hide q1; have B1 := hide (bl_t (bl4 _ _ _ _ _) q2); clear q1 q2)
  have c2 := hide (Order_C (nc := 2) (lit_C w1))
  go_upto_region 3 with (go_at_call 29; refine (unhide c2).mono ?_; rintro x2 w2 ⟨gb, kb, cb, rfl, q1, q2⟩; have A2 := hide q1; have B2 := hide (bl_t (bl3 _ _ _ _) q2); clear q1 q2)
  have c3 := hide (Order_D (nc := 1) (lit_D w2))
  go_upto_region 4 with (go_at_call 29; refine (unhide c3).mono ?_; rintro x3 w3 ⟨gd, cd, rfl, q2⟩; have B3 := hide (bl_t (bl2 _ _ _) q2); clear q2)
  go_wp2_with (first | (go_at_call 35; refine (lists_any 2 (lnL oL) (LL oL) ga (some ⟨w3.heap.size + 1 + 1, 0, none⟩) 2 2 _ (by omega) (le_big (Nat.le_refl _) (fun k => Nat.le_trans (oL_len k) (by omega)) _) ((unhide A1).rr.later (bl_t (bl_t (unhide B2) (unhide B3)) (bl3 w3 _ _ _))) (lit_o w3)).mono ?_; rintro x4 w4 ⟨rfl, hb⟩; have B4 := hide (bl_t (bl3 _ _ _ _) hb); clear hb) | (go_at_call 20; refine (numbers_any 2 bV gb (some ⟨w4.heap.size, 0, none⟩) cb 2 _ (by omega) (Ri.later (unhide A2).ri (bl_t (bl_t (unhide B3) (unhide B4)) (al w4 _))) (lit_b w4)).mono ?_; rintro x5 w5 ⟨rfl, hb⟩; have B5 := hide (bl_t (al _ _) hb); clear hb))
  go_ret
  exact ⟨rfl, bl_t (bl_t (bl_t (bl_t (unhide B1) (unhide B2)) (unhide B3)) (unhide B4)) (unhide B5)⟩
end Go.Proofs.Ytjflnpcpnoccjaa
