import Derived.Test.YtdkpglmdncjnbaaGreatDoorZf44
import Derived.Test.YtdkpglmdncjnbaaGreatDoorZf46
import Derived.IntWalk
namespace Go.Proofs.YtdkpglmdncjnbaaGreatDoor
section
open Go.RowKit Go.Maps Go.Shelf
theorem infoCl : (Tryz.prog.info? 49).map (fun i => (i.zero, i.size, i.bytes)) = some (some (.slice none 0 0), 1, 24) := by kernel_rfl
theorem infoWi : (Tryz.prog.info? 73).map (fun i => (i.zero, i.size, i.bytes)) = some (some (.agg #[.int .i64 0, .string ⟨#[]⟩, .int .i64 0, .string ⟨#[]⟩]), 4, 48) := by kernel_rfl
def wiC (ws : List Wd) : List Value := (ws.map Wd.cs).flatten
def At2 (W : World) (K : Nat) : Prop := ∃ s : Nm, s.size ≤ maxLen ∧ W.heap[K]? = some (.cells #[.string s, .int .i64 0, .string ⟨#[]⟩, .string ⟨#[122, 122]⟩, .int .i64 0, .string ⟨#[]⟩] 48 (0, 0))
structure Bu (W0 wr : World) (nv wv ov : Value) (a b c : Nat) : Prop where
 nm : ∃ hs : List Nat, hs.length = a ∧ wr.ownsRow W0.heap.size 49 1 nv a (hs.map fun K => .slice (some ⟨K, 0, none⟩) 2 2) ∧ ∀ K ∈ hs, K < wr.heap.size ∧ nv.ownBlock ≠ some K ∧ wv.ownBlock ≠ some K ∧ ov.ownBlock ≠ some K ∧ At2 wr K
 wi : ∃ ws : List Wd, ws.length = b ∧ wr.ownsRow W0.heap.size 73 4 wv b (wiC ws) ∧ ∀ x ∈ ws, WdOk x
 ou : ∃ ks : List (Nm × Nm), ks.length = c ∧ wr.ownsRow W0.heap.size 29 2 ov c (kyC ks) ∧ ∀ x ∈ ks, x.1.size ≤ maxLen ∧ x.2.size ≤ maxLen
 d1 : ∀ g, nv.ownBlock = some g → wv.ownBlock ≠ some g ∧ ov.ownBlock ≠ some g
 d2 : ∀ g, wv.ownBlock = some g → ov.ownBlock ≠ some g
 bel : RowKit.Below W0.heap.size W0 wr
theorem Bu.start (W : World) : Bu W W (.slice none 0 0) (.slice none 0 0) (.slice none 0 0) 0 0 0 :=
 ⟨⟨[], rfl, ⟨rfl, .inl ⟨rfl, rfl⟩⟩, fun K h => (by cases h)⟩, ⟨[], rfl, ⟨rfl, .inl ⟨rfl, rfl⟩⟩, fun x h => (by cases h)⟩, ⟨[], rfl, ⟨rfl, .inl ⟨rfl, rfl⟩⟩, fun x h => (by cases h)⟩, fun g h => (by cases h), fun g h => (by cases h), Below.refl _ _⟩
theorem At2.same {W W2 : World} {K : Nat} (h : At2 W K) (e : W2.heap[K]? = W.heap[K]?) : At2 W2 K := let ⟨s, h1, h2⟩ := h; ⟨s, h1, e.trans h2⟩
theorem lt_own {W : World} {lo e size n : Nat} {v : Value} {xs : List Value} (h : W.ownsRow lo e size v n xs) {g : Nat} (hg : v.ownBlock = some g) : g < W.heap.size := (World.ownsRow.lt h g hg).2
theorem Bu.putN {W0 wr : World} {nv wv ov : Value} {a b c : Nat} (h : Bu W0 wr nv wv ov a b c) (s : Nm) (hs : s.size ≤ maxLen) (ha : a ≤ 1099511627776) (ty : TypeId) : ∃ v' w9, (Builtin.append_ #[40, 40] ty #[nv, .slice (some ⟨wr.heap.size + 1, 0, none⟩) 1 1]).run Tryz.prog ((wr.alloc (.cells #[.string s, .int .i64 0, .string ⟨#[]⟩, .string ⟨#[122, 122]⟩, .int .i64 0, .string ⟨#[]⟩] 48)).alloc (.cells #[.slice (some ⟨wr.heap.size, 0, none⟩) 2 2] 49)) = .ok v' w9 ∧ Bu W0 w9 v' wv ov (a + 1) b c := by
 obtain ⟨i0, hi, hz0, hz1, hz2⟩ := info_parts2 infoCl
 obtain ⟨hl, e0, r0, k0⟩ := h.nm
 obtain ⟨ws, e1, r1, k1⟩ := h.wi
 obtain ⟨ks, e2, r2, k2⟩ := h.ou
 have hbz := h.bel.size
 obtain ⟨W1, hW1⟩ : ∃ W, W = wr.alloc (.cells #[.string s, .int .i64 0, .string ⟨#[]⟩, .string ⟨#[122, 122]⟩, .int .i64 0, .string ⟨#[]⟩] 48) := ⟨_, rfl⟩
 have z1 : W1.heap.size = wr.heap.size + 1 := by rw [hW1]; exact World.size_alloc _ _
 have hnew := cell_one_new W1 (.slice (some ⟨wr.heap.size, 0, none⟩) 2 2) 49
 rw [z1] at hnew
 obtain ⟨v', w9, hr, h2, h3, _, h4⟩ := run_append_own_at (P := Tryz.prog) (W1.alloc (.cells #[.slice (some ⟨wr.heap.size, 0, none⟩) 2 2] 49)) W0.heap.size 40 ty 49 i0 (.slice none 0 0) 1 24 Tryz.underlying40 hi hz0 hz1 hz2 rfl (by decide) nv a _ (by rw [hW1]; exact (r0.alloc _).alloc _) ⟨wr.heap.size + 1, 0, none⟩ 1 1 [.slice (some ⟨wr.heap.size, 0, none⟩) 2 2] rfl hnew (by simp [Value.oneCell']) (by unfold maxLen; omega) (by omega) (by rw [World.size_alloc, z1]; omega)
 have z2 : (W1.alloc (.cells #[.slice (some ⟨wr.heap.size, 0, none⟩) 2 2] 49)).heap.size = wr.heap.size + 2 := by rw [World.size_alloc, z1]
 rw [z2] at h4
 have zs := h3.size
 rw [z2] at zs
 have old : ∀ g, g < wr.heap.size → nv.ownBlock ≠ some g → w9.heap[g]? = wr.heap[g]? := fun g hg hn => by
  rw [h3.block g (by rw [z2]; omega) (fun e => hn e.symm), Below.heap_alloc _ _ _ (by rw [z1]; omega), hW1, Below.heap_alloc _ _ _ hg]
 have hbig : ∀ g, v'.ownBlock = some g → nv.ownBlock = some g ∨ g = wr.heap.size + 2 := fun g e => by
  rcases h4 with q | q
  ·exact .inl (q ▸ e)
  ·rw [q] at e
   cases e
   exact .inr rfl
 have n1 : nv.ownBlock ≠ some wr.heap.size := fun e => by have := lt_own r0 e; omega
 have w1 : wv.ownBlock ≠ some wr.heap.size := fun e => by have := lt_own r1 e; omega
 have o1 : ov.ownBlock ≠ some wr.heap.size := fun e => by have := lt_own r2 e; omega
 have hatn : w9.heap[wr.heap.size]? = some (.cells #[.string s, .int .i64 0, .string ⟨#[]⟩, .string ⟨#[122, 122]⟩, .int .i64 0, .string ⟨#[]⟩] 48 (0, 0)) := by
  rw [h3.block _ (by rw [z2]; omega) (fun e => n1 e.symm), Below.heap_alloc _ _ _ (by rw [z1]; omega), hW1]
  exact World.alloc_heap_new wr _
 refine ⟨v', w9, by rw [← hW1]; exact hr, ⟨hl ++ [wr.heap.size], by simp [e0], by rw [List.map_append]; exact h2, fun K hK => ?_⟩, ⟨ws, e1, own_same r1 fun g e => old g (lt_own r1 e) (fun q => (h.d1 g q).1 e), k1⟩, ⟨ks, e2, own_same r2 fun g e => old g (lt_own r2 e) (fun q => (h.d1 g q).2 e), k2⟩, fun g e => ?_, h.d2, ?_⟩
 ·rcases List.mem_append.1 hK with hK | hK
  ·obtain ⟨q1, q2, q3, q4, q5⟩ := k0 K hK
   refine ⟨by omega, fun e => ?_, q3, q4, q5.same (old K q1 q2)⟩
   rcases hbig K e with q | q
   ·exact q2 q
   ·omega
  ·obtain rfl := List.mem_singleton.1 hK
   refine ⟨by omega, fun e => ?_, w1, o1, s, hs, hatn⟩
   rcases hbig _ e with q | q
   ·exact n1 q
   ·omega
 ·rcases hbig g e with q | q
  ·exact h.d1 g q
  ·subst q
   exact ⟨fun e => by have := lt_own r1 e; omega, fun e => by have := lt_own r2 e; omega⟩
 ·refine ⟨h3.os.trans (by rw [hW1]; exact h.bel.os), h3.tape.trans (by rw [hW1]; exact h.bel.tape), h3.output.trans (by rw [hW1]; exact h.bel.output), by omega, fun g hg => ?_⟩
  refine (old g (by omega) fun e => ?_).trans (h.bel.block g hg)
  have := (World.ownsRow.lt r0 g e).1
  omega
theorem four_news (w : World) (x y z u : Value) (t : TypeId) : ∀ j v, [x, y, z, u][j]? = some v → (w.alloc (.cells #[x, y, z, u] t)).cell? ((⟨w.heap.size, 0, none⟩ : Addr).add j) = some v := by
 intro j v hj
 match j, hj with
 | 0, hj => simp at hj; subst hj; simp [Addr.add]
 | 1, hj => simp at hj; subst hj; simp [Addr.add]
 | 2, hj => simp at hj; subst hj; simp [Addr.add]
 | 3, hj => simp at hj; subst hj; simp [Addr.add]
theorem two_newsK (w : World) (x y : Value) (t : TypeId) : ∀ j v, [x, y][j]? = some v → (w.alloc (.cells #[x, y] t)).cell? ((⟨w.heap.size, 0, none⟩ : Addr).add j) = some v := by
 intro j v hj
 match j, hj with
 | 0, hj => simp at hj; subst hj; simp [Addr.add]
 | 1, hj => simp at hj; subst hj; simp [Addr.add]
theorem Bu.putW {W0 wr : World} {nv wv ov : Value} {a b c : Nat} (h : Bu W0 wr nv wv ov a b c) (x : Wd) (hx : WdOk x) (hc : b ≤ 1099511627776) (ty : TypeId) : ∃ v' w9, (Builtin.append_ #[71, 71] ty #[wv, .slice (some ⟨wr.heap.size, 0, none⟩) 1 1]).run Tryz.prog (wr.alloc (.cells #[.int .i64 x.kd, .string x.an, .int .i64 x.op, .string x.bd] 73)) = .ok v' w9 ∧ Bu W0 w9 nv v' ov a (b + 1) c := by
 obtain ⟨i0, hi, hz0, hz1, hz2⟩ := info_parts2 infoWi
 obtain ⟨hl, e0, r0, k0⟩ := h.nm
 obtain ⟨ws, e1, r1, k1⟩ := h.wi
 obtain ⟨ks, e2, r2, k2⟩ := h.ou
 have hbz := h.bel.size
 have z1 : (wr.alloc (.cells #[.int .i64 x.kd, .string x.an, .int .i64 x.op, .string x.bd] 73)).heap.size = wr.heap.size + 1 := World.size_alloc _ _
 obtain ⟨v', w9, hr, h2, h3, _, h4⟩ := run_append_own_at (P := Tryz.prog) (wr.alloc (.cells #[.int .i64 x.kd, .string x.an, .int .i64 x.op, .string x.bd] 73)) W0.heap.size 71 ty 73 i0 (.agg #[.int .i64 0, .string ⟨#[]⟩, .int .i64 0, .string ⟨#[]⟩]) 4 48 Tryz.underlying71 hi hz0 hz1 hz2 rfl (by decide) wv b _ (r1.alloc _) ⟨wr.heap.size, 0, none⟩ 1 1 [.int .i64 x.kd, .string x.an, .int .i64 x.op, .string x.bd] rfl (four_news _ _ _ _ _ _) (by simp [Value.oneCell']) (by unfold maxLen; omega) (by omega) (by rw [z1]; omega)
 rw [z1] at h4
 have zs := h3.size
 rw [z1] at zs
 have old : ∀ g, g < wr.heap.size → wv.ownBlock ≠ some g → w9.heap[g]? = wr.heap[g]? := fun g hg hn => by
  rw [h3.block g (by rw [z1]; omega) (fun e => hn e.symm), Below.heap_alloc _ _ _ hg]
 have hbig : ∀ g, v'.ownBlock = some g → wv.ownBlock = some g ∨ g = wr.heap.size + 1 := fun g e => by
  rcases h4 with q | q
  ·exact .inl (q ▸ e)
  ·rw [q] at e
   cases e
   exact .inr rfl
 have hbel : RowKit.Below W0.heap.size W0 w9 := by
  refine ⟨h3.os.trans h.bel.os, h3.tape.trans h.bel.tape, h3.output.trans h.bel.output, by omega, fun g hg => ?_⟩
  refine (old g (by omega) fun e => ?_).trans (h.bel.block g hg)
  have := (World.ownsRow.lt r1 g e).1
  omega
 refine ⟨v', w9, hr, ⟨hl, e0, own_same r0 fun g e => old g (lt_own r0 e) ((h.d1 g e).1), fun K hK => ?_⟩, ⟨ws ++ [x], by simp [e1], by unfold wiC; rw [List.map_append, List.flatten_append]; exact h2, fun y hy => ?_⟩, ⟨ks, e2, own_same r2 fun g e => old g (lt_own r2 e) (fun q => h.d2 g q e), k2⟩, fun g e => ⟨fun e2 => ?_, (h.d1 g e).2⟩, fun g e => ?_, hbel⟩
 ·obtain ⟨q1, q2, q3, q4, q5⟩ := k0 K hK
  refine ⟨by omega, q2, fun e => ?_, q4, q5.same (old K q1 q3)⟩
  rcases hbig K e with q | q
  ·exact q3 q
  ·omega
 ·rcases List.mem_append.1 hy with hy | hy
  ·exact k1 y hy
  ·obtain rfl := List.mem_singleton.1 hy
   exact hx
 ·rcases hbig g e2 with q | q
  ·exact (h.d1 g e).1 q
  ·have := lt_own r0 e
   omega
 ·rcases hbig g e with q | q
  ·exact h.d2 g q
  ·intro e2
   have := lt_own r2 e2
   omega
theorem Bu.putK {W0 wr : World} {nv wv ov : Value} {a b c : Nat} (h : Bu W0 wr nv wv ov a b c) (x : Nm × Nm) (hx : x.1.size ≤ maxLen ∧ x.2.size ≤ maxLen) (hc : c ≤ 1099511627776) (ty : TypeId) : ∃ v' w9, (Builtin.append_ #[33, 33] ty #[ov, .slice (some ⟨wr.heap.size, 0, none⟩) 1 1]).run Tryz.prog (wr.alloc (.cells #[.string x.1, .string x.2] 29)) = .ok v' w9 ∧ Bu W0 w9 nv wv v' a b (c + 1) := by
 obtain ⟨i0, hi, hz0, hz1, hz2⟩ := info_parts2 infoKz
 obtain ⟨hl, e0, r0, k0⟩ := h.nm
 obtain ⟨ws, e1, r1, k1⟩ := h.wi
 obtain ⟨ks, e2, r2, k2⟩ := h.ou
 have hbz := h.bel.size
 have z1 : (wr.alloc (.cells #[.string x.1, .string x.2] 29)).heap.size = wr.heap.size + 1 := World.size_alloc _ _
 obtain ⟨v', w9, hr, h2, h3, _, h4⟩ := run_append_own_at (P := Tryz.prog) (wr.alloc (.cells #[.string x.1, .string x.2] 29)) W0.heap.size 33 ty 29 i0 (.agg #[.string ⟨#[]⟩, .string ⟨#[]⟩]) 2 32 Tryz.underlying33 hi hz0 hz1 hz2 rfl (by decide) ov c _ (r2.alloc _) ⟨wr.heap.size, 0, none⟩ 1 1 [.string x.1, .string x.2] rfl (two_newsK _ _ _ _) (by simp [Value.oneCell']) (by unfold maxLen; omega) (by omega) (by rw [z1]; omega)
 rw [z1] at h4
 have zs := h3.size
 rw [z1] at zs
 have old : ∀ g, g < wr.heap.size → ov.ownBlock ≠ some g → w9.heap[g]? = wr.heap[g]? := fun g hg hn => by
  rw [h3.block g (by rw [z1]; omega) (fun e => hn e.symm), Below.heap_alloc _ _ _ hg]
 have hbig : ∀ g, v'.ownBlock = some g → ov.ownBlock = some g ∨ g = wr.heap.size + 1 := fun g e => by
  rcases h4 with q | q
  ·exact .inl (q ▸ e)
  ·rw [q] at e
   cases e
   exact .inr rfl
 have hbel : RowKit.Below W0.heap.size W0 w9 := by
  refine ⟨h3.os.trans h.bel.os, h3.tape.trans h.bel.tape, h3.output.trans h.bel.output, by omega, fun g hg => ?_⟩
  refine (old g (by omega) fun e => ?_).trans (h.bel.block g hg)
  have := (World.ownsRow.lt r2 g e).1
  omega
 refine ⟨v', w9, hr, ⟨hl, e0, own_same r0 fun g e => old g (lt_own r0 e) ((h.d1 g e).2), fun K hK => ?_⟩, ⟨ws, e1, own_same r1 fun g e => old g (lt_own r1 e) (h.d2 g e), k1⟩, ⟨ks ++ [x], by simp [e2], by unfold kyC; rw [List.map_append, List.flatten_append]; exact h2, fun y hy => ?_⟩, fun g e => ⟨(h.d1 g e).1, fun e2 => ?_⟩, fun g e e2 => ?_, hbel⟩
 ·obtain ⟨q1, q2, q3, q4, q5⟩ := k0 K hK
  refine ⟨by omega, q2, q3, fun e => ?_, q5.same (old K q1 q4)⟩
  rcases hbig K e with q | q
  ·exact q4 q
  ·omega
 ·rcases List.mem_append.1 hy with hy | hy
  ·exact k2 y hy
  ·obtain rfl := List.mem_singleton.1 hy
   exact hx
 ·rcases hbig g e2 with q | q
  ·exact (h.d1 g e).2 q
  ·have := lt_own r0 e
   omega
 ·rcases hbig g e2 with q | q
  ·exact h.d2 g e q
  ·have := lt_own r1 e
   omega
end
section
open Go.RowKit Go.Maps Go.Shelf
theorem closed_then {ps : List Pk} (sm : SmP ps) (ht : akK ps ps.length ≤ 1048576) {inn : Nat → Bool} (hin : Clo ps inn ∧ (∀ G, Clo ps G → ∀ p, p < ps.length → G p = true → inn p = true) ∧ ∀ p, inn p = true → p < ps.length) {X : World} {v : Value} (pk : Pkl X v ps) :
 Calls Tryz.prog 15 #[v] X fun e w' => ∃ r, e = .returned r ∧ w'.ownsRow X.heap.size 3 1 r (plL inn ps.length).length (ints (plL inn ps.length)) ∧ RowKit.Below X.heap.size X w' := by
 refine (Closed_any sm pk ht).mono ?_
 rintro e w' ⟨r, i2, rfl, ro, h2, hb⟩
 rw [closed_two h2 hin] at ro
 exact ⟨r, rfl, ro, hb⟩
theorem row_kyl2 {lo N : Nat} {w : World} {u : Value} {L : List (Nm × Nm)} (h : w.ownsRow lo 29 2 u N (kyC L)) (hN : N = L.length) : Kyl w u L := by
 subst hN
 exact row_kyl h
theorem own_lt {lo e size n : Nat} {W : World} {v : Value} {xs : List Value} (h : W.ownsRow lo e size v n xs) : ∀ g, v.ownBlock = some g → lo ≤ g ∧ g < W.heap.size := fun g e => World.ownsRow.lt h g e
end
end Go.Proofs.YtdkpglmdncjnbaaGreatDoor
