import Derived.Test.YtdkpglmdncjnbaaGreatDoorZf17
namespace Go.Proofs.YtdkpglmdncjnbaaGreatDoor
section
open Go.RowKit Go.Maps Go.Shelf
abbrev y18_1 : Oper := ⟨some 18, .load 46 (.tmp 17), 46, "check.go:38", #[⟨5, .data⟩], none⟩
attribute [local go_sem] Oper.semAt_some
attribute [local simp] wide_fn
attribute [local go_sem] wide_fn
set_option maxRecDepth 100000 in
set_option maxHeartbeats 8000000 in
theorem isMet_any {w : World} {b1 b2 : Nat} {v cl av : Value} {xs : List Pd} {ps : List Pk} {base : Nat} {H1 H2 : Nm → Option Hd} {k1 k2 : Nat} (kd ix bt : Int) (al : List At) (inn : Nat → Bool) (m1 : Mi w base (.map (some b1)) H1 (nmP xs xs.length) k1) (m2 : Mi w base (.map (some b2)) H2 (pvP xs xs.length) k2) (pk : Pks w v xs) (hs : Sim xs ps) (sm : SmP ps) (ha : Ats w cl al) (hal : al.length ≤ 1000000000) (hsz : ∀ a ∈ al, a.n.size ≤ maxLen ∧ a.v.size ≤ maxLen) (hin : Bls w av inn ps.length) :
 Calls Tryz.prog 71 #[.agg #[v, .map (some b1), .map (some b2)], .agg #[.int .i64 kd, .int .i64 ix, cl, .int .i64 bt], av] w fun e w' => e = .returned (.bool (imP ps inn bt al)) ∧ RowKit.Below w.heap.size w w' := by
 obtain ⟨ca, cc, rfl⟩ : ∃ a c, cl = .slice a al.length c := let ⟨a, c, e, _⟩ := ha; ⟨a, c, e⟩
 obtain ⟨ia, ic, rfl⟩ : ∃ a c, av = .slice a ps.length c := let ⟨a, c, e, _⟩ := hin; ⟨a, c, e⟩
 obtain ⟨N, hN⟩ : ∃ N, N = al.length := ⟨_, rfl⟩
 have HN := hide hN
 have him := im_new w #[v, .map (some b1), .map (some b2)] #[.int .i64 kd, .int .i64 ix, .slice ca al.length cc, .int .i64 bt] (.slice ia ps.length ic)
 rw [← hN] at him ⊢
 have HIM := hide him
 have HAT := hide (show ∀ X, RowKit.Below w.heap.size w X → Ats X (.slice ca N cc) al ∧ Bls X (.slice ia ps.length ic) inn ps.length from fun X hX => ⟨by rw [hN]; exact ha.later hX, hin.later hX⟩)
 have HSA := hide (show ∀ (a : At), a ∈ al → ∀ (X : World) (B : Nat), RowKit.Below w.heap.size w X → X.heap[B]? = some (.cells #[v, .map (some b1), .map (some b2)] 62 (0, 0)) → X.heap[B + 1]? = some (.cells #[.string a.n, .int .i64 a.op, .string a.v] 48 (0, 0)) → SeqB Fence.wide 8 Tryz.prog 102 #[.pointer (some ⟨B, 0, none⟩), .pointer (some ⟨B + 1, 0, none⟩)] encI (Kb w.heap.size B (B + 1)) (fun l => l = satL xs a.n a.op a.v (nmP xs xs.length a.n) (pvP xs xs.length a.n)) (fun pre => pre <+: satL xs a.n a.op a.v (nmP xs xs.length a.n) (pvP xs xs.length a.n)) ((satL xs a.n a.op a.v (nmP xs xs.length a.n) (pvP xs xs.length a.n)).length + 1) X from fun a hma X B hX hs1 hs2 => by
  have hl1 := nmP_len xs xs.length a.n
  have hl2 := pvP_len xs xs.length a.n
  have ht := sm.tot hs
  have hl := sm.l
  rw [← hs.1] at hl
  exact sat_b 8 ⟨⟨hX, hs1, hs2⟩, m1, m2, pk, fun p hp => by
   rcases List.mem_append.1 hp with hp | hp
   ·exact ((nmP_mem xs _ _ _).1 hp).1
   ·exact ((pvP_mem xs _ _ _).1 hp).1, (hsz a hma).1, (hsz a hma).2⟩ (by omega) (by omega))
 have HIP := hide (show ∀ a, ((satL xs a.n a.op a.v (nmP xs xs.length a.n) (pvP xs xs.length a.n)).any (hitP inn bt) = ((List.range ps.length).any fun p => mP ps a p && hitP inn bt p)) ∧ ∀ p ∈ satL xs a.n a.op a.v (nmP xs xs.length a.n) (pvP xs xs.length a.n), p < ps.length from fun a => ⟨imP_one hs inn bt a, fun p hp => mP_lt ((satL_mem hs a p).1 hp)⟩)
 obtain ⟨res, hres⟩ : ∃ r, r = imP ps inn bt al := ⟨_, rfl⟩
 rw [← hres]
 have HRES := hide hres
 rw [← hN] at hal
 clear hN him ha hin hres m1 m2 pk hs sm hsz
 refine (callsIn_wide (n := 9)).1 ?_
 refine callsIn_of_wp_marks Tryz.func71 rfl trivial ?_ rfl
 simp only [Tryz.ntmps71, List.size_toArray, List.length_cons, List.length_nil, Nat.reduceAdd, Nat.reduceSub, Array.replicate_succ, Array.replicate_zero, List.push_toArray, List.append_toArray, List.nil_append, List.cons_append]
 gi_wp2
 refine wpIn_loop (fun a2 w2 => ∃ (j : Nat) (u8 u9 u14 u15 u16 u17 u18 u19 u20 u21 u22 u23 u24 u25 u26 u27 u28 u29 u30 u31 : Value) (Ds : List Nat), j ≤ N ∧ Hid (Im w w2 #[v, .map (some b1), .map (some b2)] #[.int .i64 kd, .int .i64 ix, .slice ca N cc, .int .i64 bt] (.slice ia ps.length ic) false Ds ∧ ∀ i a, i < j → al[i]? = some a → ((List.range ps.length).any fun p => mP ps a p && hitP inn bt p) = false) ∧ a2 = { tmps := #[.agg #[v, .map (some b1), .map (some b2)], .agg #[.int .i64 kd, .int .i64 ix, .slice ca N cc, .int .i64 bt], .slice ia ps.length ic, .pointer (some ⟨w.heap.size, 0, none⟩), .pointer (some ⟨w.heap.size + 1, 0, none⟩), .pointer (some ⟨w.heap.size + 2, 0, none⟩), .pointer (some ⟨w.heap.size + 3, 0, none⟩), undef, u8, u9, .pointer (some ⟨w.heap.size + 1, 2, none⟩), .slice ca N cc, .int .i64 N, .int .i64 (j : Nat), u14, u15, u16, u17, u18, u19, u20, u21, u22, u23, u24, u25, u26, u27, u28, u29, u30, u31], defers := Ds.map mk1 }) (fun a2 _ => N - (intOf (a2.tmps.getD 13 undef)).toNat) ?st ?rd
 case st => exact ⟨0, _, _, _, _, _, _, _, _, _, _, _, _, _, _, _, _, _, _, _, _, [], Nat.zero_le _, hide ⟨unhide HIM, fun i a h => absurd h (Nat.not_lt_zero _)⟩, rfl⟩
 case rd =>
  rintro _ wr ⟨j, u8, u9, u14, u15, u16, u17, u18, u19, u20, u21, u22, u23, u24, u25, u26, u27, u28, u29, u30, u31, Ds, hj, HI, rfl⟩
  clear HIM
  dsimp only
  by_cases hlt : j < N
  ·have hlt2 : (j : Int) < (N : Int) := by omega
   have him := (unhide HI).1
   have hat := unhide HAT wr him.bw
   have hjp : j < al.length := by have := unhide HN; omega
   have hx : al[j]? = some al[j] := List.getElem?_eq_getElem hjp
   generalize al[j] = x at *
   obtain ⟨cb, co, rfl, hcb, c0, c1, c2⟩ := hat.1.at hx
   have s0 := (cell_blk him.b0 0).1.trans (show #[v, .map (some b1), .map (some b2)][0]? = some v from rfl)
   have s1 := (cell_blk him.b0 1).1.trans (show #[v, .map (some b1), .map (some b2)][1]? = some (.map (some b1)) from rfl)
   have s2 := (cell_blk him.b0 2).1.trans (show #[v, .map (some b1), .map (some b2)][2]? = some (.map (some b2)) from rfl)
   have HX := hide hx
   have hz0 : w.heap.size < wr.heap.size := blk_lt him.b0
   have HIJ := hide him
   clear hat hx hjp him
   gi_wp2_with fail
   obtain ⟨Wa, hWa⟩ : ∃ W, W = wr.alloc (.cells #[.string x.n, .int .i64 x.op, .string x.v] 48) := ⟨_, rfl⟩
   have hba : RowKit.Below wr.heap.size wr Wa := by rw [hWa]; exact (Below.refl _ _).alloc (Nat.le_refl _) _
   rw [← hWa]
   refine (callsIn_wide.2 (satisfiers_any v (.map (some b1)) (.map (some b2)) x.n x.op x.v Wa)).mono ?_
   rintro e w5 ⟨rfl, hs5, ha5, hb5⟩
   have HI5 := hide (((unhide HIJ).later hba).later hb5)
   have HSQ := hide (unhide HSA x (List.mem_of_getElem? (unhide HX)) w5 Wa.heap.size (unhide HI5).bw hs5 ha5)
   have hzs := blk_lt hs5
   have hza := blk_lt ha5
   clear hs5 ha5 hb5 hba hWa HIJ HSA c0 c1 c2 s0 s1 s2 hz0 hcb
   have HLP := hide (unhide HIP x)
   generalize satL xs x.n x.op x.v (nmP xs xs.length x.n) (pvP xs xs.length x.n) = L at *
   gi_wp2_with fail
   have hlt5 := (unhide HI5).lt
   refine rangeFunc_2b rfl (by decide) (gf := 102) (lb := #[.pointer (some ⟨Wa.heap.size, 0, none⟩), .pointer (some ⟨Wa.heap.size + 1, 0, none⟩)]) rfl trivial (enters_of Tryz.func102 (by kernel_rfl) rfl)
    (unhide HSQ) Kb.trans (Kb.put (unhide HI5).bw.size hzs hza) (Below.refl _ _) (fun _ => rfl) (fun pre Z => (Im w Z #[v, .map (some b1), .map (some b2)] #[.int .i64 kd, .int .i64 ix, .slice (some ⟨cb, co, none⟩) N cc, .int .i64 bt] (.slice ia ps.length ic) false Ds) ∧ ∀ p ∈ pre, hitP inn bt p = false) (fun c pre Z => c = .ret ∧ (Im w Z #[v, .map (some b1), .map (some b2)] #[.int .i64 kd, .int .i64 ix, .slice (some ⟨cb, co, none⟩) N cc, .int .i64 bt] (.slice ia ps.length ic) true Ds) ∧ ∃ p ∈ pre, hitP inn bt p = true) (fun s X Y row h hg hr => ⟨h.1.turn hg (fun k e => (hr k e).1) hlt5.1 hlt5.2, h.2⟩) (fun c s X Y row h hg hr => ⟨h.1, h.2.1.turn hg (fun k e => (hr k e).1) hlt5.1 hlt5.2, h.2.2⟩) ⟨unhide HI5, fun p h => by cases h⟩ ?a10 ?as0 ?bo0 ?do0 ?st0
   case as0 =>
    intro l x W K hK
    gi_wp2
    exact hK
   case bo0 =>
    intro l pre p Z hD hLp hI hlen hpre
    have hpL : p < ps.length := (unhide HLP).2 p (hpre.subset (by simp))
    have hpn : (p : Int) < (ps.length : Int) := by omega
    obtain ⟨ib, hia, hib⟩ : ∃ b, ia = some ⟨b, 0, none⟩ ∧ Z.cell? ⟨b, p, none⟩ = some (.bool (inn p)) := by
     obtain ⟨a, c, e, q⟩ := (unhide HAT Z hI.1.bw).2
     injection e with e _ _
     obtain ⟨b, q1, q2, q3⟩ := q (by omega)
     exact ⟨b, e.trans q1, q3 p hpL⟩
    subst hia
    have i0 := (cell_blk hI.1.b2 0).1.trans (show #[Value.slice (some ⟨ib, 0, none⟩) ps.length ic][0]? = some (.slice (some ⟨ib, 0, none⟩) ps.length ic) from rfl)
    have n3 := (cell_blk hI.1.b1 3).1.trans (show #[Value.int .i64 kd, .int .i64 ix, .slice (some ⟨cb, co, none⟩) N cc, .int .i64 bt][3]? = some (.int .i64 bt) from rfl)
    have r0 := (cell_blk hI.1.b3 0).1.trans (show #[Value.bool false][0]? = some (.bool false) from rfl)
    have f0 := (cell_blk hI.1.b3 0).2
    have HH := hide (show hitP inn bt p = (inn p && !(decide ((p : Int) = bt))) from rfl)
    have HII := hide hI
    have hC := hlt5.1
    clear hI hD hLp hlen hpre hpL HSQ
    cases hb : inn p with
    | false =>
      rw [hb] at hib
      have HH2 := hide (show hitP inn bt p = false from by rw [unhide HH, hb]; rfl)
      clear hb
      gi_wp2
      refine ⟨⟨rfl, rfl⟩, ⟨Below.refl _ _, rfl, rfl⟩, (unhide HII).1, fun q hq => ?_⟩
      rcases List.mem_append.1 hq with hq | hq
      ·exact (unhide HII).2 q hq
      ·rw [List.mem_singleton] at hq; rw [hq]; exact unhide HH2
    | true =>
      rw [hb] at hib
      by_cases hq : (p : Int) = bt
      ·have HH2 := hide (show hitP inn bt p = false from by rw [unhide HH, hb, decide_eq_true hq]; rfl)
       have hq2 : ((p : Int) != bt) = false := by simp [hq]
       clear hb hq
       gi_wp2
       refine ⟨⟨rfl, rfl⟩, ⟨Below.refl _ _, rfl, rfl⟩, (unhide HII).1, fun q hq => ?_⟩
       rcases List.mem_append.1 hq with hq | hq
       ·exact (unhide HII).2 q hq
       ·rw [List.mem_singleton] at hq; rw [hq]; exact unhide HH2
      ·have HH2 := hide (show hitP inn bt p = true from by rw [unhide HH, hb, decide_eq_false hq]; rfl)
       have hq2 : ((p : Int) != bt) = true := by simp [hq]
       clear hb hq
       gi_wp2
       exact ⟨⟨set_other Z _ 0 (.bool true) _ (by omega), set_other Z _ 0 (.bool true) _ (by omega)⟩, rfl, (unhide HII).1.set true, p, by simp, unhide HH2⟩
   case do0 =>
    intro D L2 Z hD hS hI hK
    have HM := hide (hI.1.mark hK (by rw [hD]; exact hlt5.1) (by rw [hD]; exact hlt5.2))
    have HZ := hide (show ∀ i a, i < j + 1 → al[i]? = some a → ((List.range ps.length).any fun p => mP ps a p && hitP inn bt p) = false from fun i a hi e => by
     by_cases ei : i = j
     ·subst ei
      rw [unhide HX] at e
      cases e
      rw [← (unhide HLP).1, ← hS]
      exact List.any_eq_false.2 fun p hp => by rw [hI.2 p hp]; decide
     ·exact (unhide HI).2 i a (by omega) e)
    clear hD hS hI hK HSQ
    gi_wp2
    refine ⟨⟨j + 1, _, _, _, _, _, _, _, _, _, _, _, _, _, _, _, _, _, _, _, _, D :: Ds, by omega, hide ⟨unhide HM, unhide HZ⟩, rfl⟩, by simp [intOf]; omega⟩
   case st0 =>
    intro D c pre Z hD hS hI hK
    obtain ⟨rfl, him, q, hq, hh⟩ := hI
    have HM := hide (him.mark hK (by rw [hD]; exact hlt5.1) (by rw [hD]; exact hlt5.2))
    have HR := hide (show res = true from by
     rw [unhide HRES]
     refine List.any_eq_true.2 ⟨x, List.mem_of_getElem? (unhide HX), ?_⟩
     rw [← (unhide HLP).1]
     exact List.any_eq_true.2 ⟨q, hS.subset hq, hh⟩)
    clear hD hS him hq hh hK HSQ
    gi_wp2
    have hm := unhide HM
    refine leaves_marks (lo := w.heap.size + 4) (D :: Ds) Z hm.mks fun W2 hsh => ?_
    have c7 := (cell_blk (hsh.cel _ _ _ _ hm.b3) 0).1.trans (show #[Value.bool true][0]? = some (.bool true) from rfl)
    exact ⟨_, results_u1 (show Tryz.f71.results = #[.cell 6 4] from Tryz.results71) _ _ _ ⟨w.heap.size + 3, 0, none⟩ (.bool true) rfl (by simp [loadVar, go_sem, c7]), by rw [unhide HR], hm.bw.trans (hsh.bel.mono (by omega))⟩
  ·obtain rfl : j = N := by omega
   have him := (unhide HI).1
   have HR := hide (show res = false from by
    rw [unhide HRES]
    refine List.any_eq_false.2 fun a ha => ?_
    obtain ⟨i, hi, e⟩ := List.getElem_of_mem ha
    rw [(unhide HI).2 i a (by have := unhide HN; omega) (by rw [List.getElem?_eq_getElem hi, e])]
    decide)
   have r0 := (cell_blk him.b3 0).1.trans (show #[Value.bool false][0]? = some (.bool false) from rfl)
   have f0 := (cell_blk him.b3 0).2
   have HM := hide (him.set false)
   clear him
   gi_wp2
   have hm := unhide HM
   refine leaves_marks (lo := w.heap.size + 4) Ds _ hm.mks fun W2 hsh => ?_
   have c7 := (cell_blk (hsh.cel _ _ _ _ hm.b3) 0).1.trans (show #[Value.bool false][0]? = some (.bool false) from rfl)
   exact ⟨_, results_u1 (show Tryz.f71.results = #[.cell 6 4] from Tryz.results71) _ _ _ ⟨w.heap.size + 3, 0, none⟩ (.bool false) rfl (by simp [loadVar, go_sem, c7]), by rw [unhide HR], hm.bw.trans (hsh.bel.mono (by omega))⟩
end
section
open Go.RowKit Go.Maps Go.Shelf
attribute [local go_sem] Oper.semAt_some
attribute [local simp] wide_fn
attribute [local go_sem] wide_fn
set_option maxHeartbeats 1000000 in
theorem needs_any (v d1 d2 : Value) (p : Int) (w : World) :
 Calls Tryz.prog 70 #[.agg #[v, d1, d2], .int .i64 p] w fun e w' => e = .returned (.func (.func 87) #[] #[.pointer (some ⟨w.heap.size, 0, none⟩), .pointer (some ⟨w.heap.size + 1, 0, none⟩)]) ∧ w'.heap[w.heap.size]? = some (.cells #[v, d1, d2] 62 (0, 0)) ∧ w'.heap[w.heap.size + 1]? = some (.cells #[.int .i64 p] 3 (0, 0)) ∧ RowKit.Below w.heap.size w w' := by
 have hb1 := (Below.refl w.heap.size w).alloc (Nat.le_refl _) (.cells #[v, d1, d2] 62)
 have hb2 := hb1.alloc (by simp) (.cells #[.int .i64 p] 3)
 have h1 : ((w.alloc (.cells #[v, d1, d2] 62)).alloc (.cells #[.int .i64 p] 3)).heap[w.heap.size]? = some (.cells #[v, d1, d2] 62 (0, 0)) := (Below.heap_alloc _ _ _ (by simp)).trans (World.alloc_heap_new w _)
 have h2 : ((w.alloc (.cells #[v, d1, d2] 62)).alloc (.cells #[.int .i64 p] 3)).heap[w.heap.size + 1]? = some (.cells #[.int .i64 p] 3 (0, 0)) := by
  have := World.alloc_heap_new (w.alloc (.cells #[v, d1, d2] 62)) (.cells #[.int .i64 p] 3)
  rwa [World.size_alloc] at this
 have HR := hide (And.intro h1 (And.intro h2 hb2))
 clear h1 h2 hb1 hb2
 go_enter Tryz.func70, Tryz.ntmps70
 go_wp2
 go_ret
 exact ⟨rfl, unhide HR⟩
structure Nv where
 kd : Int
 ix : Nat
 cv : Hd
 al : List At
 bt : Int
abbrev encN (x : Nv) : Array Value := #[.agg #[.int .i64 x.kd, .int .i64 (x.ix : Int), .slice x.cv.a x.cv.n x.cv.c, .int .i64 x.bt]]
theorem range_pre {β : Type} (f : Nat → β) {j n : Nat} (h : j ≤ n) : (List.range j).map f <+: (List.range n).map f := by
 have : List.range j = (List.range n).take j := by rw [List.take_range, Nat.min_eq_left h]
 rw [this]
 exact (List.take_prefix j _).map f
structure Cv (w : World) (a : Option Addr) (cl : List (List At)) (f : Nat → Hd) : Prop where
 at_ : ∀ i, i < cl.length → ∃ b o, a = some ⟨b, o, none⟩ ∧ b < w.heap.size ∧ w.cell? ⟨b, o + i, none⟩ = some (.slice (f i).a (f i).n (f i).c) ∧ Ats w (.slice (f i).a (f i).n (f i).c) (cl.getD i [])
theorem Cv.later {w w' : World} {a : Option Addr} {cl : List (List At)} {f : Nat → Hd} (h : Cv w a cl f) (hb : RowKit.Below w.heap.size w w') : Cv w' a cl f := ⟨fun i hi => by
 obtain ⟨b, o, h1, h2, h4, h5⟩ := h.at_ i hi
 exact ⟨b, o, h1, Nat.lt_of_lt_of_le h2 hb.size, (hb.cell (p := ⟨b, o + i, none⟩) h2).trans h4, h5.later hb⟩⟩
theorem cv_of {w : World} {v : Value} {cl : List (List At)} (h : Cls w v cl) : ∃ a c f, v = .slice a cl.length c ∧ Cv w a cl f := by
 obtain ⟨a, c, rfl, h2⟩ := h
 have hx : ∀ i, ∃ u : Hd, i < cl.length → ∃ b o, a = some ⟨b, o, none⟩ ∧ b < w.heap.size ∧ w.cell? ⟨b, o + i, none⟩ = some (.slice u.a u.n u.c) ∧ Ats w (.slice u.a u.n u.c) (cl.getD i []) := fun i => by
  by_cases hi : i < cl.length
  ·obtain ⟨b, o, q1, q2, q3⟩ := h2 (by omega)
   have e : cl[i]? = some (cl.getD i []) := by rw [List.getD_eq_getElem?_getD, List.getElem?_eq_getElem hi]; rfl
   obtain ⟨xa, xc, q4, q5⟩ := q3 i _ e
   exact ⟨⟨xa, (cl.getD i []).length, xc⟩, fun _ => ⟨b, o, q1, q2, q4, q5⟩⟩
  ·exact ⟨⟨none, 0, 0⟩, fun h => absurd h hi⟩
 exact ⟨a, c, fun i => (hx i).choose, rfl, ⟨fun i hi => (hx i).choose_spec hi⟩⟩
def nvD (dp : List (List At)) (f : Nat → Hd) (i : Nat) : Nv := ⟨2, i, f i, dp.getD i [], -1⟩
def nvR (p : Nat) (pr : List (List At)) (f : Nat → Hd) (i : Nat) : Nv := ⟨3, i, f i, pr.getD i [], p⟩
def nvL (p : Nat) (dp pr : List (List At)) (f g : Nat → Hd) : List Nv := (List.range dp.length).map (nvD dp f) ++ (List.range pr.length).map (nvR p pr g)
theorem nv_one (p : Nat) (dp pr : List (List At)) (f g : Nat → Hd) {j : Nat} (h : j ≤ dp.length) : (List.range j).map (nvD dp f) <+: nvL p dp pr f g := (range_pre _ h).trans (List.prefix_append _ _)
theorem nv_two (p : Nat) (dp pr : List (List At)) (f g : Nat → Hd) {j : Nat} (h : j ≤ pr.length) : (List.range dp.length).map (nvD dp f) ++ (List.range j).map (nvR p pr g) <+: nvL p dp pr f g := by
 unfold nvL
 rw [List.prefix_append_right_inj]
 exact range_pre _ h
theorem map_succ {β : Type} (f : Nat → β) (j : Nat) : (List.range (j + 1)).map f = (List.range j).map f ++ [f j] := by rw [List.range_succ, List.map_append]; rfl
structure Na (w0 w : World) (Bs Bp : Nat) (v d1 d2 : Value) (p : Nat) (da ra : Option Addr) (dc rc : Nat) (dp pr : List (List At)) (f g : Nat → Hd) : Prop where
 iw : Iw w0 Bs Bp (.cells #[v, d1, d2] 62 (0, 0)) (.cells #[.int .i64 (p : Int)] 3 (0, 0)) w
 l : ∃ b o n c, v = .slice (some ⟨b, o, none⟩) n c ∧ b < w0.heap.size ∧ (p : Int) < (n : Int) ∧ w0.cell? ⟨b, o + p * 43 + 3, none⟩ = some (.slice da dp.length dc) ∧ w0.cell? ⟨b, o + p * 43 + 4, none⟩ = some (.slice ra pr.length rc)
 d : Cv w0 da dp f
 r : Cv w0 ra pr g
set_option maxRecDepth 100000 in
set_option maxHeartbeats 8000000 in
theorem need_b (n : Nat) {w0 w : World} {Bs Bp : Nat} {v d1 d2 : Value} {p : Nat} {da ra : Option Addr} {dc rc : Nat} {dp pr : List (List At)} {f g : Nat → Hd} (h : Na w0 w Bs Bp v d1 d2 p da ra dc rc dp pr f g) (hl1 : dp.length ≤ 1000000000) (hl2 : pr.length ≤ 1000000000) :
 SeqB Fence.wide n Tryz.prog 87 #[.pointer (some ⟨Bs, 0, none⟩), .pointer (some ⟨Bp, 0, none⟩)] encN (Kb w0.heap.size Bs Bp) (fun xs => xs = nvL p dp pr f g) (fun pre => pre <+: nvL p dp pr f g) ((nvL p dp pr f g).length + 1) w := by
 intro l J Jx W hW hJd hY h0
 obtain ⟨vb, vo, vn, vc, rfl, hvb, hpn, hc3, hc4⟩ := h.l
 have HAT := hide (show ∀ X : World, Iw w0 Bs Bp (.cells #[.slice (some ⟨vb, vo, none⟩) vn vc, d1, d2] 62 (0, 0)) (.cells #[.int .i64 (p : Int)] 3 (0, 0)) X → X.cell? ⟨Bs, 0, none⟩ = some (.slice (some ⟨vb, vo, none⟩) vn vc) ∧ X.cell? ⟨Bp, 0, none⟩ = some (.int .i64 (p : Int)) ∧ X.cell? ⟨vb, vo + p * 43 + 3, none⟩ = some (.slice da dp.length dc) ∧ X.cell? ⟨vb, vo + p * 43 + 4, none⟩ = some (.slice ra pr.length rc) from fun X hX =>
  ⟨(cell_blk hX.s 0).1.trans rfl, (cell_blk hX.a 0).1.trans rfl, (hX.bel.cell (p := ⟨vb, vo + p * 43 + 3, none⟩) hvb).trans hc3, (hX.bel.cell (p := ⟨vb, vo + p * 43 + 4, none⟩) hvb).trans hc4⟩)
 have HD := hide (show ∀ X : World, RowKit.Below w0.heap.size w0 X → Cv X da dp f ∧ Cv X ra pr g from fun X hX => ⟨h.d.later hX, h.r.later hX⟩)
 have iW := h.iw.later hW
 have HJ1 := hide (show J [] W ∧ Iw w0 Bs Bp (.cells #[.slice (some ⟨vb, vo, none⟩) vn vc, d1, d2] 62 (0, 0)) (.cells #[.int .i64 (p : Int)] 3 (0, 0)) W from ⟨h0, iW⟩)
 have HJD := hide hJd
 have HY := hide (show ∀ (pre : List Nv) (x : Nv) (W1 : World), J pre W1 → (pre ++ [x]) <+: nvL p dp pr f g → Iw w0 Bs Bp (.cells #[.slice (some ⟨vb, vo, none⟩) vn vc, d1, d2] 62 (0, 0)) (.cells #[.int .i64 (p : Int)] 3 (0, 0)) W1 → YieldAt Fence.wide (n - 1) Tryz.prog l (encN x) W1 fun e W3 => (e = .returned (.bool true) ∧ (J (pre ++ [x]) W3 ∧ Iw w0 Bs Bp (.cells #[.slice (some ⟨vb, vo, none⟩) vn vc, d1, d2] 62 (0, 0)) (.cells #[.int .i64 (p : Int)] 3 (0, 0)) W3)) ∨ (e = .returned (.bool false) ∧ Jx (pre ++ [x]) W3) from fun pre x W1 hj hp hb => by
  have hle := hp.length_le
  rw [List.length_append, List.length_singleton] at hle
  refine (hY pre x W1 hj (by omega) hp).mono ?_
  rintro e W3 (⟨he, hj3, hk⟩ | ⟨he, hx⟩)
  ·exact .inl ⟨he, hj3, hb.kb hk⟩
  ·exact .inr ⟨he, hx⟩)
 obtain ⟨n1, hn1⟩ : ∃ x, x = dp.length := ⟨_, rfl⟩
 obtain ⟨n2, hn2⟩ : ∃ x, x = pr.length := ⟨_, rfl⟩
 rw [← hn1] at HAT hl1
 rw [← hn2] at HAT hl2
 have HN1 := hide hn1
 have HN2 := hide hn2
 obtain ⟨q0, q1, q2, q3⟩ := unhide HAT W iW
 clear h h0 hJd hY hW iW hvb hc3 hc4 hn1 hn2
 refine callsIn_of_wp Tryz.func87 rfl trivial ?_ rfl
 simp only [Tryz.ntmps87, List.size_toArray, List.length_cons, List.length_nil, Nat.reduceAdd, Nat.reduceSub, Array.replicate_succ, Array.replicate_zero, List.push_toArray, List.append_toArray, List.nil_append, List.cons_append]
 gi_wp2
 clear q0 q1 q2 q3
 gi_loopw [15] (fun jv wr => ∃ j : Nat, jv = .int .i64 j ∧ j ≤ n1 ∧ Hid (J ((List.range j).map (nvD dp f)) wr ∧ Iw w0 Bs Bp (.cells #[.slice (some ⟨vb, vo, none⟩) vn vc, d1, d2] 62 (0, 0)) (.cells #[.int .i64 (p : Int)] 3 (0, 0)) wr)) (fun jv _ => n1 - (intOf jv).toNat)
 case atStart => exact ⟨0, rfl, Nat.zero_le _, HJ1⟩
 case round =>
  clear HJ1
  obtain ⟨j, rfl, hjle, HJ⟩ := hrel
  by_cases hlt : j < n1
  ·have hlt2 : (j : Int) < (n1 : Int) := by omega
   have hjp : j < dp.length := by have := unhide HN1; omega
   have bwr := (unhide HJ).2
   obtain ⟨cb, co, hca, hcb, hcell, hats⟩ := (unhide HD wr bwr.bel).1.at_ j hjp
   subst hca
   have HP := hide (show ((List.range j).map (nvD dp f)) ++ [nvD dp f j] <+: nvL p dp pr f g from by have := nv_one p dp pr f g (show j + 1 ≤ dp.length by omega); rw [map_succ] at this; exact this)
   have hy0 := unhide HY _ (nvD dp f j) wr (unhide HJ).1 (unhide HP) bwr
   generalize hgf : f j = u at *
   have hen : encN (nvD dp f j) = #[.agg #[.int .i64 2, .int .i64 (j : Int), .slice u.a u.n u.c, .int .i64 (-1)]] := by rw [← hgf]; rfl
   rw [hen] at hy0
   obtain ⟨xa, xn, xc⟩ := u
   simp only at hcell hy0
   obtain ⟨fn, tmps, assign, body, hy, hR⟩ := hy0
   clear hats hcb hen hgf
   gi_wp2
   refine ⟨fun q => (by cases q), hR.mono ?_⟩
   rintro e W3 (⟨rfl, hj3⟩ | ⟨rfl, hx3⟩)
   ·have HJ3 := hide hj3
    clear hj3 hR hy hcell
    gi_wp2
    go_roundw
    case rel => exact ⟨j + 1, by go_num, by omega, by rw [map_succ]; exact HJ3⟩
    case measure => simp [intOf]; omega
   ·have HX := hide hx3
    clear hx3 hR hy hcell
    gi_wp2
    refine bodyPost_ret (results_none rfl _ _ _) rfl ?_
    exact ⟨⟨_, rfl⟩, .inr ⟨_, unhide HP, unhide HX⟩⟩
  ·obtain rfl : j = n1 := by omega
   have HJ2 := hide (show J ((List.range dp.length).map (nvD dp f)) wr ∧ Iw w0 Bs Bp (.cells #[.slice (some ⟨vb, vo, none⟩) vn vc, d1, d2] 62 (0, 0)) (.cells #[.int .i64 (p : Int)] 3 (0, 0)) wr from by have := unhide HJ; rw [unhide HN1] at this; exact this)
   obtain ⟨q0, q1, q2, q3⟩ := unhide HAT wr (unhide HJ).2
   clear HJ
   gi_wp2
   clear q0 q1 q2 q3
   gi_loopw [34] (fun jv wr => ∃ j : Nat, jv = .int .i64 j ∧ j ≤ n2 ∧ Hid (J ((List.range dp.length).map (nvD dp f) ++ (List.range j).map (nvR p pr g)) wr ∧ Iw w0 Bs Bp (.cells #[.slice (some ⟨vb, vo, none⟩) vn vc, d1, d2] 62 (0, 0)) (.cells #[.int .i64 (p : Int)] 3 (0, 0)) wr)) (fun jv _ => n2 - (intOf jv).toNat)
   case atStart => exact ⟨0, rfl, Nat.zero_le _, hide (by rw [List.range_zero, List.map_nil, List.append_nil]; exact unhide HJ2)⟩
   case round =>
    clear HJ2
    obtain ⟨j, rfl, hjle, HJ⟩ := hrel
    by_cases hlt : j < n2
    ·have hlt2 : (j : Int) < (n2 : Int) := by omega
     have hjp : j < pr.length := by have := unhide HN2; omega
     have bwr := (unhide HJ).2
     obtain ⟨cb, co, hca, hcb, hcell, hats⟩ := (unhide HD wr bwr.bel).2.at_ j hjp
     subst hca
     have HP := hide (show ((List.range dp.length).map (nvD dp f) ++ (List.range j).map (nvR p pr g)) ++ [nvR p pr g j] <+: nvL p dp pr f g from by have := nv_two p dp pr f g (show j + 1 ≤ pr.length by omega); rw [map_succ, ← List.append_assoc] at this; exact this)
     have hy0 := unhide HY _ (nvR p pr g j) wr (unhide HJ).1 (unhide HP) bwr
     generalize hgf : g j = u at *
     have hen : encN (nvR p pr g j) = #[.agg #[.int .i64 3, .int .i64 (j : Int), .slice u.a u.n u.c, .int .i64 (p : Int)]] := by rw [← hgf]; rfl
     rw [hen] at hy0
     obtain ⟨xa, xn, xc⟩ := u
     simp only at hcell hy0
     obtain ⟨fn, tmps, assign, body, hy, hR⟩ := hy0
     have q1 := (unhide HAT wr bwr).2.1
     clear hats hcb hen hgf
     gi_wp2
     refine ⟨fun q => (by cases q), hR.mono ?_⟩
     rintro e W3 (⟨rfl, hj3⟩ | ⟨rfl, hx3⟩)
     ·have HJ3 := hide hj3
      clear hj3 hR hy hcell
      gi_wp2
      go_roundw
      case rel => exact ⟨j + 1, by go_num, by omega, by rw [map_succ, ← List.append_assoc]; exact HJ3⟩
      case measure => simp [intOf]; omega
     ·have HX := hide hx3
      clear hx3 hR hy hcell
      gi_wp2
      refine bodyPost_ret (results_none rfl _ _ _) rfl ?_
      exact ⟨⟨_, rfl⟩, .inr ⟨_, unhide HP, unhide HX⟩⟩
    ·obtain rfl : j = n2 := by omega
     have HJ3 := hide (show J (nvL p dp pr f g) wr ∧ Iw w0 Bs Bp (.cells #[.slice (some ⟨vb, vo, none⟩) vn vc, d1, d2] 62 (0, 0)) (.cells #[.int .i64 (p : Int)] 3 (0, 0)) wr from by have := unhide HJ; rw [unhide HN2] at this; exact this)
     clear HJ
     gi_wp2
     go_end0
     exact ⟨⟨_, rfl⟩, .inl ⟨_, rfl, (unhide HJ3).1⟩⟩
end
section
open Go.RowKit Go.Maps
theorem one_new (w : World) (cs : List Value) (t : TypeId) : ∃ W, w.alloc (.cells cs.toArray t) = W ∧ (∀ i v, cs[i]? = some v → W.cell? ⟨w.heap.size, i, none⟩ = some v) ∧ w.heap.size < W.heap.size ∧ Below w.heap.size w W := by
 refine ⟨_, rfl, fun i v h => ?_, by simp, (Below.refl w.heap.size w).alloc (Nat.le_refl _) _⟩
 rw [World.cell?_alloc_new]
 simpa using h
set_option maxHeartbeats 2000000 in
theorem keyOf_any (cs : List Value) (n v : ByteArray) (w : World) (h0 : cs[0]? = some (.string n)) (h1 : cs[1]? = some (.string v)) :
 Calls Tryz.prog 47 #[.agg cs.toArray] w fun e w' => e = .returned (.agg #[.string n, .string v]) ∧ Below w.heap.size w w' := by
 obtain ⟨W, hW, hc, hq, hB⟩ := one_new w cs 46
 have a0 := hc 0 _ h0
 have a1 := hc 1 _ h1
 have HB := hide hB
 clear hc hB h0 h1
 go_enter Tryz.func47, Tryz.ntmps47
 go_wp2_with fail
 have hb2 := (unhide HB).alloc (unhide HB).size (.cells #[.string n, .string v] 29)
 exact bodyPost_ret (v := .agg #[.string n, .string v]) (by simp [results, Tryz.results47, go_sem]) rfl ⟨rfl, hb2⟩
structure Ft where
 kd : Int
 wn : Nm
 wv : Nm
 ix : Int
 on : Nm
 ov : Nm
def Ft.cs (f : Ft) : List Value := [.int .i64 f.kd, .string f.wn, .string f.wv, .int .i64 f.ix, .string f.on, .string f.ov]
abbrev Ft.v (f : Ft) : Value := .agg #[.int .i64 f.kd, .string f.wn, .string f.wv, .int .i64 f.ix, .string f.on, .string f.ov]
def ftC (l : List Ft) : List Value := l.flatMap Ft.cs
theorem ftC_len (l : List Ft) : (ftC l).length = l.length * 6 := by
 induction l with
 | nil => rfl
 | cons a l ih => rw [ftC, List.flatMap_cons, List.length_append, show (List.flatMap Ft.cs l).length = l.length * 6 from ih, List.length_cons]; show 6 + _ = _; omega
theorem ftC_snoc (l : List Ft) (f : Ft) : ftC (l ++ [f]) = ftC l ++ f.cs := by simp [ftC]
theorem ftC_app (l m : List Ft) : ftC (l ++ m) = ftC l ++ ftC m := by simp [ftC]
theorem Pkl.at2 {w : World} {v : Value} {ps : List Pk} (h : Pkl w v ps) {p : Nat} {q : Pk} (hq : ps[p]? = some q) : ∃ vb vo vc cs d r c pv f, v = .slice (some ⟨vb, vo, none⟩) ps.length vc ∧ vb < w.heap.size ∧ w.rangeAt vb (vo + p * 43) cs ∧ PkC cs q d r c pv f ∧ PkL w q d r c pv f := by
 have hp := (List.getElem?_eq_some_iff.1 hq).1
 obtain ⟨a, c, rfl, h2⟩ := h
 obtain ⟨b, o, rfl, h3, h4⟩ := h2 (by omega)
 obtain ⟨cs, d, r, c2, v, f, k1, k2, k3⟩ := h4 p q hq
 exact ⟨b, o, c, cs, d, r, c2, v, f, rfl, h3, k1, k2, k3⟩
theorem fl_blk {w w5 : World} {C Z : Obj} (hb : Below ((w.alloc C).alloc Z).heap.size ((w.alloc C).alloc Z) w5) : w5.heap[w.heap.size + 1]? = some Z ∧ w.heap.size + 1 < w5.heap.size ∧ w5.heap[w.heap.size]? = some C := by
 have h := World.alloc_heap_new (w.alloc C) Z
 rw [World.size_alloc] at h
 have h2 := (hb.block (w.heap.size + 1) (by simp)).trans h
 exact ⟨h2, blk_lt h2, (hb.block w.heap.size (by simp; omega)).trans ((Below.heap_alloc _ _ _ (by simp)).trans (World.alloc_heap_new w _))⟩
theorem six {W : World} {g : Nat} {v0 v1 v2 v3 v4 v5 : Value} {t : TypeId} (h : W.heap[g]? = some (.cells #[v0, v1, v2, v3, v4, v5] t (0, 0))) : W.cell? ⟨g, 0, none⟩ = some v0 ∧ W.cell? ⟨g, 1, none⟩ = some v1 ∧ W.cell? ⟨g, 2, none⟩ = some v2 ∧ W.cell? ⟨g, 3, none⟩ = some v3 ∧ W.cell? ⟨g, 4, none⟩ = some v4 ∧ W.cell? ⟨g, 5, none⟩ = some v5 ∧ W.frozen? ⟨g, 0, none⟩ = false ∧ W.frozen? ⟨g, 1, none⟩ = false ∧ W.frozen? ⟨g, 2, none⟩ = false ∧ W.frozen? ⟨g, 3, none⟩ = false ∧ W.frozen? ⟨g, 4, none⟩ = false ∧ W.frozen? ⟨g, 5, none⟩ = false :=
 ⟨(cell_blk h 0).1, (cell_blk h 1).1, (cell_blk h 2).1, (cell_blk h 3).1, (cell_blk h 4).1, (cell_blk h 5).1, (cell_blk h 0).2, (cell_blk h 1).2, (cell_blk h 2).2, (cell_blk h 3).2, (cell_blk h 4).2, (cell_blk h 5).2⟩
theorem fl_two {w5 w7 : World} {F : Obj} (hb : Below (w5.alloc F).heap.size (w5.alloc F) w7) {g : Nat} {Z : Obj} (hz : w5.heap[g]? = some Z) : w7.heap[w5.heap.size]? = some F ∧ w7.heap[g]? = some Z ∧ w5.heap.size < w7.heap.size ∧ g < w7.heap.size ∧ g ≠ w5.heap.size := by
 have hg := blk_lt hz
 have h1 := (hb.block w5.heap.size (by simp)).trans (World.alloc_heap_new w5 F)
 have h2 := (hb.block g (by simp; omega)).trans ((Below.heap_alloc _ _ _ hg).trans hz)
 exact ⟨h1, h2, blk_lt h1, blk_lt h2, by omega⟩
theorem set6 {w X : World} (h : Below w.heap.size w X) {g : Nat} (hg : w.heap.size ≤ g) (v0 v1 v2 v3 v4 v5 : Value) : Below w.heap.size w ((((((X.setCell ⟨g, 0, none⟩ v0).setCell ⟨g, 1, none⟩ v1).setCell ⟨g, 2, none⟩ v2).setCell ⟨g, 3, none⟩ v3).setCell ⟨g, 4, none⟩ v4).setCell ⟨g, 5, none⟩ v5) :=
 (((((h.setCell (p := ⟨g, 0, none⟩) hg v0).setCell (p := ⟨g, 1, none⟩) hg v1).setCell (p := ⟨g, 2, none⟩) hg v2).setCell (p := ⟨g, 3, none⟩) hg v3).setCell (p := ⟨g, 4, none⟩) hg v4).setCell (p := ⟨g, 5, none⟩) hg v5
set_option maxRecDepth 100000 in
set_option maxHeartbeats 4000000 in
theorem fault_one {w : World} {v d1 d2 av fv : Value} {ps : List Pk} {p : Nat} {q : Pk} (kd ix : Int) (h : Pkl w v ps) (hq : ps[p]? = some q) :
 Calls Tryz.prog 79 #[.agg #[v, d1, d2, av, fv], .int .i64 kd, .int .i64 (p : Int), .int .i64 ix, .int .i64 (-1)] w fun e w' => e = .returned (Ft.v ⟨kd, q.nm, q.vr, ix, ⟨#[]⟩, ⟨#[]⟩⟩) ∧ RowKit.Below w.heap.size w w' := by
 obtain ⟨vb, vo, vc, cs, d, r, c, pv, f, rfl, hvb, hr, hpc, hpl⟩ := h.at2 hq
 have hpn : (p : Int) < (ps.length : Int) := by have := (List.getElem?_eq_some_iff.1 hq).1; omega
 have HI2 := hide (show (Tryz.prog.info? 46).map (·.size) = some cs.length by rw [hpc.len]; kernel_rfl)
 have HR := hide (show ∀ X : World, Below w.heap.size w X → X.rangeAt vb (vo + p * 43) cs from fun X hX => range_bel hr hvb hX)
 have HK := hide (fun X => keyOf_any cs q.nm q.vr X hpc.c0 hpc.c1)
 clear hr hpc hpl h hq
 generalize ps.length = N at *
 have B0 := hide (show Below w.heap.size w ((w.alloc (.cells #[.slice (some ⟨vb, vo, none⟩) N vc, d1, d2, av, fv] 66)).alloc (.cells #[.int .i64 0, .string ⟨#[]⟩, .string ⟨#[]⟩, .int .i64 0, .string ⟨#[]⟩, .string ⟨#[]⟩] 31)) from ((Below.refl _ w).alloc (Nat.le_refl _) _).alloc (by simp) _)
 go_enter Tryz.func79, Tryz.ntmps79
 go_wp2_with (first | ((with_reducible refine wpList_load_p (op := y18_1) ?fxa 46 (.tmp 17) ?fxb vb (vo + p * 43) ?fxc cs _ (unhide HR _ (unhide B0)) Tryz.underlying46 ?fxd (unhide HI2) ?fxe); (case fxa => rfl); (case fxb => rfl); (case fxc => rfl); (case fxd => rfl)) | (go_at_call 47; refine (unhide HK _).mono ?_; rintro e w5 ⟨rfl, hb5⟩; have HB5 := hide (bl_t (unhide B0) hb5); obtain ⟨hz6, hz5, hc6⟩ := fl_blk hb5; obtain ⟨z0, z1, z2, z3, z4, z5, f0, f1, f2, f3, f4, f5⟩ := six hz6; clear hb5 hz6 hc6))
 refine bodyPost_ret (v := Ft.v ⟨kd, q.nm, q.vr, ix, ⟨#[]⟩, ⟨#[]⟩⟩) (by simp [results, Tryz.results79, go_sem, z0, z1, z2, z3, z4, z5, hz5]) rfl ⟨rfl, ?_⟩
 have b6 := set6 (unhide HB5) (g := w.heap.size + 1) (by omega) (.int .i64 kd) (.string q.nm) (.string q.vr) (.int .i64 ix) (.string ⟨#[]⟩) (.string ⟨#[]⟩)
 exact b6.alloc b6.size _
set_option maxRecDepth 100000 in
set_option maxHeartbeats 4000000 in
theorem fault_two {w : World} {v d1 d2 av fv : Value} {ps : List Pk} {p p2 : Nat} {q q2 : Pk} (kd ix : Int) (h : Pkl w v ps) (hq : ps[p]? = some q) (hq2 : ps[p2]? = some q2) :
 Calls Tryz.prog 79 #[.agg #[v, d1, d2, av, fv], .int .i64 kd, .int .i64 (p : Int), .int .i64 ix, .int .i64 (p2 : Int)] w fun e w' => e = .returned (Ft.v ⟨kd, q.nm, q.vr, ix, q2.nm, q2.vr⟩) ∧ RowKit.Below w.heap.size w w' := by
 obtain ⟨vb, vo, vc, cs, d, r, c, pv, f, rfl, hvb, hr, hpc, hpl⟩ := h.at2 hq
 obtain ⟨vb2, vo2, vc2, cs2, d', r', c', pv', f', e2, hvb2, hr2, hpc2, hpl2⟩ := h.at2 hq2
 injection e2 with e2 e3 e4
 injection e2 with e2
 injection e2 with e2 e5 e6
 subst e2 e5
 have hpn : (p : Int) < (ps.length : Int) := by have := (List.getElem?_eq_some_iff.1 hq).1; omega
 have hpn2 : (p2 : Int) < (ps.length : Int) := by have := (List.getElem?_eq_some_iff.1 hq2).1; omega
 have HI2 := hide (show (Tryz.prog.info? 46).map (·.size) = some cs.length by rw [hpc.len]; kernel_rfl)
 have HI3 := hide (show (Tryz.prog.info? 46).map (·.size) = some cs2.length by rw [hpc2.len]; kernel_rfl)
 have HR := hide (show ∀ X : World, Below w.heap.size w X → X.rangeAt vb (vo + p * 43) cs from fun X hX => range_bel hr hvb hX)
 have HR2 := hide (show ∀ X : World, Below w.heap.size w X → X.rangeAt vb (vo + p2 * 43) cs2 from fun X hX => range_bel hr2 hvb hX)
 have HK := hide (fun X => keyOf_any cs q.nm q.vr X hpc.c0 hpc.c1)
 have HK2 := hide (fun X => keyOf_any cs2 q2.nm q2.vr X hpc2.c0 hpc2.c1)
 have hne : ((p2 : Int) != -1) = true := by simp
 clear hr hpc hpl h hq hr2 hpc2 hpl2 hq2 hvb2 e3 e4 e6
 generalize ps.length = N at *
 have B0 := hide (show Below w.heap.size w ((w.alloc (.cells #[.slice (some ⟨vb, vo, none⟩) N vc, d1, d2, av, fv] 66)).alloc (.cells #[.int .i64 0, .string ⟨#[]⟩, .string ⟨#[]⟩, .int .i64 0, .string ⟨#[]⟩, .string ⟨#[]⟩] 31)) from ((Below.refl _ w).alloc (Nat.le_refl _) _).alloc (by simp) _)
 go_enter Tryz.func79, Tryz.ntmps79
 go_wp2_with (first | ((with_reducible refine wpList_load_p (op := y18_1) ?fxa 46 (.tmp 17) ?fxb vb (vo + p * 43) ?fxc cs _ (unhide HR _ (unhide B0)) Tryz.underlying46 ?fxd (unhide HI2) ?fxe); (case fxa => rfl); (case fxb => rfl); (case fxc => rfl); (case fxd => rfl)) | ((with_reducible refine wpList_load_p (op := ⟨some 29, .load 46 (.tmp 28), 46, "check.go:40", #[⟨4, .data⟩], none⟩) ?fya 46 (.tmp 28) ?fyb vb (vo + p2 * 43) ?fyc cs2 _ (unhide HR2 _ (unhide HB6)) Tryz.underlying46 ?fyd (unhide HI3) ?fye); (case fya => rfl); (case fyb => rfl); (case fyc => rfl); (case fyd => rfl)) | (go_at_call 47; refine (unhide HK _).mono ?_; clear HK; rintro e w5 ⟨rfl, hb5⟩; have HB5 := hide (bl_t (unhide B0) hb5); obtain ⟨hz6, hz5, hc6⟩ := fl_blk hb5; have s0 : w5.cell? ⟨w.heap.size, 0, none⟩ = some (.slice (some ⟨vb, vo, none⟩) N vc) := (cell_blk hc6 0).1; have hz4 := Nat.lt_of_succ_lt hz5; have HB6 := hide ((unhide HB5).alloc (unhide HB5).size (.cells #[.int .i64 kd, .string q.nm, .string q.vr, .int .i64 ix, .string ⟨#[]⟩, .string ⟨#[]⟩] 31)); clear hb5 hc6) | (go_at_call 47; refine (unhide HK2 _).mono ?_; clear HK2; rintro e w7 ⟨rfl, hb7⟩; have HB7 := hide (bl_t (unhide HB6) hb7); obtain ⟨hf7, hz7, hl5, hl7, hn7⟩ := fl_two hb7 hz6; obtain ⟨y0, y1, y2, y3, y4, y5, g0, g1, g2, g3, g4, g5⟩ := six hf7; obtain ⟨z0, z1, z2, z3, z4, z5, f0, f1, f2, f3, f4, f5⟩ := six hz7; clear hb7 hz6 hf7 hz7))
 refine bodyPost_ret (v := Ft.v ⟨kd, q.nm, q.vr, ix, q2.nm, q2.vr⟩) (by simp [results, Tryz.results79, go_sem, z0, z1, z2, z3, z4, z5]) rfl ⟨rfl, ?_⟩
 have hle := (unhide HB5).size
 have b8 := ((unhide HB7).setCell (p := ⟨w5.heap.size, 4, none⟩) hle (.string q2.nm)).setCell (p := ⟨w5.heap.size, 5, none⟩) hle (.string q2.vr)
 exact set6 b8 (g := w.heap.size + 1) (by omega) (.int .i64 kd) (.string q.nm) (.string q.vr) (.int .i64 ix) (.string q2.nm) (.string q2.vr)
end
end Go.Proofs.YtdkpglmdncjnbaaGreatDoor
