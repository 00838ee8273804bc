import Derived.Test.YtjnbnndocinicaaGreatDoorWvI
namespace Go.Proofs.YtjnbnndocinicaaGreatDoor
open Go.RowKit Go.Maps Go.Shelf
attribute [local go_sem] Oper.semAt_some
attribute [local simp] wide_fn
attribute [local go_sem] wide_fn

set_option maxRecDepth 100000 in
set_option maxHeartbeats 8000000 in
theorem isMet_any {w : World} {b1 b2 : Nat} {v cl av : Value} {xs : List Pd} {ps : List Pk} {base : Nat} {H1 H2 : Nm → Option Hd} {k1 k2 : Nat} (kd ix bt : Int) (al : List At) (inn : Nat → Bool) (m1 : Mi w base (.map (some b1)) H1 (nmP xs xs.length) k1) (m2 : Mi w base (.map (some b2)) H2 (pvP xs xs.length) k2) (pk : Pks w v xs) (hs : Sim xs ps) (sm : SmP ps) (ha : Ats w cl al) (hal : al.length ≤ 1000000000) (hsz : ∀ a ∈ al, a.n.size ≤ maxLen ∧ a.v.size ≤ maxLen) (hin : Bls w av inn ps.length) :
    Calls Tryz.prog 38 #[.agg #[v, .map (some b1), .map (some b2)], .agg #[.int .i64 kd, .int .i64 ix, cl, .int .i64 bt], av] w fun e w' => e = .returned (.bool (imP ps inn bt al)) ∧ RowKit.Below w.heap.size w w' := by
  obtain ⟨ca, cc, rfl⟩ : ∃ a c, cl = .slice a al.length c := let ⟨a, c, e, _⟩ := ha; ⟨a, c, e⟩
  obtain ⟨ia, ic, rfl⟩ : ∃ a c, av = .slice a ps.length c := let ⟨a, c, e, _⟩ := hin; ⟨a, c, e⟩
  obtain ⟨N, hN⟩ : ∃ N, N = al.length := ⟨_, rfl⟩
  have HN := hide hN
  have him := im_new w #[v, .map (some b1), .map (some b2)] #[.int .i64 kd, .int .i64 ix, .slice ca al.length cc, .int .i64 bt] (.slice ia ps.length ic)
  rw [← hN] at him ⊢
  have HIM := hide him
  have HAT := hide (show ∀ X, RowKit.Below w.heap.size w X → Ats X (.slice ca N cc) al ∧ Bls X (.slice ia ps.length ic) inn ps.length from fun X hX => ⟨by rw [hN]; exact ha.later hX, hin.later hX⟩)
  have HSA := hide (show ∀ (a : At), a ∈ al → ∀ (X : World) (B : Nat), RowKit.Below w.heap.size w X → X.heap[B]? = some (.cells #[v, .map (some b1), .map (some b2)] 44 (0, 0)) → X.heap[B + 1]? = some (.cells #[.string a.n, .int .i64 a.op, .string a.v] 55 (0, 0)) → SeqB Fence.wide 8 Tryz.prog 74 #[.pointer (some ⟨B, 0, none⟩), .pointer (some ⟨B + 1, 0, none⟩)] encI (Kb w.heap.size B (B + 1)) (fun l => l = satL xs a.n a.op a.v (nmP xs xs.length a.n) (pvP xs xs.length a.n)) (fun pre => pre <+: satL xs a.n a.op a.v (nmP xs xs.length a.n) (pvP xs xs.length a.n)) ((satL xs a.n a.op a.v (nmP xs xs.length a.n) (pvP xs xs.length a.n)).length + 1) X from fun a hma X B hX hs1 hs2 => by
    have hl1 := nmP_len xs xs.length a.n
    have hl2 := pvP_len xs xs.length a.n
    have ht := sm.tot hs
    have hl := sm.l
    rw [← hs.1] at hl
    exact sat_b 8 ⟨⟨hX, hs1, hs2⟩, m1, m2, pk, fun p hp => by
      rcases List.mem_append.1 hp with hp | hp
      · exact ((nmP_mem xs _ _ _).1 hp).1
      · exact ((pvP_mem xs _ _ _).1 hp).1, (hsz a hma).1, (hsz a hma).2⟩ (by omega) (by omega))
  have HIP := hide (show ∀ a, ((satL xs a.n a.op a.v (nmP xs xs.length a.n) (pvP xs xs.length a.n)).any (hitP inn bt) = ((List.range ps.length).any fun p => mP ps a p && hitP inn bt p)) ∧ ∀ p ∈ satL xs a.n a.op a.v (nmP xs xs.length a.n) (pvP xs xs.length a.n), p < ps.length from fun a => ⟨imP_one hs inn bt a, fun p hp => mP_lt ((satL_mem hs a p).1 hp)⟩)
  obtain ⟨res, hres⟩ : ∃ r, r = imP ps inn bt al := ⟨_, rfl⟩
  rw [← hres]
  have HRES := hide hres
  rw [← hN] at hal
  clear hN him ha hin hres m1 m2 pk hs sm hsz
  refine (callsIn_wide (n := 9)).1 ?_
  refine callsIn_of_wp_marks Tryz.func38 rfl trivial ?_ rfl
  simp only [Tryz.ntmps38, List.size_toArray, List.length_cons, List.length_nil, Nat.reduceAdd, Nat.reduceSub, Array.replicate_succ, Array.replicate_zero, List.push_toArray, List.append_toArray, List.nil_append, List.cons_append]
  gi_wp2
  refine wpIn_loop (fun a2 w2 => ∃ (j : Nat) (u8 u9 u14 u15 u16 u17 u18 u19 u20 u21 u22 u23 u24 u25 u26 u27 u28 u29 u30 u31 : Value) (Ds : List Nat), j ≤ N ∧ Hid (Im w w2 #[v, .map (some b1), .map (some b2)] #[.int .i64 kd, .int .i64 ix, .slice ca N cc, .int .i64 bt] (.slice ia ps.length ic) false Ds ∧ ∀ i a, i < j → al[i]? = some a → ((List.range ps.length).any fun p => mP ps a p && hitP inn bt p) = false) ∧ a2 = { tmps := #[.agg #[v, .map (some b1), .map (some b2)], .agg #[.int .i64 kd, .int .i64 ix, .slice ca N cc, .int .i64 bt], .slice ia ps.length ic, .pointer (some ⟨w.heap.size, 0, none⟩), .pointer (some ⟨w.heap.size + 1, 0, none⟩), .pointer (some ⟨w.heap.size + 2, 0, none⟩), .pointer (some ⟨w.heap.size + 3, 0, none⟩), undef, u8, u9, .pointer (some ⟨w.heap.size + 1, 2, none⟩), .slice ca N cc, .int .i64 N, .int .i64 (j : Nat), u14, u15, u16, u17, u18, u19, u20, u21, u22, u23, u24, u25, u26, u27, u28, u29, u30, u31], defers := Ds.map mk1 }) (fun a2 _ => N - (intOf (a2.tmps.getD 13 undef)).toNat) ?st ?rd
  case st => exact ⟨0, _, _, _, _, _, _, _, _, _, _, _, _, _, _, _, _, _, _, _, _, [], Nat.zero_le _, hide ⟨unhide HIM, fun i a h => absurd h (Nat.not_lt_zero _)⟩, rfl⟩
  case rd =>
    rintro _ wr ⟨j, u8, u9, u14, u15, u16, u17, u18, u19, u20, u21, u22, u23, u24, u25, u26, u27, u28, u29, u30, u31, Ds, hj, HI, rfl⟩
    clear HIM
    dsimp only
    by_cases hlt : j < N
    · have hlt2 : (j : Int) < (N : Int) := by omega
      have him := (unhide HI).1
      have hat := unhide HAT wr him.bw
      have hjp : j < al.length := by have := unhide HN; omega
      have hx : al[j]? = some al[j] := List.getElem?_eq_getElem hjp
      generalize al[j] = x at *
      obtain ⟨cb, co, rfl, hcb, c0, c1, c2⟩ := hat.1.at hx
      have s0 := (cell_blk him.b0 0).1.trans (show #[v, .map (some b1), .map (some b2)][0]? = some v from rfl)
      have s1 := (cell_blk him.b0 1).1.trans (show #[v, .map (some b1), .map (some b2)][1]? = some (.map (some b1)) from rfl)
      have s2 := (cell_blk him.b0 2).1.trans (show #[v, .map (some b1), .map (some b2)][2]? = some (.map (some b2)) from rfl)
      have HX := hide hx
      have hz0 : w.heap.size < wr.heap.size := blk_lt him.b0
      have HIJ := hide him
      clear hat hx hjp him
      gi_wp2_with fail
      obtain ⟨Wa, hWa⟩ : ∃ W, W = wr.alloc (.cells #[.string x.n, .int .i64 x.op, .string x.v] 55) := ⟨_, rfl⟩
      have hba : RowKit.Below wr.heap.size wr Wa := by rw [hWa]; exact (Below.refl _ _).alloc (Nat.le_refl _) _
      rw [← hWa]
      refine (callsIn_wide.2 (satisfiers_any v (.map (some b1)) (.map (some b2)) x.n x.op x.v Wa)).mono ?_
      rintro e w5 ⟨rfl, hs5, ha5, hb5⟩
      have HI5 := hide (((unhide HIJ).later hba).later hb5)
      have HSQ := hide (unhide HSA x (List.mem_of_getElem? (unhide HX)) w5 Wa.heap.size (unhide HI5).bw hs5 ha5)
      have hzs := blk_lt hs5
      have hza := blk_lt ha5
      clear hs5 ha5 hb5 hba hWa HIJ HSA c0 c1 c2 s0 s1 s2 hz0 hcb
      have HLP := hide (unhide HIP x)
      generalize satL xs x.n x.op x.v (nmP xs xs.length x.n) (pvP xs xs.length x.n) = L at *
      gi_wp2_with fail
      have hlt5 := (unhide HI5).lt
      refine rangeFunc_2b rfl (by decide) (gf := 74) (lb := #[.pointer (some ⟨Wa.heap.size, 0, none⟩), .pointer (some ⟨Wa.heap.size + 1, 0, none⟩)]) rfl trivial (enters_of Tryz.func74 (by kernel_rfl) rfl)
        (unhide HSQ) Kb.trans (Kb.put (unhide HI5).bw.size hzs hza) (Below.refl _ _) (fun _ => rfl) (fun pre Z => (Im w Z #[v, .map (some b1), .map (some b2)] #[.int .i64 kd, .int .i64 ix, .slice (some ⟨cb, co, none⟩) N cc, .int .i64 bt] (.slice ia ps.length ic) false Ds) ∧ ∀ p ∈ pre, hitP inn bt p = false) (fun c pre Z => c = .ret ∧ (Im w Z #[v, .map (some b1), .map (some b2)] #[.int .i64 kd, .int .i64 ix, .slice (some ⟨cb, co, none⟩) N cc, .int .i64 bt] (.slice ia ps.length ic) true Ds) ∧ ∃ p ∈ pre, hitP inn bt p = true) (fun s X Y row h hg hr => ⟨h.1.turn hg (fun k e => (hr k e).1) hlt5.1 hlt5.2, h.2⟩) (fun c s X Y row h hg hr => ⟨h.1, h.2.1.turn hg (fun k e => (hr k e).1) hlt5.1 hlt5.2, h.2.2⟩) ⟨unhide HI5, fun p h => by cases h⟩ ?a10 ?as0 ?bo0 ?do0 ?st0
      case as0 =>
        intro l x W K hK
        gi_wp2
        exact hK
      case bo0 =>
        intro l pre p Z hD hLp hI hlen hpre
        have hpL : p < ps.length := (unhide HLP).2 p (hpre.subset (by simp))
        have hpn : (p : Int) < (ps.length : Int) := by omega
        obtain ⟨ib, hia, hib⟩ : ∃ b, ia = some ⟨b, 0, none⟩ ∧ Z.cell? ⟨b, p, none⟩ = some (.bool (inn p)) := by
          obtain ⟨a, c, e, q⟩ := (unhide HAT Z hI.1.bw).2
          injection e with e _ _
          obtain ⟨b, q1, q2, q3⟩ := q (by omega)
          exact ⟨b, e.trans q1, q3 p hpL⟩
        subst hia
        have i0 := (cell_blk hI.1.b2 0).1.trans (show #[Value.slice (some ⟨ib, 0, none⟩) ps.length ic][0]? = some (.slice (some ⟨ib, 0, none⟩) ps.length ic) from rfl)
        have n3 := (cell_blk hI.1.b1 3).1.trans (show #[Value.int .i64 kd, .int .i64 ix, .slice (some ⟨cb, co, none⟩) N cc, .int .i64 bt][3]? = some (.int .i64 bt) from rfl)
        have r0 := (cell_blk hI.1.b3 0).1.trans (show #[Value.bool false][0]? = some (.bool false) from rfl)
        have f0 := (cell_blk hI.1.b3 0).2
        have HH := hide (show hitP inn bt p = (inn p && !(decide ((p : Int) = bt))) from rfl)
        have HII := hide hI
        have hC := hlt5.1
        clear hI hD hLp hlen hpre hpL HSQ
        cases hb : inn p with
        | false =>
          rw [hb] at hib
          have HH2 := hide (show hitP inn bt p = false from by rw [unhide HH, hb]; rfl)
          clear hb
          gi_wp2
          refine ⟨⟨rfl, rfl⟩, ⟨Below.refl _ _, rfl, rfl⟩, (unhide HII).1, fun q hq => ?_⟩
          rcases List.mem_append.1 hq with hq | hq
          · exact (unhide HII).2 q hq
          · rw [List.mem_singleton] at hq; rw [hq]; exact unhide HH2
        | true =>
          rw [hb] at hib
          by_cases hq : (p : Int) = bt
          · have HH2 := hide (show hitP inn bt p = false from by rw [unhide HH, hb, decide_eq_true hq]; rfl)
            have hq2 : ((p : Int) != bt) = false := by simp [hq]
            clear hb hq
            gi_wp2
            refine ⟨⟨rfl, rfl⟩, ⟨Below.refl _ _, rfl, rfl⟩, (unhide HII).1, fun q hq => ?_⟩
            rcases List.mem_append.1 hq with hq | hq
            · exact (unhide HII).2 q hq
            · rw [List.mem_singleton] at hq; rw [hq]; exact unhide HH2
          · have HH2 := hide (show hitP inn bt p = true from by rw [unhide HH, hb, decide_eq_false hq]; rfl)
            have hq2 : ((p : Int) != bt) = true := by simp [hq]
            clear hb hq
            gi_wp2
            exact ⟨⟨set_other Z _ 0 (.bool true) _ (by omega), set_other Z _ 0 (.bool true) _ (by omega)⟩, rfl, (unhide HII).1.set true, p, by simp, unhide HH2⟩
      case do0 =>
        intro D L2 Z hD hS hI hK
        have HM := hide (hI.1.mark hK (by rw [hD]; exact hlt5.1) (by rw [hD]; exact hlt5.2))
        have HZ := hide (show ∀ i a, i < j + 1 → al[i]? = some a → ((List.range ps.length).any fun p => mP ps a p && hitP inn bt p) = false from fun i a hi e => by
          by_cases ei : i = j
          · subst ei
            rw [unhide HX] at e
            cases e
            rw [← (unhide HLP).1, ← hS]
            exact List.any_eq_false.2 fun p hp => by rw [hI.2 p hp]; decide
          · exact (unhide HI).2 i a (by omega) e)
        clear hD hS hI hK HSQ
        gi_wp2
        refine ⟨⟨j + 1, _, _, _, _, _, _, _, _, _, _, _, _, _, _, _, _, _, _, _, _, D :: Ds, by omega, hide ⟨unhide HM, unhide HZ⟩, rfl⟩, by simp [intOf]; omega⟩
      case st0 =>
        intro D c pre Z hD hS hI hK
        obtain ⟨rfl, him, q, hq, hh⟩ := hI
        have HM := hide (him.mark hK (by rw [hD]; exact hlt5.1) (by rw [hD]; exact hlt5.2))
        have HR := hide (show res = true from by
          rw [unhide HRES]
          refine List.any_eq_true.2 ⟨x, List.mem_of_getElem? (unhide HX), ?_⟩
          rw [← (unhide HLP).1]
          exact List.any_eq_true.2 ⟨q, hS.subset hq, hh⟩)
        clear hD hS him hq hh hK HSQ
        gi_wp2
        have hm := unhide HM
        refine leaves_marks (lo := w.heap.size + 4) (D :: Ds) Z hm.mks fun W2 hsh => ?_
        have c7 := (cell_blk (hsh.cel _ _ _ _ hm.b3) 0).1.trans (show #[Value.bool true][0]? = some (.bool true) from rfl)
        exact ⟨_, results_u1 (show Tryz.f38.results = #[.cell 6 4] from Tryz.results38) _ _ _ ⟨w.heap.size + 3, 0, none⟩ (.bool true) rfl (by simp [loadVar, go_sem, c7]), by rw [unhide HR], hm.bw.trans (hsh.bel.mono (by omega))⟩
    · obtain rfl : j = N := by omega
      have him := (unhide HI).1
      have HR := hide (show res = false from by
        rw [unhide HRES]
        refine List.any_eq_false.2 fun a ha => ?_
        obtain ⟨i, hi, e⟩ := List.getElem_of_mem ha
        rw [(unhide HI).2 i a (by have := unhide HN; omega) (by rw [List.getElem?_eq_getElem hi, e])]
        decide)
      have r0 := (cell_blk him.b3 0).1.trans (show #[Value.bool false][0]? = some (.bool false) from rfl)
      have f0 := (cell_blk him.b3 0).2
      have HM := hide (him.set false)
      clear him
      gi_wp2
      have hm := unhide HM
      refine leaves_marks (lo := w.heap.size + 4) Ds _ hm.mks fun W2 hsh => ?_
      have c7 := (cell_blk (hsh.cel _ _ _ _ hm.b3) 0).1.trans (show #[Value.bool false][0]? = some (.bool false) from rfl)
      exact ⟨_, results_u1 (show Tryz.f38.results = #[.cell 6 4] from Tryz.results38) _ _ _ ⟨w.heap.size + 3, 0, none⟩ (.bool false) rfl (by simp [loadVar, go_sem, c7]), by rw [unhide HR], hm.bw.trans (hsh.bel.mono (by omega))⟩
end Go.Proofs.YtjnbnndocinicaaGreatDoor
