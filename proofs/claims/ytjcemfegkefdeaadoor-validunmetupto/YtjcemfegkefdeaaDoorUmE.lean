import Derived.Test.YtjcemfegkefdeaaDoorUmD
namespace Go.Proofs.YtjcemfegkefdeaaDoor
open Go.RowKit Go.Maps Go.Shelf
attribute [local go_sem] Oper.semAt_some
attribute [local simp] wide_fn
attribute [local go_sem] wide_fn

/-- DOES THE PACKAGE AT A PLACE MEET AN ATOM? -/
def mt (ps : List Pd) (an : Nm) (op : Int) (bd : ByteArray) (p : Nat) : Bool := match ps[p]? with | some q => meetsA an op bd q.nm q.vr q.pl | none => false
def satL (ps : List Pd) (an : Nm) (op : Int) (bd : ByteArray) (P1 P2 : List Nat) : List Nat := (P1 ++ P2).filter (mt ps an op bd)
abbrev encI (p : Nat) : Array Value := #[.int .i64 (p : Int)]
theorem row_at {W wr : World} {base n c : Nat} {a : Option Addr} {l : List Nat} (h : W.ownsRow base 3 1 (.slice a n c) n (ints l)) (hb : RowKit.Below W.heap.size W wr) {j : Nat} (hj : j < l.length) : ∃ g, a = some ⟨g, 0, none⟩ ∧ wr.cell? ⟨g, j, none⟩ = some (.int .i64 (l[j] : Int)) := by
  rcases h.2 with ⟨e, q⟩ | ⟨g, cap, cur, e, _, hg, _⟩
  · have := h.1
    rw [ints_len] at this
    omega
  · injection e with e _ _
    subst e
    refine ⟨g, rfl, ?_⟩
    have := h.cells (g := g) rfl j (.int .i64 (l[j] : Int)) (by simp [ints, hj])
    rw [Addr.add_mid, Nat.zero_add] at this
    exact (hb.cell (p := ⟨g, j, none⟩) (blk_lt hg)).trans this
/-- WHAT THE ITERATOR FINDS. -/
structure Sa (w : World) (Bs Ba : Nat) (v : Value) (b1 b2 : Nat) (an : Nm) (op : Int) (bd : ByteArray) (ps : List Pd) (base : Nat) (H1 H2 : Nm → Option Hd) (F1 F2 : Nm → List Nat) (k1 k2 : Nat) : Prop where
  s : w.heap[Bs]? = some (.cells #[v, .map (some b1), .map (some b2)] 49 (0, 0))
  a : w.heap[Ba]? = some (.cells #[.string an, .int .i64 op, .string bd] 26 (0, 0))
  m1 : Mi w base (.map (some b1)) H1 F1 k1
  m2 : Mi w base (.map (some b2)) H2 F2 k2
  pk : Pks w v ps
  pl : ∀ p ∈ F1 an ++ F2 an, p < ps.length
  an : an.size ≤ maxLen
  bd : bd.size ≤ maxLen
theorem info43 : (Tryd.prog.info? 40).map (·.size) = some 43 := by kernel_rfl
theorem ix0 (X : World) (s1 s2 : Value) : (Instr.index 65 (.agg #[s1, s2]) (.int .i64 0)).run Tryd.prog X = .ok s1 X := by
  simp [Instr.index, go_sem, run_underlying Tryd.underlying65]
theorem ix1 (X : World) (s1 s2 : Value) : (Instr.index 65 (.agg #[s1, s2]) (.int .i64 1)).run Tryd.prog X = .ok s2 X := by
  simp [Instr.index, go_sem, run_underlying Tryd.underlying65]
set_option maxRecDepth 100000 in
set_option maxHeartbeats 8000000 in
theorem sat_r (n : Nat) (_ : 1 ≤ n) {w : World} {Bs Ba : Nat} {v : Value} {b1 b2 : Nat} {an : Nm} {op : Int} {bd : ByteArray} {ps : List Pd} {base : Nat} {H1 H2 : Nm → Option Hd} {F1 F2 : Nm → List Nat} {k1 k2 : Nat} (h : Sa w Bs Ba v b1 b2 an op bd ps base H1 H2 F1 F2 k1 k2) (hl1 : (F1 an).length ≤ 1099511627776) (hl2 : (F2 an).length ≤ 1099511627776) :
    SeqR Fence.wide n Tryd.prog 26 #[.pointer (some ⟨Bs, 0, none⟩), .pointer (some ⟨Ba, 0, none⟩)] encI (satL ps an op bd (F1 an) (F2 an)) w := by
  intro l J Jx W hW hJd hY h0
  have hs := (hW.block _ (blk_lt h.s)).trans h.s
  have ha := (hW.block _ (blk_lt h.a)).trans h.a
  have m1 := h.m1.later hW
  have m2 := h.m2.later hW
  have pk := h.pk.later hW
  obtain ⟨va, vc, rfl⟩ : ∃ a c, v = .slice a ps.length c := let ⟨a, c, e, _⟩ := pk; ⟨a, c, e⟩
  have HAT := hide (show ∀ X : World, RowKit.Below W.heap.size W X → ∀ (p : Nat) (q : Pd), ps[p]? = some q → ∃ (b o : Nat), X.cell? ⟨Ba, 0, none⟩ = some (.string an) ∧ X.cell? ⟨Ba, 1, none⟩ = some (.int .i64 op) ∧ X.cell? ⟨Ba, 2, none⟩ = some (.string bd) ∧ X.cell? ⟨Bs, 0, none⟩ = some (.slice (some ⟨b, o, none⟩) ps.length vc) ∧ (p : Int) < (ps.length : Int) ∧ (Instr.loadAt 40 (.pointer (some ⟨b, o + p * 43, none⟩))).run Tryd.prog X = .ok (.agg q.cs.toArray) X ∧ Calls Tryd.prog 27 #[.agg #[.string an, .int .i64 op, .string bd], .agg q.cs.toArray] X fun e w' => e = .returned (.bool (meetsA an op bd q.nm q.vr q.pl)) ∧ RowKit.Below X.heap.size X w' from fun X hX p q hq => by
    have hs2 := (hX.block _ (blk_lt hs)).trans hs
    have ha2 := (hX.block _ (blk_lt ha)).trans ha
    have hpl := (List.getElem?_eq_some_iff.1 hq).1
    obtain ⟨a, c, e, qq⟩ := pk.later hX
    injection e with e _ _
    obtain ⟨b, o, q1, q2, q3⟩ := qq (by omega)
    obtain ⟨r1, r2, r3, r4⟩ := q3 p q hq
    refine ⟨b, o, (cell_blk ha2 0).1.trans rfl, (cell_blk ha2 1).1.trans rfl, (cell_blk ha2 2).1.trans rfl, ?_, by omega, ?_, ?_⟩
    · rw [← q1, ← e]; exact (cell_blk hs2 0).1.trans rfl
    · exact run_loadAt_mid X b (o + p * 43) 40 q.cs _ r1 Tryd.underlying40 rfl (by rw [r2.len]; exact info43)
    · exact Meets_any an op bd q.nm q.vr q.pv q.pl q.cs h.bd r4 X r2 r3)
  have HPL := hide (show ∀ p ∈ F1 an ++ F2 an, ∃ q, ps[p]? = some q from fun p hp => ⟨_, List.getElem?_eq_getElem (h.pl p hp)⟩)
  have c0 := (cell_blk hs 0).1.trans (show #[Value.slice va ps.length vc, .map (some b1), .map (some b2)][0]? = some (.slice va ps.length vc) from rfl)
  have c1 := (cell_blk hs 1).1.trans (show #[Value.slice va ps.length vc, .map (some b1), .map (some b2)][1]? = some (.map (some b1)) from rfl)
  have c2 := (cell_blk hs 2).1.trans (show #[Value.slice va ps.length vc, .map (some b1), .map (some b2)][2]? = some (.map (some b2)) from rfl)
  have ca := (cell_blk ha 0).1.trans (show #[Value.string an, .int .i64 op, .string bd][0]? = some (.string an) from rfl)
  have lk1 := look1 m1.dm h.an
  have lk2 := look1 m2.dm h.an
  obtain ⟨a1, d1, e1⟩ : ∃ a c, hv0 (H1 an) = .slice a (F1 an).length c := by
    obtain ⟨f, e, en⟩ := slice_hd (m1.own an)
    exact ⟨f.a, f.c, by rw [e, ← en]; rfl⟩
  obtain ⟨a2, d2, e2⟩ : ∃ a c, hv0 (H2 an) = .slice a (F2 an).length c := by
    obtain ⟨f, e, en⟩ := slice_hd (m2.own an)
    exact ⟨f.a, f.c, by rw [e, ← en]; rfl⟩
  have o1 := m1.own an
  have o2 := m2.own an
  rw [e1] at lk1 o1
  rw [e2] at lk2 o2
  have HJ1 := hide (show J W ∧ RowKit.Below W.heap.size W W from ⟨h0, Below.refl _ _⟩)
  have HJD := hide hJd
  have HY := hide hY
  clear e1 e2 m1 m2 pk hs ha h h0 hJd hY hW
  generalize F1 an = P1 at *
  generalize F2 an = P2 at *
  obtain ⟨n1, hn1⟩ : ∃ x, x = P1.length := ⟨_, rfl⟩
  obtain ⟨n2, hn2⟩ : ∃ x, x = P2.length := ⟨_, rfl⟩
  rw [← hn1] at lk1 o1 hl1
  rw [← hn2] at lk2 o2 hl2
  have HN1 := hide hn1
  have HN2 := hide hn2
  have HR1 := hide o1
  have HR2 := hide o2
  clear hn1 hn2 o1 o2
  refine callsIn_of_wp Tryd.func26 rfl trivial ?_ rfl
  simp only [Tryd.ntmps26, List.size_toArray, List.length_cons, List.length_nil, Nat.reduceAdd, Nat.reduceSub, Array.replicate_succ, Array.replicate_zero, List.push_toArray, List.append_toArray, List.nil_append, List.cons_append]
  gi_wp2
  have hx0 := fun X => ix0 X (.slice a1 n1 d1) (.slice a2 n2 d2)
  have hx1 := fun X => ix1 X (.slice a1 n1 d1) (.slice a2 n2 d2)
  refine wpIn_loop_rounds 3 ?_
  rw [roundsIn_succ]
  clear lk1 lk2 c0 c1 c2 ca
  gi_wp2
  gi_loopw [7, 24] (fun _ jv wr => ∃ j : Nat, jv = .int .i64 j ∧ j ≤ n1 ∧ Hid (J wr ∧ RowKit.Below W.heap.size W wr) ∧ Hid (∀ i, i < j → ∀ p, P1[i]? = some p → mt ps an op bd p = false)) (fun _ jv _ => n1 - (intOf jv).toNat)
  case atStart => exact ⟨0, rfl, Nat.zero_le _, HJ1, hide fun i hi => absurd hi (Nat.not_lt_zero _)⟩
  case round =>
    clear HJ1
    obtain ⟨j, rfl, hjle, HJ, HNO⟩ := hrel
    by_cases hlt : j < n1
    · have hlt2 : (j : Int) < (n1 : Int) := by omega
      have hjp : j < P1.length := by have := unhide HN1; omega
      have bwr := (unhide HJ).2
      obtain ⟨g, rfl, cg⟩ := row_at (unhide HR1) bwr hjp
      have hpm : P1[j]? = some P1[j] := List.getElem?_eq_getElem hjp
      generalize P1[j] = p at *
      obtain ⟨q, hq⟩ := unhide HPL p (by rw [List.mem_append]; exact .inl (List.mem_of_getElem? hpm))
      have bd2 : RowKit.Below W.heap.size W wr.drew := bl_t bwr (Below.refl _ wr).drew
      obtain ⟨pb, po, ha0, ha1, ha2, hs0, hpn, hld, hM⟩ := unhide HAT wr.drew bd2 p q hq
      have HM := hide hM
      have hmt : mt ps an op bd p = meetsA an op bd q.nm q.vr q.pl := by unfold mt; rw [hq]
      rw [← hmt] at HM
      have HPM := hide hpm
      clear hM hmt
      cases hb : mt ps an op bd p with
      | false =>
        rw [hb] at HM
        have HN2 := hide (show ∀ i, i < j + 1 → ∀ p, P1[i]? = some p → mt ps an op bd p = false from fun i hi p' e => by
          by_cases ei : i = j
          · subst ei; rw [unhide HPM] at e; cases e; exact hb
          · exact unhide HNO i (by omega) p' e)
        clear hb HNO
        gi_wp2
        refine wpIn_region_any (by kernel_rfl) ?_
        refine rg26f (fun c d v a w h => by cases d <;> exact h) ha0 ha1 ha2 hs0 hpn hld (unhide HM) ?_
        intro W3 hb3
        have HJ3 := hide (And.intro (unhide HJD _ _ (unhide HJ).1 (bl_t (Below.refl _ wr).drew hb3)) (bl_t bd2 hb3))
        clear ha0 ha1 ha2 hs0 hpn hld HM hb3 cg
        gi_wp2
        go_roundw
        case rel => exact ⟨j + 1, by go_num, by omega, HJ3, HN2⟩
        case measure => simp [intOf]; omega
      | true =>
        rw [hb] at HM
        have HIN := hide (show p ∈ satL ps an op bd P1 P2 from List.mem_filter.2 ⟨by rw [List.mem_append]; exact .inl (List.mem_of_getElem? (unhide HPM)), hb⟩)
        clear hb HNO
        gi_wp2
        refine wpIn_region_any (by kernel_rfl) ?_
        refine rg26t (fun c d v a w h => by cases d <;> exact h) ha0 ha1 ha2 hs0 hpn hld (unhide HM) (R := Jx p) (fun W2 hb2 => unhide HY p W2 (unhide HIN) (unhide HJD _ _ (unhide HJ).1 (bl_t (Below.refl _ wr).drew hb2))) ?_
        intro W3 hx3
        have HX := hide hx3
        clear ha0 ha1 ha2 hs0 hpn hld HM hx3 cg
        gi_wp2
        refine bodyPost_ret (results_none rfl _ _ _) rfl ?_
        exact ⟨⟨_, rfl⟩, .inr ⟨p, unhide HIN, unhide HX⟩⟩
    · obtain rfl : j = n1 := by omega
      have HNA1 := hide (show ∀ p ∈ P1, mt ps an op bd p = false from fun p hp => by
        obtain ⟨i, hi, e⟩ := List.getElem_of_mem hp
        exact unhide HNO i (by have := unhide HN1; omega) p (by rw [List.getElem?_eq_getElem hi, e]))
      clear HNO
      have HJ2 := HJ
      clear HJ
      gi_wp2
      rw [roundsIn_succ]
      gi_wp2
      gi_loopw [7, 24] (fun _ jv wr => ∃ j : Nat, jv = .int .i64 j ∧ j ≤ n2 ∧ Hid (J wr ∧ RowKit.Below W.heap.size W wr) ∧ Hid (∀ i, i < j → ∀ p, P2[i]? = some p → mt ps an op bd p = false)) (fun _ jv _ => n2 - (intOf jv).toNat)
      case atStart => exact ⟨0, rfl, Nat.zero_le _, HJ2, hide fun i hi => absurd hi (Nat.not_lt_zero _)⟩
      case round =>
        clear HJ2
        obtain ⟨j, rfl, hjle, HJ, HNO⟩ := hrel
        by_cases hlt : j < n2
        · have hlt2 : (j : Int) < (n2 : Int) := by omega
          have hjp : j < P2.length := by have := unhide HN2; omega
          have bwr := (unhide HJ).2
          obtain ⟨g, rfl, cg⟩ := row_at (unhide HR2) bwr hjp
          have hpm : P2[j]? = some P2[j] := List.getElem?_eq_getElem hjp
          generalize P2[j] = p at *
          obtain ⟨q, hq⟩ := unhide HPL p (by rw [List.mem_append]; exact .inr (List.mem_of_getElem? hpm))
          have bd2 : RowKit.Below W.heap.size W wr.drew := bl_t bwr (Below.refl _ wr).drew
          obtain ⟨pb, po, ha0, ha1, ha2, hs0, hpn, hld, hM⟩ := unhide HAT wr.drew bd2 p q hq
          have HM := hide hM
          have hmt : mt ps an op bd p = meetsA an op bd q.nm q.vr q.pl := by unfold mt; rw [hq]
          rw [← hmt] at HM
          have HPM := hide hpm
          clear hM hmt
          cases hb : mt ps an op bd p with
          | false =>
            rw [hb] at HM
            have HN2 := hide (show ∀ i, i < j + 1 → ∀ p, P2[i]? = some p → mt ps an op bd p = false from fun i hi p' e => by
              by_cases ei : i = j
              · subst ei; rw [unhide HPM] at e; cases e; exact hb
              · exact unhide HNO i (by omega) p' e)
            clear hb HNO
            gi_wp2
            refine wpIn_region_any (by kernel_rfl) ?_
            refine rg26f (fun c d v a w h => by cases d <;> exact h) ha0 ha1 ha2 hs0 hpn hld (unhide HM) ?_
            intro W3 hb3
            have HJ3 := hide (And.intro (unhide HJD _ _ (unhide HJ).1 (bl_t (Below.refl _ wr).drew hb3)) (bl_t bd2 hb3))
            clear ha0 ha1 ha2 hs0 hpn hld HM hb3 cg
            gi_wp2
            go_roundw
            case rel => exact ⟨j + 1, by go_num, by omega, HJ3, HN2⟩
            case measure => simp [intOf]; omega
          | true =>
            rw [hb] at HM
            have HIN := hide (show p ∈ satL ps an op bd P1 P2 from List.mem_filter.2 ⟨by rw [List.mem_append]; exact .inr (List.mem_of_getElem? (unhide HPM)), hb⟩)
            clear hb HNO
            gi_wp2
            refine wpIn_region_any (by kernel_rfl) ?_
            refine rg26t (fun c d v a w h => by cases d <;> exact h) ha0 ha1 ha2 hs0 hpn hld (unhide HM) (R := Jx p) (fun W2 hb2 => unhide HY p W2 (unhide HIN) (unhide HJD _ _ (unhide HJ).1 (bl_t (Below.refl _ wr).drew hb2))) ?_
            intro W3 hx3
            have HX := hide hx3
            clear ha0 ha1 ha2 hs0 hpn hld HM hx3 cg
            gi_wp2
            refine bodyPost_ret (results_none rfl _ _ _) rfl ?_
            exact ⟨⟨_, rfl⟩, .inr ⟨p, unhide HIN, unhide HX⟩⟩
        · obtain rfl : j = n2 := by omega
          have HNA2 := hide (show ∀ p ∈ P2, mt ps an op bd p = false from fun p hp => by
            obtain ⟨i, hi, e⟩ := List.getElem_of_mem hp
            exact unhide HNO i (by have := unhide HN2; omega) p (by rw [List.getElem?_eq_getElem hi, e]))
          clear HNO
          have HJ3 := HJ
          clear HJ
          gi_wp2
          rw [roundsIn_succ]
          gi_wp2
          go_end0
          refine ⟨⟨_, rfl⟩, .inl ⟨?_, (unhide HJ3).1⟩⟩
          exact List.filter_eq_nil_iff.2 fun p hp => by
            rcases List.mem_append.1 hp with hp | hp
            · rw [unhide HNA1 p hp]; decide
            · rw [unhide HNA2 p hp]; decide
end Go.Proofs.YtjcemfegkefdeaaDoor
