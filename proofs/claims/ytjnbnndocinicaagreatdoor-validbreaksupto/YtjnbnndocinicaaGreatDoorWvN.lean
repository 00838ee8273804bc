import Derived.Test.YtjnbnndocinicaaGreatDoorWvJ
namespace Go.Proofs.YtjnbnndocinicaaGreatDoor
open Go.RowKit Go.Maps Go.Shelf
attribute [local go_sem] Oper.semAt_some
attribute [local simp] wide_fn
attribute [local go_sem] wide_fn

set_option maxHeartbeats 1000000 in
theorem needs_any (v d1 d2 : Value) (p : Int) (w : World) :
    Calls Tryz.prog 37 #[.agg #[v, d1, d2], .int .i64 p] w fun e w' => e = .returned (.func (.func 50) #[] #[.pointer (some ⟨w.heap.size, 0, none⟩), .pointer (some ⟨w.heap.size + 1, 0, none⟩)]) ∧ w'.heap[w.heap.size]? = some (.cells #[v, d1, d2] 44 (0, 0)) ∧ w'.heap[w.heap.size + 1]? = some (.cells #[.int .i64 p] 3 (0, 0)) ∧ RowKit.Below w.heap.size w w' := by
  have hb1 := (Below.refl w.heap.size w).alloc (Nat.le_refl _) (.cells #[v, d1, d2] 44)
  have hb2 := hb1.alloc (by simp) (.cells #[.int .i64 p] 3)
  have h1 : ((w.alloc (.cells #[v, d1, d2] 44)).alloc (.cells #[.int .i64 p] 3)).heap[w.heap.size]? = some (.cells #[v, d1, d2] 44 (0, 0)) := (Below.heap_alloc _ _ _ (by simp)).trans (World.alloc_heap_new w _)
  have h2 : ((w.alloc (.cells #[v, d1, d2] 44)).alloc (.cells #[.int .i64 p] 3)).heap[w.heap.size + 1]? = some (.cells #[.int .i64 p] 3 (0, 0)) := by
    have := World.alloc_heap_new (w.alloc (.cells #[v, d1, d2] 44)) (.cells #[.int .i64 p] 3)
    rwa [World.size_alloc] at this
  have HR := hide (And.intro h1 (And.intro h2 hb2))
  clear h1 h2 hb1 hb2
  go_enter Tryz.func37, Tryz.ntmps37
  go_wp2
  go_ret
  exact ⟨rfl, unhide HR⟩
/-- A NEED, AS IT IS HANDED ON. -/
structure Nv where
  kd : Int
  ix : Nat
  cv : Hd
  al : List At
  bt : Int
abbrev encN (x : Nv) : Array Value := #[.agg #[.int .i64 x.kd, .int .i64 (x.ix : Int), .slice x.cv.a x.cv.n x.cv.c, .int .i64 x.bt]]
theorem range_pre {β : Type} (f : Nat → β) {j n : Nat} (h : j ≤ n) : (List.range j).map f <+: (List.range n).map f := by
  have : List.range j = (List.range n).take j := by rw [List.take_range, Nat.min_eq_left h]
  rw [this]
  exact (List.take_prefix j _).map f
/-- WHAT A LIST OF CLAUSES HOLDS, CELL BY CELL. -/
structure Cv (w : World) (a : Option Addr) (cl : List (List At)) (f : Nat → Hd) : Prop where
  at_ : ∀ i, i < cl.length → ∃ b o, a = some ⟨b, o, none⟩ ∧ b < w.heap.size ∧ w.cell? ⟨b, o + i, none⟩ = some (.slice (f i).a (f i).n (f i).c) ∧ Ats w (.slice (f i).a (f i).n (f i).c) (cl.getD i [])
theorem Cv.later {w w' : World} {a : Option Addr} {cl : List (List At)} {f : Nat → Hd} (h : Cv w a cl f) (hb : RowKit.Below w.heap.size w w') : Cv w' a cl f := ⟨fun i hi => by
  obtain ⟨b, o, h1, h2, h4, h5⟩ := h.at_ i hi
  exact ⟨b, o, h1, Nat.lt_of_lt_of_le h2 hb.size, (hb.cell (p := ⟨b, o + i, none⟩) h2).trans h4, h5.later hb⟩⟩
theorem cv_of {w : World} {v : Value} {cl : List (List At)} (h : Cls w v cl) : ∃ a c f, v = .slice a cl.length c ∧ Cv w a cl f := by
  obtain ⟨a, c, rfl, h2⟩ := h
  have hx : ∀ i, ∃ u : Hd, i < cl.length → ∃ b o, a = some ⟨b, o, none⟩ ∧ b < w.heap.size ∧ w.cell? ⟨b, o + i, none⟩ = some (.slice u.a u.n u.c) ∧ Ats w (.slice u.a u.n u.c) (cl.getD i []) := fun i => by
    by_cases hi : i < cl.length
    · obtain ⟨b, o, q1, q2, q3⟩ := h2 (by omega)
      have e : cl[i]? = some (cl.getD i []) := by rw [List.getD_eq_getElem?_getD, List.getElem?_eq_getElem hi]; rfl
      obtain ⟨xa, xc, q4, q5⟩ := q3 i _ e
      exact ⟨⟨xa, (cl.getD i []).length, xc⟩, fun _ => ⟨b, o, q1, q2, q4, q5⟩⟩
    · exact ⟨⟨none, 0, 0⟩, fun h => absurd h hi⟩
  exact ⟨a, c, fun i => (hx i).choose, rfl, ⟨fun i hi => (hx i).choose_spec hi⟩⟩
/-- THE NEEDS OF A PACKAGE. -/
def nvD (dp : List (List At)) (f : Nat → Hd) (i : Nat) : Nv := ⟨2, i, f i, dp.getD i [], -1⟩
def nvR (p : Nat) (pr : List (List At)) (f : Nat → Hd) (i : Nat) : Nv := ⟨3, i, f i, pr.getD i [], p⟩
def nvL (p : Nat) (dp pr : List (List At)) (f g : Nat → Hd) : List Nv := (List.range dp.length).map (nvD dp f) ++ (List.range pr.length).map (nvR p pr g)
theorem nv_one (p : Nat) (dp pr : List (List At)) (f g : Nat → Hd) {j : Nat} (h : j ≤ dp.length) : (List.range j).map (nvD dp f) <+: nvL p dp pr f g := (range_pre _ h).trans (List.prefix_append _ _)
theorem nv_two (p : Nat) (dp pr : List (List At)) (f g : Nat → Hd) {j : Nat} (h : j ≤ pr.length) : (List.range dp.length).map (nvD dp f) ++ (List.range j).map (nvR p pr g) <+: nvL p dp pr f g := by
  unfold nvL
  rw [List.prefix_append_right_inj]
  exact range_pre _ h
theorem map_succ {β : Type} (f : Nat → β) (j : Nat) : (List.range (j + 1)).map f = (List.range j).map f ++ [f j] := by rw [List.range_succ, List.map_append]; rfl
/-- WHAT THE ITERATOR FINDS. -/
structure Na (w0 w : World) (Bs Bp : Nat) (v d1 d2 : Value) (p : Nat) (da ra : Option Addr) (dc rc : Nat) (dp pr : List (List At)) (f g : Nat → Hd) : Prop where
  iw : Iw w0 Bs Bp (.cells #[v, d1, d2] 44 (0, 0)) (.cells #[.int .i64 (p : Int)] 3 (0, 0)) w
  l : ∃ b o n c, v = .slice (some ⟨b, o, none⟩) n c ∧ b < w0.heap.size ∧ (p : Int) < (n : Int) ∧ w0.cell? ⟨b, o + p * 43 + 3, none⟩ = some (.slice da dp.length dc) ∧ w0.cell? ⟨b, o + p * 43 + 4, none⟩ = some (.slice ra pr.length rc)
  d : Cv w0 da dp f
  r : Cv w0 ra pr g
set_option maxRecDepth 100000 in
set_option maxHeartbeats 8000000 in
theorem need_b (n : Nat) {w0 w : World} {Bs Bp : Nat} {v d1 d2 : Value} {p : Nat} {da ra : Option Addr} {dc rc : Nat} {dp pr : List (List At)} {f g : Nat → Hd} (h : Na w0 w Bs Bp v d1 d2 p da ra dc rc dp pr f g) (hl1 : dp.length ≤ 1000000000) (hl2 : pr.length ≤ 1000000000) :
    SeqB Fence.wide n Tryz.prog 50 #[.pointer (some ⟨Bs, 0, none⟩), .pointer (some ⟨Bp, 0, none⟩)] encN (Kb w0.heap.size Bs Bp) (fun xs => xs = nvL p dp pr f g) (fun pre => pre <+: nvL p dp pr f g) ((nvL p dp pr f g).length + 1) w := by
  intro l J Jx W hW hJd hY h0
  obtain ⟨vb, vo, vn, vc, rfl, hvb, hpn, hc3, hc4⟩ := h.l
  have HAT := hide (show ∀ X : World, Iw w0 Bs Bp (.cells #[.slice (some ⟨vb, vo, none⟩) vn vc, d1, d2] 44 (0, 0)) (.cells #[.int .i64 (p : Int)] 3 (0, 0)) X → X.cell? ⟨Bs, 0, none⟩ = some (.slice (some ⟨vb, vo, none⟩) vn vc) ∧ X.cell? ⟨Bp, 0, none⟩ = some (.int .i64 (p : Int)) ∧ X.cell? ⟨vb, vo + p * 43 + 3, none⟩ = some (.slice da dp.length dc) ∧ X.cell? ⟨vb, vo + p * 43 + 4, none⟩ = some (.slice ra pr.length rc) from fun X hX =>
    ⟨(cell_blk hX.s 0).1.trans rfl, (cell_blk hX.a 0).1.trans rfl, (hX.bel.cell (p := ⟨vb, vo + p * 43 + 3, none⟩) hvb).trans hc3, (hX.bel.cell (p := ⟨vb, vo + p * 43 + 4, none⟩) hvb).trans hc4⟩)
  have HD := hide (show ∀ X : World, RowKit.Below w0.heap.size w0 X → Cv X da dp f ∧ Cv X ra pr g from fun X hX => ⟨h.d.later hX, h.r.later hX⟩)
  have iW := h.iw.later hW
  have HJ1 := hide (show J [] W ∧ Iw w0 Bs Bp (.cells #[.slice (some ⟨vb, vo, none⟩) vn vc, d1, d2] 44 (0, 0)) (.cells #[.int .i64 (p : Int)] 3 (0, 0)) W from ⟨h0, iW⟩)
  have HJD := hide hJd
  have HY := hide (show ∀ (pre : List Nv) (x : Nv) (W1 : World), J pre W1 → (pre ++ [x]) <+: nvL p dp pr f g → Iw w0 Bs Bp (.cells #[.slice (some ⟨vb, vo, none⟩) vn vc, d1, d2] 44 (0, 0)) (.cells #[.int .i64 (p : Int)] 3 (0, 0)) W1 → YieldAt Fence.wide (n - 1) Tryz.prog l (encN x) W1 fun e W3 => (e = .returned (.bool true) ∧ (J (pre ++ [x]) W3 ∧ Iw w0 Bs Bp (.cells #[.slice (some ⟨vb, vo, none⟩) vn vc, d1, d2] 44 (0, 0)) (.cells #[.int .i64 (p : Int)] 3 (0, 0)) W3)) ∨ (e = .returned (.bool false) ∧ Jx (pre ++ [x]) W3) from fun pre x W1 hj hp hb => by
    have hle := hp.length_le
    rw [List.length_append, List.length_singleton] at hle
    refine (hY pre x W1 hj (by omega) hp).mono ?_
    rintro e W3 (⟨he, hj3, hk⟩ | ⟨he, hx⟩)
    · exact .inl ⟨he, hj3, hb.kb hk⟩
    · exact .inr ⟨he, hx⟩)
  obtain ⟨n1, hn1⟩ : ∃ x, x = dp.length := ⟨_, rfl⟩
  obtain ⟨n2, hn2⟩ : ∃ x, x = pr.length := ⟨_, rfl⟩
  rw [← hn1] at HAT hl1
  rw [← hn2] at HAT hl2
  have HN1 := hide hn1
  have HN2 := hide hn2
  obtain ⟨q0, q1, q2, q3⟩ := unhide HAT W iW
  clear h h0 hJd hY hW iW hvb hc3 hc4 hn1 hn2
  refine callsIn_of_wp Tryz.func50 rfl trivial ?_ rfl
  simp only [Tryz.ntmps50, List.size_toArray, List.length_cons, List.length_nil, Nat.reduceAdd, Nat.reduceSub, Array.replicate_succ, Array.replicate_zero, List.push_toArray, List.append_toArray, List.nil_append, List.cons_append]
  gi_wp2
  clear q0 q1 q2 q3
  gi_loopw [15] (fun jv wr => ∃ j : Nat, jv = .int .i64 j ∧ j ≤ n1 ∧ Hid (J ((List.range j).map (nvD dp f)) wr ∧ Iw w0 Bs Bp (.cells #[.slice (some ⟨vb, vo, none⟩) vn vc, d1, d2] 44 (0, 0)) (.cells #[.int .i64 (p : Int)] 3 (0, 0)) wr)) (fun jv _ => n1 - (intOf jv).toNat)
  case atStart => exact ⟨0, rfl, Nat.zero_le _, HJ1⟩
  case round =>
    clear HJ1
    obtain ⟨j, rfl, hjle, HJ⟩ := hrel
    by_cases hlt : j < n1
    · have hlt2 : (j : Int) < (n1 : Int) := by omega
      have hjp : j < dp.length := by have := unhide HN1; omega
      have bwr := (unhide HJ).2
      obtain ⟨cb, co, hca, hcb, hcell, hats⟩ := (unhide HD wr bwr.bel).1.at_ j hjp
      subst hca
      have HP := hide (show ((List.range j).map (nvD dp f)) ++ [nvD dp f j] <+: nvL p dp pr f g from by have := nv_one p dp pr f g (show j + 1 ≤ dp.length by omega); rw [map_succ] at this; exact this)
      have hy0 := unhide HY _ (nvD dp f j) wr (unhide HJ).1 (unhide HP) bwr
      generalize hgf : f j = u at *
      have hen : encN (nvD dp f j) = #[.agg #[.int .i64 2, .int .i64 (j : Int), .slice u.a u.n u.c, .int .i64 (-1)]] := by rw [← hgf]; rfl
      rw [hen] at hy0
      obtain ⟨xa, xn, xc⟩ := u
      simp only at hcell hy0
      obtain ⟨fn, tmps, assign, body, hy, hR⟩ := hy0
      clear hats hcb hen hgf
      gi_wp2
      refine ⟨fun q => (by cases q), hR.mono ?_⟩
      rintro e W3 (⟨rfl, hj3⟩ | ⟨rfl, hx3⟩)
      · have HJ3 := hide hj3
        clear hj3 hR hy hcell
        gi_wp2
        go_roundw
        case rel => exact ⟨j + 1, by go_num, by omega, by rw [map_succ]; exact HJ3⟩
        case measure => simp [intOf]; omega
      · have HX := hide hx3
        clear hx3 hR hy hcell
        gi_wp2
        refine bodyPost_ret (results_none rfl _ _ _) rfl ?_
        exact ⟨⟨_, rfl⟩, .inr ⟨_, unhide HP, unhide HX⟩⟩
    · obtain rfl : j = n1 := by omega
      have HJ2 := hide (show J ((List.range dp.length).map (nvD dp f)) wr ∧ Iw w0 Bs Bp (.cells #[.slice (some ⟨vb, vo, none⟩) vn vc, d1, d2] 44 (0, 0)) (.cells #[.int .i64 (p : Int)] 3 (0, 0)) wr from by have := unhide HJ; rw [unhide HN1] at this; exact this)
      obtain ⟨q0, q1, q2, q3⟩ := unhide HAT wr (unhide HJ).2
      clear HJ
      gi_wp2
      clear q0 q1 q2 q3
      gi_loopw [34] (fun jv wr => ∃ j : Nat, jv = .int .i64 j ∧ j ≤ n2 ∧ Hid (J ((List.range dp.length).map (nvD dp f) ++ (List.range j).map (nvR p pr g)) wr ∧ Iw w0 Bs Bp (.cells #[.slice (some ⟨vb, vo, none⟩) vn vc, d1, d2] 44 (0, 0)) (.cells #[.int .i64 (p : Int)] 3 (0, 0)) wr)) (fun jv _ => n2 - (intOf jv).toNat)
      case atStart => exact ⟨0, rfl, Nat.zero_le _, hide (by rw [List.range_zero, List.map_nil, List.append_nil]; exact unhide HJ2)⟩
      case round =>
        clear HJ2
        obtain ⟨j, rfl, hjle, HJ⟩ := hrel
        by_cases hlt : j < n2
        · have hlt2 : (j : Int) < (n2 : Int) := by omega
          have hjp : j < pr.length := by have := unhide HN2; omega
          have bwr := (unhide HJ).2
          obtain ⟨cb, co, hca, hcb, hcell, hats⟩ := (unhide HD wr bwr.bel).2.at_ j hjp
          subst hca
          have HP := hide (show ((List.range dp.length).map (nvD dp f) ++ (List.range j).map (nvR p pr g)) ++ [nvR p pr g j] <+: nvL p dp pr f g from by have := nv_two p dp pr f g (show j + 1 ≤ pr.length by omega); rw [map_succ, ← List.append_assoc] at this; exact this)
          have hy0 := unhide HY _ (nvR p pr g j) wr (unhide HJ).1 (unhide HP) bwr
          generalize hgf : g j = u at *
          have hen : encN (nvR p pr g j) = #[.agg #[.int .i64 3, .int .i64 (j : Int), .slice u.a u.n u.c, .int .i64 (p : Int)]] := by rw [← hgf]; rfl
          rw [hen] at hy0
          obtain ⟨xa, xn, xc⟩ := u
          simp only at hcell hy0
          obtain ⟨fn, tmps, assign, body, hy, hR⟩ := hy0
          have q1 := (unhide HAT wr bwr).2.1
          clear hats hcb hen hgf
          gi_wp2
          refine ⟨fun q => (by cases q), hR.mono ?_⟩
          rintro e W3 (⟨rfl, hj3⟩ | ⟨rfl, hx3⟩)
          · have HJ3 := hide hj3
            clear hj3 hR hy hcell
            gi_wp2
            go_roundw
            case rel => exact ⟨j + 1, by go_num, by omega, by rw [map_succ, ← List.append_assoc]; exact HJ3⟩
            case measure => simp [intOf]; omega
          · have HX := hide hx3
            clear hx3 hR hy hcell
            gi_wp2
            refine bodyPost_ret (results_none rfl _ _ _) rfl ?_
            exact ⟨⟨_, rfl⟩, .inr ⟨_, unhide HP, unhide HX⟩⟩
        · obtain rfl : j = n2 := by omega
          have HJ3 := hide (show J (nvL p dp pr f g) wr ∧ Iw w0 Bs Bp (.cells #[.slice (some ⟨vb, vo, none⟩) vn vc, d1, d2] 44 (0, 0)) (.cells #[.int .i64 (p : Int)] 3 (0, 0)) wr from by have := unhide HJ; rw [unhide HN2] at this; exact this)
          clear HJ
          gi_wp2
          go_end0
          exact ⟨⟨_, rfl⟩, .inl ⟨_, rfl, (unhide HJ3).1⟩⟩
end Go.Proofs.YtjnbnndocinicaaGreatDoor
