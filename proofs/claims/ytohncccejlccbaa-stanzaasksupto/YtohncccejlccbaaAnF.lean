import Derived.Test.YtohncccejlccbaaAnG
namespace Go.Proofs.Ytohncccejlccbaa
open Go.RowKit Go.Shelf

/-- WHAT GET HAS ANSWERED. -/
structure GF (f : Gd) (fl fn : Nat) (w : World) (s3 s4 r1 r2 r3 : Nat) (fa fb la lb ga gb : Option Addr) (fc fd lc ld gc gd : Nat) (W : World) : Prop where
  v1 : W.heap[r1]? = some (.cells #[.string (ba f.nm), .slice fa fl fc, .slice fb fn fd] 30 (0, 0))
  v2 : W.heap[r2]? = some (.cells #[.string (ba f.nm), .slice la fl lc, .slice lb fn ld] 30 (0, 0))
  v3 : W.heap[r3]? = some (.cells #[.string (ba f.nm), .slice ga fl gc, .slice gb fn gd] 30 (0, 0))
  o1 : W.ownsRow s3 9 1 (.slice fa fl fc) fl (strs f.ls)
  n1 : W.ownsRow s3 3 1 (.slice fb fn fd) fn (intz f.ns)
  o2 : W.ownsRow s4 9 1 (.slice la fl lc) fl (strs f.ls)
  n2 : W.ownsRow s4 3 1 (.slice lb fn ld) fn (intz f.ns)
  g1 : Cl w ga (strs f.ls)
  g2 : Cl w gb (intz f.ns)
  gc_ : fl ≤ gc
  h1 : fa.isNone = false → opB fa < s4
  h2 : fb.isNone = false → opB fb < s4
  r2_ : s4 ≤ r2
  r3_ : s4 ≤ r3
  hl : f.ls.length = fl
  hn : f.ns.length = fn
theorem GF.later {f : Gd} {fl fn : Nat} {w : World} {s3 s4 r1 r2 r3 : Nat} {fa fb la lb ga gb : Option Addr} {fc fd lc ld gc gd : Nat} {W W2 : World} (h : GF f fl fn w s3 s4 r1 r2 r3 fa fb la lb ga gb fc fd lc ld gc gd W) (hb : Below W.heap.size W W2) : GF f fl fn w s3 s4 r1 r2 r3 fa fb la lb ga gb fc fd lc ld gc gd W2 :=
  ⟨(hb.block _ (blk_lt h.v1)).trans h.v1, (hb.block _ (blk_lt h.v2)).trans h.v2, (hb.block _ (blk_lt h.v3)).trans h.v3, ownsRow_bl h.o1 hb, ownsRow_bl h.n1 hb, ownsRow_bl h.o2 hb, ownsRow_bl h.n2 hb, h.g1, h.g2, h.gc_, h.h1, h.h2, h.r2_, h.r3_, h.hl, h.hn⟩
theorem GF.c1 {f : Gd} {fl fn : Nat} {w : World} {s3 s4 r1 r2 r3 : Nat} {fa fb la lb ga gb : Option Addr} {fc fd lc ld gc gd : Nat} {W : World} (h : GF f fl fn w s3 s4 r1 r2 r3 fa fb la lb ga gb fc fd lc ld gc gd W) : (W.cell? ⟨r1, 0, none⟩ = some (.string (ba f.nm)) ∧ W.cell? ⟨r1, 1, none⟩ = some (.slice fa fl fc) ∧ W.cell? ⟨r1, 2, none⟩ = some (.slice fb fn fd)) ∧ (W.cell? ⟨r2, 0, none⟩ = some (.string (ba f.nm)) ∧ W.cell? ⟨r2, 1, none⟩ = some (.slice la fl lc) ∧ W.cell? ⟨r2, 2, none⟩ = some (.slice lb fn ld)) ∧ (W.cell? ⟨r3, 0, none⟩ = some (.string (ba f.nm)) ∧ W.cell? ⟨r3, 1, none⟩ = some (.slice ga fl gc) ∧ W.cell? ⟨r3, 2, none⟩ = some (.slice gb fn gd)) :=
  ⟨⟨(cell_blk h.v1 0).1, (cell_blk h.v1 1).1, (cell_blk h.v1 2).1⟩, ⟨(cell_blk h.v2 0).1, (cell_blk h.v2 1).1, (cell_blk h.v2 2).1⟩, ⟨(cell_blk h.v3 0).1, (cell_blk h.v3 1).1, (cell_blk h.v3 2).1⟩⟩
theorem own_hi {W : World} {lo e n c : Nat} {a : Option Addr} {xs : List Value} (h : W.ownsRow lo e 1 (.slice a n c) n xs) (ha : a.isNone = false) : opB a < W.heap.size := by
  rcases h.2 with ⟨e1, _⟩ | ⟨g, cap, cur, e1, h2, h3, _⟩
  · cases e1; simp at ha
  · cases e1; exact blk_lt h3
theorem alike_N (f : Gd) (fl fn : Nat) (hl : f.ls.length = fl) (hn : f.ns.length = fn) (W : World) {la na lb nb : Option Addr} {lc nc ld nd : Nat} (hb : fl ≤ 16777216 ∧ fn ≤ 16777216) (h1 : fl ≤ lc) (h2 : fl ≤ ld) (k1 : Cl W la (strs f.ls)) (k2 : Cl W na (intz f.ns)) (k3 : Cl W lb (strs f.ls)) (k4 : Cl W nb (intz f.ns)) :
    Calls Try.prog 7 #[.slice (some ⟨W.heap.size + 1, 0, none⟩) 1 1, .slice (some ⟨W.heap.size + 1 + 1 + 1, 0, none⟩) 1 1] ((((W.alloc (.cells #[.string (ba f.nm), .slice la fl lc, .slice na fn nc] 30)).alloc (.cells #[.slice (some ⟨W.heap.size, 0, none⟩) 1 1] 22)).alloc (.cells #[.string (ba f.nm), .slice lb fl ld, .slice nb fn nd] 30)).alloc (.cells #[.slice (some ⟨W.heap.size + 1 + 1, 0, none⟩) 1 1] 22)) fun e w' => e = .returned (.bool true) ∧ Below W.heap.size W w' := by
  subst hl
  subst hn
  exact alike_fg f W hb h1 h2 k1 k2 k3 k4
def XX : List Bs := [[117], [118], [119]]
theorem wdsX : wds [[117, 32, 118], [119]] = XX := by decide +kernel
theorem words_X (W : World) : Calls Try.prog 9 #[.agg #[.string ⟨#[88]⟩, .slice (some ⟨W.heap.size, 0, none⟩) 2 2, .slice none 0 0]] (W.alloc (.cells #[.string ⟨#[117, 32, 118]⟩, .string ⟨#[119]⟩] 9)) fun e w' => ∃ C, e = .returned (.slice (some ⟨C, 0, none⟩) 3 3) ∧ w'.ownsRow W.heap.size 9 1 (.slice (some ⟨C, 0, none⟩) 3 3) 3 (strs XX) ∧ Below W.heap.size W w' := by
  refine (Words_any ⟨#[88]⟩ (.slice none 0 0) [[117, 32, 118], [119]] (some ⟨W.heap.size, 0, none⟩) 2 _ (by decide) (by decide) (by decide) (fun _ => ⟨W.heap.size, 0, rfl, fun i u hi => by
    rw [Nat.zero_add, (cell_blk (hp_new W (.cells #[.string ⟨#[117, 32, 118]⟩, .string ⟨#[119]⟩] 9)) i).1]
    rcases i with _ | _ | i
    · exact hi
    · exact hi
    · simp [strs] at hi⟩)).mono fun e w' ⟨C, h1, h2, h3⟩ => ?_
  rw [wdsX] at h1 h2
  exact ⟨C, h1, h2.mono (al W _).size, bl_t (al W _) h3⟩
theorem lit3 (W : World) : Cl (W.alloc (.cells #[.string ⟨#[117]⟩, .string ⟨#[118]⟩, .string ⟨#[119]⟩] 9)) (some ⟨W.heap.size, 0, none⟩) (strs XX) := fun _ => ⟨W.heap.size, 0, rfl, fun i u hi => by
  rw [Nat.zero_add, (cell_blk (hp_new W (.cells #[.string ⟨#[117]⟩, .string ⟨#[118]⟩, .string ⟨#[119]⟩] 9)) i).1]
  rcases i with _ | _ | _ | i
  · exact hi
  · exact hi
  · exact hi
  · simp [strs, XX] at hi⟩
theorem texts_X (W : World) {a : Option Addr} {c : Nat} (h : Cl W a (strs XX)) : Calls Try.prog 13 #[.slice a 3 c, .slice (some ⟨W.heap.size, 0, none⟩) 3 3] (W.alloc (.cells #[.string ⟨#[117]⟩, .string ⟨#[118]⟩, .string ⟨#[119]⟩] 9)) fun e w' => e = .returned (.bool true) ∧ Below W.heap.size W w' :=
  (texts_same XX _ _ _ _ _ (by decide) (h.later (al W _)) (lit3 W)).mono fun _ _ hx => ⟨hx.1, bl_t (al W _) hx.2⟩
/-- THE WORDS THAT WERE ANSWERED. -/
structure RW (s A B C : Nat) (Da : Option Addr) (Dc nw : Nat) (WW : List Bs) (V : World) : Prop where
  a : V.ownsRow s 9 1 (.slice (some ⟨A, 0, none⟩) nw nw) nw (strs WW)
  b : V.ownsRow s 9 1 (.slice (some ⟨B, 0, none⟩) nw nw) nw (strs WW)
  c : V.ownsRow s 9 1 (.slice (some ⟨C, 0, none⟩) 3 3) 3 (strs XX)
  d : V.ownsRow s 9 1 (.slice Da nw Dc) nw (strs WW)
  ab : A < B
  bc : B < C
  cd : Da.isNone = false → C < opB Da
theorem RW.later {s A B C : Nat} {Da : Option Addr} {Dc nw : Nat} {WW : List Bs} {V V2 : World} (h : RW s A B C Da Dc nw WW V) (hb : Below V.heap.size V V2) : RW s A B C Da Dc nw WW V2 := ⟨ownsRow_bl h.a hb, ownsRow_bl h.b hb, ownsRow_bl h.c hb, ownsRow_bl h.d hb, h.ab, h.bc, h.cd⟩
/-- behind the spoiling. -/
theorem RW.behind {s A B C : Nat} {Da : Option Addr} {Dc nw : Nat} {WW : List Bs} {V V2 : World} (h : RW s A B C Da Dc nw WW V) (hk : ∀ q, q < V.heap.size → q ≠ A → q ≠ C → V2.heap[q]? = V.heap[q]?) : Cl V2 (some ⟨B, 0, none⟩) (strs WW) ∧ Cl V2 Da (strs WW) := by
  have ab := h.ab
  have bc := h.bc
  refine ⟨(own_two (ownsRow_same h.b fun g c hg hc => hk g (blk_lt hc) ?_ ?_)).2, (own_two (ownsRow_same h.d fun g c hg hc => hk g (blk_lt hc) ?_ ?_)).2⟩
  · cases hg; show B ≠ A; omega
  · cases hg; show B ≠ C; omega
  · have e := own_addr h.d
    cases hz : Da.isNone with
    | true => rw [hz, if_pos rfl] at e; rw [e] at hg; cases hg
    | false =>
      have := h.cd hz
      rw [hz, if_neg (by decide)] at e
      rw [e] at hg
      cases hg
      show opB Da ≠ A
      omega
  · have e := own_addr h.d
    cases hz : Da.isNone with
    | true => rw [hz, if_pos rfl] at e; rw [e] at hg; cases hg
    | false =>
      have := h.cd hz
      rw [hz, if_neg (by decide)] at e
      rw [e] at hg
      cases hg
      show opB Da ≠ C
      omega
theorem GF.behind {f : Gd} {fl fn : Nat} {w : World} {s3 s4 r1 r2 r3 : Nat} {fa fb la lb ga gb : Option Addr} {fc fd lc ld gc gd : Nat} {V V2 : World} (h : GF f fl fn w s3 s4 r1 r2 r3 fa fb la lb ga gb fc fd lc ld gc gd V) (hk : ∀ q, q < V.heap.size → (fa.isNone = false → q ≠ opB fa) → (fb.isNone = false → q ≠ opB fb) → V2.heap[q]? = V.heap[q]?) : (V2.cell? ⟨r2, 0, none⟩ = some (.string (ba f.nm)) ∧ V2.cell? ⟨r2, 1, none⟩ = some (.slice la fl lc) ∧ V2.cell? ⟨r2, 2, none⟩ = some (.slice lb fn ld)) ∧ (V2.cell? ⟨r3, 0, none⟩ = some (.string (ba f.nm)) ∧ V2.cell? ⟨r3, 1, none⟩ = some (.slice ga fl gc) ∧ V2.cell? ⟨r3, 2, none⟩ = some (.slice gb fn gd)) ∧ (Cl V2 la (strs f.ls) ∧ Cl V2 lb (intz f.ns)) ∧ fl ≤ lc := by
  have key : ∀ q, q < V.heap.size → s4 ≤ q → V2.heap[q]? = V.heap[q]? := fun q hq hs => hk q hq (fun z => by have := h.h1 z; omega) (fun z => by have := h.h2 z; omega)
  have k2 := (key r2 (blk_lt h.v2) h.r2_).trans h.v2
  have k3 := (key r3 (blk_lt h.v3) h.r3_).trans h.v3
  exact ⟨⟨(cell_blk k2 0).1, (cell_blk k2 1).1, (cell_blk k2 2).1⟩, ⟨(cell_blk k3 0).1, (cell_blk k3 1).1, (cell_blk k3 2).1⟩, ⟨(own_two (ownsRow_same h.o2 fun g c hg hc => key g (blk_lt hc) (ownsRow_blk h.o2 hg).choose_spec.2.1)).2, (own_two (ownsRow_same h.n2 fun g c hg hc => key g (blk_lt hc) (ownsRow_blk h.n2 hg).choose_spec.2.1)).2⟩, (own_two h.o2).1⟩
/-- Sizes of what comes in. -/
def B0 (f : Gd) : Prop := f.nm.length ≤ 1048576 ∧ f.ls.length ≤ 1048576 ∧ f.ns.length ≤ 1048576 ∧ (Lib.join f.ls [10]).length ≤ 2097152 ∧ ∀ l ∈ f.ls, l.length ≤ 1048576
attribute [local go_sem] World.cell?_alloc_some

set_option maxRecDepth 100000 in
set_option maxHeartbeats 8000000 in
theorem asks_walk (p q : List Gd) (n : Bs) (k : Int) (pa qa : Option Addr) (pc qc : Nat) (w : World) (hP : ParZ w (.slice pa p.length pc) p) (hQ : ParZ w (.slice qa q.length qc) q) (hn : n.length ≤ 1048576) (hpl : p.length ≤ 1048576) (hql : q.length ≤ 1048576) (hb : ∀ f, f ∈ p ∨ f ∈ q → B0 f) :
    Calls Try.prog 3 #[.slice pa p.length pc, .slice qa q.length qc, .string (ba n), .int .i64 k] w fun e w' => e = .returned (.bool true) ∧ Below w.heap.size w w' := by
  have HB0 := hide hb
  have HBP := hide (show ∀ f ∈ p, Bp f from fun f hf => by
    obtain ⟨z1, z2, z3, z4, _⟩ := hb f (.inl hf)
    exact ⟨by omega, by omega, by omega, by omega⟩)
  have HL := hide (show ∀ x, x = p ∨ x = q → x.length ≤ 16777216 ∧ ∀ f ∈ x, f.ls.length ≤ 16777216 ∧ f.ns.length ≤ 16777216 from fun x hx => by
    rcases hx with rfl | rfl
    · exact ⟨by omega, fun f hf => by obtain ⟨_, z2, z3, _⟩ := hb f (.inl hf); exact ⟨by omega, by omega⟩⟩
    · exact ⟨by omega, fun f hf => by obtain ⟨_, z2, z3, _⟩ := hb f (.inr hf); exact ⟨by omega, by omega⟩⟩)
  obtain ⟨N, hN⟩ : ∃ N, p.length = N := ⟨_, rfl⟩
  obtain ⟨M, hM⟩ : ∃ M, q.length = M := ⟨_, rfl⟩
  rw [hN] at hP hpl ⊢
  rw [hM] at hQ hql ⊢
  have HNM := hide (And.intro hN hM)
  have HP := hide hP
  have HQ := hide hQ
  have HFB := hide (getR_bp (n := n) (unhide HBP))
  have cG := hide (fun pa pc W (h : ParZ W (.slice pa N pc) p) => Get_N p N hN pa pc n W h (by omega) (by omega) (unhide HBP))
  have cR := hide (fun W (h : Below w.heap.size w W) => rGet_V p N hN pa pc n w W hP h (by omega) (by omega) (unhide HBP))
  have b1 := hp_new w (.cells #[.slice pa N pc, .slice qa M qc] 22)
  have T1 := hide (And.intro b1 (al w (.cells #[.slice pa N pc, .slice qa M qc] 22)))
  have cA := hide (lent_two p q w.heap.size (w.alloc (.cells #[.slice pa N pc, .slice qa M qc] 22)) (unhide HL) (docZ_two (cell_blk b1 0).1 (cell_blk b1 1).1 (hP.later (al _ _)) (hQ.later (al _ _))))
  clear hP hQ hb hN hM b1
  go_enter Try.func3, Try.ntmps3
  go_upto_region 3 with (go_at_call 4; go_must (refine (unhide cA).mono ?_); rintro x2 w2 ⟨lg, lgc, P, F, q0, q1, m1, m2, rfl, hln, e0, e1, hb2⟩; obtain ⟨P1, P2, eP, _⟩ := own_cap hln.p; obtain ⟨F1, F2, eF, _⟩ := own_cap hln.f; subst eP; subst eF; have T2 := hide (And.intro hln (And.intro e0 (And.intro e1 hb2))); clear hln e0 e1 hb2)
  have HSA := hide (show SA w p q pa qa pc qc N M w.heap.size w2.heap.size lg lgc (.slice P1 2 P2) (.slice F1 2 F2) q0 q1 m1 m2 ((w.alloc (.cells #[.slice pa N pc, .slice qa M qc] 22)).heap.size + 2) (w2.alloc (.cells #[.slice (some ⟨lg, 0, none⟩) 2 lgc, .slice P1 2 P2, .slice F1 2 F2] 25)) from by
    obtain ⟨t1, t2⟩ := unhide T1
    obtain ⟨u1, u2, u3, u4⟩ := unhide T2
    have hbb := bl_t (bl_t t2 u4) (al w2 (.cells #[.slice (some ⟨lg, 0, none⟩) 2 lgc, .slice P1 2 P2, .slice F1 2 F2] 25))
    exact ⟨hbb, (unhide HP).later hbb, (unhide HQ).later hbb, ((al w2 _).block _ (Nat.lt_of_lt_of_le (blk_lt t1) u4.size)).trans ((u4.block _ (blk_lt t1)).trans t1), hp_new _ _, u1.later (al w2 _), u2, u3, (unhide HNM).1, (unhide HNM).2⟩)
  have HLO := hide (show w.heap.size ≤ (w.alloc (.cells #[.slice pa N pc, .slice qa M qc] 22)).heap.size + 2 ∧ (w.alloc (.cells #[.slice pa N pc, .slice qa M qc] 22)).heap.size + 2 ≤ (w2.alloc (.cells #[.slice (some ⟨lg, 0, none⟩) 2 lgc, .slice P1 2 P2, .slice F1 2 F2] 25)).heap.size from by
    obtain ⟨u1, u2, u3, u4⟩ := unhide T2
    have a1 := (ownsRow_blk u1.l (g := lg) rfl).choose_spec.2
    have a2 := (al w2 (.cells #[.slice (some ⟨lg, 0, none⟩) 2 lgc, .slice P1 2 P2, .slice F1 2 F2] 25)).size
    simp only [World.size_alloc] at a1 a2 ⊢
    omega)
  have HLW := hide (unhide HLO).1
  clear T1 T2 cA
  generalize w2.alloc (.cells #[.slice (some ⟨lg, 0, none⟩) 2 lgc, .slice P1 2 P2, .slice F1 2 F2] 25) = W3 at *
  generalize (w.alloc (.cells #[.slice pa N pc, .slice qa M qc] 22)).heap.size + 2 = lo at *
  generalize w2.heap.size = X at *
  have x0 := (unhide HSA).xs.1
  have l0 := (unhide HSA).l0.1
  generalize getR p n = gr at *
  obtain ⟨f, ok⟩ := gr
  simp only at cG cR HFB
  obtain ⟨fl, hfl⟩ : ∃ fl, f.ls.length = fl := ⟨_, rfl⟩
  obtain ⟨fn, hfn⟩ : ∃ fn, f.ns.length = fn := ⟨_, rfl⟩
  have HFL := hide hfl
  have HFN := hide hfn
  rw [hfl, hfn] at cG cR
  have hfl2 : fl ≤ 2097152 := by rw [← hfl]; exact (unhide HFB).2.1
  have hfn2 : fn ≤ 2097152 := by rw [← hfn]; exact (unhide HFB).2.2.1
  clear hfl hfn
  go_upto_region 4 with (go_at_call 5; go_must (refine (unhide cG _ _ _ (unhide HSA).l0.2).mono ?_); rintro x4 w4 ⟨fa, fc, fb, fd, rfl, ho4, hb4⟩; have T4 := hide (And.intro ho4 hb4); clear ho4 hb4)
  clear x0 l0
  have HV1 := hide (hp_new w4 (.cells #[.string (ba f.nm), .slice fa fl fc, .slice fb fn fd] 30))
  have T5 := hide (show (w4.alloc (.cells #[.string (ba f.nm), .slice fa fl fc, .slice fb fn fd] 30)).ownsRow W3.heap.size 9 1 (.slice fa fl fc) fl (strs f.ls) ∧ (w4.alloc (.cells #[.string (ba f.nm), .slice fa fl fc, .slice fb fn fd] 30)).ownsRow W3.heap.size 3 1 (.slice fb fn fd) fn (intz f.ns) ∧ Below W3.heap.size W3 (w4.alloc (.cells #[.string (ba f.nm), .slice fa fl fc, .slice fb fn fd] 30)) from ⟨ownsRow_bl (unhide T4).1.1 (al _ _), ownsRow_bl (unhide T4).1.2 (al _ _), bl_t (unhide T4).2 (al _ _)⟩)
  clear T4
  generalize w4.alloc (.cells #[.string (ba f.nm), .slice fa fl fc, .slice fb fn fd] 30) = W4 at *
  generalize w4.heap.size = r1 at *
  have HS4 := hide ((unhide HSA).later (unhide T5).2.2)
  have x0 := (unhide HS4).xs.1
  have l0 := (unhide HS4).l0.1
  go_upto_region 5 with (go_at_call 5; go_must (refine (unhide cG _ _ _ (unhide HS4).l0.2).mono ?_); rintro x5 w5 ⟨la, lc, lb, ld, rfl, ho5, hb5⟩; have T6 := hide (And.intro ho5 hb5); clear ho5 hb5)
  clear x0 l0 cG
  have HV2 := hide (hp_new w5 (.cells #[.string (ba f.nm), .slice la fl lc, .slice lb fn ld] 30))
  have T7 := hide (show (w5.alloc (.cells #[.string (ba f.nm), .slice la fl lc, .slice lb fn ld] 30)).ownsRow W4.heap.size 9 1 (.slice la fl lc) fl (strs f.ls) ∧ (w5.alloc (.cells #[.string (ba f.nm), .slice la fl lc, .slice lb fn ld] 30)).ownsRow W4.heap.size 3 1 (.slice lb fn ld) fn (intz f.ns) ∧ Below W4.heap.size W4 (w5.alloc (.cells #[.string (ba f.nm), .slice la fl lc, .slice lb fn ld] 30)) ∧ W4.heap.size ≤ w5.heap.size from ⟨ownsRow_bl (unhide T6).1.1 (al _ _), ownsRow_bl (unhide T6).1.2 (al _ _), bl_t (unhide T6).2 (al _ _), (unhide T6).2.size⟩)
  clear T6
  generalize w5.alloc (.cells #[.string (ba f.nm), .slice la fl lc, .slice lb fn ld] 30) = W5 at *
  generalize w5.heap.size = r2 at *
  go_upto_region 6 with (go_at_call 6; go_must (refine (unhide cR _ (bl_t (unhide HS4).bel (unhide T7).2.2.1)).mono ?_); rintro x6 w6 ⟨ga, gc, gb, gd, rfl, hcap, hg1, hg2, hb6⟩; have T8 := hide (And.intro hcap (And.intro hg1 (And.intro hg2 hb6))); clear hcap hg1 hg2 hb6)
  have HG := hide (show GF f fl fn w W3.heap.size W4.heap.size r1 r2 w6.heap.size fa fb la lb ga gb fc fd lc ld gc gd (w6.alloc (.cells #[.string (ba f.nm), .slice ga fl gc, .slice gb fn gd] 30)) from by
    obtain ⟨a1, a2, a3⟩ := unhide T5
    obtain ⟨b1, b2, b3, b4⟩ := unhide T7
    obtain ⟨c1, c2, c3, c4⟩ := unhide T8
    have d1 := bl_t c4 (al w6 (.cells #[.string (ba f.nm), .slice ga fl gc, .slice gb fn gd] 30))
    have d2 := bl_t b3 d1
    exact ⟨(d2.block _ (blk_lt (unhide HV1))).trans (unhide HV1), (d1.block _ (blk_lt (unhide HV2))).trans (unhide HV2), hp_new _ _, ownsRow_bl a1 d2, ownsRow_bl a2 d2, ownsRow_bl b1 d1, ownsRow_bl b2 d1, c2, c3, c1, fun h => own_hi a1 h, fun h => own_hi a2 h, b4, Nat.le_trans b3.size c4.size, unhide HFL, unhide HFN⟩)
  have HS6 := hide ((unhide HS4).later (bl_t (unhide T7).2.2.1 (bl_t (unhide T8).2.2.2 (al w6 (.cells #[.string (ba f.nm), .slice ga fl gc, .slice gb fn gd] 30)))))
  have HB3 := hide (bl_t (unhide T5).2.2 (bl_t (unhide T7).2.2.1 (bl_t (unhide T8).2.2.2 (al w6 (.cells #[.string (ba f.nm), .slice ga fl gc, .slice gb fn gd] 30)))))
  clear T5 T7 T8 HV1 HV2 HS4 cR
  generalize w6.alloc (.cells #[.string (ba f.nm), .slice ga fl gc, .slice gb fn gd] 30) = W6 at *
  generalize w6.heap.size = r3 at *
  generalize hs4 : W4.heap.size = s4 at *
  clear hs4
  have HCL := hide (show Cl W6 fa (strs f.ls) ∧ Cl W6 fb (intz f.ns) ∧ Cl W6 ga (strs f.ls) ∧ Cl W6 gb (intz f.ns) from ⟨(own_two (unhide HG).o1).2, (own_two (unhide HG).n1).2, (unhide HG).g1.later (unhide HS6).bel, (unhide HG).g2.later (unhide HS6).bel⟩)
  obtain ⟨⟨y10, y11, y12⟩, -, y30, y31, y32⟩ := (unhide HG).c1
  obtain ⟨x0, x1, x2⟩ := (unhide HS6).xs
  have hok : (ok != ok) = false := by cases ok <;> rfl
  have HKX := hide (fun W' (h : Below W6.heap.size W6 W') => ((unhide HS6).later h).xs)
  go_upto_region 8 with (first | (go_at_call 7; go_must (refine (alike_N f fl fn (unhide HFL) (unhide HFN) _ ⟨by omega, by omega⟩ (own_two (unhide HG).o1).1 (unhide HG).gc_ (unhide HCL).1 (unhide HCL).2.1 (unhide HCL).2.2.1 (unhide HCL).2.2.2).mono ?_); rintro x7 w7 ⟨rfl, hb7⟩; have B7 := hide hb7; obtain ⟨x0, x1, x2⟩ := unhide HKX _ hb7; clear hb7) | (go_at_call 8; go_must (refine (((unhide HS6).later (unhide B7)).stayed (unhide HL)).mono ?_); rintro x8 w8 ⟨rfl, hb8⟩; have B8 := hide (bl_t (unhide B7) hb8); clear hb8))
  clear y10 y11 y12 y30 y31 y32 hok HKX HCL B7
  clear x0 x1 x2
  have HS8 := hide ((unhide HS6).later (unhide B8))
  have HG8 := hide ((unhide HG).later (unhide B8))
  have HB8 := hide (bl_t (unhide HB3) (unhide B8))
  clear HS6 HG HB3 B8
  go_wp2_with fail
  go_loopg [17, 18, 19, 20, 21, 22] N (fun gq vi _ _ _ _ _ wr => ∃ i : Nat, vi = .int .i64 i ∧ i ≤ N ∧ N - i ≤ gq ∧ Hid (Below w8.heap.size w8 wr))
  case atStart => exact ⟨0, by go_num, by omega, by omega, hide (Below.refl _ _)⟩
  case round =>
    obtain ⟨i, rfl, hi, hg, HB⟩ := hrel
    by_cases hlt : i < N
    · have hiz : (i : Int) < (N : Int) := by omega
      obtain ⟨h, hh⟩ : ∃ h, p[i]? = some h := ⟨_, List.getElem?_eq_getElem (by have := (unhide HNM).1; omega)⟩
      obtain ⟨z1, z2, z3, z4⟩ := unhide HBP h (List.mem_of_getElem? hh)
      have HSi := hide ((unhide HS8).later (unhide HB))
      have x0 := (unhide HSi).xs.1
      have l0 := (unhide HSi).l0.1
      obtain ⟨pa1, pc1, e1, _, h1a⟩ := (unhide HSi).l0.2
      obtain ⟨pa2, pc2, e2, _, h2a⟩ := (unhide HSi).P_
      obtain ⟨g1', o1', e3, h1b⟩ := h1a (by have := (unhide HNM).1; omega)
      obtain ⟨g2', o2', e4, h2b⟩ := h2a (by have := (unhide HNM).1; omega)
      have h1c := h1b i h hh
      have h2c := h2b i h hh
      clear h1a h2a h1b h2b
      have e1' := e1
      injection e1' with e5 e6 e7
      have e2' := e2
      injection e2' with e8 e9 e10
      rw [← e5] at e3
      rw [← e8] at e4
      cases e3
      subst e4
      clear e1 e2 e5 e6 e7 e8 e9 e10
      rw [Nat.zero_add] at h1c
      obtain ⟨ya, yc, c11, k11, C11⟩ := h1c.ls
      obtain ⟨yb, yd, c12, C12⟩ := h1c.ns
      have c10 := h1c.nm
      obtain ⟨ua, uc, c21, k21, C21⟩ := h2c.ls
      obtain ⟨ub, ud, c22, C22⟩ := h2c.ns
      have c20 := h2c.nm
      have hw1 : (wds h.ls).length ≤ 16777216 := by have := wordsB_len (Lib.join h.ls [10]) []; unfold wds; omega
      have HCL := hide (And.intro C11 (And.intro C12 (And.intro C21 C22)))
      have cJ := hide (fun W' (hb : Below wr.heap.size wr W') => Joined_any (ba h.nm) (.slice yb h.ns.length yd) h.ls ya yc W' (by omega) k11 (by omega) ((unhide HCL).1.later hb))
      have cJr := hide (fun W' (hb : Below wr.heap.size wr W') => rJoined_any (ba h.nm) (.slice ub h.ns.length ud) h.ls ua uc W' (by omega) (by omega) ((unhide HCL).2.2.1.later hb))
      have cW := hide (fun W' (hb : Below wr.heap.size wr W') => Words_any (ba h.nm) (.slice yb h.ns.length yd) h.ls ya yc W' (by omega) k11 (by omega) ((unhide HCL).1.later hb))
      have cWr := hide (fun W' (hb : Below wr.heap.size wr W') => rWords_any (ba h.nm) (.slice ub h.ns.length ud) h.ls ua uc W' (by omega) (by omega) ((unhide HCL).2.2.1.later hb))
      have cL := hide (fun W' (hb : Below wr.heap.size wr W') => Line_any (ba h.nm) (.slice ya h.ls.length yc) h.ns yb yd k W' (by omega) ((unhide HCL).2.1.later hb))
      have cLr := hide (fun W' (hb : Below wr.heap.size wr W') => rLine_any (ba h.nm) (.slice ua h.ls.length uc) h.ns ub ud k W' (by omega) ((unhide HCL).2.2.2.later hb))
      have q1' : ((ba (Lib.join h.ls [10])).toList != (ba (Lib.join h.ls [10])).toList) = false := by simp
      have q2' : (lineZ h.ns k != lineZ h.ns k) = false := by simp
      clear h1c h2c hh z1 z2 z3 z4 k11 k21 C11 C12 C21 C22 HCL
      generalize Lib.join h.ls [10] = JJ at *
      generalize lineZ h.ns k = LL at *
      generalize wds h.ls = WW at *
      generalize h.ls.length = hl at *
      generalize h.ns.length = hn_ at *
      generalize ba h.nm = hnm at *
      obtain ⟨nw, hnw⟩ : ∃ nw, WW.length = nw := ⟨_, rfl⟩
      have HNW := hide hnw
      rw [hnw] at cW cWr hw1
      clear hnw
      go_upto_region 12 with fail
      have HAY := hide (hp_new wr (.cells #[.string hnm, .slice ya hl yc, .slice yb hn_ yd] 30))
      have BY := hide (al wr (.cells #[.string hnm, .slice ya hl yc, .slice yb hn_ yd] 30))
      have d20 := cell_later c20 (unhide BY)
      have d21 := cell_later c21 (unhide BY)
      have d22 := cell_later c22 (unhide BY)
      clear x0 l0 c10 c11 c12
      generalize wr.alloc (.cells #[.string hnm, .slice ya hl yc, .slice yb hn_ yd] 30) = WY at *
      obtain ⟨ry, hry⟩ : ∃ ry, ry = wr.heap.size := ⟨_, rfl⟩
      have HK := hide (show ∀ W', Below WY.heap.size WY W' → Below WY.heap.size WY W' ∧ W'.cell? ⟨ry, 0, none⟩ = some (.string hnm) ∧ W'.cell? ⟨ry, 1, none⟩ = some (.slice ya hl yc) ∧ W'.cell? ⟨ry, 2, none⟩ = some (.slice yb hn_ yd) ∧ W'.cell? ⟨g2', o2' + i * 3, none⟩ = some (.string hnm) ∧ W'.cell? ⟨g2', o2' + i * 3 + 1, none⟩ = some (.slice ua hl uc) ∧ W'.cell? ⟨g2', o2' + i * 3 + 2, none⟩ = some (.slice ub hn_ ud) from fun W' hb => by rw [hry]; exact ⟨hb, cell_later (cell_blk (unhide HAY) 0).1 hb, cell_later (cell_blk (unhide HAY) 1).1 hb, cell_later (cell_blk (unhide HAY) 2).1 hb, cell_later d20 hb, cell_later d21 hb, cell_later d22 hb⟩)
      rw [← hry]
      have HRY := hide hry
      clear hry d20 d21 d22 c20 c21 c22
      obtain ⟨-, y0, y1, y2, -⟩ := unhide HK WY (Below.refl _ _)
      go_upto_region 13 with (go_at_call 9; go_must (refine (unhide cW _ (unhide BY)).mono ?_); rintro x12 w12 ⟨A, rfl, ho12, hb12⟩; have B12 := hide hb12; have R12 := hide ho12; clear hb12 ho12)
      clear y0 y1 y2
      obtain ⟨-, y0, y1, y2, -⟩ := unhide HK w12 (unhide B12)
      go_upto_region 14 with (go_at_call 9; go_must (refine (unhide cW _ (bl_t (unhide BY) (unhide B12))).mono ?_); rintro x13 w13 ⟨B, rfl, ho13, hb13⟩; have B13 := hide hb13; have R13 := hide ho13; clear hb13 ho13)
      clear y0 y1 y2
      go_upto_region 15 with (go_at_call 9; go_must (refine (words_X w13).mono ?_); rintro x14 w14 ⟨C, rfl, ho14, hb14⟩; have B14 := hide hb14; have R14 := hide ho14; clear hb14 ho14)
      obtain ⟨-, -, -, -, y0, y1, y2⟩ := unhide HK w14 (bl_t (bl_t (unhide B12) (unhide B13)) (unhide B14))
      go_upto_region 16 with (go_at_call 10; go_must (refine (unhide cWr _ (bl_t (unhide BY) (bl_t (bl_t (unhide B12) (unhide B13)) (unhide B14)))).mono ?_); rintro x15 w15 ⟨l15, rfl, ho15, hb15⟩; obtain ⟨Da, Dc, e15, -, -⟩ := own_cap ho15; subst e15; have B15 := hide hb15; have R15 := hide ho15; clear hb15 ho15)
      clear y0 y1 y2
      have HRW := hide (show RW WY.heap.size A B C Da Dc nw WW w15 from by
        have b12 := unhide B12
        have b13 := unhide B13
        have b14 := unhide B14
        have b15 := unhide B15
        have a1 := own_hi (unhide R12) rfl
        have a2 := own_lo (unhide R13) rfl
        have a3 := own_hi (unhide R13) rfl
        have a4 := own_lo (unhide R14) rfl
        have a5 := own_hi (unhide R14) rfl
        exact ⟨ownsRow_bl (unhide R12) (bl_t (bl_t b13 b14) b15), (ownsRow_bl (unhide R13) (bl_t b14 b15)).mono b12.size, (ownsRow_bl (unhide R14) b15).mono (Nat.le_trans b12.size b13.size), (unhide R15).mono (Nat.le_trans (Nat.le_trans b12.size b13.size) b14.size), Nat.lt_of_lt_of_le a1 a2, Nat.lt_of_lt_of_le a3 a4, fun hz => Nat.lt_of_lt_of_le a5 (own_lo (unhide R15) hz)⟩)
      have BB := hide (bl_t (bl_t (bl_t (unhide B12) (unhide B13)) (unhide B14)) (unhide B15))
      clear B12 B13 B14 B15 R12 R13 R14 R15
      have HK2 := hide (show ∀ W', Below w15.heap.size w15 W' → Below w15.heap.size w15 W' ∧ W'.cell? ⟨ry, 0, none⟩ = some (.string hnm) ∧ W'.cell? ⟨ry, 1, none⟩ = some (.slice ya hl yc) ∧ W'.cell? ⟨ry, 2, none⟩ = some (.slice yb hn_ yd) ∧ W'.cell? ⟨g2', o2' + i * 3, none⟩ = some (.string hnm) ∧ W'.cell? ⟨g2', o2' + i * 3 + 1, none⟩ = some (.slice ua hl uc) ∧ W'.cell? ⟨g2', o2' + i * 3 + 2, none⟩ = some (.slice ub hn_ ud) from fun W' hb => ⟨hb, (unhide HK W' (bl_t (unhide BB) hb)).2⟩)
      have HW15 := hide (show ∀ W', Below w15.heap.size w15 W' → Below wr.heap.size wr W' from fun W' hb => bl_t (unhide BY) (bl_t (unhide BB) hb))
      have cT := hide (fun W' (a : Option Addr) (ac : Nat) (h1 : Cl W' a (strs WW)) (h2 : Cl W' Da (strs WW)) => (show Calls Try.prog 13 #[.slice a nw ac, .slice Da nw Dc] W' fun e w' => e = .returned (.bool true) ∧ Below W'.heap.size W' w' from by have := texts_same WW a Da ac Dc W' (by rw [unhide HNW]; exact hw1) h1 h2; rw [unhide HNW] at this; exact this))
      have HRA := hide (show Cl w15 (some ⟨A, 0, none⟩) (strs WW) ∧ Cl w15 (some ⟨B, 0, none⟩) (strs WW) ∧ Cl w15 Da (strs WW) ∧ Cl w15 (some ⟨C, 0, none⟩) (strs XX) from ⟨(own_two (unhide HRW).a).2, (own_two (unhide HRW).b).2, (own_two (unhide HRW).d).2, (own_two (unhide HRW).c).2⟩)
      have hk0 := unhide HK2 w15 (Below.refl _ _)
      obtain ⟨-, y0, y1, y2, u0, u1, u2⟩ := hk0
      have G1 := hide True.intro
      have i0 : (0 : Int) ≤ (i : Int) := by omega
      clear HK cW cWr
      go_wp2_with fail
      go_region_held3 (fun W' => Below w15.heap.size w15 W' ∧ W'.cell? ⟨ry, 0, none⟩ = some (.string hnm) ∧ W'.cell? ⟨ry, 1, none⟩ = some (.slice ya hl yc) ∧ W'.cell? ⟨ry, 2, none⟩ = some (.slice yb hn_ yd) ∧ W'.cell? ⟨g2', o2' + i * 3, none⟩ = some (.string hnm) ∧ W'.cell? ⟨g2', o2' + i * 3 + 1, none⟩ = some (.slice ua hl uc) ∧ W'.cell? ⟨g2', o2' + i * 3 + 2, none⟩ = some (.slice ub hn_ ud)) (with_reducible first | exact unhide HK2 _ (unhide B7) | exact unhide HK2 _ (unhide B6) | exact unhide HK2 _ (unhide B5) | exact unhide HK2 _ (bl_t (unhide B4) (al _ _)) | exact unhide HK2 _ (unhide B4) | exact unhide HK2 _ (unhide B3) | exact unhide HK2 _ (unhide B2) | exact unhide HK2 _ (unhide B1) | exact unhide HK2 _ ((Below.refl _ _).drew) | exact unhide HK2 _ (Below.refl _ _)) (first | (go_at_call 11; refine (unhide cJ _ (unhide HW15 _ (And.left (by with_reducible assumption)))).mono ?_; rintro x1 v1 ⟨rfl, hb1⟩; have B1 := hide (bl_t (And.left (by with_reducible assumption)) hb1); clear hb1) | (go_at_call 12; refine (unhide cJr _ (unhide HW15 _ (And.left (by with_reducible assumption)))).mono ?_; rintro x2 v2 ⟨rfl, hb2⟩; have B2 := hide (bl_t (And.left (by with_reducible assumption)) hb2); clear hb2) | (go_at_call 13; clear G1; refine (unhide cT _ _ _ ((unhide HRA).1.later (And.left (by with_reducible assumption))) ((unhide HRA).2.2.1.later (And.left (by with_reducible assumption)))).mono ?_; rintro x3 v3 ⟨rfl, hb3⟩; have B3 := hide (bl_t (And.left (by with_reducible assumption)) hb3); have G2 := hide True.intro; clear hb3) | (go_at_call 13; clear G2; refine (unhide cT _ _ _ ((unhide HRA).2.1.later (And.left (by with_reducible assumption))) ((unhide HRA).2.2.1.later (And.left (by with_reducible assumption)))).mono ?_; rintro x4 v4 ⟨rfl, hb4⟩; have B4 := hide (bl_t (And.left (by with_reducible assumption)) hb4); have G3 := hide True.intro; clear hb4) | (go_at_call 13; clear G3; refine (texts_X _ ((unhide HRA).2.2.2.later (unhide B4))).mono ?_; rintro x5 v5 ⟨rfl, hb5⟩; have B5 := hide (bl_t (unhide B4) hb5); clear hb5) | (go_at_call 14; refine (unhide cL _ (unhide HW15 _ (And.left (by with_reducible assumption)))).mono ?_; rintro x6 v6 ⟨rfl, hb6⟩; have B6 := hide (bl_t (And.left (by with_reducible assumption)) hb6); clear hb6) | (go_at_call 15; refine (unhide cLr _ (unhide HW15 _ (And.left (by with_reducible assumption)))).mono ?_; rintro x7 v7 ⟨rfl, hb7⟩; have B7 := hide (bl_t (And.left (by with_reducible assumption)) hb7); clear hb7))
      have HR7 := hide ((unhide HRW).later (unhide B7))
      have HB7 := hide (show Below wr.heap.size wr v7 ∧ WY.heap.size ≤ v7.heap.size ∧ wr.heap.size ≤ WY.heap.size from ⟨unhide HW15 _ (unhide B7), (bl_t (unhide BB) (unhide B7)).size, (unhide BY).size⟩)
      clear HK2 HW15 HRA HRW y0 y1 y2 u0 u1 u2 cJ cJr cL cLr B1 B2 B3 B4 B5 B6 B7 BB BY HAY q1' q2'
      go_wp2_with (first | (go_at_call 16; go_must (refine (spoil_W v7 A nw nw C 3 3 WY.heap.size _ _ (unhide HB7).2.1 (by omega) (by decide) (by have a1 := (unhide HR7).ab; have a2 := (unhide HR7).bc; omega) (unhide HR7).a (unhide HR7).c).mono ?_); rintro x8 v8 ⟨rfl, hb8, hk8⟩; have R8 := hide ((unhide HR7).behind hk8); have B8 := hide ((unhide HB7).1.trans (hb8.mono (unhide HB7).2.2)); clear hb8 hk8) | (go_at_call 13; go_must (refine (unhide cT _ _ _ (unhide R8).1 (unhide R8).2).mono ?_); rintro x9 v9 ⟨rfl, hb9⟩; have B9 := hide (bl_t (unhide B8) hb9); clear hb9))
      go_roundg (N - (i + 1))
      case measure => omega
      case rel => exact ⟨i + 1, by go_num, by omega, by omega, hide (bl_t (unhide HB) (unhide B9))⟩
    · have hiz : ¬ (i : Int) < (N : Int) := by omega
      have HS9 := hide ((unhide HS8).later (unhide HB))
      have HG9 := hide ((unhide HG8).later (unhide HB))
      have HB9 := hide (bl_t (unhide HB8) (unhide HB))
      clear HS8 HG8 HB8 HB hlt hg hi
      go_upto_region 20 with fail
      obtain ⟨⟨y10, y11, y12⟩, ⟨y20, y21, y22⟩, y30, y31, y32⟩ := (unhide HG9).c1
      have cA := hide (fun V (h1 : Cl V la (strs f.ls)) (h2 : Cl V lb (intz f.ns)) (h3 : Cl V ga (strs f.ls)) (h4 : Cl V gb (intz f.ns)) (h5 : fl ≤ lc) => alike_N f fl fn (unhide HFL) (unhide HFN) V (lc := lc) (nc := ld) (ld := gc) (nd := gd) ⟨by omega, by omega⟩ h5 (unhide HG9).gc_ h1 h2 h3 h4)
      go_upto_region 22 with (first | (go_at_call 16; go_must (refine (spoil_F wr (ba f.nm) fa fb fl fc fn fd W3.heap.size _ _ (unhide HB9).size (by omega) (by omega) (unhide HG9).o1 (unhide HG9).n1).mono ?_); rintro x1 v1 ⟨rfl, hb1, hk1⟩; clear y10 y11 y12 y20 y21 y22 y30 y31 y32; obtain ⟨⟨y20, y21, y22⟩, ⟨y30, y31, y32⟩, hcl, hcap⟩ := (unhide HG9).behind hk1; have B1 := hide ((unhide HB9).trans hb1); have HC := hide (And.intro hcl hcap); clear hb1 hk1 hcl hcap) | (go_at_call 7; go_must (refine (unhide cA _ (unhide HC).1.1 (unhide HC).1.2 ((unhide HG9).g1.later ((unhide HSA).later (unhide B1)).bel) ((unhide HG9).g2.later ((unhide HSA).later (unhide B1)).bel) (unhide HC).2).mono ?_); rintro x2 v2 ⟨rfl, hb2⟩; have B2 := hide (bl_t (unhide B1) hb2); obtain ⟨x0, x1, x2⟩ := ((unhide HSA).later (bl_t (unhide B1) hb2)).xs; clear hb2) | (go_at_call 8; go_must (refine (((unhide HSA).later (unhide B2)).stayed (unhide HL)).mono ?_); rintro x3 v3 ⟨rfl, hb3⟩; have B3 := hide (bl_t (unhide B2) hb3); clear hb3))
      clear y20 y21 y22 y30 y31 y32 x0 x1 x2 HC cA B1 B2 HG9 HS9 HB9
      have HS3 := hide ((unhide HSA).later (unhide B3))
      go_upto_region 24 with fail
      have HVB := hide (show ((v3.alloc (.cells #[.slice pa N pc, .slice qa M qc] 22)).alloc (.cells #[.slice pa N pc, .slice pa N pc] 22)).heap[v3.heap.size]? = some (.cells #[.slice pa N pc, .slice qa M qc] 22) ∧ ((v3.alloc (.cells #[.slice pa N pc, .slice qa M qc] 22)).alloc (.cells #[.slice pa N pc, .slice pa N pc] 22)).heap[v3.heap.size + 1]? = some (.cells #[.slice pa N pc, .slice pa N pc] 22) from by
        have s1 : (v3.alloc (.cells #[.slice pa N pc, .slice qa M qc] 22)).heap.size = v3.heap.size + 1 := by simp
        exact ⟨(hp_old _ _ _ (by omega)).trans (hp_new _ _), by rw [← s1]; exact hp_new _ _⟩)
      have B4 := hide (bl_t (al v3 (.cells #[.slice pa N pc, .slice qa M qc] 22)) (al _ (.cells #[.slice pa N pc, .slice pa N pc] 22)))
      have HS4 := hide ((unhide HS3).later (unhide B4))
      have HB4 := hide (bl_t (unhide B3) (unhide B4))
      clear HS3 B3 B4
      generalize (v3.alloc (.cells #[.slice pa N pc, .slice qa M qc] 22)).alloc (.cells #[.slice pa N pc, .slice pa N pc] 22) = V4 at *
      generalize hra : v3.heap.size = ra at *
      clear hra
      have HDB := hide (show ∀ W', Below V4.heap.size V4 W' → DocZ W' (.slice (some ⟨lg, 0, none⟩) 2 lgc) [p, q] ∧ DocZ W' (.slice (some ⟨ra, 0, none⟩) 2 2) [p, q] ∧ DocZ W' (.slice (some ⟨ra + 1, 0, none⟩) 2 2) [p, p] from fun W' hb => by
        have h4 := (unhide HS4).later hb
        have k1 := (hb.block _ (blk_lt (unhide HVB).1)).trans (unhide HVB).1
        have k2 := (hb.block _ (blk_lt (unhide HVB).2)).trans (unhide HVB).2
        exact ⟨h4.doc, docZ_two (cell_blk k1 0).1 (cell_blk k1 1).1 h4.P_ h4.Q_, docZ_two (cell_blk k2 0).1 (cell_blk k2 1).1 h4.P_ h4.P_⟩)
      have HL2 := hide (show ∀ x ∈ [p, q], x.length ≤ 16777216 ∧ ∀ f ∈ x, f.ls.length ≤ 16777216 from fun x hx => by
        obtain ⟨z1, z2⟩ := unhide HL x (by simpa using hx)
        exact ⟨z1, fun f hf => (z2 f hf).1⟩)
      have HL3 := hide (show ∀ x ∈ [p, p], x.length ≤ 16777216 ∧ ∀ f ∈ x, f.ls.length ≤ 16777216 from fun x hx => by
        obtain ⟨z1, z2⟩ := unhide HL x (.inl (by simpa using hx))
        exact ⟨z1, fun f hf => (z2 f hf).1⟩)
      have cS1 := hide (fun W' (hb : Below V4.heap.size V4 W') => Same_any [p, q] [p, p] (some ⟨lg, 0, none⟩) (some ⟨ra + 1, 0, none⟩) lgc 2 W' (by simp) (unhide HL2) (unhide HL3) (unhide HDB W' hb).1 (unhide HDB W' hb).2.2)
      have cS2 := hide (fun W' (hb : Below V4.heap.size V4 W') => rSame_any [p, q] [p, p] (some ⟨ra, 0, none⟩) (some ⟨ra + 1, 0, none⟩) 2 2 W' (by simp) (unhide HL2) (unhide HL3) (unhide HDB W' hb).2.1 (unhide HDB W' hb).2.2)
      have cT := hide (fun W' (hb : Below V4.heap.size V4 W') => twin_z [p, q] (.slice (some ⟨ra, 0, none⟩) 2 2) W' (by simp) (fun x hx => unhide HL x (by simpa using hx)) (unhide HDB W' hb).2.1)
      have cS3 := hide (fun W' ua uc (hb : Below V4.heap.size V4 W') (hd : DocZ W' (.slice ua 2 uc) [p, q]) => Same_any [p, q] [p, q] ua (some ⟨lg, 0, none⟩) uc lgc W' (by simp) (unhide HL2) (unhide HL2) hd (unhide HDB W' hb).1)
      have hrf := eqDz_refl [p, q]
      rw [hrf] at cS3
      have heq : (eqDz [p, q] [p, p] != eqDz [p, q] [p, p]) = false := by simp
      generalize eqDz [p, q] [p, p] = EE at *
      have HKX := hide (show ∀ W', Below V4.heap.size V4 W' → Below V4.heap.size V4 W' ∧ W'.cell? ⟨X, 0, none⟩ = some (.slice (some ⟨lg, 0, none⟩) 2 lgc) ∧ W'.cell? ⟨X, 1, none⟩ = some (.slice P1 2 P2) ∧ W'.cell? ⟨X, 2, none⟩ = some (.slice F1 2 F2) from fun W' hb => ⟨hb, ((unhide HS4).later hb).xs⟩)
      obtain ⟨-, x0, x1, x2⟩ := unhide HKX V4 (Below.refl _ _)
      have G1 := hide True.intro
      clear hrf
      go_region_held3 (fun W' => Below V4.heap.size V4 W' ∧ W'.cell? ⟨X, 0, none⟩ = some (.slice (some ⟨lg, 0, none⟩) 2 lgc) ∧ W'.cell? ⟨X, 1, none⟩ = some (.slice P1 2 P2) ∧ W'.cell? ⟨X, 2, none⟩ = some (.slice F1 2 F2)) (with_reducible first | exact unhide HKX _ (unhide B9) | exact unhide HKX _ (unhide B8) | exact unhide HKX _ (unhide B7) | exact unhide HKX _ (unhide B6) | exact unhide HKX _ (unhide B5) | exact unhide HKX _ ((Below.refl _ _).drew) | exact unhide HKX _ (Below.refl _ _)) (first | (go_at_call 17; clear G1; refine (unhide cS1 _ (And.left (by with_reducible assumption))).mono ?_; rintro x5 v5 ⟨rfl, hb5⟩; have B5 := hide (bl_t (And.left (by with_reducible assumption)) hb5); clear hb5) | (go_at_call 18; refine (unhide cS2 _ (And.left (by with_reducible assumption))).mono ?_; rintro x6 v6 ⟨rfl, hb6⟩; have B6 := hide (bl_t (And.left (by with_reducible assumption)) hb6); clear hb6) | (go_at_call 19; refine (unhide cT _ (And.left (by with_reducible assumption))).mono ?_; rintro x7 v7 ⟨u7, rfl, hd7, hb7⟩; have HD7 := hd7; obtain ⟨ua, uc, e7, -⟩ := hd7; subst e7; have B7 := hide (bl_t (And.left (by with_reducible assumption)) hb7); have D7 := hide HD7; clear hb7 HD7) | (go_at_call 17; refine (unhide cS3 _ _ _ (And.left (by with_reducible assumption)) (unhide D7)).mono ?_; rintro x8 v8 ⟨rfl, hb8⟩; have B8 := hide (bl_t (And.left (by with_reducible assumption)) hb8); clear hb8) | (go_at_call 8; refine (((unhide HS4).later (And.left (by with_reducible assumption))).stayed (unhide HL)).mono ?_; rintro x9 v9 ⟨rfl, hb9⟩; have B9 := hide (bl_t (And.left (by with_reducible assumption)) hb9); clear hb9))
      have HS9 := hide ((unhide HS4).later (unhide B9))
      have HVB9 := hide (((unhide B9).block _ (blk_lt (unhide HVB).2)).trans (unhide HVB).2)
      have HLO9 := hide (show lo ≤ v9.heap.size from Nat.le_trans (unhide HLO).2 (bl_t (unhide HB4) (unhide B9)).size)
      have cAA := hide (show Calls Try.prog 20 #[.slice (some ⟨lg, 0, none⟩) 2 lgc, .string (ba n), .int .i64 k] v9 fun e w' => e = .returned (.bool true) ∧ (∃ E zs, zs.Perm q0.xs ∧ Aw lo lg lgc (.slice (some ⟨m1, 0, none⟩) 1 1) (.slice (some ⟨m2, 0, none⟩) 1 1) q0.pb q0.pc E q1 zs w') ∧ Bk lo v9 w' from by
        obtain ⟨aw1, aw2, aw3⟩ := (unhide HS9).ln.aw
        refine asksAnew_any lo lg lgc _ _ q0.pb q0.pc (E0 q0.xs) q1 q0.xs n k v9 aw1 aw2 (unhide HLO9) aw3 (by omega) ?_ fun x hx => ?_
        · have := congrArg List.length (unhide HS9).e0
          rw [List.length_map, (unhide HNM).1] at this
          omega
        · have hm : x.f ∈ p := by rw [← (unhide HS9).e0]; exact List.mem_map_of_mem hx
          obtain ⟨z1, z2, z3, z4, z5⟩ := unhide HB0 x.f (.inl hm)
          exact ⟨by omega, by omega, by omega, by omega, fun l hl => by have := z5 l hl; omega⟩)
      clear HKX x0 x1 x2 cS1 cS2 cS3 cT HDB heq HVB B5 B6 B7 B8 B9 D7 HS4 HB4 HSA HLO
      have x0 := (unhide HS9).xs.1
      go_upto_region 28 with (go_at_call 20; go_must (refine (unhide cAA).mono ?_); rintro x10 v10 ⟨rfl, ⟨E, zs, hperm, haw⟩, hbk⟩; have T10 := hide (And.intro hperm (And.intro haw hbk)); clear hperm haw hbk)
      clear x0 cAA
      obtain ⟨p0, p1, hd, hl0, hl1, hf0, hf1⟩ := (unhide T10).2.1.doc
      have HBW := hide (show Below w.heap.size w v10 from (unhide HS9).bel.trans ((unhide T10).2.2.bel.mono (unhide HLW)))
      have HX10 := hide (((unhide T10).2.2.kp _ _ _ (.inr rfl) (unhide HS9).x).trans (unhide HS9).x)
      have HVB10 := hide (((unhide T10).2.2.kp _ _ _ (.inl rfl) (unhide HVB9)).trans (unhide HVB9))
      have hzl : zs.length = N := by
        have h1 := (unhide T10).1.length_eq
        have h2 := congrArg List.length (unhide HS9).e0
        rw [List.length_map, (unhide HNM).1] at h2
        omega
      have hzl1 : q1.xs.length = M := by
        have h2 := congrArg List.length (unhide HS9).e1
        rw [List.length_map, (unhide HNM).2] at h2
        exact h2
      have HFB2 := hide (show ∀ f, f ∈ p0 ∨ f ∈ p1 → f.ls.length ≤ 1048576 ∧ f.ns.length ≤ 1048576 ∧ f.nm.length ≤ 1048576 from fun f hf => by
        rcases hf with hf | hf
        · obtain ⟨x, hx, e1, e2, e3⟩ := hf0 f hf
          have hm : x.f ∈ p := by rw [← (unhide HS9).e0]; exact List.mem_map_of_mem ((unhide T10).1.mem_iff.1 hx)
          obtain ⟨z1, z2, z3, _⟩ := unhide HB0 x.f (.inl hm)
          exact ⟨by omega, by omega, by rw [e3]; exact z1⟩
        · obtain ⟨x, hx, e1, e2, e3⟩ := hf1 f hf
          have hm : x.f ∈ q := by rw [← (unhide HS9).e1]; exact List.mem_map_of_mem hx
          obtain ⟨z1, z2, z3, _⟩ := unhide HB0 x.f (.inr hm)
          exact ⟨by omega, by omega, by rw [e3]; exact z1⟩)
      have HNB := hide (show ∀ f, f ∈ p0 ∨ f ∈ p1 → f.nm.length ≤ 1048576 from fun f hf => (unhide HFB2 f hf).2.2)
      have HL4 := hide (show ∀ x ∈ [p0, p1], x.length ≤ 16777216 ∧ ∀ f ∈ x, f.ls.length ≤ 16777216 ∧ f.ns.length ≤ 16777216 from fun x hx => by
        rcases (by simpa using hx : x = p0 ∨ x = p1) with rfl | rfl
        · exact ⟨by omega, fun f hf => by obtain ⟨z1, z2, _⟩ := unhide HFB2 f (.inl hf); exact ⟨by omega, by omega⟩⟩
        · exact ⟨by omega, fun f hf => by obtain ⟨z1, z2, _⟩ := unhide HFB2 f (.inr hf); exact ⟨by omega, by omega⟩⟩)
      have HL5 := hide (show ∀ x ∈ [p0, p1], x.length ≤ 16777216 ∧ ∀ f ∈ x, f.ls.length ≤ 16777216 from fun x hx => ⟨(unhide HL4 x hx).1, fun f hf => ((unhide HL4 x hx).2 f hf).1⟩)
      have HDL := hide hd
      have hpl0 : p0.length ≤ 1048576 := by omega
      have hpl1 : p1.length ≤ 1048576 := by omega
      have HDP := hide (show DocZ v10 (.slice (some ⟨ra + 1, 0, none⟩) 2 2) [p, p] from docZ_two (cell_blk (unhide HVB10) 0).1 (cell_blk (unhide HVB10) 1).1 ((unhide HP).later (unhide HBW)) ((unhide HP).later (unhide HBW)))
      have cT := hide (twin_o [p0, p1] (.slice (some ⟨lg, 0, none⟩) 2 lgc) v10 (by simp) (unhide HL4) hd)
      have x0 := (cell_blk (unhide HX10) 0).1
      clear hd hf0 hf1 T10 HS9 HVB9 HVB10 hzl hzl1 hl0 hl1
      go_upto_region 29 with (go_at_call 19; go_must (refine (unhide cT).mono ?_); rintro x11 v11 ⟨u, rfl, htw, hb11⟩; obtain ⟨n0, n1, hnw⟩ := htw.nw (fun f hf => (by have := (unhide HFB2 f hf).1; omega)); obtain ⟨ua, uc, eu, -, hcu⟩ := own_cap hnw.1; subst eu; have T11 := hide (And.intro htw.docZ (And.intro hnw hb11)); clear htw hnw hb11)
      obtain ⟨ug, eug⟩ : ∃ ug, ua = some ⟨ug, 0, none⟩ := by
        rcases (unhide T11).2.1.1.2 with ⟨e1, e2⟩ | ⟨g, cap, cur, e1, _⟩
        · cases e2
        · cases e1; exact ⟨g, rfl⟩
      subst eug
      clear x0 cT hcu
      have HK := hide (show ∀ W', Below v11.heap.size v11 W' → W'.cell? ⟨X, 0, none⟩ = some (.slice (some ⟨lg, 0, none⟩) 2 lgc) from fun W' hb => cell_later (cell_blk (unhide HX10) 0).1 (bl_t (unhide T11).2.2 hb))
      have cS1 := hide (fun W' (hb : Below v11.heap.size v11 W') => Same_any [p0, p1] [p, p] (some ⟨lg, 0, none⟩) (some ⟨ra + 1, 0, none⟩) lgc 2 W' (by simp) (unhide HL5) (unhide HL3) ((unhide HDL).later (bl_t (unhide T11).2.2 hb)) ((unhide HDP).later (bl_t (unhide T11).2.2 hb)))
      have cS2 := hide (fun W' (hb : Below v11.heap.size v11 W') => rSame_any [p0, p1] [p, p] (some ⟨ug, 0, none⟩) (some ⟨ra + 1, 0, none⟩) uc 2 W' (by simp) (unhide HL5) (unhide HL3) ((unhide T11).1.later hb) ((unhide HDP).later (bl_t (unhide T11).2.2 hb)))
      have cS3 := hide (fun W' (hb : Below v11.heap.size v11 W') => Same_any [p0, p1] [p0, p1] (some ⟨ug, 0, none⟩) (some ⟨lg, 0, none⟩) uc lgc W' (by simp) (unhide HL5) (unhide HL5) ((unhide T11).1.later hb) ((unhide HDL).later (bl_t (unhide T11).2.2 hb)))
      rw [eqDz_refl [p0, p1]] at cS3
      have heq : (eqDz [p0, p1] [p, p] != eqDz [p0, p1] [p, p]) = false := by simp
      generalize eqDz [p0, p1] [p, p] = EE at *
      have x0 := unhide HK v11 (Below.refl _ _)
      have G1 := hide True.intro
      go_upto_region 31 with (first | (go_at_call 17; clear G1; go_must (refine (unhide cS1 _ (Below.refl _ _)).mono ?_); rintro x12 v12 ⟨rfl, hb12⟩; have B12 := hide hb12; clear hb12) | (go_at_call 18; go_must (refine (unhide cS2 _ (unhide B12)).mono ?_); rintro x13 v13 ⟨rfl, hb13⟩; have B13 := hide (bl_t (unhide B12) hb13); have x0 := unhide HK v13 (bl_t (unhide B12) hb13); clear hb13) | (go_at_call 17; go_must (refine (unhide cS3 _ (unhide B13)).mono ?_); rintro x14 v14 ⟨rfl, hb14⟩; have B14 := hide (bl_t (unhide B13) hb14); clear hb14))
      have HNW0 := hide ((unhide T11).2.1.later (unhide B14))
      have HBN0 := hide (bl_t (unhide T11).2.2 (unhide B14))
      clear x0 cS1 cS2 cS3 heq HK T11 B12 B13 B14 HDP
      go_wp2_with fail
      go_loopg [26] 2 (fun gq vi wr => ∃ i : Nat, vi = .int .i64 i ∧ i ≤ 2 ∧ 2 - i ≤ gq ∧ Hid (NW v10.heap.size (.slice (some ⟨ug, 0, none⟩) 2 uc) n0 n1 p0 p1 i wr) ∧ Hid (Below v10.heap.size v10 wr))
      case atStart => exact ⟨0, by go_num, by omega, by omega, HNW0, HBN0⟩
      case round =>
        clear HNW0 HBN0
        obtain ⟨j, rfl, hj, hgj, HNW, HBN⟩ := hrel
        rcases (by omega : j = 0 ∨ j = 1 ∨ j = 2) with hik | hik | hik
        · subst hik
          obtain ⟨r, pt, hrl, hrs, hrn⟩ := (unhide HNW).2.1
          obtain ⟨a, c, ev, -, hfm⟩ := pt.form
          have cu := (row_cells (unhide HNW).1).2 0 n0 rfl
          by_cases h0 : 0 < r.length
          · obtain ⟨g, ea, hbg, cur, f, hg, hf, hc⟩ := hfm h0
            subst ea
            obtain ⟨f0, hf0'⟩ : ∃ f0, p0[0]? = some f0 := ⟨_, List.getElem?_eq_getElem (by omega)⟩
            have hsz : (ba f.nm).size ≤ 2097152 := by
              rw [ba_size]
              have h1 := (hrn f0 f hf0' hf).2
              have h2 := unhide HNB f0 (.inl (List.mem_of_getElem? hf0'))
              omega
            have HSS := hide (show ba f.nm ++ (⟨#[120]⟩ : ByteArray) = ba (f.nm ++ [120]) from ba_cat f.nm [120])
            have HNW2 := hide (show NW v10.heap.size (.slice (some ⟨ug, 0, none⟩) 2 uc) n0 n1 p0 p1 1 (wr.setCell ⟨g, 0, none⟩ (.string (ba (f.nm ++ [120])))).drew from by
              refine NW.later ⟨ownsRow_same (unhide HNW).1 fun k2 c2 _ hc2 => set_ne hg hc2 (by decide), ?_, ?_⟩ ((Below.refl _ _).drew)
              · exact ((unhide HNW).2.1.write hg hc).2 (by rw [ev]; rfl)
              · exact ((unhide HNW).2.2.write hg hc).1)
            have HBN2 := hide (((unhide HBN).setCell (p := ⟨g, 0, none⟩) hbg (.string (ba (f.nm ++ [120])))).drew)
            rw [← unhide HSS] at HNW2 HBN2
            have cg := (cell_blk hg 0).1.trans hc
            have fg := (cell_blk hg 0).2
            rw [ev] at cu
            have hlz : (0 : Int) < (r.length : Int) := by omega
            clear HNW HBN hfm pt hrl hrs hrn hf hf0' hg hc HSS
            generalize ba f.nm = bn at *
            generalize r.length = rl at *
            go_wp2_with fail
            go_region
            clear cu cg fg
            generalize (wr.setCell ⟨g, 0, none⟩ (.string (bn ++ (⟨#[120]⟩ : ByteArray)))).drew = W5 at HNW2 HBN2 ⊢
            go_wp2_with fail
            go_roundg (2 - 1)
            case measure => omega
            case rel => exact ⟨1, by go_num, by omega, by omega, HNW2, HBN2⟩
          · have hr0 : r.length = 0 := by omega
            have HNW2 := hide (show NW v10.heap.size (.slice (some ⟨ug, 0, none⟩) 2 uc) n0 n1 p0 p1 1 wr from by
              have ep : p0 = [] := List.length_eq_zero_iff.1 (by omega)
              refine ⟨(unhide HNW).1, ?_, ?_⟩
              · exact ⟨r, pt, hrl, hrs, fun f g h => by rw [ep] at h; simp at h⟩
              · obtain ⟨r1, a1, a2, a3, a4⟩ := (unhide HNW).2.2; exact ⟨r1, a1, a2, a3, fun f g h h2 => by have := a4 f g h h2; simp at this ⊢; omega⟩)
            rw [ev, hr0] at cu
            clear HNW hfm pt hrl hrs hrn
            go_wp2_with fail
            go_roundg (2 - 1)
            case measure => omega
            case rel => exact ⟨1, by go_num, by omega, by omega, HNW2, HBN⟩
        · subst hik
          obtain ⟨r, pt, hrl, hrs, hrn⟩ := (unhide HNW).2.2
          obtain ⟨a, c, ev, -, hfm⟩ := pt.form
          have cu := (row_cells (unhide HNW).1).2 1 n1 rfl
          by_cases h0 : 0 < r.length
          · obtain ⟨g, ea, hbg, cur, f, hg, hf, hc⟩ := hfm h0
            subst ea
            obtain ⟨f0, hf0'⟩ : ∃ f0, p1[0]? = some f0 := ⟨_, List.getElem?_eq_getElem (by omega)⟩
            have hsz : (ba f.nm).size ≤ 2097152 := by
              rw [ba_size]
              have h1 := (hrn f0 f hf0' hf).2
              have h2 := unhide HNB f0 (.inr (List.mem_of_getElem? hf0'))
              omega
            have HSS := hide (show ba f.nm ++ (⟨#[120]⟩ : ByteArray) = ba (f.nm ++ [120]) from ba_cat f.nm [120])
            have HNW2 := hide (show NW v10.heap.size (.slice (some ⟨ug, 0, none⟩) 2 uc) n0 n1 p0 p1 2 (wr.setCell ⟨g, 0, none⟩ (.string (ba (f.nm ++ [120])))).drew from by
              refine NW.later ⟨ownsRow_same (unhide HNW).1 fun k2 c2 _ hc2 => set_ne hg hc2 (by decide), ?_, ?_⟩ ((Below.refl _ _).drew)
              · exact ((unhide HNW).2.1.write hg hc).1
              · exact ((unhide HNW).2.2.write hg hc).2 (by rw [ev]; rfl))
            have HBN2 := hide (((unhide HBN).setCell (p := ⟨g, 0, none⟩) hbg (.string (ba (f.nm ++ [120])))).drew)
            rw [← unhide HSS] at HNW2 HBN2
            have cg := (cell_blk hg 0).1.trans hc
            have fg := (cell_blk hg 0).2
            rw [ev] at cu
            have hlz : (0 : Int) < (r.length : Int) := by omega
            clear HNW HBN hfm pt hrl hrs hrn hf hf0' hg hc HSS
            generalize ba f.nm = bn at *
            generalize r.length = rl at *
            go_wp2_with fail
            go_region
            clear cu cg fg
            generalize (wr.setCell ⟨g, 0, none⟩ (.string (bn ++ (⟨#[120]⟩ : ByteArray)))).drew = W5 at HNW2 HBN2 ⊢
            go_wp2_with fail
            go_roundg (2 - 2)
            case measure => omega
            case rel => exact ⟨2, by go_num, by omega, by omega, HNW2, HBN2⟩
          · have hr0 : r.length = 0 := by omega
            have HNW2 := hide (show NW v10.heap.size (.slice (some ⟨ug, 0, none⟩) 2 uc) n0 n1 p0 p1 2 wr from by
              have ep : p1 = [] := List.length_eq_zero_iff.1 (by omega)
              refine ⟨(unhide HNW).1, ?_, ?_⟩
              · obtain ⟨r1, a1, a2, a3, a4⟩ := (unhide HNW).2.1; exact ⟨r1, a1, a2, a3, fun f g h h2 => by have := a4 f g h h2; simp at this ⊢; omega⟩
              · exact ⟨r, pt, hrl, hrs, fun f g h => by rw [ep] at h; simp at h⟩)
            rw [ev, hr0] at cu
            clear HNW hfm pt hrl hrs hrn
            go_wp2_with fail
            go_roundg (2 - 2)
            case measure => omega
            case rel => exact ⟨2, by go_num, by omega, by omega, HNW2, HBN⟩
        · subst hik
          have HX2 := hide ((unhide HBN).block _ (blk_lt (unhide HX10)) |>.trans (unhide HX10))
          obtain ⟨r0, r1, hdn, hr0, hr1, hrs, heqz⟩ := (unhide HNW).fin
          have HF0 := hide (show ∃ a0 c0 a1 c1, n0 = .slice a0 p0.length c0 ∧ n1 = .slice a1 p1.length c1 from by
            obtain ⟨⟨s0, t0, b0, -, -⟩, ⟨s1, t1, b1, -, -⟩⟩ := And.intro (unhide HNW).2.1 (unhide HNW).2.2
            obtain ⟨a0, c0, e0, -⟩ := t0.form
            obtain ⟨a1, c1, e1, -⟩ := t1.form
            exact ⟨a0, c0, a1, c1, by rw [e0, b0], by rw [e1, b1]⟩)
          obtain ⟨a0, c0, a1, c1, en0, en1⟩ := unhide HF0
          have HCU := hide (show ∀ W', Below wr.heap.size wr W' → Below wr.heap.size wr W' ∧ W'.cell? ⟨X, 0, none⟩ = some (.slice (some ⟨lg, 0, none⟩) 2 lgc) ∧ W'.cell? ⟨ug, 0, none⟩ = some (.slice a0 p0.length c0) ∧ W'.cell? ⟨ug, 1, none⟩ = some (.slice a1 p1.length c1) from fun W' hb => by
            have k0 := (row_cells (unhide HNW).1).2 0 n0 rfl
            have k1 := (row_cells (unhide HNW).1).2 1 n1 rfl
            rw [en0] at k0
            rw [en1] at k1
            exact ⟨hb, cell_later (cell_blk (unhide HX2) 0).1 hb, cell_later k0 hb, cell_later k1 hb⟩)
          have HL6 := hide (show ∀ x ∈ [r0, r1], x.length ≤ 16777216 ∧ ∀ f ∈ x, f.ls.length ≤ 16777216 from fun x hx => by
            rcases (by simpa using hx : x = r0 ∨ x = r1) with rfl | rfl
            · exact ⟨by omega, fun f hf => hrs f (.inl hf)⟩
            · exact ⟨by omega, fun f hf => hrs f (.inr hf)⟩)
          have HDN := hide hdn
          have HBZ := hide (show Below w.heap.size w wr from (unhide HBW).trans ((unhide HBN).mono (unhide HBW).size))
          have cS := hide (fun W' (hb : Below wr.heap.size wr W') => Same_any [r0, r1] [p0, p1] (some ⟨ug, 0, none⟩) (some ⟨lg, 0, none⟩) uc lgc W' (by simp) (unhide HL6) (unhide HL5) ((unhide HDN).later hb) ((unhide HDL).later ((unhide HBN).trans (hb.mono (unhide HBN).size))))
          rw [heqz] at cS
          have hEB : (((p0.length : Int) + (p1.length : Int)) == 0) = decide (p0.length + p1.length = 0) := by
            rw [Bool.eq_iff_iff]
            simp only [beq_iff_eq, decide_eq_true_eq]
            omega
          have hwr : IntKind.i64.wrap ((p0.length : Int) + (p1.length : Int)) = (p0.length : Int) + (p1.length : Int) := IntWalk.i64_in _ (by omega)
          obtain ⟨-, k0, k1, k2⟩ := unhide HCU wr (Below.refl _ _)
          clear hdn hr0 hr1 hrs heqz HNW HF0 en0 en1 HX2 HL6
          generalize decide (p0.length + p1.length = 0) = EB at *
          have hEE : (EB == EB) = true := by cases EB <;> rfl
          generalize p0.length = L0 at *
          generalize p1.length = L1 at *
          go_upto_region 36 with fail
          go_region_held3 (fun W' => Below wr.heap.size wr W' ∧ W'.cell? ⟨X, 0, none⟩ = some (.slice (some ⟨lg, 0, none⟩) 2 lgc) ∧ W'.cell? ⟨ug, 0, none⟩ = some (.slice a0 L0 c0) ∧ W'.cell? ⟨ug, 1, none⟩ = some (.slice a1 L1 c1)) (with_reducible first | exact unhide HCU _ (unhide B9) | exact unhide HCU _ ((Below.refl _ _).drew) | exact unhide HCU _ (Below.refl _ _)) (first | (go_at_call 17; refine (unhide cS _ (And.left (by with_reducible assumption))).mono ?_; rintro x9 v9 ⟨rfl, hb9⟩; have B9 := hide (bl_t (And.left (by with_reducible assumption)) hb9); clear hb9))
          all_goals
            go_wp2_with fail
            go_ret
            exact ⟨by simp, bl_t (unhide HBZ) (unhide B9)⟩
end Go.Proofs.Ytohncccejlccbaa
