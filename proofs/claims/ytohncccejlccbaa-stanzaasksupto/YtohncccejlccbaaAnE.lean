import Derived.Test.YtohncccejlccbaaAnC
import Derived.Test.YtohncccejlccbaaSqW
import Derived.Test.YtohncccejlccbaaLaA
namespace Go.Proofs.Ytohncccejlccbaa
open Go.RowKit Go.Shelf

set_option maxHeartbeats 2000000 in
theorem rGet_v (p : List Gd) (pa : Option Addr) (pc : Nat) (n : Bs) (V w : World) (hV : ParZ V (.slice pa p.length pc) p) (hbV : Below V.heap.size V w) (hl : p.length ≤ 16777216) (hn : n.length ≤ 16777216) (hnm : ∀ f ∈ p, f.nm.length ≤ 16777216) :
    Calls Try.prog 6 #[.slice pa p.length pc, .string (ba n)] w fun e w' => ∃ la lc na nc, e = .returned (.tuple #[.agg #[.string (ba (getR p n).1.nm), .slice la (getR p n).1.ls.length lc, .slice na (getR p n).1.ns.length nc], .bool (getR p n).2]) ∧ (getR p n).1.ls.length ≤ lc ∧ Cl V la (strs (getR p n).1.ls) ∧ Cl V na (intz (getR p n).1.ns) ∧ Below w.heap.size w w' := by
  have BX := hide ((Below.refl w.heap.size w).alloc (Nat.le_refl _) (.cells #[.string ⟨#[]⟩, .slice none 0 0, .slice none 0 0] 30))
  have cF0 := rfind_z p pa pc n (w.alloc (.cells #[.string ⟨#[]⟩, .slice none 0 0, .slice none 0 0] 30)) ((hV.later hbV).later (unhide BX)) hl hn hnm
  have HP := hide hV
  have HBV := hide hbV
  have HR1 := hide (World.alloc_heap_new w (.cells #[.string ⟨#[]⟩, .slice none 0 0, .slice none 0 0] 30))
  clear hV hbV hnm
  cases hg : p.find? (hit n) with
  | some f0 =>
    have hgr : getR p n = (f0, true) := by unfold getR; rw [hg]
    have cF := hide (show Calls Try.prog 24 #[.slice pa p.length pc, .string (ba n)] (w.alloc (.cells #[.string ⟨#[]⟩, .slice none 0 0, .slice none 0 0] 30)) fun e w' => Below (w.alloc (.cells #[.string ⟨#[]⟩, .slice none 0 0, .slice none 0 0] 30)).heap.size (w.alloc (.cells #[.string ⟨#[]⟩, .slice none 0 0, .slice none 0 0] 30)) w' ∧ ∃ k : Nat, p[k]? = some f0 ∧ e = .returned (.int .i64 k) from by
      refine cF0.mono ?_
      rintro e w' ⟨hb, ⟨k, f, h1, h2, h3⟩ | ⟨_, h3⟩⟩
      · rw [hgr] at h3
        cases h3
        exact ⟨hb, k, h1, h2⟩
      · rw [hgr] at h3
        cases h3)
    rw [hgr]
    clear cF0 hg hgr
    go_enter Try.func6, Try.ntmps6
    go_wp2_with (go_at_call 24; refine (unhide cF).mono ?_; rintro e w1 ⟨hb, k, hk, rfl⟩; have HB1 := hide hb; have hk0 : ¬ (k : Int) < 0 := (by omega); have hkl := (List.getElem?_eq_some_iff.1 hk).1; have hkz : (k : Int) < (p.length : Int) := (by omega); obtain ⟨g, o, rfl, fz⟩ := (unhide HP).fld k hkl; have hpk : p[k] = f0 := (List.getElem?_eq_some_iff.1 hk).2; rw [hpk] at fz; have c0 := cell_later fz.nm (bl_t (unhide HBV) (bl_t (unhide BX) hb)); obtain ⟨la, lc, d1, hcl, hc1⟩ := fz.ls; obtain ⟨na, nc, d2, hc2⟩ := fz.ns; have c1 := cell_later d1 (bl_t (unhide HBV) (bl_t (unhide BX) hb)); have c2 := cell_later d2 (bl_t (unhide HBV) (bl_t (unhide BX) hb)); clear d1 d2; have HC1 := hide hc1; have HC2 := hide hc2; have HRw := hide ((hb.block w.heap.size (by simp)).trans (unhide HR1)); have r0 := (cell_blk (unhide HRw) 0).2; have r1 := (cell_blk (unhide HRw) 1).2; have r2 := (cell_blk (unhide HRw) 2).2; have q0 := (cell_blk (unhide HRw) 0).1; have q1 := (cell_blk (unhide HRw) 1).1; have q2 := (cell_blk (unhide HRw) 2).1; clear hb fz hc1 hc2)
    have HRF := hide (set_blk (set_blk (set_blk (unhide HRw) 0 (.string (ba f0.nm))) 1 (.slice la f0.ls.length lc)) 2 (.slice na f0.ns.length nc))
    have HBF := hide (show Below w.heap.size w (((w1.setCell ⟨w.heap.size, 0, none⟩ (.string (ba f0.nm))).setCell ⟨w.heap.size, 1, none⟩ (.slice la f0.ls.length lc)).setCell ⟨w.heap.size, 2, none⟩ (.slice na f0.ns.length nc)) from below_set (below_set (below_set (bl_t (unhide BX) (unhide HB1)) _ 0 _ (Nat.le_refl _)) _ 1 _ (Nat.le_refl _)) _ 2 _ (Nat.le_refl _))
    generalize ((w1.setCell ⟨w.heap.size, 0, none⟩ (.string (ba f0.nm))).setCell ⟨w.heap.size, 1, none⟩ (.slice la f0.ls.length lc)).setCell ⟨w.heap.size, 2, none⟩ (.slice na f0.ns.length nc) = WF at *
    have x0 := (cell_blk (unhide HRF) 0).1
    have x1 := (cell_blk (unhide HRF) 1).1
    have x2 := (cell_blk (unhide HRF) 2).1
    simp at x0 x1 x2
    refine bodyPost_ret (v := .tuple #[.agg #[.string (ba f0.nm), .slice la f0.ls.length lc, .slice na f0.ns.length nc], .bool true]) (by simp [results, Try.results6, go_sem, x0, x1, x2]) rfl ?_
    exact ⟨la, lc, na, nc, rfl, hcl, unhide HC1, unhide HC2, unhide HBF⟩
  | none =>
    have hgr : getR p n = (⟨[], [], []⟩, false) := by unfold getR; rw [hg]
    have cF := hide (show Calls Try.prog 24 #[.slice pa p.length pc, .string (ba n)] (w.alloc (.cells #[.string ⟨#[]⟩, .slice none 0 0, .slice none 0 0] 30)) fun e w' => Below (w.alloc (.cells #[.string ⟨#[]⟩, .slice none 0 0, .slice none 0 0] 30)).heap.size (w.alloc (.cells #[.string ⟨#[]⟩, .slice none 0 0, .slice none 0 0] 30)) w' ∧ e = .returned (.int .i64 (-1)) from by
      refine cF0.mono ?_
      rintro e w' ⟨hb, ⟨k, f, h1, h2, h3⟩ | ⟨h2, _⟩⟩
      · rw [hgr] at h3
        cases h3
      · exact ⟨hb, h2⟩)
    rw [hgr]
    clear cF0 hg hgr
    go_enter Try.func6, Try.ntmps6
    go_wp2_with (go_at_call 24; refine (unhide cF).mono ?_; rintro e w1 ⟨hb, rfl⟩; have HB1 := hide hb; have HRw := hide ((hb.block w.heap.size (by simp)).trans (unhide HR1)); have r0 := (cell_blk (unhide HRw) 0).2; have r1 := (cell_blk (unhide HRw) 1).2; have r2 := (cell_blk (unhide HRw) 2).2; have q0 := (cell_blk (unhide HRw) 0).1; have q1 := (cell_blk (unhide HRw) 1).1; have q2 := (cell_blk (unhide HRw) 2).1; clear hb)
    have HRF := hide (set_blk (set_blk (set_blk (unhide HRw) 0 (.string ⟨#[]⟩)) 1 (.slice none 0 0)) 2 (.slice none 0 0))
    have HBF := hide (show Below w.heap.size w (((w1.setCell ⟨w.heap.size, 0, none⟩ (.string ⟨#[]⟩)).setCell ⟨w.heap.size, 1, none⟩ (.slice none 0 0)).setCell ⟨w.heap.size, 2, none⟩ (.slice none 0 0)) from below_set (below_set (below_set (bl_t (unhide BX) (unhide HB1)) _ 0 _ (Nat.le_refl _)) _ 1 _ (Nat.le_refl _)) _ 2 _ (Nat.le_refl _))
    generalize ((w1.setCell ⟨w.heap.size, 0, none⟩ (.string ⟨#[]⟩)).setCell ⟨w.heap.size, 1, none⟩ (.slice none 0 0)).setCell ⟨w.heap.size, 2, none⟩ (.slice none 0 0) = WF at *
    have x0 := (cell_blk (unhide HRF) 0).1
    have x1 := (cell_blk (unhide HRF) 1).1
    have x2 := (cell_blk (unhide HRF) 2).1
    simp at x0 x1 x2
    refine bodyPost_ret (v := .tuple #[.agg #[.string ⟨#[]⟩, .slice none 0 0, .slice none 0 0], .bool false]) (by simp [results, Try.results6, go_sem, x0, x1, x2]) rfl ?_
    exact ⟨none, 0, none, 0, rfl, Nat.le_refl _, (fun h => absurd h (by simp [strs])), (fun h => absurd h (by simp [intz])), unhide HBF⟩
theorem rGet_V (p : List Gd) (N : Nat) (hN : p.length = N) (pa : Option Addr) (pc : Nat) (n : Bs) (V w : World) (hV : ParZ V (.slice pa N pc) p) (hbV : Below V.heap.size V w) (hl : N ≤ 16777216) (hn : n.length ≤ 16777216) (hb : ∀ f ∈ p, Bp f) :
    Calls Try.prog 6 #[.slice pa N pc, .string (ba n)] w fun e w' => ∃ la lc na nc, e = .returned (.tuple #[.agg #[.string (ba (getR p n).1.nm), .slice la (getR p n).1.ls.length lc, .slice na (getR p n).1.ns.length nc], .bool (getR p n).2]) ∧ (getR p n).1.ls.length ≤ lc ∧ Cl V la (strs (getR p n).1.ls) ∧ Cl V na (intz (getR p n).1.ns) ∧ Below w.heap.size w w' := by
  subst hN
  exact rGet_v p pa pc n V w hV hbV hl hn fun f hf => by have := (hb f hf).1; omega
/-- Two paragraphs lent. -/
theorem lent_two (p q : List Gd) (b : Nat) (w : World) (hl : ∀ x, x = p ∨ x = q → x.length ≤ 16777216 ∧ ∀ f ∈ x, f.ls.length ≤ 16777216 ∧ f.ns.length ≤ 16777216) (hD : DocZ w (.slice (some ⟨b, 0, none⟩) 2 2) [p, q]) :
    Calls Try.prog 4 #[.slice (some ⟨b, 0, none⟩) 2 2] w fun e w' => ∃ (lg lgc : Nat) (P F : Value) (q0 q1 : Lq) (m1 m2 : Nat), e = .returned (.agg #[.slice (some ⟨lg, 0, none⟩) 2 lgc, P, F]) ∧ LN (w.heap.size + 2) w' lg lgc P F [q0, q1] m1 m2 ∧ q0.xs.map (·.f) = p ∧ q1.xs.map (·.f) = q ∧ Below w.heap.size w w' := by
  refine (lentAll_any [p, q] _ w (by simp) (fun x hx => hl x (by simpa using hx)) hD).mono fun e w' ⟨lg, lgc, P, F, qs, m1, m2, h1, h2, h3, h4⟩ => ?_
  match qs, h3 with
  | [q0, q1], h3 =>
    simp only [List.map_cons, List.map_nil, List.cons.injEq, and_true] at h3
    exact ⟨lg, lgc, P, F, q0, q1, m1, m2, h1, h2, h3.1, h3.2, h4⟩
  | [], h3 => simp at h3
  | [_], h3 => simp at h3
  | _ :: _ :: _ :: _, h3 => simp at h3
/-- WHAT THE LAW HOLDS. -/
structure SA (w : World) (p q : List Gd) (pa qa : Option Addr) (pc qc N M b0 X lg lgc : Nat) (P F : Value) (q0 q1 : Lq) (m1 m2 b1 : Nat) (W : World) : Prop where
  bel : Below w.heap.size w W
  P_ : ParZ W (.slice pa N pc) p
  Q_ : ParZ W (.slice qa M qc) q
  bo : W.heap[b0]? = some (.cells #[.slice pa N pc, .slice qa M qc] 22 (0, 0))
  x : W.heap[X]? = some (.cells #[.slice (some ⟨lg, 0, none⟩) 2 lgc, P, F] 25 (0, 0))
  ln : LN b1 W lg lgc P F [q0, q1] m1 m2
  e0 : q0.xs.map (·.f) = p
  e1 : q1.xs.map (·.f) = q
  hN : p.length = N
  hM : q.length = M
theorem SA.later {w : World} {p q : List Gd} {pa qa : Option Addr} {pc qc N M b0 X lg lgc : Nat} {P F : Value} {q0 q1 : Lq} {m1 m2 b1 : Nat} {W W2 : World} (h : SA w p q pa qa pc qc N M b0 X lg lgc P F q0 q1 m1 m2 b1 W) (hb : Below W.heap.size W W2) : SA w p q pa qa pc qc N M b0 X lg lgc P F q0 q1 m1 m2 b1 W2 :=
  ⟨bl_t h.bel hb, h.P_.later hb, h.Q_.later hb, (hb.block _ (blk_lt h.bo)).trans h.bo, (hb.block _ (blk_lt h.x)).trans h.x, h.ln.later hb, h.e0, h.e1, h.hN, h.hM⟩
theorem SA.both {w : World} {p q : List Gd} {pa qa : Option Addr} {pc qc N M b0 X lg lgc : Nat} {P F : Value} {q0 q1 : Lq} {m1 m2 b1 : Nat} {W : World} (h : SA w p q pa qa pc qc N M b0 X lg lgc P F q0 q1 m1 m2 b1 W) : DocZ W (.slice (some ⟨b0, 0, none⟩) 2 2) [p, q] := docZ_two (cell_blk h.bo 0).1 (cell_blk h.bo 1).1 h.P_ h.Q_
theorem SA.xs {w : World} {p q : List Gd} {pa qa : Option Addr} {pc qc N M b0 X lg lgc : Nat} {P F : Value} {q0 q1 : Lq} {m1 m2 b1 : Nat} {W : World} (h : SA w p q pa qa pc qc N M b0 X lg lgc P F q0 q1 m1 m2 b1 W) : W.cell? ⟨X, 0, none⟩ = some (.slice (some ⟨lg, 0, none⟩) 2 lgc) ∧ W.cell? ⟨X, 1, none⟩ = some P ∧ W.cell? ⟨X, 2, none⟩ = some F := ⟨(cell_blk h.x 0).1, (cell_blk h.x 1).1, (cell_blk h.x 2).1⟩
theorem SA.l0 {w : World} {p q : List Gd} {pa qa : Option Addr} {pc qc N M b0 X lg lgc : Nat} {P F : Value} {q0 q1 : Lq} {m1 m2 b1 : Nat} {W : World} (h : SA w p q pa qa pc qc N M b0 X lg lgc P F q0 q1 m1 m2 b1 W) : W.cell? ⟨lg, 0, none⟩ = some (.slice (some ⟨q0.pb, 0, none⟩) N q0.pc) ∧ ParZ W (.slice (some ⟨q0.pb, 0, none⟩) N q0.pc) p := by
  have e : q0.xs.length = N := by rw [← h.hN, ← h.e0, List.length_map]
  have h1 := h.ln.c.l 0 q0 rfl
  have h2 := (h.ln.c.q q0 (by simp)).parZ
  rw [h.e0] at h2
  unfold pcell at h1 h2
  rw [e] at h1 h2
  exact ⟨h1, h2⟩
theorem SA.doc {w : World} {p q : List Gd} {pa qa : Option Addr} {pc qc N M b0 X lg lgc : Nat} {P F : Value} {q0 q1 : Lq} {m1 m2 b1 : Nat} {W : World} (h : SA w p q pa qa pc qc N M b0 X lg lgc P F q0 q1 m1 m2 b1 W) : DocZ W (.slice (some ⟨lg, 0, none⟩) 2 lgc) [p, q] := by
  have := h.ln.docZ
  simp only [List.map_cons, List.map_nil, h.e0, h.e1] at this
  exact this
/-- stayed, of two paragraphs. -/
theorem SA.stayed {w : World} {p q : List Gd} {pa qa : Option Addr} {pc qc N M b0 X lg lgc : Nat} {P F : Value} {q0 q1 : Lq} {m1 m2 b1 : Nat} {W : World} (h : SA w p q pa qa pc qc N M b0 X lg lgc P F q0 q1 m1 m2 b1 W) (hl : ∀ x, x = p ∨ x = q → x.length ≤ 16777216 ∧ ∀ f ∈ x, f.ls.length ≤ 16777216 ∧ f.ns.length ≤ 16777216) :
    Calls Try.prog 8 #[.agg #[.slice (some ⟨lg, 0, none⟩) 2 lgc, P, F], .slice (some ⟨b0, 0, none⟩) 2 2] W fun e w' => e = .returned (.bool true) ∧ Below W.heap.size W w' :=
  stayed_any b1 [q0, q1] [p, q] _ W lg lgc P F m1 m2 (by simp) (fun x hx => hl x (by simpa using hx)) (by simp [h.e0, h.e1]) h.ln h.both
theorem eqPz_refl : ∀ p : List Gd, eqPz p p = true := fun p => eqPz_yes rfl fun j f g h1 h2 => by
  rw [h1] at h2
  cases h2
  simp [eqG]
theorem eqDz_refl : ∀ p : List (List Gd), eqDz p p = true := fun p => eqDz_yes rfl fun j f g h1 h2 => by
  rw [h1] at h2
  cases h2
  exact eqPz_refl f
/-- WHAT SPOILING ONE PARAGRAPH LEAVES. -/
theorem Fr.bel {d : Sd} {w W : World} {lo : Nat} (h : Fr d w W) (ht : ∀ q, d.T q → lo ≤ q) (hl : lo ≤ w.heap.size) : Below lo w W :=
  ⟨h.env.os, h.env.tape, h.env.output, h.size, fun k hk => h.blk k (by omega) fun q => by have := ht k q; omega⟩
/-- Where two lists of words are, as one paragraph of two fields. -/
def sdW (Pb A na ca C nc cc : Nat) : Sd := ⟨1, fun _ => 2, fun _ => Pb, fun _ => 2, fun _ k => if k = 0 then A else C, fun _ k => if k = 0 then na else nc, fun _ k => if k = 0 then ca else cc, fun _ _ => 0, fun _ _ => 0, fun _ _ => 0, fun _ _ => false, fun _ _ => true⟩
/-- One field as a paragraph. -/
def opB (a : Option Addr) : Nat := match a with | some b => b.block | none => 0
def sdF (Pb : Nat) (la : Option Addr) (n c : Nat) (na : Option Addr) (m d : Nat) : Sd := ⟨1, fun _ => 1, fun _ => Pb, fun _ => 1, fun _ _ => opB la, fun _ _ => n, fun _ _ => c, fun _ _ => opB na, fun _ _ => m, fun _ _ => d, fun _ _ => la.isNone, fun _ _ => na.isNone⟩
theorem own_addr {W : World} {lo e n c : Nat} {a : Option Addr} {xs : List Value} (h : W.ownsRow lo e 1 (.slice a n c) n xs) : a = if a.isNone = true then none else some ⟨opB a, 0, none⟩ := by
  rcases h.2 with ⟨e1, _⟩ | ⟨g, cap, cur, e1, _⟩
  · cases e1; rfl
  · cases e1; rfl
theorem own_lo {W : World} {lo e n c : Nat} {a : Option Addr} {xs : List Value} (h : W.ownsRow lo e 1 (.slice a n c) n xs) (ha : a.isNone = false) : lo ≤ opB a := by
  rcases h.2 with ⟨e1, _⟩ | ⟨g, cap, cur, e1, h2, _⟩
  · cases e1; simp at ha
  · cases e1; exact h2
set_option maxHeartbeats 1000000 in
theorem spoil_F (W : World) (nm : ByteArray) (la na : Option Addr) (n c m d lo : Nat) (xs ys : List Value) (hlo : lo ≤ W.heap.size) (hn : n ≤ 1073741824) (hm : m ≤ 1073741824) (h1 : W.ownsRow lo 9 1 (.slice la n c) n xs) (h2 : W.ownsRow lo 3 1 (.slice na m d) m ys) :
    Calls Try.prog 16 #[.slice (some ⟨W.heap.size + 1, 0, none⟩) 1 1] ((W.alloc (.cells #[.string nm, .slice la n c, .slice na m d] 30)).alloc (.cells #[.slice (some ⟨W.heap.size, 0, none⟩) 1 1] 22)) fun e w' => e = .returned (.bool true) ∧ Below lo W w' ∧ ∀ q, q < W.heap.size → (la.isNone = false → q ≠ opB la) → (na.isNone = false → q ≠ opB na) → w'.heap[q]? = W.heap[q]? := by
  have b1 := hp_new W (.cells #[.string nm, .slice la n c, .slice na m d] 30)
  have s1 : (W.alloc (.cells #[.string nm, .slice la n c, .slice na m d] 30)).heap.size = W.heap.size + 1 := by simp
  have b2 := hp_new (W.alloc (.cells #[.string nm, .slice la n c, .slice na m d] 30)) (.cells #[.slice (some ⟨W.heap.size, 0, none⟩) 1 1] 22)
  rw [s1] at b2
  have b3 := (hp_old (W.alloc (.cells #[.string nm, .slice la n c, .slice na m d] 30)) (.cells #[.slice (some ⟨W.heap.size, 0, none⟩) 1 1] 22) W.heap.size (by omega)).trans b1
  have hb := bl_t (al W (.cells #[.string nm, .slice la n c, .slice na m d] 30)) (al _ (.cells #[.slice (some ⟨W.heap.size, 0, none⟩) 1 1] 22))
  have k1 := ownsRow_bl h1 hb
  have k2 := ownsRow_bl h2 hb
  have ea := own_addr h1
  have en := own_addr h2
  generalize hW2 : (W.alloc (.cells #[.string nm, .slice la n c, .slice na m d] 30)).alloc (.cells #[.slice (some ⟨W.heap.size, 0, none⟩) 1 1] 22) = W2 at *
  have hs2 : W.heap.size + 1 < W2.heap.size := blk_lt b2
  have hT : ∀ q, (sdF W.heap.size la n c na m d).T q → lo ≤ q ∧ (q = W.heap.size ∨ (la.isNone = false ∧ q = opB la) ∨ (na.isNone = false ∧ q = opB na)) := by
    rintro q ⟨i, hi, rfl | ⟨k, hk, ⟨z, rfl⟩ | ⟨z, rfl⟩⟩⟩
    · exact ⟨hlo, .inl rfl⟩
    · exact ⟨own_lo h1 z, .inr (.inl ⟨z, rfl⟩)⟩
    · exact ⟨own_lo h2 z, .inr (.inr ⟨z, rfl⟩)⟩
  have hS : Sp lo (W.heap.size + 1) (sdF W.heap.size la n c na m d) (fun _ _ => nm) (fun _ _ => xs) (fun _ _ => ys) W2 := by
    refine ⟨fun i hi => ?_, ⟨_, b2⟩, fun i hi => ?_, fun i k _ _ => ?_, fun i k _ _ => ?_, fun i j hi hj hn => ?_, fun i k j m hi hk hj hm hn => ?_, fun i k j m hi hk hj hm hn => ?_⟩
    · have hi' : i < 1 := hi
      obtain rfl : i = 0 := by omega
      exact (cell_blk b2 0).1
    · refine ⟨?_, .inr ⟨W.heap.size, 1, _, rfl, hlo, b3, Nat.le_refl _, by unfold maxLen; omega, rfl, ?_⟩⟩
      · simp [flat_len, Sd.ts, sdF]
      · simp only [sdF, Sd.ts, Sd.tv, Sd.lv, Sd.av, Sd.la, Sd.aa, flat, List.range_one, List.map_cons, List.map_nil]
        rw [← ea, ← en]
        rfl
    · show W2.ownsRow lo 9 1 (.slice (if la.isNone = true then none else some ⟨opB la, 0, none⟩) n c) n xs
      rw [← ea]
      exact k1
    · show W2.ownsRow lo 3 1 (.slice (if na.isNone = true then none else some ⟨opB na, 0, none⟩) m d) m ys
      rw [← en]
      exact k2
    · have hi' : i < 1 := hi
      have hj' : j < 1 := hj
      omega
    · have hi' : i < 1 := hi
      have hj' : j < 1 := hj
      have hk' : k < 1 := hk
      have hm' : m < 1 := hm
      omega
    · have hi' : i < 1 := hi
      have hj' : j < 1 := hj
      have hk' : k < 1 := hk
      have hm' : m < 1 := hm
      omega
  refine (spoil_any lo (W.heap.size + 1) 1 (sdF W.heap.size la n c na m d) _ _ _ W2 hS (by omega) (by show 1 ≤ _; omega) (fun i _ => by show 1 ≤ _; omega) (by show 0 + 1 ≤ _; omega) (fun i k _ _ => ⟨hn, hm⟩)).mono fun e w' hx => ⟨hx.1, (hb.mono hlo).trans (hx.2.bel (fun q hq => (hT q hq).1) (by omega)), fun q hq ha hn => ?_⟩
  refine (hx.2.blk q (by omega) fun ht => ?_).trans (hb.block q hq)
  rcases (hT q ht).2 with z | ⟨z, y⟩ | ⟨z, y⟩
  · omega
  · exact ha z y
  · exact hn z y
set_option maxHeartbeats 1000000 in
theorem spoil_W (W : World) (A na ca C nc cc lo : Nat) (xs ys : List Value) (hlo : lo ≤ W.heap.size) (hn : na ≤ 1073741824) (hm : nc ≤ 1073741824) (hAC : A ≠ C) (h1 : W.ownsRow lo 9 1 (.slice (some ⟨A, 0, none⟩) na ca) na xs) (h2 : W.ownsRow lo 9 1 (.slice (some ⟨C, 0, none⟩) nc cc) nc ys) :
    Calls Try.prog 16 #[.slice (some ⟨W.heap.size + 1, 0, none⟩) 1 1] ((W.alloc (.cells #[.string ⟨#[]⟩, .slice (some ⟨A, 0, none⟩) na ca, .slice none 0 0, .string ⟨#[]⟩, .slice (some ⟨C, 0, none⟩) nc cc, .slice none 0 0] 30)).alloc (.cells #[.slice (some ⟨W.heap.size, 0, none⟩) 2 2] 22)) fun e w' => e = .returned (.bool true) ∧ Below lo W w' ∧ ∀ q, q < W.heap.size → q ≠ A → q ≠ C → w'.heap[q]? = W.heap[q]? := by
  have b1 := hp_new W (.cells #[.string ⟨#[]⟩, .slice (some ⟨A, 0, none⟩) na ca, .slice none 0 0, .string ⟨#[]⟩, .slice (some ⟨C, 0, none⟩) nc cc, .slice none 0 0] 30)
  have s1 : (W.alloc (.cells #[.string ⟨#[]⟩, .slice (some ⟨A, 0, none⟩) na ca, .slice none 0 0, .string ⟨#[]⟩, .slice (some ⟨C, 0, none⟩) nc cc, .slice none 0 0] 30)).heap.size = W.heap.size + 1 := by simp
  have b2 := hp_new (W.alloc (.cells #[.string ⟨#[]⟩, .slice (some ⟨A, 0, none⟩) na ca, .slice none 0 0, .string ⟨#[]⟩, .slice (some ⟨C, 0, none⟩) nc cc, .slice none 0 0] 30)) (.cells #[.slice (some ⟨W.heap.size, 0, none⟩) 2 2] 22)
  rw [s1] at b2
  have b3 := (hp_old (W.alloc (.cells #[.string ⟨#[]⟩, .slice (some ⟨A, 0, none⟩) na ca, .slice none 0 0, .string ⟨#[]⟩, .slice (some ⟨C, 0, none⟩) nc cc, .slice none 0 0] 30)) (.cells #[.slice (some ⟨W.heap.size, 0, none⟩) 2 2] 22) W.heap.size (by omega)).trans b1
  have hb := bl_t (al W (.cells #[.string ⟨#[]⟩, .slice (some ⟨A, 0, none⟩) na ca, .slice none 0 0, .string ⟨#[]⟩, .slice (some ⟨C, 0, none⟩) nc cc, .slice none 0 0] 30)) (al _ (.cells #[.slice (some ⟨W.heap.size, 0, none⟩) 2 2] 22))
  have k1 := ownsRow_bl h1 hb
  have k2 := ownsRow_bl h2 hb
  have hA : lo ≤ A := own_lo h1 rfl
  have hC : lo ≤ C := own_lo h2 rfl
  generalize hW2 : (W.alloc (.cells #[.string ⟨#[]⟩, .slice (some ⟨A, 0, none⟩) na ca, .slice none 0 0, .string ⟨#[]⟩, .slice (some ⟨C, 0, none⟩) nc cc, .slice none 0 0] 30)).alloc (.cells #[.slice (some ⟨W.heap.size, 0, none⟩) 2 2] 22) = W2 at *
  have hs2 : W.heap.size + 1 < W2.heap.size := blk_lt b2
  have two : ∀ {k : Nat}, k < 2 → k = 0 ∨ k = 1 := fun h => by omega
  have hT : ∀ q, (sdW W.heap.size A na ca C nc cc).T q → lo ≤ q ∧ (q = W.heap.size ∨ q = A ∨ q = C) := by
    rintro q ⟨i, hi, rfl | ⟨k, hk, ⟨z, rfl⟩ | ⟨z, rfl⟩⟩⟩
    · exact ⟨hlo, .inl rfl⟩
    · have hk' : k < 2 := hk
      rcases two hk' with rfl | rfl
      · exact ⟨hA, .inr (.inl rfl)⟩
      · exact ⟨hC, .inr (.inr rfl)⟩
    · cases z
  have hS : Sp lo (W.heap.size + 1) (sdW W.heap.size A na ca C nc cc) (fun _ _ => ⟨#[]⟩) (fun _ k => if k = 0 then xs else ys) (fun _ _ => []) W2 := by
    refine ⟨fun i hi => ?_, ⟨_, b2⟩, fun i hi => ?_, fun i k _ hk => ?_, fun i k _ _ => ?_, fun i j hi hj hn => ?_, fun i k j m hi hk hj hm hn _ _ => ?_, fun i k j m hi hk hj hm hn z => ?_⟩
    · have hi' : i < 1 := hi
      obtain rfl : i = 0 := by omega
      exact (cell_blk b2 0).1
    · refine ⟨?_, .inr ⟨W.heap.size, 2, _, rfl, hlo, b3, Nat.le_refl _, by unfold maxLen; omega, rfl, ?_⟩⟩
      · simp [flat_len, Sd.ts, sdW]
      · rfl
    · have hk' : k < 2 := hk
      rcases two hk' with rfl | rfl
      · exact k1
      · exact k2
    · exact World.ownsRow_nil _ _ _ _
    · have hi' : i < 1 := hi
      have hj' : j < 1 := hj
      omega
    · have hi' : i < 1 := hi
      have hj' : j < 1 := hj
      have hk' : k < 2 := hk
      have hm' : m < 2 := hm
      rcases two hk' with rfl | rfl <;> rcases two hm' with rfl | rfl
      · omega
      · exact hAC
      · exact fun e => hAC e.symm
      · omega
    · cases z
  refine (spoil_any lo (W.heap.size + 1) 1 (sdW W.heap.size A na ca C nc cc) _ _ _ W2 hS (by omega) (by show 1 ≤ _; omega) (fun i _ => by show 2 ≤ _; omega) (by show 0 + 2 ≤ _; omega) (fun i k _ hk => by
    have hk' : k < 2 := hk
    rcases two hk' with rfl | rfl
    · exact ⟨hn, by show 0 ≤ _; omega⟩
    · exact ⟨hm, by show 0 ≤ _; omega⟩)).mono fun e w' hx => ⟨hx.1, (hb.mono hlo).trans (hx.2.bel (fun q hq => (hT q hq).1) (by omega)), fun q hq ha hc => ?_⟩
  refine (hx.2.blk q (by omega) fun ht => ?_).trans (hb.block q hq)
  rcases (hT q ht).2 with z | z | z
  · omega
  · exact ha z
  · exact hc z
end Go.Proofs.Ytohncccejlccbaa
