import Derived.Test.YtpakhjbaniapnaaKsF
namespace Go.Proofs.Ytpakhjbaniapnaa
open Go.RowKit

/-- A PACKAGE, AS IT READS. -/
structure Pk where
  nm : ByteArray
  vr : ByteArray
  es : Bool
  dp : List (List Am)
  pr : List (List Am)
  cf : List Am
  pv : List ByteArray
  fs : List Fl
  ar : ByteArray
  sz : Int
  sm : Fl
  sy : ByteArray
/-- ITS CELLS. -/
structure PkC (cs : List Value) (p : Pk) (d r c v f : Value) : Prop where
  len : cs.length = 43
  c0 : cs[0]? = some (.string p.nm)
  c1 : cs[1]? = some (.string p.vr)
  c2 : cs[2]? = some (.bool p.es)
  c3 : cs[3]? = some d
  c4 : cs[4]? = some r
  c5 : cs[5]? = some c
  c6 : cs[6]? = some v
  c7 : cs[7]? = some f
  c8 : cs[8]? = some (.string p.ar)
  c9 : cs[9]? = some (.int .i64 p.sz)
  cs0 : ∀ j x, p.sm.cs[j]? = some x → cs[10 + j]? = some x
  c42 : cs[42]? = some (.string p.sy)
def isS (f : Fl) : Prop := f.cs.length = 32 ∧ Try.prog.keyLits 6 26 f.cs = some f.ls ∧ ∀ l ∈ f.ls, flatL l = true
/-- ITS LISTS. -/
structure PkL (w : World) (p : Pk) (d r c v f : Value) : Prop where
  dl : Cls w d p.dp
  rl : Cls w r p.pr
  cl : Ams w c p.cf
  vl : Sts w v p.pv
  fl : Fls w f p.fs
  sl : isS p.sm
theorem PkL.later {w w' : World} {p : Pk} {d r c v f : Value} (h : PkL w p d r c v f) (hb : Below w.heap.size w w') : PkL w' p d r c v f :=
  ⟨h.dl.later hb, h.rl.later hb, h.cl.later hb, h.vl.later hb, h.fl.later hb, h.sl⟩
theorem two_new (w : World) (cs ds : List Value) (t : TypeId) : ∃ W, (w.alloc (.cells cs.toArray t)).alloc (.cells ds.toArray t) = W ∧ (∀ i v, cs[i]? = some v → W.cell? ⟨w.heap.size, i, none⟩ = some v) ∧ (∀ i v, ds[i]? = some v → W.cell? ⟨w.heap.size + 1, i, none⟩ = some v) ∧ w.heap.size + 1 < W.heap.size ∧ Below w.heap.size w W := by
  have hb : Below w.heap.size w (w.alloc (.cells cs.toArray t)) := (Below.refl w.heap.size w).alloc (Nat.le_refl _) _
  refine ⟨_, rfl, fun i v h => ?_, fun i v h => ?_, by simp, hb.alloc hb.size _⟩
  · rw [(((Below.refl (w.alloc (.cells cs.toArray t)).heap.size _).alloc (Nat.le_refl _) _).cell (p := ⟨w.heap.size, i, none⟩) (by simp)), World.cell?_alloc_new]
    simpa using h
  · rw [World.cell?_alloc_at _ _ _ _ (by simp)]
    simpa using h

/-! ### Pairs of lists, as they are asked -/
def PrC (W : World) (v u : Value) (r : Bool) : Prop := ∃ al bl, Cls W v al ∧ Cls W u bl ∧ eqL (eqL eqA) al bl = r
theorem sameClauses_pr {W : World} {v u : Value} {r : Bool} (h : PrC W v u r) (w' : World) (hb : Below W.heap.size W w') : Calls Try.prog 15 #[v, u] w' fun e w'' => e = .returned (.bool r) ∧ Below w'.heap.size w' w'' := by
  obtain ⟨al, bl, h1, h2, rfl⟩ := h
  exact sameClauses_any al bl v u w' (h1.later hb) (h2.later hb)
theorem rclauses_pr {W : World} {v u : Value} {r : Bool} (h : PrC W v u r) (w' : World) (hb : Below W.heap.size W w') : Calls Try.prog 12 #[v, u] w' fun e w'' => e = .returned (.bool r) ∧ Below w'.heap.size w' w'' := by
  obtain ⟨al, bl, h1, h2, rfl⟩ := h
  exact rclauses_any al bl v u w' (h1.later hb) (h2.later hb)
def eqR (p q : Pk) : Bool := eqL (eqL eqA) p.dp q.dp && eqL (eqL eqA) p.pr q.pr && eqL eqA p.cf q.cf && eqL eqS p.pv q.pv

set_option maxRecDepth 100000 in
set_option maxHeartbeats 8000000 in
theorem sameRelations_any (p q : Pk) (cs ds : List Value) (d r c v f d' r' c' v' f' : Value) (w : World) (h1 : PkC cs p d r c v f) (h2 : PkC ds q d' r' c' v' f') (l1 : PkL w p d r c v f) (l2 : PkL w q d' r' c' v' f') :
    Calls Try.prog 10 #[.agg cs.toArray, .agg ds.toArray] w fun e w' => e = .returned (.bool (eqR p q)) ∧ Below w.heap.size w w' := by
  obtain ⟨W, hW, hc, hd, hlt, hB⟩ := two_new w cs ds 28
  have HP := hide (fun (w' : World) (hb : Below W.heap.size W w') => show w'.cell? ⟨w.heap.size, 3, none⟩ = some d ∧ w'.cell? ⟨w.heap.size, 4, none⟩ = some r ∧ w'.cell? ⟨w.heap.size, 5, none⟩ = some c ∧ w'.cell? ⟨w.heap.size, 6, none⟩ = some v ∧ w'.cell? ⟨w.heap.size + 1, 3, none⟩ = some d' ∧ w'.cell? ⟨w.heap.size + 1, 4, none⟩ = some r' ∧ w'.cell? ⟨w.heap.size + 1, 5, none⟩ = some c' ∧ w'.cell? ⟨w.heap.size + 1, 6, none⟩ = some v' from
    have k (i : Nat) (x : Value) (h : cs[i]? = some x) : w'.cell? ⟨w.heap.size, i, none⟩ = some x := (hb.cell (p := ⟨w.heap.size, i, none⟩) (by show w.heap.size < W.heap.size; omega)).trans (hc i x h)
    have k' (i : Nat) (x : Value) (h : ds[i]? = some x) : w'.cell? ⟨w.heap.size + 1, i, none⟩ = some x := (hb.cell (p := ⟨w.heap.size + 1, i, none⟩) (by show w.heap.size + 1 < W.heap.size; omega)).trans (hd i x h)
    ⟨k 3 d h1.c3, k 4 r h1.c4, k 5 c h1.c5, k 6 v h1.c6, k' 3 d' h2.c3, k' 4 r' h2.c4, k' 5 c' h2.c5, k' 6 v' h2.c6⟩)
  have p1 : PrC W d d' (eqL (eqL eqA) p.dp q.dp) := ⟨_, _, (l1.later hB).dl, (l2.later hB).dl, rfl⟩
  have p2 : PrC W r r' (eqL (eqL eqA) p.pr q.pr) := ⟨_, _, (l1.later hB).rl, (l2.later hB).rl, rfl⟩
  have c3 := hide (fun (w' : World) (hb : Below W.heap.size W w') => eqAtoms_any p.cf q.cf c c' w' ((l1.later hB).later hb).cl ((l2.later hB).later hb).cl)
  have c4 := hide (fun (w' : World) (hb : Below W.heap.size W w') => eqTexts_any p.pv q.pv v v' w' ((l1.later hB).later hb).vl ((l2.later hB).later hb).vl)
  have HF := hide (show eqR p q = (eqL (eqL eqA) p.dp q.dp && eqL (eqL eqA) p.pr q.pr && eqL eqA p.cf q.cf && eqL eqS p.pv q.pv) from rfl)
  generalize eqL (eqL eqA) p.dp q.dp = e1 at *
  generalize eqL (eqL eqA) p.pr q.pr = e2 at *
  generalize eqL eqA p.cf q.cf = e3 at *
  generalize eqL eqS p.pv q.pv = e4 at *
  generalize eqR p q = rr at *
  have HB := hide hB
  have HW := hide hW
  clear hc hd h1 h2 l1 l2 hB
  obtain ⟨a30, a40, a50, a60, b30, b40, b50, b60⟩ := unhide HP _ (Below.refl _ _)
  have hs0 : w.heap.size < W.heap.size := by omega
  go_enter Try.func10, Try.ntmps10
  cases e1
  · go_wp2_with fail
    refine (sameClauses_pr p1 _ (Below.refl _ _)).mono ?_
    rintro e w1 ⟨rfl, hb1⟩
    have HB1 := hide (hb1)
    clear hb1
    go_wp2_with fail
    go_ret
    exact ⟨ret_bool (unhide HF).symm, bl_t (unhide HB) (unhide HB1)⟩
  · go_wp2_with fail
    refine (sameClauses_pr p1 _ (Below.refl _ _)).mono ?_
    rintro e w1 ⟨rfl, hb1⟩
    have HB1 := hide (hb1)
    clear hb1
    obtain ⟨a31, a41, a51, a61, b31, b41, b51, b61⟩ := unhide HP _ (unhide HB1)
    have hs1 := Nat.lt_of_lt_of_le hlt (unhide HB1).size
    have ht1 : w.heap.size < w1.heap.size := by omega
    cases e2
    · go_wp2_with fail
      refine (sameClauses_pr p2 _ (unhide HB1)).mono ?_
      rintro e w2 ⟨rfl, hb2⟩
      have HB2 := hide (bl_t (unhide HB1) hb2)
      clear hb2
      go_wp2_with fail
      go_ret
      exact ⟨ret_bool (unhide HF).symm, bl_t (unhide HB) (unhide HB2)⟩
    · go_wp2_with fail
      refine (sameClauses_pr p2 _ (unhide HB1)).mono ?_
      rintro e w2 ⟨rfl, hb2⟩
      have HB2 := hide (bl_t (unhide HB1) hb2)
      clear hb2
      obtain ⟨a32, a42, a52, a62, b32, b42, b52, b62⟩ := unhide HP _ (unhide HB2)
      have hs2 := Nat.lt_of_lt_of_le hlt (unhide HB2).size
      have ht2 : w.heap.size < w2.heap.size := by omega
      cases e3
      · go_wp2_with fail
        refine (unhide c3 _ (unhide HB2)).mono ?_
        rintro e w3 ⟨rfl, hb3⟩
        have HB3 := hide (bl_t (unhide HB2) hb3)
        clear hb3
        go_wp2_with fail
        go_ret
        exact ⟨ret_bool (unhide HF).symm, bl_t (unhide HB) (unhide HB3)⟩
      · go_wp2_with fail
        refine (unhide c3 _ (unhide HB2)).mono ?_
        rintro e w3 ⟨rfl, hb3⟩
        have HB3 := hide (bl_t (unhide HB2) hb3)
        clear hb3
        obtain ⟨a33, a43, a53, a63, b33, b43, b53, b63⟩ := unhide HP _ (unhide HB3)
        have hs3 := Nat.lt_of_lt_of_le hlt (unhide HB3).size
        have ht3 : w.heap.size < w3.heap.size := by omega
        cases e4
        · go_wp2_with fail
          refine (unhide c4 _ (unhide HB3)).mono ?_
          rintro e w4 ⟨rfl, hb4⟩
          have HB4 := hide (bl_t (unhide HB3) hb4)
          clear hb4
          go_wp2_with fail
          go_ret
          exact ⟨ret_bool (unhide HF).symm, bl_t (unhide HB) (unhide HB4)⟩
        · go_wp2_with fail
          refine (unhide c4 _ (unhide HB3)).mono ?_
          rintro e w4 ⟨rfl, hb4⟩
          have HB4 := hide (bl_t (unhide HB3) hb4)
          clear hb4
          go_wp2_with fail
          go_ret
          exact ⟨ret_bool (unhide HF).symm, bl_t (unhide HB) (unhide HB4)⟩

end Go.Proofs.Ytpakhjbaniapnaa
