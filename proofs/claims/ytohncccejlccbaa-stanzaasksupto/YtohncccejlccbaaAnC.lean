import Derived.Test.YtohncccejlccbaaAnD
namespace Go.Proofs.Ytohncccejlccbaa
open Go.RowKit Go.Shelf

/-- The first part: all is written over. -/
structure Hx (xs : List Lf) (q1 : Lq) (pb : Nat) : Prop where
  inj : ∀ (i j : Nat) (x y : Lf), xs[i]? = some x → xs[j]? = some y → x.lb = y.lb → i = j
  dj : ∀ x ∈ xs, ∀ y ∈ q1.xs, x.lb ≠ y.lb
  pb : xs ≠ [] → pb ≠ q1.pb
theorem Hx.el {xs : List Lf} {q1 : Lq} {pb : Nat} (h : Hx xs q1 pb) : ∀ x ∈ xs, ∀ y ∈ xs, x.lb = y.lb → x = y := fun x hx y hy e => by
  obtain ⟨i, hi⟩ := List.getElem?_of_mem hx
  obtain ⟨j, hj⟩ := List.getElem?_of_mem hy
  obtain rfl := h.inj i j x y hi hj e
  rw [hi] at hj
  cases hj
  rfl
theorem swap_perm {α : Type} (l : List α) (a b : Nat) (ha : a < l.length) (hb : b < l.length) : ((l.set a l[b]).set b l[a]).Perm l := List.set_set_perm ha hb
/-- Sizes. -/
def Bz (x : Lf) : Prop := x.f.nm.length ≤ 2097152 ∧ x.f.ls.length ≤ 2097152 ∧ x.f.ns.length ≤ 2097152 ∧ (Lib.join x.f.ls [10]).length ≤ 4194304 ∧ ∀ l ∈ x.f.ls, l.length ≤ 2097152
/-- One paragraph doubled. -/
theorem twin_one (p : List Gd) (N : Nat) (hN : p.length = N) (v : Value) (W : World) (hl : p.length ≤ 16777216) (hls : ∀ f ∈ p, f.ls.length ≤ 16777216 ∧ f.ns.length ≤ 16777216) (h : ParZ W v p) :
    Calls Try.prog 19 #[.slice (some ⟨W.heap.size, 0, none⟩) 1 1] (W.alloc (.cells #[v] 22)) fun e w' => ∃ g o uc na nc, e = .returned (.slice (some ⟨g, o, none⟩) 1 uc) ∧ w'.cell? ⟨g, o, none⟩ = some (.slice na N nc) ∧ ParZ w' (.slice na N nc) p ∧ Below W.heap.size W w' := by
  subst hN
  refine (twin_z [p] _ _ (by simp) (fun x hx => by rw [List.mem_singleton.1 hx]; exact ⟨hl, hls⟩) (docZ_one (cell_blk (hp_new W (.cells #[v] 22)) 0).1 (h.later (al _ _)))).mono fun e w' ⟨u, h1, h2, h3⟩ => ?_
  obtain ⟨ua, uc, rfl, h4⟩ := h2
  obtain ⟨g, o, rfl, h5⟩ := h4 (by simp)
  obtain ⟨v0, h6, h7⟩ := h5 0 p rfl
  have h8 := h7
  obtain ⟨na, nc, rfl, _⟩ := h8
  exact ⟨g, o, uc, na, nc, h1, h6, h7, bl_t (al _ _) h3⟩
/-- Sizes of what is asked. -/
def Bp (f : Gd) : Prop := f.nm.length ≤ 2097152 ∧ f.ls.length ≤ 2097152 ∧ f.ns.length ≤ 2097152 ∧ (Lib.join f.ls [10]).length ≤ 10485760
theorem wordsB_len : ∀ (l cur : Bs), (wordsB l cur).length ≤ l.length + 1
  | [], cur => by unfold wordsB; split <;> simp
  | c :: l, cur => by
    unfold wordsB
    split
    · split
      · have := wordsB_len l []; simp only [List.length_cons]; omega
      · have := wordsB_len l []; simp only [List.length_cons]; omega
    · have := wordsB_len l (cur ++ [c]); simp only [List.length_cons]; omega
theorem getR_bp {p : List Gd} {n : Bs} (h : ∀ f ∈ p, Bp f) : Bp (getR p n).1 := by
  unfold getR
  cases e : p.find? (hit n) with
  | none => exact ⟨by simp, by simp, by simp, by simp [Lib.join_nil]⟩
  | some f => exact h f (List.mem_of_find?_eq_some e)
theorem Get_N (p : List Gd) (N : Nat) (hN : p.length = N) (pa : Option Addr) (pc : Nat) (n : Bs) (w : World) (hP : ParZ w (.slice pa N pc) p) (hl : N ≤ 16777216) (hn : n.length ≤ 16777216) (hb : ∀ f ∈ p, Bp f) :
    Calls Try.prog 5 #[.slice pa N pc, .string (ba n)] w fun e w' => ∃ la lc na nc, e = .returned (.tuple #[.agg #[.string (ba (getR p n).1.nm), .slice la (getR p n).1.ls.length lc, .slice na (getR p n).1.ns.length nc], .bool (getR p n).2]) ∧ (w'.ownsRow w.heap.size 9 1 (.slice la (getR p n).1.ls.length lc) (getR p n).1.ls.length (strs (getR p n).1.ls) ∧ w'.ownsRow w.heap.size 3 1 (.slice na (getR p n).1.ns.length nc) (getR p n).1.ns.length (intz (getR p n).1.ns)) ∧ Below w.heap.size w w' := by
  subst hN
  refine (Get_u p pa pc n w hP hl hn fun f hf => ⟨by have := (hb f hf).1; omega, by have := (hb f hf).2.1; omega, by have := (hb f hf).2.2.1; omega⟩).mono fun e w' ⟨lv, av, h1, h2, h3, h4⟩ => ?_
  obtain ⟨la, lc, e1, _⟩ := own_cap h2
  obtain ⟨na, nc, e2, _⟩ := own_cap h3
  subst e1
  subst e2
  exact ⟨la, lc, na, nc, h1, ⟨h2, h3⟩, h4⟩
theorem rGet_N (p : List Gd) (N : Nat) (hN : p.length = N) (pa : Option Addr) (pc : Nat) (n : Bs) (w : World) (hP : ParZ w (.slice pa N pc) p) (hl : N ≤ 16777216) (hn : n.length ≤ 16777216) (hb : ∀ f ∈ p, Bp f) :
    Calls Try.prog 6 #[.slice pa N pc, .string (ba n)] w fun e w' => ∃ la lc na nc, e = .returned (.tuple #[.agg #[.string (ba (getR p n).1.nm), .slice la (getR p n).1.ls.length lc, .slice na (getR p n).1.ns.length nc], .bool (getR p n).2]) ∧ (getR p n).1.ls.length ≤ lc ∧ Cl w' la (strs (getR p n).1.ls) ∧ Cl w' na (intz (getR p n).1.ns) ∧ Below w.heap.size w w' := by
  subst hN
  exact rGet_u p pa pc n w hP hl hn fun f hf => by have := (hb f hf).1; omega
theorem own_two {W : World} {lo n c : Nat} {a : Option Addr} {xs : List Value} {e : TypeId} (h : W.ownsRow lo e 1 (.slice a n c) n xs) : n ≤ c ∧ Cl W a xs := by
  obtain ⟨pa, c', e1, h1, h2⟩ := own_cap h
  cases e1
  exact ⟨h1, h2⟩
attribute [local go_sem] World.cell?_alloc_some

set_option maxRecDepth 100000 in
set_option maxHeartbeats 8000000 in
theorem asksAnew_any (lo lg lgc : Nat) (m1 m2 : Value) (pb pc : Nat) (E0 : Nat → List Bs) (q1 : Lq) (xs : List Lf) (n : Bs) (k : Int) (w : World) (hA : Aw lo lg lgc m1 m2 pb pc E0 q1 xs w) (hE : ∀ x ∈ xs, E0 x.lb = x.f.ls) (hlo : lo ≤ w.heap.size) (hX : Hx xs q1 pb) (hn : n.length ≤ 2097152) (hxl : xs.length ≤ 2097152) (hf : ∀ x ∈ xs, Bz x) :
    Calls Try.prog 20 #[.slice (some ⟨lg, 0, none⟩) 2 lgc, .string (ba n), .int .i64 k] w fun e w' => e = .returned (.bool true) ∧ (∃ E zs, zs.Perm xs ∧ Aw lo lg lgc m1 m2 pb pc E q1 zs w') ∧ Bk lo w w' := by
  have HA := hide hA
  have HX := hide hX
  have HF := hide hf
  have HT := hide (show Tb xs E0 0 0 from fun j x hx => by
    rw [hE x (List.mem_of_getElem? hx)]
    refine ⟨rfl, fun i l l0 h1 h2 => ?_⟩
    rw [h1] at h2
    cases h2
    omega)
  clear hX hf hE
  obtain ⟨N, hN⟩ : ∃ N, N = xs.length := ⟨_, rfl⟩
  have c0 : w.cell? ⟨lg, 0, none⟩ = some (.slice (some ⟨pb, 0, none⟩) N pc) := by rw [hN]; exact (row_cells hA.l).2 0 _ rfl
  have HN := hide hN
  rw [← hN] at hxl
  clear hA hN
  go_enter Try.func20, Try.ntmps20
  go_wp2_with fail
  go_loopg [8, 9, 10] N (fun gq va _ _ wr => ∃ (a : Nat) (E : Nat → List Bs), va = .int .i64 a ∧ a ≤ N ∧ N - a ≤ gq ∧ Hid (Aw lo lg lgc m1 m2 pb pc E q1 xs wr) ∧ Hid (Tb xs E a 0) ∧ Hid (Bk lo w wr))
  case atStart => exact ⟨0, E0, by go_num, by omega, by omega, HA, HT, hide (Bk.refl _ _)⟩
  case round =>
    clear HA HT
    obtain ⟨a, E, rfl, ha, hga, HA, HT, HB⟩ := hrel
    by_cases hlt : a < N
    · have haz : (a : Int) < (N : Int) := by omega
      obtain ⟨x, hx⟩ : ∃ x, xs[a]? = some x := ⟨_, List.getElem?_eq_getElem (by have := unhide HN; omega)⟩
      have hxm := List.mem_of_getElem? hx
      have HBZ := hide (unhide HF x hxm)
      have HXA := hide hx
      have HXM := hide hxm
      clear hx hxm
      obtain ⟨nl, hnl⟩ : ∃ nl, nl = x.f.ls.length := ⟨_, rfl⟩
      obtain ⟨nn, hnn⟩ : ∃ nn, nn = x.f.ns.length := ⟨_, rfl⟩
      have HNL := hide hnl
      have HNN := hide hnn
      have hb1 : nl ≤ 2097152 := by rw [hnl]; exact (unhide HBZ).2.1
      have hb2 : nn ≤ 2097152 := by rw [hnn]; exact (unhide HBZ).2.2.1
      have HAT := hide (show ∀ E W, Aw lo lg lgc m1 m2 pb pc E q1 xs W → W.cell? ⟨pb, a * 3 + 1, none⟩ = some (.slice (some ⟨x.lb, 0, none⟩) nl x.lc) ∧ W.cell? ⟨pb, a * 3 + 2, none⟩ = some (.slice (some ⟨x.ab, 0, none⟩) nn x.ac) from fun E W h => by rw [hnl, hnn]; exact ⟨(h.at2 (unhide HXA)).2.1, (h.at2 (unhide HXA)).2.2.1⟩)
      clear hnl hnn
      go_wp2_with fail
      go_loopg [9] nl (fun gq vb wr => ∃ (b : Nat) (E : Nat → List Bs), vb = .int .i64 b ∧ b ≤ nl ∧ nl - b ≤ gq ∧ Hid (Aw lo lg lgc m1 m2 pb pc E q1 xs wr) ∧ Hid (Tb xs E a b) ∧ Hid (Bk lo w wr))
      case atStart => exact ⟨0, E, by go_num, by omega, by omega, HA, HT, HB⟩
      case round =>
        clear HA HT HB
        obtain ⟨b, E, rfl, hb, hgb, HA, HT, HB⟩ := hrel
        have c1 := (unhide HAT E wr (unhide HA)).1
        by_cases hltb : b < nl
        · have hbz : (b : Int) < (nl : Int) := by omega
          have hFz := (unhide HA).f x (unhide HXM)
          have hlen : (E x.lb).length = nl := by rw [unhide HNL]; exact hFz.ll
          obtain ⟨l, hl⟩ : ∃ l, (E x.lb)[b]? = some l := ⟨_, List.getElem?_eq_getElem (by omega)⟩
          have hl2 : (E x.lb)[b]'(by omega) = l := by
            obtain ⟨_, e⟩ := List.getElem?_eq_some_iff.1 hl
            exact e
          obtain ⟨cl, fl⟩ := hFz.line (b := b) (by omega)
          rw [hl2] at cl
          have hsz : (ba l).size ≤ 4194304 := by
            rw [ba_size]
            obtain ⟨l0, h0⟩ : ∃ l0, x.f.ls[b]? = some l0 := ⟨_, List.getElem?_eq_getElem (by rw [← unhide HNL]; exact hltb)⟩
            have h1 := ((unhide HT) a x (unhide HXA)).2 b l l0 hl h0
            have h2 := (unhide HBZ).2.2.2.2 l0 (List.mem_of_getElem? h0)
            split at h1 <;> omega
          have HS := hide (show (⟨#[115, 32, 116]⟩ : ByteArray) ++ ba l = ba ([115, 32, 116] ++ l) from ba_cat [115, 32, 116] l)
          have HA2 := hide ((unhide HA).setL (unhide HX).el (unhide HX).dj (unhide HXM) (b := b) (by omega) ([115, 32, 116] ++ l)).drew
          have HT2 := hide ((unhide HT).step (unhide HX).inj (unhide HXA) hl (s := [115, 32, 116] ++ l) (by simp))
          have HB2 := hide ((unhide HB).set (j := b) hFz.lblk.choose_spec (by decide) (by decide) (by obtain ⟨_, _, h, _⟩ := ownsRow_blk hFz.l (g := x.lb) rfl; exact h) (.string (ba ([115, 32, 116] ++ l)))).drew
          rw [← unhide HS] at HA2 HB2
          clear hFz hl hl2 hlen HA HT HB HS
          generalize updE E x.lb ((E x.lb).set b ([115, 32, 116] ++ l)) = E2 at *
          generalize ba l = bl at *
          generalize x.lb = xlb at *
          generalize x.lc = xlc at *
          have b0 : (0 : Int) ≤ (b : Int) := by omega
          have a0 : (0 : Int) ≤ (a : Int) := by omega
          go_wp2_with fail
          go_region
          clear c1 cl fl
          generalize (wr.setCell ⟨xlb, b, none⟩ (.string ((⟨#[115, 32, 116]⟩ : ByteArray) ++ bl))).drew = W5 at HA2 HB2 ⊢
          go_wp2_with fail
          go_roundg (nl - (b + 1))
          case measure => omega
          case rel => exact ⟨b + 1, E2, by go_num, by omega, by omega, HA2, HT2, HB2⟩
        · have hbz : ¬ (b : Int) < (nl : Int) := by omega
          have HT1 := hide (unhide HT).next
          clear HT
          go_wp2_with fail
          clear c1
          go_loopg [10] nn (fun gq vb wr => ∃ (b : Nat), vb = .int .i64 b ∧ b ≤ nn ∧ nn - b ≤ gq ∧ Hid (Aw lo lg lgc m1 m2 pb pc E q1 xs wr) ∧ Hid (Bk lo w wr))
          case atStart => exact ⟨0, by go_num, by omega, by omega, HA, HB⟩
          case round =>
            clear HA HB hbz hltb hgb hb
            obtain ⟨b, rfl, hb, hgb, HA, HB⟩ := hrel
            have c1 := (unhide HAT E wr (unhide HA)).2
            by_cases hltb : b < nn
            · have hbz : (b : Int) < (nn : Int) := by omega
              have hFz := (unhide HA).f x (unhide HXM)
              obtain ⟨v, cl, fl⟩ := hFz.num (b := b) (by rw [← unhide HNN]; exact hltb)
              have HA2 := hide (fun m => ((unhide HA).setA (unhide HXM) b m).drew)
              have HB2 := hide (fun (m : Int) => ((unhide HB).set (j := b) hFz.a.choose_spec.1 (by decide) (by decide) hFz.ga (.int .i64 m)).drew)
              clear hFz HA HB
              generalize x.ab = xab at *
              generalize x.ac = xac at *
              have b0 : (0 : Int) ≤ (b : Int) := by omega
              have a0 : (0 : Int) ≤ (a : Int) := by omega
              go_wp2_with fail
              go_region
              have HA3 := hide (unhide HA2 (bits BinOp.xor IntKind.i64 v 1))
              have HB3 := hide (unhide HB2 (bits BinOp.xor IntKind.i64 v 1))
              clear c1 cl fl HA2 HB2
              generalize (wr.setCell ⟨xab, b, none⟩ (.int .i64 (bits BinOp.xor IntKind.i64 v 1))).drew = W5 at HA3 HB3 ⊢
              go_wp2_with fail
              go_roundg (nn - (b + 1))
              case measure => omega
              case rel => exact ⟨b + 1, by go_num, by omega, by omega, HA3, HB3⟩
            · have hbz : ¬ (b : Int) < (nn : Int) := by omega
              go_wp2_with fail
              go_roundg (N - (a + 1))
              case measure => omega
              case rel => exact ⟨a + 1, E, by go_num, by omega, by omega, HA, HT1, HB⟩
    · have haz : ¬ (a : Int) < (N : Int) := by omega
      obtain rfl : a = N := by omega
      clear hlt haz hga ha c0
      go_wp2_with fail
      go_loopg [11, 12] (a / 2) (fun gq vi _ wr => ∃ (i : Nat) (zs : List Lf), vi = .int .i64 i ∧ i ≤ a / 2 ∧ a / 2 - i ≤ gq ∧ Hid (zs.Perm xs) ∧ Hid (Aw lo lg lgc m1 m2 pb pc E q1 zs wr) ∧ Hid (Bk lo w wr))
      case atStart => exact ⟨0, xs, by go_num, by omega, by omega, hide (List.Perm.refl _), HA, HB⟩
      case round =>
        clear HA HB
        obtain ⟨i, zs, rfl, hi, hg, HP, HA, HB⟩ := hrel
        have hzl : zs.length = a := by rw [unhide HN]; exact (unhide HP).length_eq
        by_cases hlt : i < a / 2
        · have hltz : (i : Int) < (a : Int) / 2 := by omega
          have hne : xs ≠ [] := fun e => by
            have := unhide HN
            rw [e] at this
            simp at this
            omega
          have HA2 := hide ((unhide HA).swap ((unhide HX).pb hne) (i := i) (j := a - 1 - i) (by omega) (by omega)).drew
          have HP2 := hide ((swap_perm zs i (a - 1 - i) (by omega) (by omega)).trans (unhide HP))
          have HB2 := hide (show Bk lo w (fput (fput wr pb i zs[a - 1 - i]) pb (a - 1 - i) zs[i]) from by
            obtain ⟨c, h1, h2, _⟩ := ownsRow_blk (unhide HA).p (g := pb) rfl
            obtain ⟨k1, c2, k2⟩ := put3_bk (unhide HB) h1 i h2 (.string (ba zs[a - 1 - i].f.nm)) (.slice (some ⟨zs[a - 1 - i].lb, 0, none⟩) zs[a - 1 - i].f.ls.length zs[a - 1 - i].lc) (.slice (some ⟨zs[a - 1 - i].ab, 0, none⟩) zs[a - 1 - i].f.ns.length zs[a - 1 - i].ac)
            exact (put3_bk k1 k2 (a - 1 - i) h2 (.string (ba zs[i].f.nm)) (.slice (some ⟨zs[i].lb, 0, none⟩) zs[i].f.ls.length zs[i].lc) (.slice (some ⟨zs[i].ab, 0, none⟩) zs[i].f.ns.length zs[i].ac)).1).drew
          obtain ⟨c1, c2, c3, fz⟩ := (unhide HA).at (i := i) (by omega)
          obtain ⟨d1, d2, d3, _⟩ := (unhide HA).at (i := a - 1 - i) (by omega)
          have f1 := fz (i * 3)
          have f2 := fz (i * 3 + 1)
          have f3 := fz (i * 3 + 2)
          have g1 := fz ((a - 1 - i) * 3)
          have g2 := fz ((a - 1 - i) * 3 + 1)
          have g3 := fz ((a - 1 - i) * 3 + 2)
          have pc : (0 : Int) ≤ (a : Int) - 1 - (i : Int) := by omega
          have bc : (a : Int) - 1 - (i : Int) < (a : Int) := by omega
          have aa : (i : Int) < (a : Int) := by omega
          have a0 : (0 : Int) ≤ (i : Int) := by omega
          clear HA fz
          go_wp2_with fail
          go_big_region
          go_wp2_with fail
          go_roundg (a / 2 - (i + 1))
          case measure => omega
          case rel => exact ⟨i + 1, _, by go_num, by omega, by omega, HP2, HA2, HB2⟩
        · have hgez : ¬ (i : Int) < (a : Int) / 2 := by omega
          have HPZ := hide (par_of (G := fun x => E x.lb) (unhide HA).p (unhide HA).f)
          obtain ⟨p, p1, p2, p3⟩ := unhide HPZ
          rw [hzl] at p1 p2
          have HBP := hide (show ∀ f ∈ p, Bp f from fun f hf => by
            obtain ⟨j, hj⟩ := List.getElem?_of_mem hf
            have hjl := (List.getElem?_eq_some_iff.1 hj).1
            obtain ⟨x, hx⟩ : ∃ x, zs[j]? = some x := ⟨_, List.getElem?_eq_getElem (by omega)⟩
            obtain ⟨e1, e2, e3⟩ := p3 j x f hx hj
            have hxm := (unhide HP).mem_iff.1 (List.mem_of_getElem? hx)
            obtain ⟨j2, hj2⟩ := List.getElem?_of_mem hxm
            obtain ⟨t1, t2⟩ := unhide HT j2 x hj2
            obtain ⟨z1, z2, z3, z4, z5⟩ := unhide HF x hxm
            refine ⟨by rw [e1]; exact z1, by rw [e2, t1]; exact z2, by rw [e3]; exact z3, ?_⟩
            rw [e2]
            have := jn_le3 x.f.ls (E x.lb) t1 fun i l l0 h1 h2 => by
              have := t2 i l l0 h1 h2
              split at this <;> omega
            omega)
          have HPP := hide p2
          have hpl : p.length ≤ 16777216 := by omega
          have cT := hide (twin_one p a p1 _ wr hpl (fun f hf => ⟨by have := (unhide HBP f hf).2.1; omega, by have := (unhide HBP f hf).2.2.1; omega⟩) p2)
          have cG := hide (fun W (h : ParZ W (.slice (some ⟨pb, 0, none⟩) a pc) p) => Get_N p a p1 _ _ n W h (by omega) (by omega) (unhide HBP))
          have cR := hide (fun W na nc (h : ParZ W (.slice na a nc) p) => rGet_N p a p1 na nc n W h (by omega) (by omega) (unhide HBP))
          have HFB := hide (getR_bp (n := n) (unhide HBP))
          have HPL := hide p1
          clear p1 p2 p3 HPZ hpl HF HT hlt hg hi
          go_upto_region 19 with (go_at_call 19; refine (unhide cT).mono ?_; rintro x1 w1 ⟨g1, o1, uc, na, nc, rfl, hc1, hp1, hb1⟩; have T1 := hide (And.intro hp1 hb1); clear hp1 hb1)
          clear hc1 cT
          go_upto_region 20 with (go_at_call 5; refine (unhide cG _ ((unhide HPP).later (unhide T1).2)).mono ?_; rintro x2 w2 ⟨fa, fc, fb, fd, rfl, ho2, hb2⟩; have T2 := hide (And.intro ho2 hb2); clear ho2 hb2)
          generalize getR p n = gr at *
          obtain ⟨f, ok⟩ := gr
          simp only at T2 cR HFB ⊢
          have T3 := hide (show Below wr.heap.size wr (w2.alloc (.cells #[.string (ba f.nm), .slice fa f.ls.length fc, .slice fb f.ns.length fd] 30)) ∧ Cl (w2.alloc (.cells #[.string (ba f.nm), .slice fa f.ls.length fc, .slice fb f.ns.length fd] 30)) fa (strs f.ls) ∧ Cl (w2.alloc (.cells #[.string (ba f.nm), .slice fa f.ls.length fc, .slice fb f.ns.length fd] 30)) fb (intz f.ns) ∧ f.ls.length ≤ fc ∧ ParZ (w2.alloc (.cells #[.string (ba f.nm), .slice fa f.ls.length fc, .slice fb f.ns.length fd] 30)) (.slice na a nc) p from ⟨bl_t (bl_t (unhide T1).2 (unhide T2).2) (al _ _), (own_two (unhide T2).1.1).2.later (al _ _), (own_two (unhide T2).1.2).2.later (al _ _), (own_two (unhide T2).1.1).1, ((unhide T1).1.later (unhide T2).2).later (al _ _)⟩)
          have hb1 := hp_new w2 (.cells #[.string (ba f.nm), .slice fa f.ls.length fc, .slice fb f.ns.length fd] 30)
          have HV1 := hide hb1
          clear hb1 T1 T2 cG
          generalize w2.alloc (.cells #[.string (ba f.nm), .slice fa f.ls.length fc, .slice fb f.ns.length fd] 30) = W2 at *
          generalize w2.heap.size = r1 at *
          go_upto_region 21 with (go_at_call 6; refine (unhide cR _ _ _ (unhide T3).2.2.2.2).mono ?_; rintro x3 w3 ⟨ga, gc, gb, gd, rfl, hcap, hg1, hg2, hb3⟩; have T4 := hide (show Below W2.heap.size W2 w3 ∧ f.ls.length ≤ gc ∧ Cl w3 ga (strs f.ls) ∧ Cl w3 gb (intz f.ns) from ⟨hb3, hcap, hg1, hg2⟩); clear hcap hg1 hg2 hb3)
          have HV2 := hide (hp_new w3 (.cells #[.string (ba f.nm), .slice ga f.ls.length gc, .slice gb f.ns.length gd] 30))
          have T5 := hide (show Below W2.heap.size W2 (w3.alloc (.cells #[.string (ba f.nm), .slice ga f.ls.length gc, .slice gb f.ns.length gd] 30)) ∧ Cl (w3.alloc (.cells #[.string (ba f.nm), .slice ga f.ls.length gc, .slice gb f.ns.length gd] 30)) ga (strs f.ls) ∧ Cl (w3.alloc (.cells #[.string (ba f.nm), .slice ga f.ls.length gc, .slice gb f.ns.length gd] 30)) gb (intz f.ns) ∧ f.ls.length ≤ gc from ⟨bl_t (unhide T4).1 (al _ _), (unhide T4).2.2.1.later (al _ _), (unhide T4).2.2.2.later (al _ _), (unhide T4).2.1⟩)
          clear T4 cR
          generalize w3.alloc (.cells #[.string (ba f.nm), .slice ga f.ls.length gc, .slice gb f.ns.length gd] 30) = W3 at *
          generalize w3.heap.size = r2 at *
          have HV3 := hide (((unhide T5).1.block _ (blk_lt (unhide HV1))).trans (unhide HV1))
          have v10 := (cell_blk (unhide HV3) 0).1
          have v11 := (cell_blk (unhide HV3) 1).1
          have v12 := (cell_blk (unhide HV3) 2).1
          have v20 := (cell_blk (unhide HV2) 0).1
          have v21 := (cell_blk (unhide HV2) 1).1
          have v22 := (cell_blk (unhide HV2) 2).1
          have hok : (ok != ok) = false := by cases ok <;> rfl
          have cA := hide (alike_fg f W3 (lc := fc) (nc := fd) (ld := gc) (nd := gd) ⟨by have := (unhide HFB).2.1; omega, by have := (unhide HFB).2.2.1; omega⟩ (unhide T3).2.2.2.1 (unhide T5).2.2.2 ((unhide T3).2.1.later (unhide T5).1) ((unhide T3).2.2.1.later (unhide T5).1) (unhide T5).2.1 (unhide T5).2.2.1)
          go_upto_region 23 with (go_at_call 7; go_must (refine (unhide cA).mono ?_); rintro x5 w5 ⟨rfl, hb5⟩; have T6 := hide (show Below wr.heap.size wr w5 ∧ ParZ w5 (.slice na a nc) p from ⟨bl_t (bl_t (unhide T3).1 (unhide T5).1) hb5, ((unhide T3).2.2.2.2.later (unhide T5).1).later hb5⟩); clear hb5)
          clear v10 v11 v12 v20 v21 v22 hok cA HV1 HV2 HV3 T3 T5 HFB
          have HP5 := hide ((unhide HPP).later (unhide T6).1)
          have HN5 := hide (unhide T6).2
          go_wp2_with fail
          go_loopg [18] a (fun gq vi wr => ∃ (i : Nat), vi = .int .i64 i ∧ i ≤ a ∧ a - i ≤ gq ∧ Hid (Below w5.heap.size w5 wr))
          case atStart => exact ⟨0, by go_num, by omega, by omega, hide (Below.refl _ _)⟩
          case round =>
            obtain ⟨j, rfl, hj, hgj, HBj⟩ := hrel
            by_cases hlj : j < a
            · have hjz : (j : Int) < (a : Int) := by omega
              obtain ⟨f, hf⟩ : ∃ f, p[j]? = some f := ⟨_, List.getElem?_eq_getElem (by have := unhide HPL; omega)⟩
              obtain ⟨z1, z2, z3, z4⟩ := unhide HBP f (List.mem_of_getElem? hf)
              obtain ⟨pa1, pc1, e1, _, h1a⟩ := (unhide HP5).later (unhide HBj)
              obtain ⟨pa2, pc2, e2, _, h2a⟩ := (unhide HN5).later (unhide HBj)
              obtain ⟨g1', o1', e3, h1b⟩ := h1a (by have := unhide HPL; omega)
              obtain ⟨g2', o2', e4, h2b⟩ := h2a (by have := unhide HPL; omega)
              have h1c := h1b j f hf
              have h2c := h2b j f hf
              clear h1a h2a h1b h2b
              cases e1
              cases e3
              cases e2
              subst e4
              rw [Nat.zero_add] at h1c
              obtain ⟨la, lc, c11, k11, C11⟩ := h1c.ls
              obtain ⟨na1, nc1, c12, C12⟩ := h1c.ns
              have c10 := h1c.nm
              obtain ⟨lb, ld, c21, k21, C21⟩ := h2c.ls
              obtain ⟨nb1, nd1, c22, C22⟩ := h2c.ns
              have c20 := h2c.nm
              have HK := hide (show ∀ W', Below wr.heap.size wr W' → Below wr.heap.size wr W' ∧ W'.cell? ⟨pb, j * 3, none⟩ = some (.string (ba f.nm)) ∧ W'.cell? ⟨pb, j * 3 + 1, none⟩ = some (.slice la f.ls.length lc) ∧ W'.cell? ⟨pb, j * 3 + 2, none⟩ = some (.slice na1 f.ns.length nc1) ∧ W'.cell? ⟨g2', o2' + j * 3, none⟩ = some (.string (ba f.nm)) ∧ W'.cell? ⟨g2', o2' + j * 3 + 1, none⟩ = some (.slice lb f.ls.length ld) ∧ W'.cell? ⟨g2', o2' + j * 3 + 2, none⟩ = some (.slice nb1 f.ns.length nd1) from fun W' hb => ⟨hb, cell_later c10 hb, cell_later c11 hb, cell_later c12 hb, cell_later c20 hb, cell_later c21 hb, cell_later c22 hb⟩)
              have hw1 : (wds f.ls).length ≤ 16777216 := by have := wordsB_len (Lib.join f.ls [10]) []; unfold wds; omega
              have HCL := hide (And.intro C11 (And.intro C12 (And.intro C21 C22)))
              have cJ := hide (fun W' (hb : Below wr.heap.size wr W') => Joined_any (ba f.nm) (.slice na1 f.ns.length nc1) f.ls la lc W' (by omega) k11 (by omega) ((unhide HCL).1.later hb))
              have cJr := hide (fun W' (hb : Below wr.heap.size wr W') => rJoined_any (ba f.nm) (.slice nb1 f.ns.length nd1) f.ls lb ld W' (by omega) (by omega) ((unhide HCL).2.2.1.later hb))
              have cW := hide (fun W' (hb : Below wr.heap.size wr W') => Words_any (ba f.nm) (.slice na1 f.ns.length nc1) f.ls la lc W' (by omega) k11 (by omega) ((unhide HCL).1.later hb))
              have cWr := hide (fun W' (hb : Below wr.heap.size wr W') => rWords_any (ba f.nm) (.slice nb1 f.ns.length nd1) f.ls lb ld W' (by omega) (by omega) ((unhide HCL).2.2.1.later hb))
              have cL := hide (fun W' (hb : Below wr.heap.size wr W') => Line_any (ba f.nm) (.slice la f.ls.length lc) f.ns na1 nc1 k W' (by omega) ((unhide HCL).2.1.later hb))
              have cLr := hide (fun W' (hb : Below wr.heap.size wr W') => rLine_any (ba f.nm) (.slice lb f.ls.length ld) f.ns nb1 nd1 k W' (by omega) ((unhide HCL).2.2.2.later hb))
              have q1' : ((ba (Lib.join f.ls [10])).toList != (ba (Lib.join f.ls [10])).toList) = false := by simp
              have q2' : (lineZ f.ns k != lineZ f.ns k) = false := by simp
              have j0 : (0 : Int) ≤ (j : Int) := by omega
              clear h1c h2c hf z1 z2 z3 z4 k11 k21 C11 C12 C21 C22 HCL
              generalize Lib.join f.ls [10] = JJ at *
              generalize lineZ f.ns k = LL at *
              generalize wds f.ls = WW at *
              generalize f.ls.length = fl at *
              generalize f.ns.length = fn at *
              generalize ba f.nm = fnm at *
              go_wp2_with fail
              go_region_held3 (fun W' => Below wr.heap.size wr W' ∧ W'.cell? ⟨pb, j * 3, none⟩ = some (.string fnm) ∧ W'.cell? ⟨pb, j * 3 + 1, none⟩ = some (.slice la fl lc) ∧ W'.cell? ⟨pb, j * 3 + 2, none⟩ = some (.slice na1 fn nc1) ∧ W'.cell? ⟨g2', o2' + j * 3, none⟩ = some (.string fnm) ∧ W'.cell? ⟨g2', o2' + j * 3 + 1, none⟩ = some (.slice lb fl ld) ∧ W'.cell? ⟨g2', o2' + j * 3 + 2, none⟩ = some (.slice nb1 fn nd1)) (with_reducible first | exact unhide HK _ (unhide B7) | exact unhide HK _ (unhide B6) | exact unhide HK _ (unhide B5) | exact unhide HK _ (unhide B4) | exact unhide HK _ (unhide B3) | exact unhide HK _ (unhide B2) | exact unhide HK _ (unhide B1) | exact unhide HK _ ((Below.refl _ _).drew) | exact unhide HK _ (Below.refl _ _)) (first | (go_at_call 11; refine (unhide cJ _ (And.left (by with_reducible assumption))).mono ?_; rintro x1 v1 ⟨rfl, hb1⟩; have B1 := hide (bl_t (And.left (by with_reducible assumption)) hb1); clear hb1) | (go_at_call 12; refine (unhide cJr _ (And.left (by with_reducible assumption))).mono ?_; rintro x2 v2 ⟨rfl, hb2⟩; have B2 := hide (bl_t (And.left (by with_reducible assumption)) hb2); clear hb2) | (go_at_call 9; refine (unhide cW _ (And.left (by with_reducible assumption))).mono ?_; rintro x3 v3 ⟨A3, rfl, ho3, hb3⟩; have B3 := hide (bl_t (And.left (by with_reducible assumption)) hb3); have R3 := hide (own_two ho3).2; clear hb3 ho3) | (go_at_call 10; refine (unhide cWr _ (And.left (by with_reducible assumption))).mono ?_; rintro x4 v4 ⟨l4, rfl, ho4, hb4⟩; have B4 := hide (bl_t (And.left (by with_reducible assumption)) hb4); obtain ⟨a4, c4, e4, _, hcl4⟩ := own_cap ho4; subst e4; have R4 := hide (And.intro ((unhide R3).later hb4) hcl4); clear hb4 ho4 hcl4) | (go_at_call 13; refine (texts_same WW _ _ _ _ _ hw1 (unhide R4).1 (unhide R4).2).mono ?_; rintro x5 v5 ⟨rfl, hb5⟩; have B5 := hide (bl_t (unhide B4) hb5); clear hb5) | (go_at_call 14; refine (unhide cL _ (And.left (by with_reducible assumption))).mono ?_; rintro x6 v6 ⟨rfl, hb6⟩; have B6 := hide (bl_t (And.left (by with_reducible assumption)) hb6); clear hb6) | (go_at_call 15; refine (unhide cLr _ (And.left (by with_reducible assumption))).mono ?_; rintro x7 v7 ⟨rfl, hb7⟩; have B7 := hide (bl_t (And.left (by with_reducible assumption)) hb7); clear hb7))
              clear HK cJ cJr cW cWr cL cLr c10 c11 c12 c20 c21 c22
              go_wp2_with fail
              go_roundg (p.length - (j + 1))
              case measure => omega
              case rel => exact ⟨j + 1, by go_num, by omega, by omega, hide (bl_t (unhide HBj) (unhide B7))⟩
            · have hjz : ¬ (j : Int) < (a : Int) := by omega
              go_wp2_with fail
              go_ret
              exact ⟨rfl, ⟨E, zs, unhide HP, (unhide HA).later (bl_t (unhide T6).1 (unhide HBj))⟩, (unhide HB).later (bl_t (unhide T6).1 (unhide HBj)) (Nat.le_trans hlo (unhide HB).size)⟩
end Go.Proofs.Ytohncccejlccbaa
