import Derived.Test.YtmckmeoondlcpaaDoorVmJ
namespace Go.Proofs.YtmckmeoondlcpaaDoor
open Go.RowKit

theorem stC (w : World) (g i : Nat) (a : Option Addr) (n c : Nat) (old : Value) (hc : w.cell? ⟨g, i, none⟩ = some old) (hz : w.frozen? ⟨g, i, none⟩ = false) :
    (storeVar 23 ⟨g, i, none⟩ (.slice a n c)).run Tryd.prog w = .ok () (w.setCell ⟨g, i, none⟩ (.slice a n c)) := by
  simp [go_sem, hc, hz]
theorem new_bkK {wr w2 w3 : World} {cs : List Value} (k2 : Below wr.heap.size wr w2) (b3 : BkP w3 wr.heap.size cs) (k3 : ∀ B, B ≤ wr.heap.size → Below B w2 w3) : Hid (Below wr.heap.size wr w3) ∧ Hid (BkP w3 wr.heap.size cs) :=
  ⟨hide (k2.trans (k3 _ (Nat.le_refl _))), hide b3⟩

theorem Lcl.put {base G : Nat} {W W' : World} {M : Nat} {cl : List (List At)} (h : Lcl base W M cl) (hG : G < M) (o : ∀ k, k ≠ G → W'.heap[k]? = W.heap[k]?) (z : W'.heap.size = W.heap.size) : Lcl base W' M cl :=
  h.of (fun D hD => cell_heap (o D (by omega))) (fun D hD => frozen_heap (o D (by omega))) (by omega)
theorem Mk1.put {G : Nat} {W W' : World} {C : Nat} {al : List At} (h : Mk1 W C al) (hG : G < C) (o : ∀ k, k ≠ G → W'.heap[k]? = W.heap[k]?) (z : W'.heap.size = W.heap.size) : Mk1 W' C al :=
  h.of (cell_heap (o C (by omega))) (frozen_heap (o C (by omega))) (by omega)
theorem Blk.set {G : Nat} {W W' : World} {B n : Nat} {cs : List Value} (h : Blk W B cs n) (hG : G < B) (o : ∀ k, k ≠ G → W'.heap[k]? = W.heap[k]?) (z : W'.heap.size = W.heap.size) : Blk W' B cs n :=
  h.of (cell_heap (o B (by omega))) (frozen_heap (o B (by omega))) (by omega)
theorem Lcl.base {b b' : Nat} {W : World} {M : Nat} {cl : List (List At)} (h : Lcl b W M cl) (hb : b' ≤ M) : Lcl b' W M cl := ⟨⟨h.row.row, h.row.spot, h.row.fr, h.row.lt, hb⟩, h.last⟩
theorem strs_step (pl : List ByteArray) (x : Value) (X : World) (h : Strs X x pl) : ∃ v' W, (Builtin.copy_ #[34, 34] 3 #[.slice (some ⟨X.heap.size, 0, none⟩) (pl.length + 1) (pl.length + 1), x]).run Tryd.prog (X.alloc (.cells (madeCells #[.string ⟨#[]⟩] (pl.length + 1)) 9)) = .ok v' W ∧ Hid (Blk W X.heap.size (pl.map .string) (pl.length + 1)) ∧ Hid (Below X.heap.size X W) ∧ (∃ z, W.cell? ⟨X.heap.size, pl.length, none⟩ = some z) ∧ W.frozen? ⟨X.heap.size, pl.length, none⟩ = false := by
  have hb := (Below.refl X.heap.size X).alloc (Nat.le_refl _) (.cells (madeCells #[.string ⟨#[]⟩] (pl.length + 1)) 9)
  obtain ⟨v', hv⟩ := copy_strs pl x 3 X.heap.size (pl.length + 1) (X.alloc (.cells (madeCells #[.string ⟨#[]⟩] (pl.length + 1)) 9)) (h.later hb) (fun j hj => by rw [World.cell?_alloc_at _ _ _ _ rfl]; exact made_some _ _ _ (by omega)) (fun j => by rw [World.frozen?_alloc_at _ _ _ _ rfl])
  have hk := blk_of X #[.string ⟨#[]⟩] (pl.length + 1) 9 (pl.map .string) (by simp)
  exact ⟨v', _, hv, hide hk, hide (below_setCells _ (Nat.le_refl _) _ _ _ hb), Option.isSome_iff_exists.1 (hk.spot _ (by omega)), hk.fr _⟩
theorem fls_step (zf : Array Value) (fs : List (List Value)) (x : Value) (X : World) (h : Fls X x fs) (hf : ∀ r ∈ fs, isF r) : ∃ v' W, (Builtin.copy_ #[35, 35] 3 #[.slice (some ⟨X.heap.size, 0, none⟩) (fs.length + 1) (fs.length + 1), x]).run Tryd.prog (X.alloc (.cells (madeCells zf ((fs.length + 1) * 34)) 40)) = .ok v' W ∧ Hid (Blk W X.heap.size fs.flatten ((fs.length + 1) * 34)) ∧ Hid (Below X.heap.size X W) ∧ Hid (W.there X.heap.size (fs.length * 34) 34) := by
  have hb := (Below.refl X.heap.size X).alloc (Nat.le_refl _) (.cells (madeCells zf ((fs.length + 1) * 34)) 40)
  obtain ⟨v', hv⟩ := copy_files fs x 3 X.heap.size (fs.length + 1) (X.alloc (.cells (madeCells zf ((fs.length + 1) * 34)) 40)) (h.later hb) (fun j hj => by rw [World.cell?_alloc_at _ _ _ _ rfl]; exact made_some _ _ _ (by omega)) (fun j => by rw [World.frozen?_alloc_at _ _ _ _ rfl])
  have hk := blk_of X zf ((fs.length + 1) * 34) 40 fs.flatten (by rw [flat_lenm 34 fs (fun r hr => (hf r hr).1)]; omega)
  exact ⟨v', _, hv, hide hk, hide (below_setCells _ (Nat.le_refl _) _ _ _ hb), hide (fun j hj => ⟨hk.spot _ (by omega), hk.fr _⟩)⟩
/-- TEXTS: THE MARK LAID. -/
theorem strs_mark {wr X W : World} {pl : List ByteArray} {l : List Value} (K : Below wr.heap.size wr X) (B : BkP X wr.heap.size l) (hk : Blk W X.heap.size (pl.map .string) (pl.length + 1)) (hb : Below X.heap.size X W) :
    Hid (Below wr.heap.size wr W) ∧ Hid (Below wr.heap.size wr (W.setCell ⟨X.heap.size, pl.length, none⟩ (.string ⟨#[77, 65, 82, 75]⟩))) ∧ Hid (Below X.heap.size X (W.setCell ⟨X.heap.size, pl.length, none⟩ (.string ⟨#[77, 65, 82, 75]⟩))) ∧ Hid (BkP (W.setCell ⟨X.heap.size, pl.length, none⟩ (.string ⟨#[77, 65, 82, 75]⟩)) wr.heap.size l) ∧ Hid (Blk (W.setCell ⟨X.heap.size, pl.length, none⟩ (.string ⟨#[77, 65, 82, 75]⟩)) X.heap.size (pl.map .string ++ [.string ⟨#[77, 65, 82, 75]⟩]) (pl.length + 1)) := by
  have hb2 := hb.setCell (p := ⟨X.heap.size, pl.length, none⟩) (Nat.le_refl _) (.string ⟨#[77, 65, 82, 75]⟩)
  exact ⟨hide (bl_t K hb), hide (bl_t K hb2), hide hb2, hide (B.later hb2), hide hk.markS⟩
section
variable {ops : Array Oper} {rest : List Oper} {o : Oper} {a : Act} {w : World} {Q : Exit → Act → World → Prop}
theorem p_storef' (x y : Operand) (ho : o.op = .store 40 x y) (hw : Region.wanted o (yielded ops a.tmps) = true) (b off : Nat) (hx : a.eval x = .pointer (some ⟨b, off, none⟩)) (l : List Value) (hy : a.eval y = .agg l.toArray) (ht : w.there b off 34) (hl : l.length = 34) (h1 : l.all (fun x => x.oneCell') = true) (h0 : l[0]? = some (.string ⟨#[77, 65, 82, 75]⟩))
    (h : ∀ w2, (∃ ms : List Value, w2 = w.setCells b off ms ∧ ms.length = 34 ∧ ms[0]? = some (.string ⟨#[77, 65, 82, 75]⟩)) → wpList Tryd.prog ops Q rest (a.put o.dst undef) w2) : wpList Tryd.prog ops Q (o :: rest) a w :=
  p_storef x y ho hw b off hx l hy hl (List.all_eq_true.1 h1) ht (h _ ⟨l, rfl, hl, h0⟩)
theorem p_storem' (x y : Operand) (ho : o.op = .store 38 x y) (hw : Region.wanted o (yielded ops a.tmps) = true) (b off : Nat) (hx : a.eval x = .pointer (some ⟨b, off, none⟩)) (l : List Value) (hy : a.eval y = .agg l.toArray) (ht : w.there b off 43) (hl : l.length = 43) (h1 : l.all (fun x => x.oneCell') = true) (h0 : l[0]? = some (.string ⟨#[77, 65, 82, 75]⟩))
    (h : ∀ w2, (∃ ms : List Value, w2 = w.setCells b off ms ∧ ms.length = 43 ∧ ms[0]? = some (.string ⟨#[77, 65, 82, 75]⟩)) → wpList Tryd.prog ops Q rest (a.put o.dst undef) w2) : wpList Tryd.prog ops Q (o :: rest) a w :=
  p_storem x y ho hw b off hx l hy hl (List.all_eq_true.1 h1) ht (h _ ⟨l, rfl, hl, h0⟩)
end
theorem fls_mark {wr X W w2 : World} {fs : List (List Value)} {l : List Value} (hf : ∀ r ∈ fs, isF r) (K : Below wr.heap.size wr X) (B : BkP X wr.heap.size l) (hk : Blk W X.heap.size fs.flatten ((fs.length + 1) * 34)) (hb : Below X.heap.size X W) (hw : ∃ ms : List Value, w2 = W.setCells X.heap.size (fs.length * 34) ms ∧ ms.length = 34 ∧ ms[0]? = some (.string ⟨#[77, 65, 82, 75]⟩)) :
    Hid (Below wr.heap.size wr w2) ∧ Hid (Below X.heap.size X w2) ∧ Hid (BkP w2 wr.heap.size l) ∧ Hid (Blk w2 X.heap.size (fs.flatten ++ [.string ⟨#[77, 65, 82, 75]⟩]) ((fs.length + 1) * 34)) := by
  obtain ⟨ms, rfl, h1, h2⟩ := hw
  have hb2 := below_setCells X.heap.size (Nat.le_refl _) ms (fs.length * 34) W hb
  exact ⟨hide (bl_t K hb2), hide hb2, hide (B.later hb2), hide (hk.markF hf ms h1 h2)⟩

set_option maxRecDepth 100000 in
set_option maxHeartbeats 8000000 in
theorem lent_any (ps : List Pk) (v : Value) (w : World) (hl : ps.length ≤ 606627104962) (hz : ∀ p ∈ ps, PkZ p) (h1 : Pkl w v ps) :
    Calls Tryd.prog 4 #[v] w fun e w' => e = .returned (.slice (some ⟨w.heap.size, 0, none⟩) ps.length (ps.length + 1)) ∧ Below w.heap.size w w' ∧ Lps w.heap.size w' w.heap.size ps := by
  obtain ⟨va, vc, rfl, hv⟩ := h1
  have HV := hide hv
  have HZ := hide hz
  obtain ⟨zq, hmq⟩ := makeQ
  have mkQ := hmq ps.length hl
  have HR := hide (prow_of w zq 38 ps)
  have HB := hide ((Below.refl w.heap.size w).alloc (Nat.le_refl _) (.cells (madeCells zq ((ps.length + 1) * 43)) 38))
  clear hv hz hmq
  obtain ⟨N, hN⟩ : ∃ N, ps.length = N := ⟨_, rfl⟩
  rw [hN] at hl mkQ HR HB ⊢
  have HN := hide hN
  clear hN
  go_enter Tryd.func4, Tryd.ntmps4
  go_wp2_with fail
  obtain ⟨M, hM⟩ : ∃ M, w.heap.size = M := ⟨_, rfl⟩
  rw [hM] at HR ⊢
  generalize w.alloc (.cells (madeCells zq ((N + 1) * 43)) 38) = W0 at *
  clear mkQ
  have HM := hide hM
  clear hM
  go_loopg [4, 5, 6, 7, 8] N (fun gq vi _ _ _ _ wr => ∃ i : Nat, vi = .int .i64 i ∧ i ≤ N ∧ N - i ≤ gq ∧ Hid (Below w.heap.size w wr) ∧ Hid (PRow M wr M ps i))
  case atStart => exact ⟨0, by go_num, by omega, by omega, HB, HR⟩
  case round =>
    clear HB HR
    obtain ⟨i, rfl, hi, hg, HB, HR⟩ := hrel
    by_cases hlt : i < N
    · have hiz : (i : Int) < (N : Int) := by omega
      obtain ⟨b1, o1, rfl, g0, hc1⟩ := unhide HV (by have := unhide HN; omega)
      obtain ⟨p, hp⟩ : ∃ p, ps[i]? = some p := ⟨_, List.getElem?_eq_getElem (by have := unhide HN; omega)⟩
      have hz := unhide HZ p (List.mem_of_getElem? hp)
      obtain ⟨cs, d, r, c, v, f, k1, kc, kl⟩ := hc1 i p hp
      obtain ⟨pa, pc, rfl⟩ : ∃ a c, v = .slice a p.pv.length c := let ⟨a, c, e, _⟩ := kl.vl; ⟨a, c, e⟩
      obtain ⟨fa, fc, rfl⟩ : ∃ a c, f = .slice a p.fs.length c := let ⟨a, c, e, _⟩ := kl.fl; ⟨a, c, e⟩
      obtain ⟨ca, cc, rfl⟩ : ∃ a n, c = .slice a p.cf.length n := let ⟨a, n, e, _⟩ := kl.cl; ⟨a, n, e⟩
      have RS := hide (fun (X : World) (hb : Below wr.heap.size wr X) (j : Nat) (x : Value) (hx : cs[j]? = some x) => rangeAt_later k1 g0 (bl_t (unhide HB) hb) j x hx)
      have R0 := hide (rangeAt_later k1 g0 (unhide HB))
      have LX := hide (fun (X : World) (hb : Below wr.heap.size wr X) => kl.later (bl_t (unhide HB) hb))
      have HP := hide hp
      have C1 := hide kc
      have HZp := hide hz
      have LD := hide (fun (X : World) (hb : Below wr.heap.size wr X) => lentClauses_any p.dp d X hz.dl hz.dls (unhide LX X hb).dl)
      have LR := hide (fun (X : World) (hb : Below wr.heap.size wr X) => lentClauses_any p.pr r X hz.rl hz.rls (unhide LX X hb).rl)
      have LC := hide (fun (X : World) (hb : Below wr.heap.size wr X) (x : Nat) (hx : X.cell? ⟨x, 0, none⟩ = some (.slice ca p.cf.length cc)) (lx : x < X.heap.size) => lentClauses_any [p.cf] (.slice (some ⟨x, 0, none⟩) 1 1) X (by simp) (fun al h => by have := hz.cl; simp at h; subst h; omega) (cls_one hx lx (unhide LX X hb).cl))
      clear hc1 k1 kc kl hp hz
      have i0 : (0 : Int) ≤ (i : Int) := by omega
      go_wp2_with (first
        | (with_reducible refine p_loadm _ rfl rfl b1 (o1 + i * 43) rfl cs (unhide R0) (unhide C1).len ?_)
        | (with_reducible refine p_alloc rfl rfl ?_; intro w2 zc b2 k2 z2)
        | ((with_reducible refine p_store _ _ rfl rfl wr.heap.size rfl cs rfl (unhide C1).len (unhide C1).one zc b2 ?_); intro w3 b3 o3 k3 z3; obtain ⟨K3, B3⟩ := new_bkK k2 b3 k3; have e3 := unhide RS w3 (unhide K3) 3 d (unhide C1).c3; clear b2 k2 b3 o3 k3; have h3 := (unhide B3).lt; clear z2 z3))
      refine (unhide LD w3 (unhide K3)).mono ?_
      rintro e w4 ⟨rfl, hb4, l4⟩
      have K4 := hide (bl_t (unhide K3) hb4)
      have B4 := hide ((unhide B3).later hb4)
      have HL4 := hide l4
      clear hb4 l4 e3 LD R0
      go_wp2_with (first
        | ((with_reducible refine p_set 26 _ _ rfl rfl wr.heap.size 3 rfl _ (stL _ _ _ _ _ _) rfl rfl _ (unhide B4) (by omega) ?_); intro w5 b5 o5 k5 z5; obtain ⟨K5, B5⟩ := new_bkK (unhide K4) b5 k5; have e4 := unhide RS w5 (unhide K5) 4 r (unhide C1).c4; have Z5 := hide z5; clear z5))
      have HL5 := hide ((unhide HL4).put h3 o5 (unhide Z5))
      clear b5 o5 k5 HL4 K4 B4
      refine (unhide LR w5 (unhide K5)).mono ?_
      rintro e w6 ⟨rfl, hb6, l6⟩
      have K6 := hide (bl_t (unhide K5) hb6)
      have B6 := hide ((unhide B5).later hb6)
      have HD6 := hide ((unhide HL5).later hb6)
      have HR6 := hide l6
      have h5 : wr.heap.size < w5.heap.size := (unhide B5).lt
      clear hb6 l6 e4 LR Z5 HL5 B5 K5
      go_wp2_with (first
        | ((with_reducible refine p_set 26 _ _ rfl rfl wr.heap.size 4 rfl _ (stL _ _ _ _ _ _) rfl rfl _ (unhide B6) (by omega) ?_); intro w7 b7 o7 k7 z7; obtain ⟨K7, B7⟩ := new_bkK (unhide K6) b7 k7; have e5 := unhide RS w7 (unhide K7) 5 _ (unhide C1).c5; have Z7 := hide z7; clear z7))
      have HD7 := hide ((unhide HD6).put h3 o7 (unhide Z7))
      have HR7 := hide ((unhide HR6).put h5 o7 (unhide Z7))
      clear b7 o7 k7 Z7 HD6 HR6 K6 B6 e5
      obtain ⟨W8, hW8, m8, hlt8, hB8⟩ := pkgNew w7 [.slice ca p.cf.length cc] 24
      have hW8' : w7.alloc (Obj.cells #[Value.slice ca p.cf.length cc] 24) = W8 := hW8
      rw [hW8']
      have K8 := hide (bl_t (unhide K7) hB8)
      refine (unhide LC W8 (unhide K8) w7.heap.size (m8 0 _ rfl) hlt8).mono ?_
      rintro e w9 ⟨rfl, hb9, l9⟩
      obtain ⟨C, hC, m9, mk9⟩ := l9.row.row 0 p.cf (by simp) rfl
      have K9 := hide (bl_t (unhide K8) hb9)
      have h7 : wr.heap.size < w7.heap.size := (unhide B7).lt
      have hC2 : wr.heap.size < C := by have := hB8.size; omega
      have B9 := hide (((unhide B7).later hB8).later hb9)
      have HD9 := hide (((unhide HD7).later hB8).later hb9)
      have HR9 := hide (((unhide HR7).later hB8).later hb9)
      have HC9 := hide mk9
      have hf : ∀ x ∈ p.fs, isF x := fun x hx => by
        obtain ⟨k, hk, rfl⟩ := List.mem_iff_getElem.1 hx
        exact ((unhide LX wr (Below.refl _ _)).fl.at (List.getElem?_eq_getElem hk)).1
      have HF := hide hf
      have mkS := makeS p.pv.length (unhide HZp).vl
      obtain ⟨zf, hmf⟩ := makeG
      have mkG := hmf p.fs.length (unhide HZp).fl
      have SX := hide (fun (X : World) (hb : Below wr.heap.size wr X) => strs_step p.pv _ X (unhide LX X hb).vl)
      have FX := hide (fun (X : World) (hb : Below wr.heap.size wr X) => fls_step zf p.fs _ X (unhide LX X hb).fl hf)
      have GX := hide (fun (X : World) (hb : Below wr.heap.size wr X) => Nat.lt_of_lt_of_le g0 (bl_t (unhide HB) hb).size)
      have n1 : (p.pv.length : Int) ≤ (p.pv.length : Int) + 1 := by omega
      have n2 : (0 : Int) ≤ (p.pv.length : Int) := by omega
      have n3 : (p.pv.length : Int) < (p.pv.length : Int) + 1 := by omega
      have n4 : (p.fs.length : Int) ≤ (p.fs.length : Int) + 1 := by omega
      have n5 : (0 : Int) ≤ (p.fs.length : Int) := by omega
      have n6 : (p.fs.length : Int) < (p.fs.length : Int) + 1 := by omega
      have hiN : i ≤ ps.length := by have := unhide HN; omega
      have j4 : (i : Int) < (N : Int) + 1 := by omega
      have bv := (unhide HZp).vl
      have bf := (unhide HZp).fl
      clear hb9 hB8 hW8 hW8' m8 hlt8 l9 mk9 hf hmf HD7 HR7 B7 K7 K8 LC
      go_wp2_with (first
        | ((with_reducible refine p_set 23 _ _ rfl rfl wr.heap.size 5 rfl _ (stC _ _ _ _ _ _) rfl rfl _ (unhide B9) (by omega) ?_); intro w10 b10 o10 k10 z10; obtain ⟨K10, B10⟩ := new_bkK (unhide K9) b10 k10; have e6 := unhide RS w10 (unhide K10) 6 _ (unhide C1).c6; have g10 := unhide GX w10 (unhide K10); have Z10 := hide z10; clear z10; obtain ⟨v6, W12, hcp, HS12, HB12, ⟨zz, hzz⟩, hfz⟩ := unhide SX w10 (unhide K10); obtain ⟨K12, K13, KX13, B13, HS13⟩ := strs_mark (unhide K10) (unhide B10) (unhide HS12) (unhide HB12); have e6b := unhide RS W12 (unhide K12) 6 _ (unhide C1).c6; have e6c := unhide RS _ (unhide K13) 6 _ (unhide C1).c6)
        | ((with_reducible refine p_set 34 _ _ rfl rfl wr.heap.size 6 rfl _ (stS _ _ _ _ _ _) rfl rfl _ (unhide B13) (by omega) ?_); intro w14 b14 o14 k14 z14; obtain ⟨K14, B14⟩ := new_bkK (unhide K13) b14 k14; have e7 := unhide RS w14 (unhide K14) 7 _ (unhide C1).c7; have g14 := unhide GX w14 (unhide K14); have Z14 := hide z14; clear z14; obtain ⟨v7, W16, hcp2, HS16, HB16, ht16⟩ := unhide FX w14 (unhide K14); have K16 := hide (bl_t (unhide K14) (unhide HB16)); have e7b := unhide RS W16 (unhide K16) 7 _ (unhide C1).c7)
        | ((with_reducible refine p_storef' _ _ rfl rfl w14.heap.size (p.fs.length * 34) rfl _ rfl (unhide ht16) ?fa1 ?fa2 ?fa3 ?fa4); (case fa1 => rfl); (case fa2 => rfl); (case fa3 => rfl); intro w17 hw17; obtain ⟨K17, KX17, B17, HS17⟩ := fls_mark (unhide HF) (unhide K14) (unhide B14) (unhide HS16) (unhide HB16) hw17; clear hw17; have e7c := unhide RS w17 (unhide K17) 7 _ (unhide C1).c7)
        | ((with_reducible refine p_set 35 _ _ rfl rfl wr.heap.size 7 rfl _ (stG _ _ _ _ _ _) rfl rfl _ (unhide B17) (by omega) ?_); intro w18 b18 o18 k18 z18; obtain ⟨K18, B18⟩ := new_bkK (unhide K17) b18 k18; have Z18 := hide z18; clear z18; have HR18 := hide ((unhide HR).later (unhide K18)))
        | (with_reducible refine p_load _ rfl rfl wr.heap.size rfl _ (unhide B18) ?_)
        | (with_reducible refine p_storem _ _ rfl rfl M (i * 43) rfl _ rfl (unhide B18).len (unhide B18).one ((unhide HR18).there i hiN) ?_))
      have h10 : wr.heap.size < w10.heap.size := (unhide B10).lt
      have h14 : wr.heap.size < w14.heap.size := (unhide B14).lt
      have hMr := (unhide HR).lt
      have dl := (((((unhide HD9).put h3 o10 (unhide Z10)).later (unhide KX13)).put h3 o14 (unhide Z14)).later (unhide KX17)).put h3 o18 (unhide Z18)
      have rl := (((((unhide HR9).put h5 o10 (unhide Z10)).later (unhide KX13)).put h5 o14 (unhide Z14)).later (unhide KX17)).put h5 o18 (unhide Z18)
      have cl := (((((unhide HC9).put hC2 o10 (unhide Z10)).later (unhide KX13)).put hC2 o14 (unhide Z14)).later (unhide KX17)).put hC2 o18 (unhide Z18)
      have sl := (((unhide HS13).set h10 o14 (unhide Z14)).later (unhide KX17)).set h10 o18 (unhide Z18)
      have fl := (unhide HS17).set h14 o18 (unhide Z18)
      have HK := hide (show LPk w18 M p _ w3.heap.size w5.heap.size C w10.heap.size w14.heap.size from ⟨(unhide C1).lists rfl rfl rfl rfl rfl (unhide HZp).sl.1, dl.base (by omega), rl.base (by omega), cl, by omega, sl, by omega, fl, by omega, unhide HF⟩)
      have hMw : w.heap.size ≤ M := Nat.le_of_eq (unhide HM)
      go_roundg (N - (i + 1))
      case measure => omega
      case rel => exact ⟨i + 1, by go_num, by omega, by omega, hide (below_setCells M hMw _ _ _ (bl_t (unhide HB) (unhide K18))), hide ((unhide HR18).put (unhide HP) (unhide HK))⟩
    · obtain rfl : i = N := by omega
      have HT := hide ((unhide HR).there i (by have := unhide HN; omega))
      have i0 : (0 : Int) ≤ (i : Int) := by omega
      have j4 : (i : Int) < (i : Int) + 1 := by omega
      have j3 : (i : Int) ≤ (i : Int) + 1 := by omega
      go_wp2_with (first | ((with_reducible refine p_storem' _ _ rfl rfl M (i * 43) rfl _ rfl (unhide HT) ?ga1 ?ga2 ?ga3 ?ga4); (case ga1 => rfl); (case ga2 => rfl); (case ga3 => rfl); intro w2 hw2))
      go_ret
      obtain ⟨ms, rfl, g1, g2⟩ := hw2
      have hN := unhide HN
      have hD := unhide HR
      rw [← hN] at hD
      have hD := hD.done ms g1 g2
      rw [hN] at hD
      have hB9 := below_setCells (w := w) M (Nat.le_of_eq (unhide HM)) ms (i * 43) wr (unhide HB)
      exact ⟨by rw [unhide HM]; rfl, hB9, by rw [unhide HM]; exact hD⟩
end Go.Proofs.YtmckmeoondlcpaaDoor
