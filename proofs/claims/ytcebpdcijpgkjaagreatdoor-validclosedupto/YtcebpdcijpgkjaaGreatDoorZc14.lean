import Derived.Test.YtcebpdcijpgkjaaGreatDoorZc13
import Derived.Test.YtcebpdcijpgkjaaGreatDoorZc01
import Derived.Below
import Derived.ArgAppend
import Derived.Laws.OwnMore
import Derived.OwnWalk
import Derived.Deep.AppendLies
import Derived.LoopIn
import Derived.Maps.OwnSet
import Derived.Maps.OwnOps
import Derived.Maps.AppendAt
import Derived.Lib.SliceRun
namespace Go.Proofs.YtcebpdcijpgkjaaGreatDoor
open Go.RowKit

/-- WHERE THE CLAUSES' HEADERS LIE, IN ORDER. -/
structure PRw (base : Nat) (W : World) (L : Nat) (ps : List Pk) (n : Nat) (Md Mr : Nat → Nat) : Prop where
  pr : PRow base W L ps n
  tag : ∀ i p, i < n → ps[i]? = some p → ∃ cs C S F, W.rangeAt L (i * 43) cs ∧ LPk W L p cs (Md i) (Mr i) C S F
  ord : ∀ i, i < n → Md i < Mr i ∧ Mr i < W.heap.size ∧ ∀ j, j < i → Mr j < Md i
theorem PRw.start {base : Nat} {W : World} {L : Nat} {ps : List Pk} (h : PRow base W L ps 0) : ∃ Md Mr, PRw base W L ps 0 Md Mr :=
  ⟨fun _ => 0, fun _ => 0, h, fun _ _ hi _ => absurd hi (Nat.not_lt_zero _), fun _ hi => absurd hi (Nat.not_lt_zero _)⟩
theorem PRw.later {base : Nat} {W W' : World} {L n : Nat} {ps : List Pk} {Md Mr : Nat → Nat} (h : PRw base W L ps n Md Mr) (hb : Below W.heap.size W W') : PRw base W' L ps n Md Mr := by
  refine ⟨h.pr.later hb, fun i p hi hp => ?_, fun i hi => ⟨(h.ord i hi).1, Nat.lt_of_lt_of_le (h.ord i hi).2.1 hb.size, (h.ord i hi).2.2⟩⟩
  obtain ⟨cs, C, S, F, h1, h2⟩ := h.tag i p hi hp
  exact ⟨cs, C, S, F, rangeAt_later h1 h.pr.lt hb, h2.later hb⟩
theorem PRw.put {base : Nat} {W : World} {L n : Nat} {ps : List Pk} {p : Pk} {cs : List Value} {d r C S F : Nat} {Md Mr : Nat → Nat} (h : PRw base W L ps n Md Mr) (hp : ps[n]? = some p) (hk : LPk W L p cs d r C S F) (h1 : ∀ j, j < n → Mr j < d) (h2 : d < r) (h3 : r < W.heap.size) :
    PRw base (W.setCells L (n * 43) cs) L ps (n + 1) (fun i => if i = n then d else Md i) (fun i => if i = n then r else Mr i) := by
  have hn : n < ps.length := (List.getElem?_eq_some_iff.1 hp).1
  refine ⟨h.pr.put hp hk, fun i q hi hq => ?_, fun i hi => ?_⟩
  · by_cases e : i = n
    · subst e
      rw [hp] at hq; cases hq
      simp only [if_true]
      exact ⟨cs, C, S, F, World.rangeAt_setCells_same _ _ _ _ (by rw [hk.pc.len]; exact h.pr.there i (by omega)), hk.set _ _⟩
    · obtain ⟨cs', C', S', F', g1, g2⟩ := h.tag i q (by omega) hq
      rw [if_neg e, if_neg e]
      exact ⟨cs', C', S', F', World.rangeAt_setCells_apart g1 _ _ _ (.inr (.inl (by rw [g2.pc.len]; omega))), g2.set _ _⟩
  · rw [size_setCells]
    by_cases e : i = n
    · subst e
      simp only [if_true]
      exact ⟨h2, h3, fun j hj => by rw [if_neg (by omega)]; exact h1 j hj⟩
    · rw [if_neg e, if_neg e]
      obtain ⟨g1, g2, g3⟩ := h.ord i (by omega)
      exact ⟨g1, g2, fun j hj => by rw [if_neg (by omega)]; exact g3 j hj⟩
theorem PRw.done {base : Nat} {W : World} {L : Nat} {ps : List Pk} {Md Mr : Nat → Nat} (h : PRw base W L ps ps.length Md Mr) (ms : List Value) (hm : ms.length = 43) : PRw base (W.setCells L (ps.length * 43) ms) L ps ps.length Md Mr := by
  refine ⟨h.pr.keep (Nat.le_refl _) _ _ (Nat.le_refl _), fun i p hi hp => ?_, fun i hi => by rw [size_setCells]; exact h.ord i hi⟩
  obtain ⟨cs, C, S, F, h1, h2⟩ := h.tag i p hi hp
  exact ⟨cs, C, S, F, World.rangeAt_setCells_apart h1 _ _ _ (.inr (.inl (by rw [h2.pc.len]; have := hm; omega))), h2.set _ _⟩
set_option maxRecDepth 100000 in
set_option maxHeartbeats 8000000 in
theorem lent_win (ps : List Pk) (v : Value) (w : World) (hl : ps.length ≤ 100000000000) (hz : ∀ p ∈ ps, PkZ p) (h1 : Pkl w v ps) :
    Calls Tryz.prog 7 #[v] w fun e w' => e = .returned (.slice (some ⟨w.heap.size, 0, none⟩) ps.length (ps.length + 1)) ∧ Below w.heap.size w w' ∧ Lps w.heap.size w' w.heap.size ps ∧ ∃ Md Mr, PRw w.heap.size w' w.heap.size ps ps.length Md Mr := by
  obtain ⟨va, vc, rfl, hv⟩ := h1
  have HV := hide hv
  have HZ := hide hz
  obtain ⟨zq, hmq⟩ := makeQ
  have mkQ := hmq ps.length hl
  have HR := hide (PRw.start (prow_of w zq 46 ps))
  have HB := hide ((Below.refl w.heap.size w).alloc (Nat.le_refl _) (.cells (madeCells zq ((ps.length + 1) * 43)) 46))
  clear hv hz hmq
  obtain ⟨N, hN⟩ : ∃ N, ps.length = N := ⟨_, rfl⟩
  rw [hN] at hl mkQ HR HB ⊢
  have HN := hide hN
  clear hN
  go_enter Tryz.func7, Tryz.ntmps7
  go_wp2_with fail
  obtain ⟨M, hM⟩ : ∃ M, w.heap.size = M := ⟨_, rfl⟩
  rw [hM] at HR ⊢
  generalize w.alloc (.cells (madeCells zq ((N + 1) * 43)) 46) = W0 at *
  clear mkQ
  have HM := hide hM
  clear hM
  go_loopg [4, 5, 6, 7, 8] N (fun gq vi _ _ _ _ wr => ∃ i : Nat, vi = .int .i64 i ∧ i ≤ N ∧ N - i ≤ gq ∧ Hid (Below w.heap.size w wr) ∧ Hid (∃ Md Mr, PRw M wr M ps i Md Mr))
  case atStart => exact ⟨0, by go_num, by omega, by omega, HB, HR⟩
  case round =>
    clear HB HR
    obtain ⟨i, rfl, hi, hg, HB, HR0⟩ := hrel
    obtain ⟨Md, Mr, hRw⟩ := unhide HR0
    have HR := hide hRw.pr
    have HRw := hide hRw
    clear hRw HR0
    by_cases hlt : i < N
    · have hiz : (i : Int) < (N : Int) := by omega
      obtain ⟨b1, o1, rfl, g0, hc1⟩ := unhide HV (by have := unhide HN; omega)
      obtain ⟨p, hp⟩ : ∃ p, ps[i]? = some p := ⟨_, List.getElem?_eq_getElem (by have := unhide HN; omega)⟩
      have hz := unhide HZ p (List.mem_of_getElem? hp)
      obtain ⟨cs, d, r, c, v, f, k1, kc, kl⟩ := hc1 i p hp
      obtain ⟨pa, pc, rfl⟩ : ∃ a c, v = .slice a p.pv.length c := let ⟨a, c, e, _⟩ := kl.vl; ⟨a, c, e⟩
      obtain ⟨fa, fc, rfl⟩ : ∃ a c, f = .slice a p.fs.length c := let ⟨a, c, e, _⟩ := kl.fl; ⟨a, c, e⟩
      obtain ⟨ca, cc, rfl⟩ : ∃ a n, c = .slice a p.cf.length n := let ⟨a, n, e, _⟩ := kl.cl; ⟨a, n, e⟩
      have RS := hide (fun (X : World) (hb : Below wr.heap.size wr X) (j : Nat) (x : Value) (hx : cs[j]? = some x) => rangeAt_later k1 g0 (bl_t (unhide HB) hb) j x hx)
      have R0 := hide (rangeAt_later k1 g0 (unhide HB))
      have LX := hide (fun (X : World) (hb : Below wr.heap.size wr X) => kl.later (bl_t (unhide HB) hb))
      have HP := hide hp
      have C1 := hide kc
      have HZp := hide hz
      have LD := hide (fun (X : World) (hb : Below wr.heap.size wr X) => lentClauses_any p.dp d X hz.dl hz.dls (unhide LX X hb).dl)
      have LR := hide (fun (X : World) (hb : Below wr.heap.size wr X) => lentClauses_any p.pr r X hz.rl hz.rls (unhide LX X hb).rl)
      have LC := hide (fun (X : World) (hb : Below wr.heap.size wr X) (x : Nat) (hx : X.cell? ⟨x, 0, none⟩ = some (.slice ca p.cf.length cc)) (lx : x < X.heap.size) => lentClauses_any [p.cf] (.slice (some ⟨x, 0, none⟩) 1 1) X (by simp) (fun al h => by have := hz.cl; simp at h; subst h; omega) (cls_one hx lx (unhide LX X hb).cl))
      clear hc1 k1 kc kl hp hz
      have i0 : (0 : Int) ≤ (i : Int) := by omega
      go_wp2_with (first
        | (with_reducible refine p_loadm _ rfl rfl b1 (o1 + i * 43) rfl cs (unhide R0) (unhide C1).len ?_)
        | (with_reducible refine p_alloc rfl rfl ?_; intro w2 zc b2 k2 z2)
        | ((with_reducible refine p_store _ _ rfl rfl wr.heap.size rfl cs rfl (unhide C1).len (unhide C1).one zc b2 ?_); intro w3 b3 o3 k3 z3; obtain ⟨K3, B3⟩ := new_bkK k2 b3 k3; have e3 := unhide RS w3 (unhide K3) 3 d (unhide C1).c3; clear b2 k2 b3 o3 k3; have h3 := (unhide B3).lt; clear z2 z3))
      refine (unhide LD w3 (unhide K3)).mono ?_
      rintro e w4 ⟨rfl, hb4, l4⟩
      have H34 := hide l4.row.lt
      have K4 := hide (bl_t (unhide K3) hb4)
      have B4 := hide ((unhide B3).later hb4)
      have HL4 := hide l4
      clear hb4 l4 e3 LD R0
      go_wp2_with (first
        | ((with_reducible refine p_set 40 _ _ rfl rfl wr.heap.size 3 rfl _ (stL _ _ _ _ _ _) rfl rfl _ (unhide B4) (by omega) ?_); intro w5 b5 o5 k5 z5; obtain ⟨K5, B5⟩ := new_bkK (unhide K4) b5 k5; have e4 := unhide RS w5 (unhide K5) 4 r (unhide C1).c4; have Z5 := hide z5; clear z5))
      have HL5 := hide ((unhide HL4).put h3 o5 (unhide Z5))
      have H35 : Hid (w3.heap.size < w5.heap.size) := hide (by have := unhide H34; have := unhide Z5; omega)
      clear H34
      clear b5 o5 k5 HL4 K4 B4
      refine (unhide LR w5 (unhide K5)).mono ?_
      rintro e w6 ⟨rfl, hb6, l6⟩
      have K6 := hide (bl_t (unhide K5) hb6)
      have B6 := hide ((unhide B5).later hb6)
      have HD6 := hide ((unhide HL5).later hb6)
      have HR6 := hide l6
      have h5 : wr.heap.size < w5.heap.size := (unhide B5).lt
      clear hb6 l6 e4 LR Z5 HL5 B5 K5
      go_wp2_with (first
        | ((with_reducible refine p_set 40 _ _ rfl rfl wr.heap.size 4 rfl _ (stL _ _ _ _ _ _) rfl rfl _ (unhide B6) (by omega) ?_); intro w7 b7 o7 k7 z7; obtain ⟨K7, B7⟩ := new_bkK (unhide K6) b7 k7; have e5 := unhide RS w7 (unhide K7) 5 _ (unhide C1).c5; have Z7 := hide z7; clear z7))
      have HD7 := hide ((unhide HD6).put h3 o7 (unhide Z7))
      have HR7 := hide ((unhide HR6).put h5 o7 (unhide Z7))
      clear b7 o7 k7 Z7 HD6 HR6 K6 B6 e5
      obtain ⟨W8, hW8, m8, hlt8, hB8⟩ := pkgNew w7 [.slice ca p.cf.length cc] 49
      have hW8' : w7.alloc (Obj.cells #[Value.slice ca p.cf.length cc] 49) = W8 := hW8
      rw [hW8']
      have K8 := hide (bl_t (unhide K7) hB8)
      refine (unhide LC W8 (unhide K8) w7.heap.size (m8 0 _ rfl) hlt8).mono ?_
      rintro e w9 ⟨rfl, hb9, l9⟩
      obtain ⟨C, hC, m9, mk9⟩ := l9.row.row 0 p.cf (by simp) rfl
      have K9 := hide (bl_t (unhide K8) hb9)
      have h7 : wr.heap.size < w7.heap.size := (unhide B7).lt
      have hC2 : wr.heap.size < C := by have := hB8.size; omega
      have B9 := hide (((unhide B7).later hB8).later hb9)
      have HD9 := hide (((unhide HD7).later hB8).later hb9)
      have HR9 := hide (((unhide HR7).later hB8).later hb9)
      have HC9 := hide mk9
      have hf : ∀ x ∈ p.fs, isF x := fun x hx => by
        obtain ⟨k, hk, rfl⟩ := List.mem_iff_getElem.1 hx
        exact ((unhide LX wr (Below.refl _ _)).fl.at (List.getElem?_eq_getElem hk)).1
      have HF := hide hf
      have mkS := makeS p.pv.length (unhide HZp).vl
      obtain ⟨zf, hmf⟩ := makeG
      have mkG := hmf p.fs.length (unhide HZp).fl
      have SX := hide (fun (X : World) (hb : Below wr.heap.size wr X) => strs_step p.pv _ X (unhide LX X hb).vl)
      have FX := hide (fun (X : World) (hb : Below wr.heap.size wr X) => fls_step zf p.fs _ X (unhide LX X hb).fl hf)
      have GX := hide (fun (X : World) (hb : Below wr.heap.size wr X) => Nat.lt_of_lt_of_le g0 (bl_t (unhide HB) hb).size)
      have n1 : (p.pv.length : Int) ≤ (p.pv.length : Int) + 1 := by omega
      have n2 : (0 : Int) ≤ (p.pv.length : Int) := by omega
      have n3 : (p.pv.length : Int) < (p.pv.length : Int) + 1 := by omega
      have n4 : (p.fs.length : Int) ≤ (p.fs.length : Int) + 1 := by omega
      have n5 : (0 : Int) ≤ (p.fs.length : Int) := by omega
      have n6 : (p.fs.length : Int) < (p.fs.length : Int) + 1 := by omega
      have hiN : i ≤ ps.length := by have := unhide HN; omega
      have j4 : (i : Int) < (N : Int) + 1 := by omega
      have bv := (unhide HZp).vl
      have bf := (unhide HZp).fl
      clear hb9 hB8 hW8 hW8' m8 hlt8 l9 mk9 hf hmf HD7 HR7 B7 K7 K8 LC
      go_wp2_with (first
        | ((with_reducible refine p_set 41 _ _ rfl rfl wr.heap.size 5 rfl _ (stC _ _ _ _ _ _) rfl rfl _ (unhide B9) (by omega) ?_); intro w10 b10 o10 k10 z10; obtain ⟨K10, B10⟩ := new_bkK (unhide K9) b10 k10; have e6 := unhide RS w10 (unhide K10) 6 _ (unhide C1).c6; have g10 := unhide GX w10 (unhide K10); have Z10 := hide z10; clear z10; obtain ⟨v6, W12, hcp, HS12, HB12, ⟨zz, hzz⟩, hfz⟩ := unhide SX w10 (unhide K10); obtain ⟨K12, K13, KX13, B13, HS13⟩ := strs_mark (unhide K10) (unhide B10) (unhide HS12) (unhide HB12); have e6b := unhide RS W12 (unhide K12) 6 _ (unhide C1).c6; have e6c := unhide RS _ (unhide K13) 6 _ (unhide C1).c6)
        | ((with_reducible refine p_set 42 _ _ rfl rfl wr.heap.size 6 rfl _ (stS _ _ _ _ _ _) rfl rfl _ (unhide B13) (by omega) ?_); intro w14 b14 o14 k14 z14; obtain ⟨K14, B14⟩ := new_bkK (unhide K13) b14 k14; have e7 := unhide RS w14 (unhide K14) 7 _ (unhide C1).c7; have g14 := unhide GX w14 (unhide K14); have Z14 := hide z14; clear z14; obtain ⟨v7, W16, hcp2, HS16, HB16, ht16⟩ := unhide FX w14 (unhide K14); have K16 := hide (bl_t (unhide K14) (unhide HB16)); have e7b := unhide RS W16 (unhide K16) 7 _ (unhide C1).c7)
        | ((with_reducible refine p_storef' _ _ rfl rfl w14.heap.size (p.fs.length * 34) rfl _ rfl (unhide ht16) ?fa1 ?fa2 ?fa3 ?fa4); (case fa1 => rfl); (case fa2 => rfl); (case fa3 => rfl); intro w17 hw17; obtain ⟨K17, KX17, B17, HS17⟩ := fls_mark (unhide HF) (unhide K14) (unhide B14) (unhide HS16) (unhide HB16) hw17; clear hw17; have e7c := unhide RS w17 (unhide K17) 7 _ (unhide C1).c7)
        | ((with_reducible refine p_set 43 _ _ rfl rfl wr.heap.size 7 rfl _ (stG _ _ _ _ _ _) rfl rfl _ (unhide B17) (by omega) ?_); intro w18 b18 o18 k18 z18; obtain ⟨K18, B18⟩ := new_bkK (unhide K17) b18 k18; have Z18 := hide z18; clear z18; have HR18 := hide ((unhide HR).later (unhide K18)))
        | (with_reducible refine p_load _ rfl rfl wr.heap.size rfl _ (unhide B18) ?_)
        | (with_reducible refine p_storem _ _ rfl rfl M (i * 43) rfl _ rfl (unhide B18).len (unhide B18).one ((unhide HR18).there i hiN) ?_))
      have h10 : wr.heap.size < w10.heap.size := (unhide B10).lt
      have h14 : wr.heap.size < w14.heap.size := (unhide B14).lt
      have hMr := (unhide HR).lt
      have dl := (((((unhide HD9).put h3 o10 (unhide Z10)).later (unhide KX13)).put h3 o14 (unhide Z14)).later (unhide KX17)).put h3 o18 (unhide Z18)
      have rl := (((((unhide HR9).put h5 o10 (unhide Z10)).later (unhide KX13)).put h5 o14 (unhide Z14)).later (unhide KX17)).put h5 o18 (unhide Z18)
      have cl := (((((unhide HC9).put hC2 o10 (unhide Z10)).later (unhide KX13)).put hC2 o14 (unhide Z14)).later (unhide KX17)).put hC2 o18 (unhide Z18)
      have sl := (((unhide HS13).set h10 o14 (unhide Z14)).later (unhide KX17)).set h10 o18 (unhide Z18)
      have fl := (unhide HS17).set h14 o18 (unhide Z18)
      have HK := hide (show LPk w18 M p _ w3.heap.size w5.heap.size C w10.heap.size w14.heap.size from ⟨(unhide C1).lists rfl rfl rfl rfl rfl (unhide HZp).sl.1, dl.base (by omega), rl.base (by omega), cl, by omega, sl, by omega, fl, by omega, unhide HF⟩)
      have hMw : w.heap.size ≤ M := Nat.le_of_eq (unhide HM)
      go_roundg (N - (i + 1))
      case measure => omega
      case rel => exact ⟨i + 1, by go_num, by omega, by omega, hide (below_setCells M hMw _ _ _ (bl_t (unhide HB) (unhide K18))), hide ⟨_, _, ((unhide HRw).later (unhide K18)).put (unhide HP) (unhide HK) (fun j hj => Nat.lt_trans ((unhide HRw).ord j hj).2.1 h3) (unhide H35) rl.row.lt⟩⟩
    · obtain rfl : i = N := by omega
      have HT := hide ((unhide HR).there i (by have := unhide HN; omega))
      have i0 : (0 : Int) ≤ (i : Int) := by omega
      have j4 : (i : Int) < (i : Int) + 1 := by omega
      have j3 : (i : Int) ≤ (i : Int) + 1 := by omega
      go_wp2_with (first | ((with_reducible refine p_storem' _ _ rfl rfl M (i * 43) rfl _ rfl (unhide HT) ?ga1 ?ga2 ?ga3 ?ga4); (case ga1 => rfl); (case ga2 => rfl); (case ga3 => rfl); intro w2 hw2))
      go_ret
      obtain ⟨ms, rfl, g1, g2⟩ := hw2
      have hN := unhide HN
      have hD := unhide HR
      rw [← hN] at hD
      have hRw := unhide HRw
      rw [← hN] at hRw
      have hRw := hRw.done ms g1
      have hD := hD.done ms g1 g2
      rw [hN] at hD hRw
      have hB9 := below_setCells (w := w) M (Nat.le_of_eq (unhide HM)) ms (i * 43) wr (unhide HB)
      exact ⟨by rw [unhide HM]; rfl, hB9, by rw [unhide HM]; exact hD, Md, Mr, by rw [unhide HM]; exact hRw⟩
end Go.Proofs.YtcebpdcijpgkjaaGreatDoor

namespace Go.Proofs.YtcebpdcijpgkjaaGreatDoor
open Go.RowKit Go.Maps

abbrev Nm := ByteArray
/-- A SLICE'S HEADER. -/
structure Hd where
  a : Option Addr
  n : Nat
  c : Nat
def hv (h : Hd) : Value := .slice h.a h.n h.c
def hv0 : Option Hd → Value
  | none => .slice none 0 0
  | some h => hv h
def kl (x : Nm) : Lit := .string x.data.toList
theorem kl_inj {x y : Nm} (h : kl x = kl y) : x = y := by
  unfold kl at h
  injection h with h
  have : x.data = y.data := by simpa using h
  cases x; cases y; simp_all
def raw (v : Value) : Option (DataW Value × List MemPlace) := some (.held v, [])
theorem law9 : Keyed Tryz.prog 9 := string_keyed Tryz.underlying9
theorem zero22 (w : World) : (zeroValue 34).run Tryz.prog w = .ok (.slice none 0 0) w := by kernel_rfl
def up {α : Type} (H : Nm → Option α) (x : Nm) (v : Option α) : Nm → Option α := fun y => if y = x then v else H y
theorem up_same {α : Type} (H : Nm → Option α) (x : Nm) (v : Option α) : up H x v x = v := if_pos rfl
theorem up_other {α : Type} (H : Nm → Option α) {x y : Nm} (v : Option α) (h : y ≠ x) : up H x v y = H y := if_neg h
/-- WHAT A MAP'S DATUM SAYS. -/
structure Rep (D : DataW Value) (H : Nm → Option Hd) : Prop where
  has : ∀ x : Nm, x.size ≤ maxLen → Maps.has D (kl x) = (H x).isSome
  at_ : ∀ x : Nm, x.size ≤ maxLen → ∀ z, D.atKey (kl x) z = match H x with | some h => .held (hv h) | none => z
  lim : ∀ x, H x ≠ none → x.size ≤ maxLen
theorem Rep.start : Rep (.map []) (fun _ => none) := ⟨fun _ _ => rfl, fun _ _ _ => rfl, fun _ h => absurd rfl h⟩
theorem Rep.put {D : DataW Value} {H : Nm → Option Hd} (r : Rep D H) (hD : IsMap D) {x : Nm} (hx : x.size ≤ maxLen) (h : Hd) : Rep (D.put (kl x) (.held (hv h))) (up H x (some h)) := by
  refine ⟨fun y hy => ?_, fun y hy z => ?_, fun y hy => ?_⟩
  · by_cases e : y = x
    · subst e
      rw [has_put_same hD (show WideAt.IsKeyLit (kl y) from trivial), up_same]
      rfl
    · rw [has_put_other (fun q => e (kl_inj q)), up_other _ _ e, r.has y hy]
  · by_cases e : y = x
    · subst e
      rw [atKey_put_same hD (show WideAt.IsKeyLit (kl y) from trivial), up_same]
    · rw [atKey_put_other (fun q => e (kl_inj q)), up_other _ _ e, r.at_ y hy]
  · by_cases e : y = x
    · subst e; exact hx
    · rw [up_other _ _ e] at hy; exact r.lim y hy
/-- A DIRECTORY'S MAP AS IT LIES, OF AT MOST k NAMES. -/
def Dm (W : World) (d : Value) (H : Nm → Option Hd) (k : Nat) : Prop :=
  (d = .map none ∧ ∀ x, H x = none) ∨ ∃ b D, d = .map (some b) ∧ W.ownsMap Tryz.prog 9 raw b k D ∧ Rep D H
def mb : Value → Option Nat
  | .map b => b
  | _ => none
theorem Dm.lt {W : World} {d : Value} {H : Nm → Option Hd} {k : Nat} (h : Dm W d H k) {b : Nat} (e : mb d = some b) : b < W.heap.size := by
  rcases h with ⟨rfl, _⟩ | ⟨b2, D, rfl, ho, r⟩
  · cases e
  · cases e; exact ho.lt
theorem Dm.mono {W : World} {d : Value} {H : Nm → Option Hd} {k k2 : Nat} (h : Dm W d H k) (hk : k ≤ k2) : Dm W d H k2 := by
  rcases h with h | ⟨b, D, e, ho, r⟩
  · exact .inl h
  · exact .inr ⟨b, D, e, ho.mono hk, r⟩
theorem Dm.same {W W2 : World} {d : Value} {H : Nm → Option Hd} {k : Nat} (h : Dm W d H k) (hb : ∀ b, mb d = some b → W2.heap[b]? = W.heap[b]?) : Dm W2 d H k := by
  rcases h with h | ⟨b, D, rfl, ho, r⟩
  · exact .inl h
  · obtain ⟨es, clock, h1, h2⟩ := ho
    exact .inr ⟨b, D, rfl, ⟨es, clock, (hb b rfl).trans h1, h2⟩, r⟩
theorem Dm.later {W W2 : World} {d : Value} {H : Nm → Option Hd} {k : Nat} (h : Dm W d H k) (hb : Below W.heap.size W W2) : Dm W2 d H k := h.same fun b e => hb.block b (h.lt e)
theorem key9 {x : Nm} (hx : x.size ≤ maxLen) : keyOf Tryz.prog 9 (.string x) = some (kl x) := WideMaps.keyOf_string_mk Tryz.underlying9 hx
theorem raw_inv {v : Value} {d : DataW Value} {ps : List MemPlace} (h : raw v = some (d, ps)) : d = .held v := by
  unfold raw at h
  injection h with h
  injection h with h _
  exact h.symm
theorem look1 {W : World} {d : Value} {H : Nm → Option Hd} {k : Nat} (h : Dm W d H k) {x : Nm} (hx : x.size ≤ maxLen) : (Instr.lookup 60 d (.string x) false).run Tryz.prog W = .ok (hv0 (H x)) W := by
  rcases h with ⟨rfl, h⟩ | ⟨b, D, rfl, ho, r⟩
  · rw [h x]
    exact Maps.look_nil false law9 Tryz.underlying60 (zero22 W) (key9 hx)
  · obtain ⟨v, ps, hr, hv2⟩ := ho.lookup law9 Tryz.underlying60 (zero22 W) (zd := .held (.slice none 0 0)) (zp := []) rfl (key9 hx)
    rw [hr]
    have e := raw_inv hv2
    rw [r.at_ x hx] at e
    cases hH : H x with
    | none =>
      simp only [hH] at e
      cases e
      rfl
    | some h =>
      simp only [hH] at e
      cases e
      rfl
/-- NOTHING BUT BLOCKS OF P HAS CHANGED. -/
structure Fx (P : Nat → Prop) (W W2 : World) : Prop where
  bel : Below 0 W W2
  blk : ∀ b, b < W.heap.size → ¬ P b → W2.heap[b]? = W.heap[b]?
theorem Fx.of {P : Nat → Prop} {W W2 : World} (h : Below W.heap.size W W2) : Fx P W W2 := ⟨h.mono (Nat.zero_le _), fun b hb _ => h.block b hb⟩
theorem Fx.size {P : Nat → Prop} {W W2 : World} (h : Fx P W W2) : W.heap.size ≤ W2.heap.size := h.bel.size
theorem Fx.trans {P : Nat → Prop} {A B C : World} (h : Fx P A B) (k : Fx P B C) : Fx P A C := ⟨h.bel.trans k.bel, fun b hb hp => (k.blk b (Nat.lt_of_lt_of_le hb h.size) hp).trans (h.blk b hb hp)⟩
theorem Fx.next {P Q : Nat → Prop} {A B C : World} (h : Fx P A B) (k : Fx Q B C) (q : ∀ b, b < A.heap.size → Q b → P b) : Fx P A C := ⟨h.bel.trans k.bel, fun b hb hp => (k.blk b (Nat.lt_of_lt_of_le hb h.size) (fun z => hp (q b hb z))).trans (h.blk b hb hp)⟩
theorem Fx.refl (P : Nat → Prop) (W : World) : Fx P W W := Fx.of (Below.refl _ _)
theorem Fx.mono {P Q : Nat → Prop} {W W2 : World} (h : Fx P W W2) (hp : ∀ b, b < W.heap.size → P b → Q b) : Fx Q W W2 := ⟨h.bel, fun b hb hn => h.blk b hb fun q => hn (hp b hb q)⟩
theorem blk_lt {W : World} {g : Nat} {o : Obj} (h : W.heap[g]? = some o) : g < W.heap.size := (Array.getElem?_eq_some_iff.1 h).1
theorem set_blk {W : World} {g : Nat} {cur : Array Value} {t : TypeId} (h : W.heap[g]? = some (.cells cur t (0, 0))) (j : Nat) (u : Value) : (W.setCell ⟨g, j, none⟩ u).heap[g]? = some (.cells (cur.setIfInBounds j u) t (0, 0)) := by
  obtain ⟨hlt, hk⟩ := Array.getElem?_eq_some_iff.1 h
  show (W.heap.modify g _)[g]? = _
  rw [Array.getElem?_eq_getElem (by rw [Array.size_modify]; exact hlt), Array.getElem_modify_self, hk]
  rfl
theorem set_other (W : World) (g j : Nat) (u : Value) (k : Nat) (hk : k ≠ g) : (W.setCell ⟨g, j, none⟩ u).heap[k]? = W.heap[k]? := Below.heap_setCell W ⟨g, j, none⟩ u k hk
theorem cell_blk {W : World} {g : Nat} {cur : Array Value} {t : TypeId} (h : W.heap[g]? = some (.cells cur t (0, 0))) (i : Nat) : W.cell? ⟨g, i, none⟩ = cur[i]? ∧ W.frozen? ⟨g, i, none⟩ = false := by
  refine ⟨?_, by simp [World.frozen?, h]⟩
  simp [World.cell?, h]
theorem Fx.set {P : Nat → Prop} {W W2 : World} (h : Fx P W W2) {g : Nat} (hp : P g) (j : Nat) (u : Value) : Fx P W (W2.setCell ⟨g, j, none⟩ u) :=
  ⟨h.bel.setCell (p := ⟨g, j, none⟩) (Nat.zero_le _) u, fun b hb hn => (set_other _ _ _ _ _ (fun e => hn (by rw [e]; exact hp))).trans (h.blk b hb hn)⟩
theorem Dm.fx {P : Nat → Prop} {W W2 : World} {d : Value} {H : Nm → Option Hd} {k : Nat} (h : Dm W d H k) (f : Fx P W W2) (hp : ∀ b, mb d = some b → ¬ P b) : Dm W2 d H k := h.same fun b e => f.blk b (h.lt e) (hp b e)
/-- A NAME COMES IN, AND GOES. -/
theorem put_map {W : World} {b k : Nat} {H : Nm → Option Hd} (h : Dm W (.map (some b)) H k) (hk : k < maxLen) {x : Nm} (hx : x.size ≤ maxLen) (f : Hd) :
    ∃ W2, (Instr.mapUpdate 60 (.map (some b)) (.string x) (hv f)).run Tryz.prog W = .ok () W2 ∧ Dm W2 (.map (some b)) (up H x (some f)) (k + 1) ∧ Fx (fun c => c = b) W W2 := by
  rcases h with ⟨e, _⟩ | ⟨b2, D, e, ho, r⟩
  · cases e
  · cases e
    obtain ⟨W2, hr, ho2, ht⟩ := ho.store law9 Tryz.underlying60 hk (key9 (x := x) hx) (val := hv f) (d := .held (hv f)) (ps := []) rfl
    have hg := ht.grown
    exact ⟨W2, hr, .inr ⟨b, _, rfl, ho2, r.put ho.isMap hx f⟩, ⟨hg.1, hg.2, hg.3, hg.size, fun _ h => absurd h (Nat.not_lt_zero _)⟩, fun c hc hn => hg.block c hc (by intro q; cases q; exact hn rfl)⟩

def bk (h : Hd) : Option Nat := h.a.map (·.block)
theorem bk_own (h : Hd) : (hv h).ownBlock = bk h := by
  obtain ⟨a, n, c⟩ := h
  cases a <;> rfl
def ints (l : List Nat) : List Value := l.map fun (p : Nat) => Value.int .i64 (p : Int)
theorem ints_len (l : List Nat) : (ints l).length = l.length := by simp [ints]
theorem own_same {W W2 : World} {base e size n : Nat} {v : Value} {xs : List Value} (h : W.ownsRow base e size v n xs) (q : ∀ b, v.ownBlock = some b → W2.heap[b]? = W.heap[b]?) : W2.ownsRow base e size v n xs := by
  refine ⟨h.1, ?_⟩
  rcases h.2 with z | ⟨g, cap, cur, h1, h2, h3, h4⟩
  · exact .inl z
  · exact .inr ⟨g, cap, cur, h1, h2, (q g (by rw [h1]; rfl)).trans h3, h4⟩
/-- A MAP OF LISTS OF PLACES. -/
structure Mi (W : World) (base : Nat) (d : Value) (H : Nm → Option Hd) (F : Nm → List Nat) (k : Nat) : Prop where
  dm : Dm W d H k
  non : ∀ x, H x = none → F x = []
  con : ∀ x h, H x = some h → W.ownsRow base 3 1 (hv h) (F x).length (ints (F x))
  inj : ∀ x y h g b, H x = some h → H y = some g → bk h = some b → bk g = some b → x = y
theorem Mi.own {W : World} {base : Nat} {d : Value} {H : Nm → Option Hd} {F : Nm → List Nat} {k : Nat} (m : Mi W base d H F k) (x : Nm) : W.ownsRow base 3 1 (hv0 (H x)) (F x).length (ints (F x)) := by
  cases h : H x with
  | none => rw [m.non x h]; exact World.ownsRow_nil _ _ _ _
  | some f => exact m.con x f h
theorem Mi.same {W W2 : World} {base : Nat} {d : Value} {H : Nm → Option Hd} {F : Nm → List Nat} {k : Nat} (m : Mi W base d H F k) (q1 : ∀ b, mb d = some b → W2.heap[b]? = W.heap[b]?) (q2 : ∀ x h b, H x = some h → bk h = some b → W2.heap[b]? = W.heap[b]?) : Mi W2 base d H F k :=
  ⟨m.dm.same q1, m.non, fun x h e => own_same (m.con x h e) fun b eb => q2 x h b e (by rw [← bk_own]; exact eb), m.inj⟩
theorem Mi.lt {W : World} {base : Nat} {d : Value} {H : Nm → Option Hd} {F : Nm → List Nat} {k : Nat} (m : Mi W base d H F k) {x : Nm} {h : Hd} {b : Nat} (e : H x = some h) (eb : bk h = some b) : base ≤ b ∧ b < W.heap.size := World.ownsRow.lt (m.con x h e) b (by rw [bk_own]; exact eb)
theorem Mi.later {W W2 : World} {base : Nat} {d : Value} {H : Nm → Option Hd} {F : Nm → List Nat} {k : Nat} (m : Mi W base d H F k) (hb : RowKit.Below W.heap.size W W2) : Mi W2 base d H F k := m.same (fun b e => hb.block b (m.dm.lt e)) fun _ _ b e eb => hb.block b (m.lt e eb).2
theorem Mi.ne {W : World} {base : Nat} {d : Value} {H : Nm → Option Hd} {F : Nm → List Nat} {k : Nat} (m : Mi W base d H F k) {x : Nm} {h : Hd} {b : Nat} (e : H x = some h) (eb : bk h = some b) {d2 : Value} {H2 : Nm → Option Hd} {k2 : Nat} (hd : Dm W d2 H2 k2) : mb d2 ≠ some b := fun q => by
  rcases (m.con x h e).2 with ⟨q1, _⟩ | ⟨g, cap, cur, q1, _, q3, _⟩
  · have := bk_own h; rw [q1] at this; rw [← this] at eb; cases eb
  · have e2 : bk h = some g := by rw [← bk_own, q1]; rfl
    rw [eb] at e2
    cases e2
    rcases hd with ⟨rfl, _⟩ | ⟨b2, D, rfl, ho, _⟩
    · cases q
    · cases q
      obtain ⟨es, clock, h1, _⟩ := ho
      rw [q3] at h1
      cases h1
def upF (F : Nm → List Nat) (x : Nm) (l : List Nat) : Nm → List Nat := fun y => if y = x then l else F y
theorem upF_same (F : Nm → List Nat) (x : Nm) (l : List Nat) : upF F x l x = l := if_pos rfl
theorem upF_other (F : Nm → List Nat) {x y : Nm} (l : List Nat) (h : y ≠ x) : upF F x l y = F y := if_neg h
theorem infoI : (Tryz.prog.info? 3).map (fun i => (i.zero, i.size, i.bytes)) = some (some (.int .i64 0), 1, 8) := by kernel_rfl
theorem info_parts2 {P : Program} {e : TypeId} {z : Value} {s b : Nat} (h : (P.info? e).map (fun i => (i.zero, i.size, i.bytes)) = some (some z, s, b)) : ∃ i, P.info? e = some i ∧ i.zero = some z ∧ i.size = s ∧ i.bytes = b := by
  obtain ⟨i, h1, h2⟩ := Option.map_eq_some_iff.1 h
  simp only [Prod.mk.injEq] at h2
  exact ⟨i, h1, h2.1, h2.2.1, h2.2.2⟩
theorem slice_hd {W : World} {base e size n : Nat} {v : Value} {xs : List Value} (h : W.ownsRow base e size v n xs) : ∃ f : Hd, v = hv f ∧ f.n = n := by
  rcases h.2 with ⟨h1, h2⟩ | ⟨g, cap, cur, h1, _⟩
  · exact ⟨⟨none, 0, 0⟩, h1, h2.symm⟩
  · exact ⟨⟨_, n, cap⟩, h1, rfl⟩
/-- ONE PLACE MORE BEHIND A NAME'S. -/
theorem Mi.add {W : World} {base b k : Nat} {H : Nm → Option Hd} {F : Nm → List Nat} (m : Mi W base (.map (some b)) H F k) (hk : k < maxLen) (hbase : base ≤ W.heap.size) {x : Nm} (hx : x.size ≤ maxLen) (p : Nat) (hl : (F x).length ≤ 1099511627776) (ty : TypeId) :
    ∃ h' W2 W3, (Builtin.append_ #[34, 34] ty #[hv0 (H x), .slice (some ⟨W.heap.size, 0, none⟩) 1 1]).run Tryz.prog (W.alloc (.cells #[.int .i64 (p : Int)] 3)) = .ok (hv h') W2 ∧ (Instr.mapUpdate 60 (.map (some b)) (.string x) (hv h')).run Tryz.prog W2 = .ok () W3 ∧
      Mi W3 base (.map (some b)) (up H x (some h')) (upF F x (F x ++ [p])) (k + 1) ∧ (∀ c, c < W.heap.size → c ≠ b → (∀ h, H x = some h → bk h ≠ some c) → W3.heap[c]? = W.heap[c]? ∧ W2.heap[c]? = W.heap[c]?) ∧ W2.heap[b]? = W.heap[b]? ∧ ((∃ h, H x = some h ∧ bk h' = bk h) ∨ ∀ c, bk h' = some c → W.heap.size ≤ c) ∧ RowKit.Below 0 W W3 := by
  obtain ⟨i0, hi, hz0, hz1, hz2⟩ := info_parts2 infoI
  have b1 : RowKit.Below W.heap.size W (W.alloc (.cells #[.int .i64 (p : Int)] 3)) := (Below.refl _ W).alloc (Nat.le_refl _) _
  have m1 := m.later b1
  obtain ⟨v', W2, hr, ho, hg, _, hat⟩ := run_append_own_at (P := Tryz.prog) (W.alloc (.cells #[.int .i64 (p : Int)] 3)) base 34 ty 3 i0 (.int .i64 0) 1 8 Tryz.underlying34 hi hz0 hz1 hz2 rfl (by decide) (hv0 (H x)) (F x).length (ints (F x)) (m1.own x) ⟨W.heap.size, 0, none⟩ 1 1 [.int .i64 (p : Int)] rfl (cell_one_new _ _ _) (by simp [Value.oneCell']) (Nat.le_trans (Nat.add_le_add_right hl 1) (by decide)) (by omega) (by rw [World.size_alloc]; omega)
  obtain ⟨h', rfl, hn'⟩ := slice_hd ho
  have hob : ∀ c, (hv0 (H x)).ownBlock = some c → ∃ h, H x = some h ∧ bk h = some c := fun c e => by
    cases hh : H x with
    | none => rw [hh] at e; cases e
    | some h => rw [hh] at e; exact ⟨h, rfl, by rw [← bk_own]; exact e⟩
  have k2 : ∀ c, c < W.heap.size → (∀ h, H x = some h → bk h ≠ some c) → W2.heap[c]? = W.heap[c]? := fun c hc hn => (hg.block c (by rw [World.size_alloc]; omega) fun e => by
    obtain ⟨h, q1, q2⟩ := hob c e.symm
    exact hn h q1 q2).trans (b1.block c hc)
  have hbl : b < W.heap.size := m.dm.lt rfl
  have hbk2 : W2.heap[b]? = W.heap[b]? := k2 b hbl fun h e eb => m.ne e eb m.dm rfl
  have d2 : Dm W2 (.map (some b)) H k := m.dm.same fun c e => by cases e; exact hbk2
  obtain ⟨W3, hr3, d3, f3⟩ := put_map d2 hk hx h'
  have s2 : W.heap.size ≤ W2.heap.size := by have := hg.size; rw [World.size_alloc] at this; omega
  have ho' : W2.ownsRow base 3 1 (hv h') ((F x).length + 1) (ints (F x ++ [p])) := by
    have : ints (F x ++ [p]) = ints (F x) ++ [.int .i64 (p : Int)] := by simp [ints]
    rw [this]; exact ho
  have hnb : ∀ c, bk h' = some c → c ≠ b := fun c e q => by
    subst q
    rcases ho'.2 with ⟨q1, q2⟩ | ⟨g, cap, cur, q1, _, q3, _⟩
    · omega
    · have e2 : bk h' = some g := by rw [← bk_own, q1]; rfl
      rw [e] at e2
      cases e2
      rcases d2 with ⟨q, _⟩ | ⟨b2, D, q, hoo, _⟩
      · cases q
      · cases q
        obtain ⟨es, clock, h1, _⟩ := hoo
        rw [q3] at h1
        cases h1
  have hsrc : (∃ h, H x = some h ∧ bk h' = bk h) ∨ ∀ c, bk h' = some c → W.heap.size ≤ c := by
    rcases hat with q | q
    · rw [bk_own] at q
      cases hh : H x with
      | none => rw [hh] at q; right; intro c e; rw [e] at q; cases q
      | some h => rw [hh] at q; left; exact ⟨h, rfl, by rw [q]; exact bk_own h⟩
    · right
      intro c e
      rw [bk_own, e] at q
      injection q with q
      rw [World.size_alloc] at q
      omega
  refine ⟨h', W2, W3, hr, hr3, ⟨d3, fun y e => ?_, fun y h e => ?_, fun y z h g c e1 e2 c1 c2 => ?_⟩, fun c hc hcb hn => ⟨(f3.blk c (by omega) hcb).trans (k2 c hc hn), k2 c hc hn⟩, hbk2, hsrc, ?_⟩
  · by_cases q : y = x
    · subst q; rw [up_same] at e; cases e
    · rw [up_other _ _ q] at e; rw [upF_other _ _ q]; exact m.non y e
  · by_cases q : y = x
    · subst q
      rw [up_same] at e
      cases e
      rw [upF_same, List.length_append]
      exact own_same ho' fun c ec => f3.blk c (World.ownsRow.lt ho' c ec).2 (hnb c (by rw [← bk_own]; exact ec))
    · rw [up_other _ _ q] at e
      rw [upF_other _ _ q]
      refine own_same (m.con y h e) fun c ec => ?_
      have ec' : bk h = some c := by rw [← bk_own]; exact ec
      have hc := (m.lt e ec').2
      exact (f3.blk c (by omega) (fun z => m.ne e ec' m.dm (by rw [z]; rfl))).trans (k2 c hc fun g e3 e4 => q (m.inj y x h g c e e3 ec' e4))
  · by_cases qy : y = x
    · by_cases qz : z = x
      · rw [qy, qz]
      · exfalso
        subst qy
        rw [up_same] at e1
        rw [up_other _ _ qz] at e2
        cases e1
        rcases hsrc with ⟨h0, q1, q2⟩ | q
        · exact qz (m.inj z y g h0 c e2 q1 c2 (by rw [← q2]; exact c1))
        · have := (m.lt e2 c2).2
          have := q c c1
          omega
    · by_cases qz : z = x
      · exfalso
        subst qz
        rw [up_same] at e2
        rw [up_other _ _ qy] at e1
        cases e2
        rcases hsrc with ⟨h0, q1, q2⟩ | q
        · exact qy (m.inj y z h h0 c e1 q1 c1 (by rw [← q2]; exact c2))
        · have := (m.lt e1 c1).2
          have := q c c2
          omega
      · rw [up_other _ _ qy] at e1
        rw [up_other _ _ qz] at e2
        exact m.inj y z h g c e1 e2 c1 c2
  · have b2 : RowKit.Below 0 W W2 := (b1.mono (Nat.zero_le _)).grown hg (Nat.zero_le _) (fun _ _ => Nat.zero_le _)
    exact b2.trans f3.bel
end Go.Proofs.YtcebpdcijpgkjaaGreatDoor

