import Derived.Test.YtokgegbodbnimaaMsV
namespace Go.Proofs.Ytokgegbodbnimaa
open Go.RowKit Go.Maps

set_option maxRecDepth 100000 in
set_option maxHeartbeats 16000000 in
theorem Crash_some {O : Nat → Prop} {B : Nat} {M : Mm} {m0 m1 : Cn} {K : Nat} {W : World} (h : Sto O B M m0 m1 K W) (hO : ∀ b, O b → b < W.heap.size) (hK : 4 * K ≤ 1099511627776) {ka : Option Addr} {ks : List Int} {kc : Nat} (hk : Rk O W ka ks) (hkl : ks.length ≤ 1099511627776) (hk64 : ∀ k ∈ ks, k ≤ 9223372036854775807) {g pc : Nat} (hpv : M.pv = .slice (some ⟨g, 0, none⟩) M.ps.length pc) :
    Calls Try.prog 14 #[.pointer (some ⟨B, 0, none⟩), .agg #[.slice ka ks.length kc]] W fun v W' => v = .returned (.int .i64 0) ∧ Crd O B M m1 K ks W W' := by
  obtain ⟨k1, s1, hk1⟩ := h.s1
  have hKK := h.hK
  have hnl := nmsL_len M.ps
  have hlp := h.lp
  have hpp : M.ps.length ≤ pc ∧ ∃ cu, W.heap[g]? = some (.cells cu 84 (0, 0)) := by
    rcases h.pen.2 with ⟨q2, _⟩ | ⟨g2, cp, cu, q2, _, q3, q4, _⟩
    · rw [q2] at hpv; cases hpv
    · rw [q2] at hpv
      cases hpv
      exact ⟨q4, cu, q3⟩
  obtain ⟨hpc, pcu, hpb⟩ := hpp
  -- the choice in a box
  obtain ⟨Wb, hWb⟩ : ∃ w, w = W.alloc (.cells #[.slice ka ks.length kc] 34) := ⟨_, rfl⟩
  have bb : Below W.heap.size W Wb.drew := by rw [hWb]; exact ((Below.refl _ W).alloc (Nat.le_refl _) _).drew
  have hbox : Wb.heap[W.heap.size]? = some (.cells #[.slice ka ks.length kc] 34 (0, 0)) := by rw [hWb]; exact heap_new _ _
  have hb := h.later bb
  have s1b := s1.later bb
  have C1 := level_pv (o := 0) (o2 := 2) (u := M.u0) (d := M.d0) (d2 := M.d1) hb.blk rfl rfl (by decide) rfl hb.s0.dm s1b.dm (fun b e1 e2 => h.mne b e2 e1) hb.pen (fun o ho x hx => (h.pok o ho).names x hx) (Nat.lt_of_le_of_lt (show K + (nmsL M.ps).length ≤ 1099511627776 by omega) (by decide)) (by omega)
  rw [hpv] at C1
  have c4b : Wb.cell? ⟨B, 4, none⟩ = some (.slice (some ⟨g, 0, none⟩) M.ps.length pc) := by
    have e := hb.cells 4 M.pv rfl
    rw [hpv] at e
    exact e
  have N1 : ∀ W1, Lv Wb.drew B 0 2 M.cur M.d0 M.d1 M.H0 M.H1 K k1 (nmsL M.ps) (nmsL M.ps).length W1 → (∃ d' u', Cr O B M m1 K k1 ks W 0 W1 d' u' M.H1) ∧ W1.heap[W.heap.size]? = some (.cells #[.slice ka ks.length kc] 34 (0, 0)) ∧ W1.cell? ⟨B, 4, none⟩ = some (.slice (some ⟨g, 0, none⟩) M.ps.length pc) := fun W1 q => by
    obtain ⟨d', u', c⟩ := h.falls hO ks s1 bb q
    refine ⟨⟨d', u', c⟩, (q.fx.blk W.heap.size (blk_lt (show Wb.drew.heap[W.heap.size]? = _ from hbox)) fun z => ?_).trans hbox, ?_⟩
    · rcases z with z | z
      · have := blk_lt h.blk
        omega
      · have := h.s0.dm.lt z
        omega
    · rw [(cell_blk c.blk 4).1, ← hpv]
      rfl
  have HN1 := hide N1
  have HC1 := hide C1
  have HH := hide h
  have HS1 := hide s1
  have HK := hide hk
  have HO := hide hO
  have HPV := hide hpv
  have H64 := hide hk64
  obtain ⟨p, hp⟩ : ∃ x, x = M.ps.length := ⟨_, rfl⟩
  obtain ⟨kn, hkn⟩ : ∃ x, x = ks.length := ⟨_, rfl⟩
  have c3b : Wb.cell? ⟨W.heap.size, 0, none⟩ = some (.slice ka ks.length kc) := (cell_blk hbox 0).1
  clear N1 C1 h s1 hk hO hb s1b bb hbox hpb hk64
  rw [← hp] at c4b hpc hlp hnl hk1
  rw [← hkn] at c3b hkl hWb
  have HP := hide hp
  have HKN := hide hkn
  rw [← hkn]
  clear hp hkn hpv
  go_enter Try.func14, Try.ntmps14
  go_upto_region 3 with fail
  rw [← hWb]
  clear hWb
  go_region_with (first | (go_at_call 44; (try rw [unhide HP]); refine (unhide HC1).mono ?_; rintro x1 w1 ⟨rfl, HV1⟩; obtain ⟨⟨d9, u9, HCR⟩, hx1, hx2⟩ := unhide HN1 w1 HV1; have HCR := hide HCR; rw [← unhide HKN] at hx1; have hbx := (cell_blk hx1 0).1; rw [← unhide HP] at hx2; have HBX := hide hx1; clear HV1 hx1))
  rcases Nat.lt_or_ge kn p with hcmp | hcmp
  · skip
    have hq1 : (kn : Int) < (p : Int) := by omega
    have hq2 : ¬ ((p : Int) ≤ (kn : Int)) := by omega
    have hLm : kn = min p kn := by omega
    have hLp : kn ≤ p := by omega
    have hLk : kn ≤ kn := by omega
    have hLc : (kn : Int) ≤ (pc : Int) := by omega
    have HLM := hide hLm
    clear hLm
    go_upto_region 4 with fail
    go_big_region
    go_wp2_with fail
    go_loopg [5, 6, 7, 36] kn (fun g1 _ _ _ vi wr => ∃ (i : Nat) (d0 : Value) (u0 : Int) (H0 : Nm → Option Hd), vi = .int .i64 i ∧ i ≤ kn ∧ kn - i ≤ g1 ∧ Hid (Cr O B M m1 K k1 ks W i wr d0 u0 H0) ∧ Hid (wr.heap[W.heap.size]? = some (.cells #[.slice ka kn kc] 34 (0, 0))))
    case atStart => exact ⟨0, d9, u9, M.H1, by go_num, by omega, by omega, hide ((unhide HCR).later ((Below.refl _ _).drew)), HBX⟩
    case round =>
      clear HCR HBX hbx hx2
      obtain ⟨i, d0, u0, H0, rfl, hi, hg, HCR, HBX⟩ := hrel
      have hbx := (cell_blk (unhide HBX) 0).1
      by_cases hlt : i < kn
      · have hlt2 : (i : Int) < (kn : Int) := by omega
        have hlt3 : (i : Int) < (kn : Int) := by omega
        have hip : i < M.ps.length := by have := unhide HP; omega
        have hik : i < ks.length := by have := unhide HKN; omega
        have hce : wr.cell? ⟨g, i, none⟩ = some (.iface M.ps[i].ty M.ps[i].ag) := by
          have q := (unhide HCR).pen
          rw [unhide HPV] at q
          exact owns_at q i _ (vals_at M.ps i hip)
        obtain ⟨kb, ko, hka, hkc⟩ : ∃ kb ko, ka = some ⟨kb, ko, none⟩ ∧ wr.cell? ⟨kb, ko + i, none⟩ = some (.int .i64 ks[i]) := by
          rcases unhide HK with q | ⟨kb, ko, q1, q2, q3, q4⟩
          · rw [q] at hik; cases hik
          · refine ⟨kb, ko, q1, ?_⟩
            rw [← q4 i hik]
            unfold World.cell?
            rw [show wr.heap[(⟨kb, ko + i, none⟩ : Addr).block]? = W.heap[(⟨kb, ko + i, none⟩ : Addr).block]? from (unhide HCR).fx.blk kb q2 fun z => by
              rcases z with z | z
              · exact q3 z
              · omega]
        subst hka
        have cM := remnant_any M.ps[i] ks[i] (unhide H64 _ (List.getElem_mem hik)) ((unhide HCR).pok _ (List.getElem_mem hip)) (by
          have q1 := (unhide HCR).lb
          rw [bytesL_drop M.ps i hip] at q1
          omega)
        have HNO := hide (fun W2 (r : Rm wr W2 M.ps[i] ks[i] none) => (unhide HCR).none_ hip hik r)
        have HSO := hide (fun W2 o' (r : Rm wr W2 M.ps[i] ks[i] (some o')) => (unhide HCR).some_ hip hik r (by have := unhide HP; omega) (unhide HO) (unhide HH).oB (unhide HH).o1 (unhide HH).ohp)
        generalize M.ps[i] = op at *
        generalize ks[i] = kx at *
        go_upto_region 8 with (first | (go_at_call 45; refine cM.mono ?_; rintro x5 w5 ⟨r, rfl, HRM⟩; have HRM := hide HRM; have HB5 := hide (((unhide HRM).bel.block W.heap.size (blk_lt (unhide HBX))).trans (unhide HBX))))
        cases r with
        | none =>
          have HC5 := hide (unhide HNO w5 (unhide HRM))
          have nq := neqN
          have ei : ifv none = .nilIface := rfl
          rw [ei]
          clear HRM HCR HNO HSO cM
          go_wp2_with fail
          go_roundg (kn - (i + 1))
          case measure => omega
          case rel => exact ⟨i + 1, d0, u0, H0, by go_num, by omega, by omega, HC5, HB5⟩
        | some o' =>
          have C5 := unhide HSO w5 o' (unhide HRM)
          have nq := neqI o'
          have ei : ifv (some o') = .iface o'.ty o'.ag := rfl
          rw [ei]
          have mO := methO o'
          have eO := entO o'
          have nO := nilO o'
          clear HRM HCR HNO HSO cM
          go_upto_region 9 with fail
          go_region_with (first | (refine C5.mono ?_; rintro x6 w6 ⟨rfl, ⟨d6, u6, H6, HC6⟩, hkp⟩; have HC6 := hide HC6; have HB6 := hide ((hkp _ _ _ (unhide HB5) (by decide) (by decide)).trans (unhide HB5)); clear hkp))
          all_goals
            go_wp2_with fail
            go_roundg (kn - (i + 1))
            case measure => omega
            case rel => exact ⟨i + 1, d6, u6, H6, by go_num, by omega, by omega, HC6, HB6⟩
      · obtain rfl : i = kn := by omega
        have hcr := unhide HCR
        have hmn : i = min M.ps.length ks.length := by
          have a1 := unhide HLM
          have a2 := unhide HP
          have a3 := unhide HKN
          omega
        rw [hmn] at hcr
        have hcd := hcr.later ((Below.refl _ wr).drew)
        have C9 := level_pv (o := 2) (o2 := 0) (u := M.u1) (d := M.d1) (d2 := d0) hcd.blk rfl rfl (by decide) rfl hcd.s1.dm hcd.dir.dm (fun b e1 e2 => hcd.mne b e1 e2) hcd.pen (fun o ho x hx => (hcd.pok o ho).names x hx) (Nat.lt_of_le_of_lt (show k1 + (nmsL M.ps).length ≤ 1099511627776 by omega) (by decide)) (by have := unhide HP; omega)
        have N9 := hide (fun W2 q => Cr.ends (W2 := W2) hcd hK (by have := unhide HP; omega) (unhide HH).oB (unhide HH).o1 (by have := unhide HP; omega) (fun x bs e => by have := hcr.len x bs e; omega) q)
        have c49 : wr.cell? ⟨B, 4, none⟩ = some (.slice (some ⟨g, 0, none⟩) M.ps.length pc) := by
          rw [(cell_blk hcr.blk 4).1, ← unhide HPV]
          rfl
        rw [unhide HPV] at C9
        have HC9 := hide C9
        clear C9 hcr hcd HCR
        go_upto_region 11 with fail
        go_region_with (first | (go_at_call 44; refine (unhide HC9).mono ?_; rintro x7 w7 ⟨rfl, HV7⟩; rw [← unhide HPV] at HV7; obtain ⟨⟨c47, f47⟩, ⟨f7, c77, c78⟩, HE⟩ := unhide N9 w7 HV7; have HE := hide HE; have f77 := f7 7; have f78 := f7 8; clear HV7 f7))
        all_goals
          go_wp2_with fail
          go_ret
          exact ⟨rfl, unhide HE⟩
  · skip
    have hq1 : (p : Int) ≤ (kn : Int) := by omega
    have hq2 : ¬ ((kn : Int) < (p : Int)) := by omega
    have hLm : p = min p kn := by omega
    have hLp : p ≤ p := by omega
    have hLk : p ≤ kn := by omega
    have hLc : (p : Int) ≤ (pc : Int) := by omega
    have HLM := hide hLm
    clear hLm
    go_upto_region 4 with fail
    go_big_region
    go_wp2_with fail
    go_loopg [5, 6, 7, 36] p (fun g1 _ _ _ vi wr => ∃ (i : Nat) (d0 : Value) (u0 : Int) (H0 : Nm → Option Hd), vi = .int .i64 i ∧ i ≤ p ∧ p - i ≤ g1 ∧ Hid (Cr O B M m1 K k1 ks W i wr d0 u0 H0) ∧ Hid (wr.heap[W.heap.size]? = some (.cells #[.slice ka kn kc] 34 (0, 0))))
    case atStart => exact ⟨0, d9, u9, M.H1, by go_num, by omega, by omega, hide ((unhide HCR).later ((Below.refl _ _).drew)), HBX⟩
    case round =>
      clear HCR HBX hbx hx2
      obtain ⟨i, d0, u0, H0, rfl, hi, hg, HCR, HBX⟩ := hrel
      have hbx := (cell_blk (unhide HBX) 0).1
      by_cases hlt : i < p
      · have hlt2 : (i : Int) < (p : Int) := by omega
        have hlt3 : (i : Int) < (kn : Int) := by omega
        have hip : i < M.ps.length := by have := unhide HP; omega
        have hik : i < ks.length := by have := unhide HKN; omega
        have hce : wr.cell? ⟨g, i, none⟩ = some (.iface M.ps[i].ty M.ps[i].ag) := by
          have q := (unhide HCR).pen
          rw [unhide HPV] at q
          exact owns_at q i _ (vals_at M.ps i hip)
        obtain ⟨kb, ko, hka, hkc⟩ : ∃ kb ko, ka = some ⟨kb, ko, none⟩ ∧ wr.cell? ⟨kb, ko + i, none⟩ = some (.int .i64 ks[i]) := by
          rcases unhide HK with q | ⟨kb, ko, q1, q2, q3, q4⟩
          · rw [q] at hik; cases hik
          · refine ⟨kb, ko, q1, ?_⟩
            rw [← q4 i hik]
            unfold World.cell?
            rw [show wr.heap[(⟨kb, ko + i, none⟩ : Addr).block]? = W.heap[(⟨kb, ko + i, none⟩ : Addr).block]? from (unhide HCR).fx.blk kb q2 fun z => by
              rcases z with z | z
              · exact q3 z
              · omega]
        subst hka
        have cM := remnant_any M.ps[i] ks[i] (unhide H64 _ (List.getElem_mem hik)) ((unhide HCR).pok _ (List.getElem_mem hip)) (by
          have q1 := (unhide HCR).lb
          rw [bytesL_drop M.ps i hip] at q1
          omega)
        have HNO := hide (fun W2 (r : Rm wr W2 M.ps[i] ks[i] none) => (unhide HCR).none_ hip hik r)
        have HSO := hide (fun W2 o' (r : Rm wr W2 M.ps[i] ks[i] (some o')) => (unhide HCR).some_ hip hik r (by have := unhide HP; omega) (unhide HO) (unhide HH).oB (unhide HH).o1 (unhide HH).ohp)
        generalize M.ps[i] = op at *
        generalize ks[i] = kx at *
        go_upto_region 8 with (first | (go_at_call 45; refine cM.mono ?_; rintro x5 w5 ⟨r, rfl, HRM⟩; have HRM := hide HRM; have HB5 := hide (((unhide HRM).bel.block W.heap.size (blk_lt (unhide HBX))).trans (unhide HBX))))
        cases r with
        | none =>
          have HC5 := hide (unhide HNO w5 (unhide HRM))
          have nq := neqN
          have ei : ifv none = .nilIface := rfl
          rw [ei]
          clear HRM HCR HNO HSO cM
          go_wp2_with fail
          go_roundg (p - (i + 1))
          case measure => omega
          case rel => exact ⟨i + 1, d0, u0, H0, by go_num, by omega, by omega, HC5, HB5⟩
        | some o' =>
          have C5 := unhide HSO w5 o' (unhide HRM)
          have nq := neqI o'
          have ei : ifv (some o') = .iface o'.ty o'.ag := rfl
          rw [ei]
          have mO := methO o'
          have eO := entO o'
          have nO := nilO o'
          clear HRM HCR HNO HSO cM
          go_upto_region 9 with fail
          go_region_with (first | (refine C5.mono ?_; rintro x6 w6 ⟨rfl, ⟨d6, u6, H6, HC6⟩, hkp⟩; have HC6 := hide HC6; have HB6 := hide ((hkp _ _ _ (unhide HB5) (by decide) (by decide)).trans (unhide HB5)); clear hkp))
          all_goals
            go_wp2_with fail
            go_roundg (p - (i + 1))
            case measure => omega
            case rel => exact ⟨i + 1, d6, u6, H6, by go_num, by omega, by omega, HC6, HB6⟩
      · obtain rfl : i = p := by omega
        have hcr := unhide HCR
        have hmn : i = min M.ps.length ks.length := by
          have a1 := unhide HLM
          have a2 := unhide HP
          have a3 := unhide HKN
          omega
        rw [hmn] at hcr
        have hcd := hcr.later ((Below.refl _ wr).drew)
        have C9 := level_pv (o := 2) (o2 := 0) (u := M.u1) (d := M.d1) (d2 := d0) hcd.blk rfl rfl (by decide) rfl hcd.s1.dm hcd.dir.dm (fun b e1 e2 => hcd.mne b e1 e2) hcd.pen (fun o ho x hx => (hcd.pok o ho).names x hx) (Nat.lt_of_le_of_lt (show k1 + (nmsL M.ps).length ≤ 1099511627776 by omega) (by decide)) (by have := unhide HP; omega)
        have N9 := hide (fun W2 q => Cr.ends (W2 := W2) hcd hK (by have := unhide HP; omega) (unhide HH).oB (unhide HH).o1 (by have := unhide HP; omega) (fun x bs e => by have := hcr.len x bs e; omega) q)
        have c49 : wr.cell? ⟨B, 4, none⟩ = some (.slice (some ⟨g, 0, none⟩) M.ps.length pc) := by
          rw [(cell_blk hcr.blk 4).1, ← unhide HPV]
          rfl
        rw [unhide HPV] at C9
        have HC9 := hide C9
        clear C9 hcr hcd HCR
        go_upto_region 11 with fail
        go_region_with (first | (go_at_call 44; refine (unhide HC9).mono ?_; rintro x7 w7 ⟨rfl, HV7⟩; rw [← unhide HPV] at HV7; obtain ⟨⟨c47, f47⟩, ⟨f7, c77, c78⟩, HE⟩ := unhide N9 w7 HV7; have HE := hide HE; have f77 := f7 7; have f78 := f7 8; clear HV7 f7))
        all_goals
          go_wp2_with fail
          go_ret
          exact ⟨rfl, unhide HE⟩
end Go.Proofs.Ytokgegbodbnimaa
