import Derived.Test.YtboajcpfoejfeaaTzU
namespace Go.Proofs.Ytboajcpfoejfeaa
open Go.RowKit Go.Maps

theorem gl_of {wr : World} {lo : Nat} {av : Value} {E : List En} (hrow : wr.ownsRow lo 28 1 av E.length (E.map (·.1))) (hown : ∀ e ∈ E, Sl wr e.1 e.2) : Gl wr av (E.map (·.2)) := by
  obtain ⟨a, c, rfl⟩ := owns_form hrow
  refine ⟨a, c, by rw [List.length_map], fun h0 => ?_⟩
  rw [List.length_map] at h0
  rcases hrow.2 with ⟨h1, h2⟩ | ⟨g, cap, cur, h1, h2, h3, h4⟩
  · omega
  · cases h1
    refine ⟨g, 0, rfl, blk_lt h3, fun i l hi => ?_⟩
    rw [List.getElem?_map] at hi
    obtain ⟨e, he, rfl⟩ := Option.map_eq_some_iff.1 hi
    exact ⟨e.1, by rw [Nat.zero_add]; exact owns_at hrow i _ (by rw [List.getElem?_map, he]; rfl), hown e (List.mem_of_getElem? he)⟩
theorem gl_fx {W C X : World} {v : Value} {E : List En} {a b : Nat} (h : Ga W C v E) (f : Fx (fun k => a ≤ k ∧ k < b) C X) (hb : b ≤ W.heap.size) : Gl X v (E.map (·.2)) :=
  gl_of (own_same h.row fun g e => f.blk g (World.ownsRow.lt h.row g e).2 fun q => by have := (World.ownsRow.lt h.row g e).1; omega) fun e he => own_sl (own_same (h.own e he) fun g q => f.blk g (World.ownsRow.lt (h.own e he) g q).2 fun z => by have := (World.ownsRow.lt (h.own e he) g q).1; omega)
def Dn (E : List En) (Y : Nat → List Nm) (i : Nat) : Prop := ∀ (j : Nat) (e : En), j < i → E[j]? = some e → Y j = List.replicate e.2.length (mk j)
theorem Dn.set {E : List En} {Y : Nat → List Nm} {i : Nat} (h : Dn E Y i) (k : Nat) (c : Nm) : Dn E (setY Y i k c) i := fun j e hj he => by
  unfold setY
  rw [if_neg (by omega)]
  exact h j e hj he
theorem Dn.next {E : List En} {Y : Nat → List Nm} {i : Nat} {e : En} (h : Dn E Y i) (he : E[i]? = some e) (hy : (Y i).take e.2.length = List.replicate e.2.length (mk i)) (hl : (Y i).length = e.2.length) : Dn E Y (i + 1) := fun j x hj hx => by
  by_cases q : j = i
  · subst q
    rw [he] at hx
    cases hx
    rw [← hl, List.take_length] at hy
    rw [hl] at hy
    exact hy
  · exact h j x (by omega) hx
theorem setY_take {Y : Nat → List Nm} {i k : Nat} {c : Nm} (hk : k < (Y i).length) (h : (Y i).take k = List.replicate k c) : (setY Y i k c i).take (k + 1) = List.replicate (k + 1) c := by
  unfold setY
  rw [if_pos rfl, List.take_add_one, List.getElem?_set_self hk, List.take_set_of_le (Nat.le_refl _), h, List.replicate_succ']
  rfl
/-- WHILE IT GROWS. -/
structure Sx (A C wi wr : World) (a : Option Addr) (b m c : Nat) (l : List Nm) (mv : Value) (t : Nat) : Prop where
  on : Onto wi 9 1 a b 0 m c (sv l) wr mv t (sv (rp t))
  ow : wr.ownsRow A.heap.size 9 1 mv (m + t) (sv (l ++ rp t))
  bw : Below A.heap.size A wr
  bz : Below 0 C wr
theorem Sx.next {A C wi wr : World} {a : Option Addr} {b m c t : Nat} {l : List Nm} {mv : Value} (h : Sx A C wi wr a b m c l mv t) (hl : l.length = m) (hc : Came wi 1 a b 0 m c (sv l)) (hm : m ≤ 2513169434843) (ht : t < 100) :
    ∃ x' w9, (Builtin.append_ #[28, 28] 28 #[mv, .slice (some ⟨wr.heap.size, 0, none⟩) 1 1]).run Try.prog (wr.alloc (.cells #[.string ⟨#[77, 79, 82, 69]⟩] 9)) = .ok x' w9 ∧ Sx A C wi w9 a b m c l x' (t + 1) := by
  obtain ⟨x', w9, h1, h2, h3, h4, h5⟩ := app_both hl hc h.on h.ow h.bw hm ht 28
  exact ⟨x', w9, h1, h2, h3, h4, h.bz.trans h5⟩
set_option maxRecDepth 100000 in
set_option maxHeartbeats 32000000 in
theorem twins_walk {w : World} {v : Value} {fs : List Fi} (hl : fs.length ≤ 2513169434843) (h : Fis w v fs) :
    Calls Try.prog 3 #[v] w fun e w' => e = .returned (.bool true) ∧ Below w.heap.size w w' := by
  obtain ⟨va, vc, rfl⟩ := h.form
  have CL := hide (lentFiles_any hl h)
  have HF := hide h
  have HOK := hide h.ok
  obtain ⟨N, hN⟩ : ∃ N, N = fs.length := ⟨_, rfl⟩
  have HN := hide hN
  rw [← hN] at hl CL HF ⊢
  obtain ⟨B0, hB0⟩ : ∃ B0, B0 = w.heap.size := ⟨_, rfl⟩
  have HB0 := hide hB0
  rw [← hB0] at CL
  clear h hN hB0
  -- the answers
  have CT := hide (show ∀ (X : World), Fb X B0 fs → Calls Try.prog 5 #[.slice (some ⟨B0, 0, none⟩) N (N + 1)] X fun e w' => ∃ r E, e = .returned r ∧ Ga X w' r E ∧ Inj E ∧ Tws fs (E.map (·.2)) from fun X hX => by
    have := unhide HN
    subst this
    exact Twins_any hl (hX.fis _))
  have CR := hide (show ∀ (X : World), Below w.heap.size w X → Calls Try.prog 6 #[.slice va N vc] X fun e w' => ∃ r E, e = .returned r ∧ Ga X w' r E ∧ Tws fs (E.map (·.2)) from fun X hX => by
    have := unhide HN
    subst this
    exact rTwins_any hl ((unhide HF).later hX))
  have CS := hide (show ∀ (X : World), Fb X B0 fs → Fis X (.slice va N vc) fs → Calls Try.prog 8 #[.slice (some ⟨B0, 0, none⟩) N (N + 1), .slice va N vc] X fun e w' => e = .returned (.bool true) ∧ ∃ n, w' = X.drewN n from fun X hX hY => by
    have := unhide HN
    subst this
    exact stillFiles_yes hl (Nat.le_refl _) hX hY)
  have CG := hide (show ∀ (X : World) (u1 u2 : Value) (L : List (List Nm)), Tws fs L → Gl X u1 L → Gl X u2 L → Calls Try.prog 7 #[u1, u2] X fun e w' => e = .returned (.bool true) ∧ ∃ n, w' = X.drewN n from fun X u1 u2 L ht h1 h2 => sameGroups_yes (Nat.le_trans ht.len (by have := unhide HN; omega)) (fun l hl2 => Nat.le_trans (ht.row hl2) (by have := unhide HN; omega)) h1 h2)
  go_enter Try.func3, Try.ntmps3
  go_wp2_with fail
  refine (unhide CL).mono ?_
  rintro e W0 ⟨rfl, hFb, hB1⟩
  have HFB := hide hFb
  rw [unhide HB0] at hB1
  have HW0 := hide hB1
  clear hFb hB1 CL
  go_wp2_with fail
  refine (unhide CT W0 (unhide HFB)).mono ?_
  rintro e Wa ⟨ra, Ea, rfl, hGa, hIa, hTa⟩
  have HGA := hide hGa
  have HIA := hide hIa
  have HTA := hide hTa
  have HFA := hide ((unhide HFB).later hGa.bw)
  have HWA := hide (bl_t (unhide HW0) hGa.bw)
  clear hGa hIa hTa
  go_wp2_with fail
  refine (unhide CT Wa (unhide HFA)).mono ?_
  rintro e Wb ⟨rb, Eb, rfl, hGb, _, hTb⟩
  have HGB := hide hGb
  have HLB := hide (show Eb.map (·.2) = Ea.map (·.2) from hTb.uniq (unhide HTA))
  have HFB2 := hide ((unhide HFA).later hGb.bw)
  have HWB := hide (bl_t (unhide HWA) hGb.bw)
  clear hGb hTb
  go_wp2_with fail
  refine (unhide CR Wb (unhide HWB)).mono ?_
  rintro e Wc ⟨rc, Ec, rfl, hGc, hTc⟩
  have HGC := hide hGc
  have HLC := hide (show Ec.map (·.2) = Ea.map (·.2) from hTc.uniq (unhide HTA))
  have HFC := hide ((unhide HFB2).later hGc.bw)
  have HWC := hide (bl_t (unhide HWB) hGc.bw)
  have HAC := hide (show Below Wa.heap.size Wa Wc from bl_t (unhide HGB).bw hGc.bw)
  clear hGc hTc
  have C1 := hide (unhide CG Wc ra rc _ (unhide HTA) ((unhide HGA).later (unhide HAC)).gl (by have := (unhide HGC).gl; rw [unhide HLC] at this; exact this))
  have C2 := hide (show ∀ n, Calls Try.prog 8 #[.slice (some ⟨B0, 0, none⟩) N (N + 1), .slice va N vc] (Wc.drewN n) fun e w' => e = .returned (.bool true) ∧ ∃ m, w' = (Wc.drewN n).drewN m from fun n => unhide CS _ ((unhide HFC).later (bl_drewN _ _)) ((unhide HF).later (bl_t (unhide HWC) (bl_drewN _ _))))
  go_wp2_with (first
    | (go_at_call 7; refine (unhide C1).mono ?_; rintro e W1 ⟨rfl, n1, rfl⟩; clear C1)
    | (go_at_call 8; refine (unhide C2 _).mono ?_; rintro e W2 ⟨rfl, n2, rfl⟩; clear C2))
  have HCD := hide (bl_drewN Wc (n1 + n2))
  generalize hC : Wc.drewN (n1 + n2) = C
  rw [hC] at HCD
  clear hC
  have HBC := hide (bl_t (unhide HAC) (unhide HCD))
  have HWX := hide (bl_t (unhide HWC) (unhide HCD))
  obtain ⟨hLK, hLW⟩ := Lw.start (unhide HGA) (unhide HIA) (unhide HBC)
  have HLK := hide hLK
  obtain ⟨aa, ac, rfl⟩ := owns_form (unhide HGA).row
  obtain ⟨Y0, hLW⟩ : ∃ Y0 : Nat → List Nm, Lw W0 Wa C C (.slice aa Ea.length ac) Ea Y0 0 := ⟨_, hLW⟩
  have HLW := hide hLW
  have hnl : Ea.length ≤ 2513169434843 := by
    have h1 := (unhide HTA).len
    rw [List.length_map] at h1
    have := unhide HN
    omega
  have HEL := hide (show ∀ e ∈ Ea, e.2.length ≤ 2513169434843 from fun e he => Nat.le_trans ((unhide HTA).row (List.mem_map.2 ⟨e, he, rfl⟩)) (by have := unhide HN; omega))
  have HDN := hide (show Dn Ea Y0 0 from fun j e hj => absurd hj (Nat.not_lt_zero _))
  obtain ⟨n, hn⟩ : ∃ n, n = Ea.length := ⟨_, rfl⟩
  have Hn := hide hn
  rw [← hn] at hnl HLK HLW ⊢
  clear hn hLK hLW n1 n2
  go_loopg [7, 8] n (fun gq iv _ wr => ∃ (i : Nat) (Y : Nat → List Nm), iv = .int .i64 i ∧ i ≤ n ∧ n - i ≤ gq ∧ Hid (Lw W0 Wa C wr (.slice aa n ac) Ea Y 0) ∧ Hid (Dn Ea Y i))
  case atStart => exact ⟨0, Y0, by go_num, by omega, by omega, HLW, HDN⟩
  case round =>
    clear HLW HDN
    obtain ⟨i, Y, rfl, hi, hg, HL, HD⟩ := hrel
    by_cases hlt : i < n
    · have hin : (i : Int) < (n : Int) := by omega
      obtain ⟨e, he⟩ : ∃ e, Ea[i]? = some e := ⟨_, List.getElem?_eq_getElem (by have := unhide Hn; omega)⟩
      have hem := unhide HEL e (List.mem_of_getElem? he)
      obtain ⟨gb, rfl⟩ : ∃ gb, aa = some ⟨gb, 0, none⟩ := by
        rcases (unhide HL).row.2 with ⟨q, q0⟩ | ⟨g2, c2, cur2, e2, _⟩
        · have := unhide Hn; omega
        · cases e2; exact ⟨g2, rfl⟩
      have HE := hide he
      have HCE := hide (show ∀ (X : World) (Y : Nat → List Nm), Lw W0 Wa C X (.slice (some ⟨gb, 0, none⟩) n ac) Ea Y 0 → X.cell? ⟨gb, i, none⟩ = some e.1 from fun X Y hX => owns_at hX.row i _ (by rw [List.getElem?_map, he]; rfl))
      obtain ⟨ea, ec, hef⟩ := owns_form ((unhide HL).own i e (Nat.zero_le _) he)
      have HEF := hide hef
      obtain ⟨m, hm⟩ : ∃ m, m = e.2.length := ⟨_, rfl⟩
      have Hm := hide hm
      rw [← hm] at hem hef
      rw [hef] at HCE
      have HST := hide (show (Y i).take 0 = List.replicate 0 (mk i) from rfl)
      clear hm hef he
      go_wp2_with fail
      go_loopg [8] m (fun gq kv wr => ∃ (k : Nat) (Y : Nat → List Nm), kv = .int .i64 k ∧ k ≤ m ∧ m - k ≤ gq ∧ Hid (Lw W0 Wa C wr (.slice (some ⟨gb, 0, none⟩) n ac) Ea Y 0) ∧ Hid (Dn Ea Y i) ∧ Hid ((Y i).take k = List.replicate k (mk i)))
      case atStart => exact ⟨0, Y, by go_num, by omega, by omega, HL, HD, HST⟩
      case round =>
        clear HL HD HST
        obtain ⟨k, Y2, rfl, hk, hgk, HL, HD, HT⟩ := hrel
        have hc := unhide HCE wr Y2 (unhide HL)
        by_cases hkl : k < m
        · have hkn : (k : Int) < (m : Int) := by omega
          go_wp2_with fail
          refine reg13 (unhide HLK) (unhide HL) (unhide HE) (unhide Hn) (by have := unhide Hm; omega) (by omega) (fun _ _ _ _ h => h) ?_
          intro s48 s49 s50 s51 s52 s53 s54 s55 s56 s57 s58 s59 s60 w9 hw9
          have HN1 := hide hw9
          have HN2 := hide ((unhide HD).set k (mk i))
          have HN3 := hide (setY_take (by rw [((unhide HL).old i e (unhide HE)).2]; have := unhide Hm; omega) (unhide HT))
          clear hw9
          go_wp2_with fail
          go_roundg (m - (k + 1))
          case measure => omega
          case rel => exact ⟨k + 1, _, by go_num, by omega, by omega, HN1, HN2, HN3⟩
        · obtain rfl : k = m := by omega
          have HD2 := hide ((unhide HD).next (unhide HE) (by rw [← unhide Hm]; exact unhide HT) ((unhide HL).old i e (unhide HE)).2)
          go_wp2_with fail
          go_roundg (n - (i + 1))
          case measure => omega
          case rel => exact ⟨i + 1, Y2, by go_num, by omega, by omega, HL, HD2⟩
    · obtain rfl : i = n := by omega
      have HWL := hide (show ∀ (X : World) (Y : Nat → List Nm) (j : Nat), Lw W0 Wa C X (.slice aa i ac) Ea Y j → Below W0.heap.size W0 X from fun X Y j hX => by
        have h1 := bl_t (unhide HGA).bw (unhide HBC)
        exact h1.trans (hX.fx.below h1.size fun b hb q => by omega))
      have HSZ := hide (bl_t (unhide HGA).bw (unhide HBC)).size
      have HL0 := hide ((unhide HL).mono (Nat.zero_le 0))
      go_wp2_with fail
      go_loopg [9, 10, 11] i (fun gq jv _ _ wr => ∃ j : Nat, jv = .int .i64 j ∧ j ≤ i ∧ i - j ≤ gq ∧ Hid (Lw W0 Wa C wr (.slice aa i ac) Ea Y j))
      case atStart => exact ⟨0, by go_num, by omega, by omega, HL0⟩
      case round =>
        clear HL HL0
        obtain ⟨j, rfl, hj, hgj, HL⟩ := hrel
        by_cases hjl : j < i
        · have hjn : (j : Int) < (i : Int) := by omega
          obtain ⟨e, he⟩ : ∃ e, Ea[j]? = some e := ⟨_, List.getElem?_eq_getElem (by have := unhide Hn; omega)⟩
          have hem := unhide HEL e (List.mem_of_getElem? he)
          obtain ⟨gb, rfl⟩ : ∃ gb, aa = some ⟨gb, 0, none⟩ := by
            rcases (unhide HL).row.2 with ⟨q, q0⟩ | ⟨g2, c2, cur2, e2, _⟩
            · have := unhide Hn; omega
            · cases e2; exact ⟨g2, rfl⟩
          obtain ⟨ca, cb, cc, hv, hcm, hb2, hmx⟩ := (unhide HL).came he
          have hyl := ((unhide HL).old j e he).2
          have hc0 : wr.cell? ⟨gb, j, none⟩ = some e.1 := owns_at (unhide HL).row j _ (by rw [List.getElem?_map, he]; rfl)
          have HAFT := hide (show ∀ (X : World) (x : Value), Sx W0 C wr X ca cb e.2.length cc (Y j) x 100 → Lw W0 Wa C X (.slice (some ⟨gb, 0, none⟩) i ac) Ea Y (j + 1) ∧ X.cell? ⟨gb, j, none⟩ = some e.1 ∧ ∃ g9 o9 c9, x = .slice (some ⟨g9, o9, none⟩) (e.2.length + 100) c9 from fun X x hX => by
            have h1 := (unhide HL).after (unhide HLK) he hv hcm hb2 hX.on hX.bz (by have := (unhide HL).fx.size; exact this)
            obtain ⟨g9, o9, c9, h2, _⟩ := hX.on.value hcm hmx (.inr (by decide))
            exact ⟨h1, owns_at h1.row j _ (by rw [List.getElem?_map, he]; rfl), g9, o9, c9, h2⟩)
          have hs0 : Sx W0 C wr wr ca cb e.2.length cc (Y j) (.slice ca e.2.length cc) 0 := ⟨Onto.start hcm, by have h9 := (unhide HL).own j e (Nat.le_refl _) he; rw [hv] at h9; rw [show Y j ++ rp 0 = Y j from List.append_nil _]; exact h9, unhide HWL wr Y j (unhide HL), (unhide HL).fx.bel⟩
          have HCM := hide hcm
          have HYL := hide hyl
          rw [hv] at hc0 HAFT
          obtain ⟨x1, w1, hr1, hs1⟩ := hs0.next hyl hcm hem (by decide)
          have KR := hide hr1
          have HS1 := hide hs1
          obtain ⟨m, hm⟩ : ∃ m, m = e.2.length := ⟨_, rfl⟩
          rw [← hm] at hem hc0 HAFT KR HS1 HCM HYL
          clear hs0 hr1 hs1 hcm hv hm hb2 he hyl hmx
          obtain ⟨W3, hW3⟩ : ∃ W3, W3 = wr := ⟨_, rfl⟩
          rw [← hW3] at hc0 HAFT KR HS1 HCM ⊢
          clear hW3 HL
          go_wp2_with (at_builtin; go_must (refine wpList_append_run rfl _ _ 28 rfl _ _ rfl rfl (unhide KR) ?_))
          go_loopg [10, 11] 99 (fun gq mv kv wr => ∃ t : Nat, kv = .int .i64 t ∧ t ≤ 99 ∧ 99 - t ≤ gq ∧ Hid (Sx W0 C W3 wr ca cb m cc (Y j) mv (t + 1)))
          case atStart => exact ⟨0, by go_num, by omega, by omega, HS1⟩
          case round =>
            clear HS1 KR hc0
            obtain ⟨t, rfl, ht, hgt, HS⟩ := hrel
            by_cases htl : t < 99
            · have htn : (t : Int) < 99 := by omega
              obtain ⟨x2, w2, hr2, hs2⟩ := (unhide HS).next (unhide HYL) (unhide HCM) hem (by omega)
              have KR := hide hr2
              have HS2 := hide hs2
              clear hr2 hs2
              go_wp2_with (at_builtin; go_must (refine wpList_append_run rfl _ _ 28 rfl _ _ rfl rfl (unhide KR) ?_))
              go_roundg (99 - (t + 1))
              case measure => omega
              case rel => exact ⟨t + 1, by go_num, by omega, by omega, HS2⟩
            · obtain rfl : t = 99 := by omega
              obtain ⟨hl2, hc2, g9, o9, c9, rfl⟩ := unhide HAFT wr _ (unhide HS)
              have HN2 := hide hl2
              clear hl2 HS
              go_wp2_with fail
              go_roundg (i - (j + 1))
              case measure => omega
              case rel => exact ⟨j + 1, by go_num, by omega, by omega, HN2⟩
        · obtain rfl : j = i := by omega
          have HFX := hide (show ∀ (X : World), Fx (fun b => W0.heap.size ≤ b ∧ b < Wa.heap.size) C X → Below w.heap.size w X from fun X hX => (unhide HWX).trans (hX.below (unhide HWX).size fun b hb q => by have := (unhide HW0).size; omega))
          go_wp2_with fail
          go_loopg [12, 13] j (fun gq pv _ wr => ∃ p : Nat, pv = .int .i64 p ∧ p ≤ j ∧ j - p ≤ gq ∧ Hid (Lw W0 Wa C wr (.slice aa j ac) Ea Y j))
          case atStart => exact ⟨0, by go_num, by omega, by omega, HL⟩
          case round =>
            clear HL
            obtain ⟨p, rfl, hp, hgp, HL⟩ := hrel
            by_cases hpl : p < j
            · have hpn : (p : Int) < (j : Int) := by omega
              obtain ⟨e, he⟩ : ∃ e, Ea[p]? = some e := ⟨_, List.getElem?_eq_getElem (by have := unhide Hn; omega)⟩
              have hem := unhide HEL e (List.mem_of_getElem? he)
              obtain ⟨gb, rfl⟩ : ∃ gb, aa = some ⟨gb, 0, none⟩ := by
                rcases (unhide HL).row.2 with ⟨q, q0⟩ | ⟨g2, c2, cur2, e2, _⟩
                · have := unhide Hn; omega
                · cases e2; exact ⟨g2, rfl⟩
              have hye := unhide HD p e hpl he
              obtain ⟨ea, ec, hef⟩ := ((unhide HL).old p e he).1.form
              rw [((unhide HL).old p e he).2] at hef
              have HALL := hide (show ∀ (X : World), Lw W0 Wa C X (.slice (some ⟨gb, 0, none⟩) j ac) Ea Y j → gb < X.heap.size ∧ X.cell? ⟨gb, p, none⟩ = some (.slice ea e.2.length ec) ∧ ∀ k, k < e.2.length → ∃ g o, ea = some ⟨g, o, none⟩ ∧ g < X.heap.size ∧ X.cell? ⟨g, o + k, none⟩ = some (.string (mk p)) from fun X hX => by
                refine ⟨(World.ownsRow.lt hX.row gb rfl).2, by rw [← hef]; exact owns_at hX.row p _ (by rw [List.getElem?_map, he]; rfl), fun k hk => ?_⟩
                obtain ⟨h1, h2⟩ := hX.old p e he
                rw [hef] at h1
                obtain ⟨g, o, h3, h4, h5⟩ := h1.at (i := k) (by omega)
                refine ⟨g, o, h3, h4, ?_⟩
                rw [h5]
                congr 2
                simp [hye])
              obtain ⟨m, hm⟩ : ∃ m, m = e.2.length := ⟨_, rfl⟩
              rw [← hm] at hem HALL
              clear hm hef he hye
              go_wp2_with fail
              go_loopg [13] m (fun gq kv wr => ∃ k : Nat, kv = .int .i64 k ∧ k ≤ m ∧ m - k ≤ gq ∧ Hid (Lw W0 Wa C wr (.slice (some ⟨gb, 0, none⟩) j ac) Ea Y j))
              case atStart => exact ⟨0, by go_num, by omega, by omega, HL⟩
              case round =>
                clear HL
                obtain ⟨k, rfl, hk, hgk, HL⟩ := hrel
                obtain ⟨hgb, hc, hcs⟩ := unhide HALL wr (unhide HL)
                by_cases hkl : k < m
                · have hkn : (k : Int) < (m : Int) := by omega
                  obtain ⟨g, o, rfl, hgl, hck⟩ := hcs k hkl
                  clear hcs
                  go_wp2_with fail
                  refine reg30 hpn hkn (by omega) hgb hgl hc hck (fun _ _ _ _ h => h) ?_
                  intro s104 s105 s106 s107 s108 s109 s110 s111 s112 s113 s114 s115 s116 s117 w9 hw9
                  have HN1 := hide ((unhide HL).later hw9)
                  clear hw9 hc hck
                  go_wp2_with fail
                  go_roundg (m - (k + 1))
                  case measure => omega
                  case rel => exact ⟨k + 1, by go_num, by omega, by omega, HN1⟩
                · obtain rfl : k = m := by omega
                  clear hcs
                  go_wp2_with fail
                  go_roundg (j - (p + 1))
                  case measure => omega
                  case rel => exact ⟨p + 1, by go_num, by omega, by omega, HL⟩
            · obtain rfl : p = j := by omega
              have hfx := (unhide HL).fx
              have HG1 := hide (show Gl wr rb (Ea.map (·.2)) from by rw [← unhide HLB]; exact gl_fx ((unhide HGB).later (bl_t (unhide HGC).bw (unhide HCD))) hfx (Nat.le_refl _))
              have HG2 := hide (show Gl wr rc (Ea.map (·.2)) from by rw [← unhide HLC]; exact gl_fx ((unhide HGC).later (unhide HCD)) hfx (unhide HGB).bw.size)
              have HF2 := hide (show Fb wr B0 fs from ((unhide HFC).later (unhide HCD)).same hfx.size (hfx.blk B0 ((unhide HFC).later (unhide HCD)).blk.lt fun q => by have := (unhide HFB).blk.lt; omega))
              have HWR := hide (unhide HFX wr hfx)
              have C1 := hide (unhide CG wr rb rc _ (unhide HTA) (unhide HG1) (unhide HG2))
              have C2 := hide (show ∀ n, Calls Try.prog 8 #[.slice (some ⟨B0, 0, none⟩) N (N + 1), .slice va N vc] (wr.drewN n) fun e w' => e = .returned (.bool true) ∧ ∃ m, w' = (wr.drewN n).drewN m from fun n => unhide CS _ ((unhide HF2).later (bl_drewN _ _)) ((unhide HF).later (bl_t (unhide HWR) (bl_drewN _ _))))
              clear hfx HG1 HG2 HL HD
              go_wp2_with (first
                | (go_at_call 7; refine (unhide C1).mono ?_; rintro e W1 ⟨rfl, n1, rfl⟩; clear C1)
                | (go_at_call 8; refine (unhide C2 _).mono ?_; rintro e W2 ⟨rfl, n2, rfl⟩; clear C2))
              have HD2 := hide (bl_drewN wr (n1 + n2))
              generalize hD : wr.drewN (n1 + n2) = D
              rw [hD] at HD2
              clear hD
              have HFD := hide ((unhide HF2).later (unhide HD2))
              have HWD := hide (bl_t (unhide HWR) (unhide HD2))
              have HLN := hide (show fs.length = N from (unhide HN).symm)
              clear HF2 HWR HD2
              go_loopg [14] N (fun gq qv wr => ∃ (q : Nat) (gs : List Fi), qv = .int .i64 q ∧ q ≤ N ∧ N - q ≤ gq ∧ Hid (Fb wr B0 gs) ∧ Hid (gs.length = N) ∧ Hid (Below w.heap.size w wr))
              case atStart => exact ⟨0, fs, by go_num, by omega, by omega, HFD, HLN, HWD⟩
              case round =>
                clear HFD HLN HWD
                obtain ⟨q, gs, rfl, hq, hgq, HFG, HLG, HWG⟩ := hrel
                by_cases hql : q < N
                · have hqn : (q : Int) < (N : Int) := by omega
                  obtain ⟨f, hf⟩ : ∃ f, gs[q]? = some f := ⟨_, List.getElem?_eq_getElem (by have := unhide HLG; omega)⟩
                  have hcz : wr.cell? ⟨B0, q * 34 + 1, none⟩ = some (.int .i64 f.z) := (unhide HFG).cell (j := 1) hf rfl
                  have hfz : wr.frozen? ⟨B0, q * 34 + 1, none⟩ = false := (unhide HFG).blk.fr _
                  have hrem : Int.tmod (q : Int) 2 = ((q % 2 : Nat) : Int) := by rw [Int.tmod_eq_emod_of_nonneg (by omega)]; omega
                  have hw9 : IntKind.i64.wrap ((q % 2 : Nat) : Int) = ((q % 2 : Nat) : Int) := wrap_small _ (by omega)
                  have hwf : (Lit.int .i64 ((q % 2 : Nat) : Int)).wf = true := by
                    rcases Nat.mod_two_eq_zero_or_one q with z | z <;> rw [z] <;> decide
                  have HN1 := hide ((unhide HFG).write hf hwf)
                  have HN2 := hide (show (gs.set q (f.sz ((q % 2 : Nat) : Int))).length = N from by rw [List.length_set]; exact unhide HLG)
                  have HN3 := hide ((unhide HWG).setCell (p := ⟨B0, q * 34 + 1, none⟩) (by have := unhide HB0; show w.heap.size ≤ B0; omega) (.int .i64 ((q % 2 : Nat) : Int)))
                  generalize q % 2 = r2 at *
                  clear hf hwf
                  go_wp2_with fail
                  go_roundg (N - (q + 1))
                  case measure => omega
                  case rel => exact ⟨q + 1, _, by go_num, by omega, by omega, HN1, HN2, HN3⟩
                · obtain rfl : q = N := by omega
                  have hfis : Fis wr (.slice (some ⟨B0, 0, none⟩) q (q + 1)) gs := by have := (unhide HFG).fis (q + 1); rw [unhide HLG] at this; exact this
                  have hlg : gs.length ≤ 2513169434843 := by have := unhide HLG; omega
                  have D1 := hide (rTwins_any hlg hfis)
                  have D2 := hide (fun (X : World) (hX : Below wr.heap.size wr X) => Twins_any hlg (hfis.later hX))
                  have D3 := hide (fun (X : World) (u1 u2 : Value) (L : List (List Nm)) (ht : Tws gs L) (h1 : Gl X u1 L) (h2 : Gl X u2 L) => sameGroups_yes (Nat.le_trans ht.len hlg) (fun l hl2 => Nat.le_trans (ht.row hl2) hlg) h1 h2)
                  clear hfis
                  go_wp2_with fail
                  refine (unhide D1).mono ?_
                  rintro e X1 ⟨r1, E1, rfl, hG1, hT1⟩
                  have HG1 := hide hG1
                  have HT1 := hide hT1
                  clear hG1 hT1 D1
                  go_wp2_with fail
                  refine (unhide D2 X1 (unhide HG1).bw).mono ?_
                  rintro e X2 ⟨r2, E2, rfl, hG2, _, hT2⟩
                  have HG2 := hide hG2
                  have HT2 := hide (show E2.map (·.2) = E1.map (·.2) from hT2.uniq (unhide HT1))
                  clear hG2 hT2 D2
                  have D4 := hide (unhide D3 X2 r1 r2 _ (unhide HT1) ((unhide HG1).later (unhide HG2).bw).gl (by have := (unhide HG2).gl; rw [unhide HT2] at this; exact this))
                  clear D3
                  go_wp2_with fail
                  refine (unhide D4).mono ?_
                  rintro e X3 ⟨rfl, n3, rfl⟩
                  have HFIN := hide (bl_t (bl_t (bl_t (unhide HWG) (unhide HG1).bw) (unhide HG2).bw) (bl_drewN X2 n3))
                  go_wp2_with fail
                  go_ret
                  exact ⟨rfl, unhide HFIN⟩
end Go.Proofs.Ytboajcpfoejfeaa
