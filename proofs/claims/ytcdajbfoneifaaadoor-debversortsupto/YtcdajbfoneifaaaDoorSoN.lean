import Derived.Test.YtcdajbfoneifaaaDoorSoM
import Derived.BigQuiet
namespace Go.Proofs.YtcdajbfoneifaaaDoor
open Go.RowKit

theorem infoB : (Tryd.prog.info? 4).map (fun i => (i.zero, i.size, i.bytes)) = some (some (.bool false), 1, 1) := by kernel_rfl
theorem makeB (n : Nat) (hn : n ≤ 1099511627776) (u : World) : (Instr.makeSlice 32 (.int .i64 (n : Int)) (.int .i64 (n : Int))).run Tryd.prog u =
    .ok (.slice (some ⟨u.heap.size, 0, none⟩) n n) (u.alloc (.cells (madeCells #[.bool false] n) 4)) := by
  obtain ⟨i0, hi, hz0, hz1, hz2⟩ := info_parts infoB
  have h := run_make (P := Tryd.prog) u 32 4 i0 (.bool false) Tryd.underlying32 hi hz0 .i64 .i64 (n : Int) (n : Int) (by omega) (Int.le_refl _) (by rw [hz2]; omega) (by omega)
  have e : ((n : Int)).toNat = n := by omega
  rw [e] at h
  simpa [hz1, Value.cells] using h
theorem made_at (z : Value) (n j : Nat) (h : j < n) : (madeCells #[z] n)[j]? = some z := by
  rw [Array.getElem?_eq_getElem (by rw [size_madeCells]; exact h)]
  simp [madeCells, Nat.mod_one]
/-- NO PLACE STANDS TWICE. -/
theorem pm_inj {g : Nat → Nat} {n i j : Nat} (h : Pm idn g 0 n) (hi : i < n) (hj : j < n) (e : g i = g j) : i = j := by
  obtain ⟨s, t, k⟩ := h.ex
  obtain ⟨_, _, _, _, p5, _, p7⟩ := k i (Nat.zero_le _) hi
  obtain ⟨_, _, _, _, q5, _, q7⟩ := k j (Nat.zero_le _) hj
  have : s i = s j := p7.symm.trans (e.trans q7)
  rw [← p5, ← q5, this]
/-- WHICH PLACES WERE SEEN. -/
structure Sn (T n : Nat) (g : Nat → Nat) (k : Nat) (W : World) : Prop where
  lt : T < W.heap.size
  fro : ∀ j, W.frozen? ⟨T, j, none⟩ = false
  yes : ∀ i, i < k → W.cell? ⟨T, g i, none⟩ = some (.bool true)
  no : ∀ j, j < n → (∀ i, i < k → g i ≠ j) → W.cell? ⟨T, j, none⟩ = some (.bool false)
theorem Sn.start (W : World) (n : Nat) (g : Nat → Nat) : Sn W.heap.size n g 0 (W.alloc (.cells (madeCells #[.bool false] n) 4)) :=
  ⟨by simp, fun j => World.frozen?_alloc_at _ _ _ _ rfl, fun i hi => absurd hi (Nat.not_lt_zero _), fun j hj _ => (World.cell?_alloc_at _ _ _ _ rfl).trans (made_at _ _ _ hj)⟩
theorem Sn.put {T n k : Nat} {g : Nat → Nat} {W : World} (h : Sn T n g k W) (hg : Pm idn g 0 n) (hk : k < n) : Sn T n g (k + 1) (W.setCell ⟨T, g k, none⟩ (.bool true)) := by
  refine ⟨by simpa [World.setCell] using h.lt, fun j => by rw [World.frozen?_setCell]; exact h.fro j, fun i hi => ?_, fun j hj hn => ?_⟩
  · by_cases e : i = k
    · subst e
      exact World.cell?_setCell_same _ _ _ (h.no (g i) (pm_vals hg i hk) (fun j hj e => by have := pm_inj hg (by omega) hk e; omega))
    · rw [set_ne _ (Or.inr (fun q => e (pm_inj hg (by omega) hk q)))]
      exact h.yes i (by omega)
  · rw [set_ne _ (Or.inr (fun q => hn k (by omega) q.symm))]
    exact h.no j hj (fun i hi => hn i (by omega))
theorem rw_set {b o n T j : Nat} {f : Nat → Nat} {W : World} (h : Rw b o n f W) (v : Value) (hT : b ≠ T) : Rw b o n f (W.setCell ⟨T, j, none⟩ v) :=
  ⟨by simpa [World.setCell] using h.lt, fun k hk => (set_ne _ (Or.inl hT)).trans (h.cell k hk), fun k hk => by rw [World.frozen?_setCell]; exact h.fro k hk, fun e => (h.own e).elim fun xs hx => ⟨xs, owns_same hx (Below.heap_setCell _ _ _ _ hT)⟩⟩

set_option maxRecDepth 100000 in
set_option maxHeartbeats 4000000 in
theorem sorted_walk (l : List ByteArray) (pa : Option Addr) (lc : Nat) (w : World) (hl : l.length ≤ 1099511627776) (hz : ∀ k, k < l.length → (l.getD k nob).size ≤ maxLen) (hL : Ls w pa l) :
    Calls Tryd.prog 3 #[.slice pa l.length lc] w fun e w' => e = .returned (.bool true) ∧ Below w.heap.size w w' := by
  have m1 := makeB l.length hl
  have HL : Aside (Ls w pa l) := hL
  have HZ : Aside _ := hz
  have c1 := hide (fun (w' : World) (hb : Below w.heap.size w w') => Sort_any l pa lc w' hl hz (hL.later hb))
  have c2 := hide (fun (i : Nat) (hi : i < l.length) (w' : World) => Parse_any (l.getD i nob) (hz i hi) (vsOf l i).e (vsOf l i).u (vsOf l i).r (vsOf l i).c (vsOf l i).d (erOf l i) (by unfold vsOf erOf; rfl) w')
  clear hL hz
  obtain ⟨n, hn⟩ : ∃ n, n = l.length := ⟨_, rfl⟩
  rw [← hn] at m1 hl c1 ⊢
  have HN : Hid (n = l.length) := hn
  clear hn
  go_enter Tryd.func3, Tryd.ntmps3
  go_upto_region 3 with (go_at_call 5; refine (alive_any _).mono ?_; rintro x1 w1 ⟨rfl, hb1⟩; have B1 := hide hb1; clear hb1)
  go_upto_region 4 with (go_at_call 6; refine (unhide c1 _ (unhide B1)).mono ?_; rintro x2 w2 ⟨hb2, hor⟩; rcases hor with ⟨b, g, rfl, h1, h2, h3, h4, h5⟩ | ⟨k0, hk0, hne0, _, rfl⟩)
  · -- in order
    have H1 := hide h1
    have H4 := hide h4
    have H5 := hide h5
    have HB2 := hide ((unhide B1).trans (hb2.mono (unhide B1).size))
    have HR := hide h3
    have HLO := hide (Nat.le_trans (unhide B1).size h2)
    clear h1 h2 h3 h4 h5 hb2 c1 B1 c2
    have hnb : ((n : Int) != (n : Int)) = false := by simp
    go_wp2_with fail
    have S0 := Sn.start w2 n g
    have R0 := (unhide HR).below ((Below.refl w2.heap.size w2).alloc (Nat.le_refl _) (.cells (madeCells #[.bool false] n) 4))
    have B3 := hide ((unhide HB2).alloc (unhide HB2).size (.cells (madeCells #[.bool false] n) 4))
    have hbT : b ≠ w2.heap.size := fun e => by have := (unhide HR).lt; omega
    have HT := hide (unhide HB2).size
    clear HR HB2 m1
    generalize w2.alloc (.cells (madeCells #[.bool false] n) 4) = w3 at *
    generalize w2.heap.size = T at *
    have S1 : Aside _ := S0
    have R1 : Aside _ := R0
    clear S0 R0
    go_loopg [10] n (fun g1 vi wr => ∃ k : Nat, vi = .int .i64 k ∧ k ≤ n ∧ n - k ≤ g1 ∧ Aside (Sn T n g k wr) ∧ Aside (Rw b 0 n g wr) ∧ Hid (Below w.heap.size w wr))
    case atStart => exact ⟨0, by go_num, by omega, by omega, S1, R1, B3⟩
    case round =>
      clear S1 R1 B3
      obtain ⟨k, rfl, hk, hg1, S2, R2, B4⟩ := hrel
      by_cases hlt : k < n
      · have hltz : (k : Int) < (n : Int) := by omega
        have d1 := R2.out.cell k hlt
        rw [Nat.zero_add] at d1
        have hgk := pm_vals (unhide H4) k hlt
        have d2 := S2.out.no (g k) hgk (fun i hi e => by have := pm_inj (unhide H4) (by omega) hlt e; omega)
        have d3 := S2.out.fro (g k)
        have S3 : Aside _ := S2.out.put (unhide H4) hlt
        have R3 : Aside _ := rw_set (j := g k) R2.out (.bool true) hbT
        have B5 := hide ((unhide B4).setCell (p := ⟨T, g k, none⟩) (unhide HT) (.bool true))
        generalize g k = gk at *
        have hgkz : (gk : Int) < (n : Int) := by omega
        have hgk0 : ¬ (gk : Int) < 0 := by omega
        clear S2 R2 B4
        go_wp2_with fail
        generalize wr.setCell ⟨T, gk, none⟩ (.bool true) = w4 at *
        go_roundg (n - (k + 1))
        case measure => omega
        case rel => exact ⟨k + 1, by go_num, by omega, by omega, S3, R3, B5⟩
      · have hltz : ¬ (k : Int) < (n : Int) := by omega
        clear S2
        go_wp2_with fail
        go_loopg [11] n (fun g1 vi wr => ∃ i : Nat, vi = .int .i64 ((i : Int) + 1) ∧ i ≤ n ∧ n - i ≤ g1 ∧ Aside (Rw b 0 n g wr) ∧ Hid (Below w.heap.size w wr))
        case atStart => exact ⟨0, by go_num, by omega, by omega, R2, B4⟩
        case round =>
          clear R2 B4
          obtain ⟨i, rfl, hi, hg2, R2, B4⟩ := hrel
          by_cases hlt2 : i + 1 < n
          · have hlt2z : (i : Int) + 1 < (n : Int) := by omega
            have hin : i < n := by omega
            have hp := pm_vals (unhide H4) i hin
            have hq := pm_vals (unhide H4) (i + 1) hlt2
            obtain ⟨lb, lo, rfl, hlb, hlc⟩ := HL.out (g i) (by have := HN.out; omega)
            obtain ⟨lb', lo', e, hlb2, hlc2⟩ := HL.out (g (i + 1)) (by have := HN.out; omega)
            cases e
            obtain ⟨i1, hi1⟩ : ∃ q, q = i + 1 := ⟨_, rfl⟩
            have ei1 : ((i : Int) + 1).toNat = i1 := by omega
            have z1 := HZ.out (g i) (by have := HN.out; omega)
            have z2 := HZ.out (g (i + 1)) (by have := HN.out; omega)
            have hs := unhide H5 i (i + 1) (Nat.zero_le _) (by omega) hlt2
            obtain ⟨x0, hx0⟩ : ∃ q, q = ordV (vsOf l (g i)) (vsOf l (g (i + 1))) := ⟨_, rfl⟩
            have hcm : cmpT (l.getD (g i) nob) (l.getD (g (i + 1)) nob) = (x0, 0) := by
              have h1 := unhide H1 (g i) hp
              have h2 := unhide H1 (g (i + 1)) hq
              unfold erOf at h1 h2
              unfold cmpT
              rw [if_pos h1, if_pos h2, hx0]
              rfl
            have c3 := hide (fun w' => Compare_any (l.getD (g i) nob) (l.getD (g (i + 1)) nob) z1 z2 x0 0 hcm w')
            have hs2 : x0 < 0 ∨ (x0 = 0 ∧ g i < g (i + 1)) := by rw [hx0]; exact hs
            have HP := hide (fun (w' : World) (hb : Below wr.heap.size wr w') => show w'.cell? ⟨b, i, none⟩ = some (.int .i64 (g i)) ∧ w'.cell? ⟨b, i1, none⟩ = some (.int .i64 (g (i + 1))) ∧ w'.cell? ⟨lb, lo + g i, none⟩ = some (.string (l.getD (g i) nob)) ∧ w'.cell? ⟨lb, lo + g (i + 1), none⟩ = some (.string (l.getD (g (i + 1)) nob)) from by
              have r1 := (R2.out.below hb).cell i hin
              have r2 := (R2.out.below hb).cell (i + 1) hlt2
              rw [Nat.zero_add] at r1 r2
              have bb := (unhide B4).trans (hb.mono (unhide B4).size)
              exact ⟨r1, hi1 ▸ r2, (bb.cell (p := ⟨lb, lo + g i, none⟩) hlb).trans hlc, (bb.cell (p := ⟨lb, lo + g (i + 1), none⟩) hlb).trans hlc2⟩)
            have HRw := hide (fun (w' : World) (hb : Below wr.heap.size wr w') => And.intro (R2.out.below hb) ((unhide B4).trans (hb.mono (unhide B4).size)))
            have B0 := hide ((Below.refl wr.heap.size wr).drew)
            generalize l.getD (g i) nob = sp at *
            generalize l.getD (g (i + 1)) nob = sq at *
            generalize g i = gp at *
            generalize g (i + 1) = gq at *
            have hpz : (gp : Int) < (n : Int) := by omega
            have hqz : (gq : Int) < (n : Int) := by omega
            have pz0 : (0 : Int) ≤ (i : Int) + 1 := by omega
            have piz : (i : Int) < (n : Int) := by omega
            have rz : IntKind.i64.wrap (i : Int) = (i : Int) := by rw [IntKind.wrap_i64]; omega
            clear R2 B4 hlc hlc2 hlb2 z1 z2 hcm hs hx0 hi1 hp hq
            go_wp2_with fail
            go_region_held3 (fun w' => w'.cell? ⟨b, i, none⟩ = some (.int .i64 gp) ∧ w'.cell? ⟨b, i1, none⟩ = some (.int .i64 gq) ∧ w'.cell? ⟨lb, lo + gp, none⟩ = some (.string sp) ∧ w'.cell? ⟨lb, lo + gq, none⟩ = some (.string sq)) (first | exact unhide HP _ (unhide B0) | exact unhide HP _ (unhide B5)) (first | (go_at_call 8; refine (unhide c3 _).mono ?_; rintro x5 w5 ⟨rfl, hb5⟩; have B5 := hide ((unhide B0).trans (hb5.mono (unhide B0).size)); clear hb5))
            rename_i hHeld
            clear hHeld
            obtain ⟨k1, k2, _, _⟩ := unhide HP _ (unhide B5)
            have HW5 := hide (unhide HRw _ (unhide B5))
            have HW6 := hide (fun (m : Nat) => And.intro (⟨(unhide HW5).1.lt, (unhide HW5).1.cell, (unhide HW5).1.fro, (unhide HW5).1.own⟩ : Rw b 0 n g (w5.drewN m)) (below_drewN (unhide HW5).2 m))
            clear HP HRw c3 B0 B5
            rcases hs2 with hs2 | ⟨hs2, hs3⟩
            · have t1 : decide (x0 > 0) = false := decide_eq_false (by omega)
              have t2 : (x0 == 0) = false := by simp; omega
              have t3 : ¬ 0 < x0 := by omega
              go_wp2_with fail
              go_quiet (fail)
              go_wp2_with fail
              go_roundg (n - (i + 1))
              case measure => omega
              case rel => exact ⟨i + 1, by go_num, by omega, by omega, (unhide HW6 _).1, hide (unhide HW6 _).2⟩
            · subst hs2
              have t3 : decide ((gp : Int) > (gq : Int)) = false := decide_eq_false (by omega)
              have t4 : ¬ (gq : Int) < (gp : Int) := by omega
              go_wp2_with fail
              go_quiet (fail)
              go_wp2_with fail
              go_roundg (n - (i + 1))
              case measure => omega
              case rel => exact ⟨i + 1, by go_num, by omega, by omega, (unhide HW6 _).1, hide (unhide HW6 _).2⟩
          · have hlt2z : ¬ (i : Int) + 1 < (n : Int) := by omega
            go_wp2_with fail
            go_ret
            exact ⟨rfl, unhide B4⟩
  · -- an error
    have HK0 := hide (show ∃ i, i < n ∧ erOf l i ≠ 0 from ⟨k0, hk0, hne0⟩)
    have hneb : (erOf l k0 != 0) = true := by simpa using hne0
    have HB2 := hide ((unhide B1).trans (hb2.mono (unhide B1).size))
    clear hk0 hne0 hb2 c1 B1 m1
    generalize erOf l k0 = er0 at *
    go_wp2_with fail
    go_loopg [5, 6] n (fun g1 vb vi wr => ∃ (B : Bool) (k : Nat), vb = .bool B ∧ vi = .int .i64 k ∧ k ≤ n ∧ n - k ≤ g1 ∧ Hid (B = true ↔ ∃ i, i < k ∧ erOf l i ≠ 0) ∧ Hid (Below w.heap.size w wr))
    case atStart => exact ⟨false, 0, rfl, by go_num, by omega, by omega, (show Hid _ from ⟨fun h => (by cases h), fun ⟨i, hi, _⟩ => absurd hi (Nat.not_lt_zero _)⟩), HB2⟩
    case round =>
      clear HB2
      obtain ⟨B, k, rfl, rfl, hk, hg1, HBk, HB3⟩ := hrel
      by_cases hlt : k < n
      · have hltz : (k : Int) < (n : Int) := by omega
        have hkl : k < l.length := by have := HN.out; omega
        obtain ⟨lb, lo, rfl, hlb, hlc⟩ := HL.out k hkl
        have hc0 : wr.cell? ⟨lb, lo + k, none⟩ = some (.string (l.getD k nob)) := ((unhide HB3).cell (p := ⟨lb, lo + k, none⟩) hlb).trans hlc
        have c3 := hide (unhide c2 k hkl)
        have HST : Hid ((B || (erOf l k != 0)) = true ↔ ∃ i, i < k + 1 ∧ erOf l i ≠ 0) := by
          have h := HBk.out
          constructor
          · intro q
            cases hB : B with
            | true =>
              obtain ⟨i, h1, h2⟩ := h.1 hB
              exact ⟨i, by omega, h2⟩
            | false =>
              rw [hB] at q
              exact ⟨k, by omega, by simpa using q⟩
          · rintro ⟨i, h1, h2⟩
            by_cases e : i = k
            · subst e; simp [h2]
            · have := h.2 ⟨i, by omega, h2⟩
              simp [this]
        generalize erOf l k = er at *
        generalize (vsOf l k) = vk at *
        obtain ⟨ve, vu, vr, vc, vd⟩ := vk
        generalize l.getD k nob = sk at *
        clear hlc HBk
        cases B with
        | true =>
          go_wp2_with (go_at_call 7; refine (unhide c3 _).mono ?_; rintro x3 w3 ⟨rfl, hb3⟩; have HB4 := hide ((unhide HB3).trans (hb3.mono (unhide HB3).size)); clear hb3)
          go_roundg (n - (k + 1))
          case measure => omega
          case rel => exact ⟨true, k + 1, rfl, by go_num, by omega, by omega, by simpa using HST, hide ((unhide HB4).alloc (unhide HB4).size _)⟩
        | false =>
          go_wp2_with (go_at_call 7; refine (unhide c3 _).mono ?_; rintro x3 w3 ⟨rfl, hb3⟩; have HB4 := hide ((unhide HB3).trans (hb3.mono (unhide HB3).size)); clear hb3)
          go_roundg (n - (k + 1))
          case measure => omega
          case rel => exact ⟨er != 0, k + 1, rfl, by go_num, by omega, by omega, by simpa using HST, hide ((unhide HB4).alloc (unhide HB4).size _)⟩
      · have hltz : ¬ (k : Int) < (n : Int) := by omega
        have hB : B = true := HBk.out.2 (by obtain ⟨i, h1, h2⟩ := unhide HK0; exact ⟨i, by omega, h2⟩)
        subst hB
        go_wp2_with fail
        go_ret
        exact ⟨rfl, unhide HB3⟩
end Go.Proofs.YtcdajbfoneifaaaDoor
