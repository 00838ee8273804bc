import Derived.Test.YtfembjjpmjfklaaDoorAgnQ
namespace Go.Proofs.YtfembjjpmjfklaaDoor
open Go.RowKit

set_option maxRecDepth 100000 in
set_option maxHeartbeats 8000000 in
theorem again_any (sA sN : Nat) (W0 W : World) (M : Nat) (ms : List Value) (cl : List (List Am)) (va : Value) (al : List Am) (vn : Value) (nl : List ByteArray) (h : AG W0.heap.size sA sN W0 W M ms cl va al vn nl) (hg : Glob W0) :
    Calls Tryd.prog 39 #[.slice (some ⟨M, 0, none⟩) cl.length (cl.length + 1), va, vn] W fun e w' => e = .returned (.bool true) ∧ Below W0.heap.size W0 w' := by
  obtain ⟨aa, ac, rfl⟩ := ownRow_shape h.a
  obtain ⟨na, nc, rfl⟩ := ownRow_shape h.n
  have HG := hide hg
  have hNb : cl.length ≤ 9223372036854775806 := by
    rcases h.lf.row.2 with ⟨e, h0⟩ | ⟨_, cap, _, e, _, _, e4, e5, _⟩
    · omega
    · unfold maxLen at e5; omega
  obtain ⟨N, hN⟩ : ∃ N, cl.length = N := ⟨_, rfl⟩
  obtain ⟨La, hLa⟩ : ∃ N, al.length = N := ⟨_, rfl⟩
  obtain ⟨Ln, hLn⟩ : ∃ N, nl.length = N := ⟨_, rfl⟩
  have hLb : La ≤ 9223372036854775807 := by rw [← hLa]; exact (ams_of h.a).bigL
  have hLc : Ln ≤ 9223372036854775807 := by rw [← hLn]; exact (sts_of h.n).bigL
  rw [hLa, hLn] at h ⊢
  have HI := hide (show SG W0.heap.size sA sN W0 M ms (.slice aa La ac) al (.slice na Ln nc) nl N 0 0 W from ⟨cl, hN, h, Ov.start _ _⟩)
  rw [hN] at hNb ⊢
  clear h hN hg
  go_enter Tryd.func39, Tryd.ntmps39
  go_wp2_with fail
  go_loopw [7] (fun i wr => ∃ k : Nat, k ≤ N ∧ i = .int .i64 k ∧ Hid (SG W0.heap.size sA sN W0 M ms (.slice aa La ac) al (.slice na Ln nc) nl N k 0 wr)) (fun i _ => N - (intOf i).toNat)
  case atStart => exact ⟨0, Nat.zero_le _, rfl, HI⟩
  case round =>
    obtain ⟨k, hk, rfl, HR⟩ := hrel
    clear HI
    by_cases hlt : k < N
    · obtain ⟨C, L, hx⟩ := (unhide HR).elem hlt
      have HX := hide hx
      have hLL : L ≤ 9223372036854775807 := by
        obtain ⟨cl', hj', -, -, -, hL, ho⟩ := (unhide HR).one hlt hx
        rw [← hL]; exact (ams_of ho).bigL
      clear hx
      go_wp2_with fail
      obtain ⟨wo, hwo⟩ : ∃ wo : World, wo = wr := ⟨_, rfl⟩
      subst hwo
      go_loopw [8] (fun i wr => ∃ m : Nat, m ≤ L ∧ i = .int .i64 m ∧ Hid (SG W0.heap.size sA sN W0 M ms (.slice aa La ac) al (.slice na Ln nc) nl N k m wr)) (fun i _ => L - (intOf i).toNat)
      case atStart => exact ⟨0, Nat.zero_le _, rfl, HR⟩
      case round =>
        obtain ⟨m, hm, rfl, HM⟩ := hrel
        clear HR
        obtain ⟨hq, hgl⟩ := (unhide HM).cell (unhide HX)
        by_cases hml : m < L
        · obtain ⟨hgx, ⟨y, q0, q1, q2⟩, f0, f1, f2⟩ := (unhide HM).spots hlt (unhide HX) hml
          have HS := hide ((unhide HM).put hlt (unhide HX) hml)
          clear HM
          go_wp2_with fail
          go_roundw
          case rel => exact ⟨m + 1, by omega, by go_num, HS⟩
          case measure => simp [intOf]; omega
        · obtain rfl : m = L := by omega
          have HS := hide ((unhide HM).next hlt (unhide HX))
          clear HM
          go_wp2_with fail
          go_roundw
          case rel => exact ⟨k + 1, by omega, by go_num, HS⟩
          case measure => simp [intOf]; omega
    · obtain rfl : k = N := by omega
      have HA0 := hide (show SA W0.heap.size sA sN W0 M ms (.slice aa La ac) (.slice na Ln nc) k La Ln 0 0 wr from ⟨al, nl, hLa, hLn, fun m _ h => absurd h (Nat.not_lt_zero _), fun m _ h => absurd h (Nat.not_lt_zero _), unhide HR⟩)
      clear HR hLa hLn
      go_wp2_with fail
      obtain ⟨wo, hwo⟩ : ∃ wo : World, wo = wr := ⟨_, rfl⟩
      subst hwo
      go_loopw [9] (fun i wr => ∃ j : Nat, j ≤ La ∧ i = .int .i64 j ∧ Hid (SA W0.heap.size sA sN W0 M ms (.slice aa La ac) (.slice na Ln nc) k La Ln j 0 wr)) (fun i _ => La - (intOf i).toNat)
      case atStart => exact ⟨0, Nat.zero_le _, rfl, HA0⟩
      case round =>
        obtain ⟨j, hj, rfl, HA⟩ := hrel
        clear HA0
        by_cases hjl : j < La
        · obtain ⟨C, rfl⟩ := (unhide HA).addrA (by omega)
          obtain ⟨hgx, ⟨y, q0, q1, q2⟩, f0, f1, f2⟩ := (unhide HA).spotsA hjl
          have HS := hide ((unhide HA).putA hjl)
          clear HA
          go_wp2_with fail
          go_roundw
          case rel => exact ⟨j + 1, by omega, by go_num, HS⟩
          case measure => simp [intOf]; omega
        · obtain rfl : j = La := by omega
          go_wp2_with fail
          obtain ⟨wi, hwi⟩ : ∃ wi : World, wi = wr := ⟨_, rfl⟩
          subst hwi
          go_loopw [10] (fun i wr => ∃ q : Nat, q ≤ Ln ∧ i = .int .i64 q ∧ Hid (SA W0.heap.size sA sN W0 M ms (.slice aa j ac) (.slice na Ln nc) k j Ln j q wr)) (fun i _ => Ln - (intOf i).toNat)
          case atStart => exact ⟨0, Nat.zero_le _, rfl, HA⟩
          case round =>
            obtain ⟨q, hq, rfl, HQ⟩ := hrel
            clear HA
            by_cases hql : q < Ln
            · obtain ⟨Q, rfl⟩ := (unhide HQ).addrN (by omega)
              obtain ⟨hgx, ⟨y, q0⟩, f0⟩ := (unhide HQ).spotsN hql
              have HS := hide ((unhide HQ).putN hql)
              clear HQ
              go_wp2_with fail
              go_roundw
              case rel => exact ⟨q + 1, by omega, by go_num, HS⟩
              case measure => simp [intOf]; omega
            · obtain rfl : q = Ln := by omega
              obtain ⟨al', nl', e1, e2, e3, e4, cl', e5, e6, e7⟩ := unhide HQ
              have HAG := hide e6
              have HSz := hide (e7.szs (by omega) (by decide) (by decide))
              have HSA := hide (show Szs al' from fun m hm => by rw [e3 m hm (by omega)]; exact ⟨by decide, by decide⟩)
              have HSN := hide (show ∀ m (hm : m < nl'.length), nl'[m].size ≤ maxLen from fun m hm => by rw [e4 m hm (by omega)]; decide)
              have HCl := hide (fun (w' : World) (hb : Below wr.heap.size wr w') => (e6.lf.later hb).cls)
              have HAm := hide (fun (w' : World) (hb : Below wr.heap.size wr w') => ams_of (e6.a.later hb))
              have HSt := hide (fun (w' : World) (hb : Below wr.heap.size wr w') => sts_of (e6.n.later hb))
              have HBW := hide (fun (w' : World) (hb : Below wr.heap.size wr w') => e6.bel.trans (hb.mono e6.size))
              have HE5 := hide e5
              rw [e5] at HCl
              clear HQ e1 e2 e3 e4 e5 e6 e7 HAG
              go_wp2_with fail
              obtain ⟨w4, hw4⟩ : ∃ w4 : World, w4 = wr := ⟨_, rfl⟩
              subst hw4
              go_loopw [11] (fun i wr => ∃ n : Nat, n ≤ k ∧ i = .int .i64 n ∧ Hid (Below w4.heap.size w4 wr)) (fun i _ => k - (intOf i).toNat)
              case atStart => exact ⟨0, Nat.zero_le _, rfl, hide (Below.refl _ _)⟩
              case round =>
                obtain ⟨n, hn, rfl, HB⟩ := hrel
                by_cases hnl : n < k
                · have hnc : n < cl'.length := by rw [unhide HE5]; exact hnl
                  obtain ⟨b, o, x, hbo, hbl, q0, hx⟩ := (unhide HCl wr (unhide HB)).elem n hnc
                  cases hbo
                  rw [Nat.zero_add] at q0
                  have HX := hide hx
                  have HZ := hide (unhide HSz n hnc)
                  have c1 := hide (rPrintClause_any cl'[n] x wr hx (unhide HZ))
                  have c2 := hide (fun (w' : World) (hb : Below wr.heap.size wr w') => PrintClause_any cl'[n] x w' ((unhide HX).later hb) (unhide HZ) ((unhide HG).later (unhide HBW w' ((unhide HB).trans (hb.mono (unhide HB).size)))))
                  have HQ1 := hide (fun (w' : World) (hb : Below wr.heap.size wr w') => (hb.cell (p := ⟨M, n, none⟩) hbl).trans q0)
                  obtain ⟨xa, xc, rfl⟩ := hx.shapeL
                  clear hx
                  generalize prC cl'[n] = pp at *
                  obtain ⟨tx, e0⟩ := pp
                  simp only at c1 c2
                  go_wp2_with fail
                  refine (unhide c1).mono ?_
                  rintro e w5 ⟨rfl, hb5⟩
                  have HB5 := hide hb5
                  have q5 := unhide HQ1 _ hb5
                  have hbl5 := Nat.lt_of_lt_of_le hbl hb5.size
                  clear hb5
                  go_wp2_with fail
                  refine (unhide c2 _ (unhide HB5)).mono ?_
                  rintro e w6 ⟨rfl, hb6⟩
                  have HB6 := hide ((unhide HB).trans ((bl_t (unhide HB5) hb6).mono (unhide HB).size))
                  clear hb6
                  go_wp2_with fail
                  refine (numA_any _ _).mono ?_
                  rintro e w7 ⟨rfl, rfl⟩
                  go_wp2_with fail
                  go_roundw
                  case rel => exact ⟨n + 1, by omega, by go_num, HB6⟩
                  case measure => simp [intOf]; omega
                · have HB0 := hide (unhide HB)
                  have c1 := hide (rPrintField_any cl' _ wr (unhide HCl wr (unhide HB)) (unhide HSz))
                  have c2 := hide (fun (w' : World) (hb : Below w4.heap.size w4 w') => rPrintAtoms_any al' _ w' (unhide HAm w' hb) (unhide HSA))
                  have c3 := hide (fun (w' : World) (hb : Below w4.heap.size w4 w') => rPrintNames_any nl' _ w' (unhide HSt w' hb) (unhide HSN))
                  have c4 := hide (fun (w' : World) (hb : Below w4.heap.size w4 w') => PrintField_any cl' _ w' (unhide HCl w' hb) (unhide HSz) ((unhide HG).later (unhide HBW w' hb)))
                  have c5 := hide (fun (w' : World) (hb : Below w4.heap.size w4 w') => PrintAtoms_any al' _ w' (unhide HAm w' hb) (unhide HSA) ((unhide HG).later (unhide HBW w' hb)))
                  have c6 := hide (fun (w' : World) (hb : Below w4.heap.size w4 w') => PrintNames_any nl' _ w' (unhide HSt w' hb) (unhide HSN) ((unhide HG).later (unhide HBW w' hb)))
                  generalize prF cl' = p1 at *
                  generalize prA al' = p2 at *
                  generalize prNs nl' = p3 at *
                  obtain ⟨t1, e1⟩ := p1
                  obtain ⟨t2, e2⟩ := p2
                  obtain ⟨t3, e3⟩ := p3
                  simp only at c1 c2 c3 c4 c5 c6
                  clear HCl HAm HSt HSz HSA HSN
                  go_wp2_with fail
                  refine (unhide c1).mono ?_
                  rintro e w5 ⟨rfl, hb5⟩
                  have HB5 := hide (bl_t (unhide HB0) hb5)
                  clear hb5
                  go_wp2_with fail
                  refine (unhide c2 _ (unhide HB5)).mono ?_
                  rintro e w6 ⟨rfl, hb6⟩
                  have HB6 := hide (bl_t (unhide HB5) hb6)
                  clear hb6
                  go_wp2_with fail
                  refine (unhide c3 _ (unhide HB6)).mono ?_
                  rintro e w7 ⟨rfl, hb7⟩
                  have HB7 := hide (bl_t (unhide HB6) hb7)
                  clear hb7
                  go_wp2_with fail
                  refine (unhide c4 _ (unhide HB7)).mono ?_
                  rintro e w8 ⟨rfl, hb8⟩
                  have HB8 := hide (bl_t (unhide HB7) hb8)
                  clear hb8
                  go_wp2_with fail
                  refine (unhide c5 _ (unhide HB8)).mono ?_
                  rintro e w9 ⟨rfl, hb9⟩
                  have HB9 := hide (bl_t (unhide HB8) hb9)
                  clear hb9
                  go_wp2_with fail
                  refine (unhide c6 _ (unhide HB9)).mono ?_
                  rintro e w10 ⟨rfl, hb10⟩
                  have HB10 := hide (bl_t (unhide HB9) hb10)
                  clear hb10
                  go_wp2_with fail
                  refine (numA_any _ _).mono ?_
                  rintro e w' ⟨rfl, rfl⟩
                  go_wp2_with fail
                  refine (numA_any _ _).mono ?_
                  rintro e w' ⟨rfl, rfl⟩
                  go_wp2_with fail
                  refine (numA_any _ _).mono ?_
                  rintro e w' ⟨rfl, rfl⟩
                  go_wp2_with fail
                  go_ret
                  exact ⟨rfl, unhide HBW _ (unhide HB10)⟩

end Go.Proofs.YtfembjjpmjfklaaDoor
