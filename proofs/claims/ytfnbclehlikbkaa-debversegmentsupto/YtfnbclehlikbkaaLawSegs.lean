import Derived.Test.YtfnbclehlikbkaaLawSegL
import Derived.Test.YtfnbclehlikbkaaApart
namespace Go.Proofs.Ytfnbclehlikbkaa
open Go.RowKit

theorem other_size (p : ByteArray) (hp : p.size ≤ 1048576) : ((⟨#[55]⟩ : ByteArray) ++ p ++ ⟨#[120, 49, 50]⟩).size ≤ 1048584 := by
  rw [ByteArray.size_append, ByteArray.size_append]
  show 1 + p.size + 3 ≤ _
  omega

set_option maxHeartbeats 4000000 in
theorem debverSegments_walk (p : ByteArray) (hp : p.size ≤ 1048576) (w : World) :
    Calls Try.prog 3 #[.string p] w fun x w' => x = .returned (.bool true) ∧ Below w.heap.size w w' := by
  have c1 := hide (fun w => rseg_at p (by omega) w)
  have c2 := hide (fun w => rseg_at _ (other_size p hp) w)
  have c3 := hide (fun N h1 h2 w => seg_at p (by omega) N h1 h2 w)
  have c4 := hide (fun N h1 h2 w => seg_at _ (other_size p hp) N h1 h2 w)
  go_enter Try.func3, Try.ntmps3
  go_wp2_with fail
  refine (unhide c1 _).mono ?_
  rintro x w1 ⟨N1, y1, d1, rfl, ⟨a1, a2, n1, s1⟩, hb1⟩
  have z1 := hb1.size
  have A1 := hide a1; have A2 := hide a2; have G1 := hide s1; have B1 := hide hb1
  clear a1 a2 s1 hb1
  go_wp2_with fail
  refine (unhide c2 _).mono ?_
  rintro x w2 ⟨N2, y2, d2, rfl, ⟨a3, a4, n2, s2⟩, hb2⟩
  have z2 := hb2.size
  have A3 := hide a3; have A4 := hide a4; have G2 := hide s2; have B2 := hide hb2
  have G1' := hide ((unhide G1).later hb2)
  clear a3 a4 s2 hb2 G1
  go_wp2_with fail
  refine (unhide c3 N1 (unhide A1) (unhide A2) _).mono ?_
  rintro x wa ⟨x0, e0, rfl, o0, ha⟩
  have za := ha.size
  have O0 := hide o0; have Ba := hide ha
  clear o0 ha
  go_wp2_with fail
  refine (unhide c3 N1 (unhide A1) (unhide A2) _).mono ?_
  rintro x wb ⟨x1, e1, rfl, o1, hb⟩
  have zb := hb.size
  have O1 := hide o1; have Bb := hide hb
  clear o1 hb
  go_wp2_with fail
  refine (unhide c4 N2 (unhide A3) (unhide A4) _).mono ?_
  rintro x wc ⟨x2, e2, rfl, o2, hc⟩
  have zc := hc.size
  have O2 := hide o2; have Bc := hide hc
  clear o2 hc
  go_wp2_with fail
  refine (unhide c4 N2 (unhide A3) (unhide A4) _).mono ?_
  rintro x wd ⟨x3, e3, rfl, o3, hd⟩
  have zd := hd.size
  have O3 := hide o3; have Bd := hide hd
  clear o3 hd
  go_wp2_with fail
  refine (unhide c3 N1 (unhide A1) (unhide A2) _).mono ?_
  rintro x we ⟨x4, e4, rfl, o4, he⟩
  have ze := he.size
  have O4 := hide o4; have Be := hide he
  clear o4 he
  obtain ⟨W, hW, k0, k1, k2, k3, k4, q, hBW⟩ := new5 we (.slice x0 N1 e0) (.slice x1 N1 e1) (.slice x2 N2 e2) (.slice x3 N2 e3) (.slice x4 N1 e4) 22
  have BW := hide hBW
  have Bw2 := hide (show Below w2.heap.size w2 W from (unhide Ba).trans (((unhide Bb).mono za).trans (((unhide Bc).mono (by omega)).trans (((unhide Bd).mono (by omega)).trans (((unhide Be).mono (by omega)).trans (hBW.mono (by omega)))))))
  have S0 := hide (show Sg W (.slice x0 N1 e0) p N1 from (Sg.of_owns (unhide O0)).later ((unhide Bb).trans (((unhide Bc).mono (by omega)).trans (((unhide Bd).mono (by omega)).trans (((unhide Be).mono (by omega)).trans (hBW.mono (by omega)))))))
  have S1 := hide (show Sg W (.slice x1 N1 e1) p N1 from (Sg.of_owns (unhide O1)).later ((unhide Bc).trans (((unhide Bd).mono (by omega)).trans (((unhide Be).mono (by omega)).trans (hBW.mono (by omega))))))
  have S2 := hide (show Sg W (.slice x2 N2 e2) _ N2 from (Sg.of_owns (unhide O2)).later ((unhide Bd).trans (((unhide Be).mono (by omega)).trans (hBW.mono (by omega)))))
  have S3 := hide (show Sg W (.slice x3 N2 e3) _ N2 from (Sg.of_owns (unhide O3)).later ((unhide Be).trans (hBW.mono (by omega))))
  have S4 := hide (show Sg W (.slice x4 N1 e4) p N1 from (Sg.of_owns (unhide O4)).later hBW)
  clear hBW
  have HK := hide (And.intro q (And.intro k0 (And.intro k1 (And.intro k2 (And.intro k3 k4)))))
  have hPA := hide (fun (W' : World) (hb : Below W.heap.size W W') => (rows_apart (unhide O0) (unhide O1) (unhide O2) (unhide O3) (unhide O4) (unhide Ba) (unhide Bb) (unhide Bc) (unhide Bd) (unhide Be) (unhide BW) (unhide HK).1 (unhide HK).2.1 (unhide HK).2.2.1 (unhide HK).2.2.2.1 (unhide HK).2.2.2.2.1 (unhide HK).2.2.2.2.2).later hb)
  clear O0 O1 O2 O3 O4 Ba Bb Bc Bd Be BW
  have C0 := hide (Below.refl W.heap.size W)
  go_wp2_with fail
  refine (same_b _ _ _ N1 n1 _ ((unhide S0).later (unhide C0)) ((unhide G1').later ((unhide Bw2).trans ((unhide C0).mono (unhide Bw2).size)))).mono ?_
  rintro x W1 ⟨rfl, hb1⟩
  have C1 := hide ((unhide C0).trans (hb1.mono (unhide C0).size))
  obtain ⟨k0, k1, k2, k3, k4, q⟩ := kp5 hb1 q k0 k1 k2 k3 k4
  clear hb1
  go_wp2_with fail
  refine (same_b _ _ _ N1 n1 _ ((unhide S1).later (unhide C1)) ((unhide G1').later ((unhide Bw2).trans ((unhide C1).mono (unhide Bw2).size)))).mono ?_
  rintro x W2 ⟨rfl, hb2⟩
  have C2 := hide ((unhide C1).trans (hb2.mono (unhide C1).size))
  obtain ⟨k0, k1, k2, k3, k4, q⟩ := kp5 hb2 q k0 k1 k2 k3 k4
  clear hb2
  go_wp2_with fail
  refine (same_b _ _ _ N2 n2 _ ((unhide S2).later (unhide C2)) ((unhide G2).later ((unhide Bw2).trans ((unhide C2).mono (unhide Bw2).size)))).mono ?_
  rintro x W3 ⟨rfl, hb3⟩
  have C3 := hide ((unhide C2).trans (hb3.mono (unhide C2).size))
  obtain ⟨k0, k1, k2, k3, k4, q⟩ := kp5 hb3 q k0 k1 k2 k3 k4
  clear hb3
  go_wp2_with fail
  refine (same_b _ _ _ N2 n2 _ ((unhide S3).later (unhide C3)) ((unhide G2).later ((unhide Bw2).trans ((unhide C3).mono (unhide Bw2).size)))).mono ?_
  rintro x W4 ⟨rfl, hb4⟩
  have C4 := hide ((unhide C3).trans (hb4.mono (unhide C3).size))
  obtain ⟨k0, k1, k2, k3, k4, q⟩ := kp5 hb4 q k0 k1 k2 k3 k4
  clear hb4
  go_wp2_with fail
  refine (same_b _ _ _ N1 n1 _ ((unhide S4).later (unhide C4)) ((unhide G1').later ((unhide Bw2).trans ((unhide C4).mono (unhide Bw2).size)))).mono ?_
  rintro x W5 ⟨rfl, hb5⟩
  have C5 := hide ((unhide C4).trans (hb5.mono (unhide C4).size))
  obtain ⟨k0, k1, k2, k3, k4, q⟩ := kp5 hb5 q k0 k1 k2 k3 k4
  clear hb5
  go_wp2_with fail
  refine (textsApart_any w2.heap.size we.heap.size _ _ _ (fun i hi => ?_) _ (unhide hPA _ (unhide C5))).mono ?_
  · match i, hi with
    | 0, _ => exact n1
    | 1, _ => exact n1
    | 2, _ => exact n2
    | 3, _ => exact n2
    | 4, _ => exact n1
  rintro x W6 ⟨rfl, hb6⟩
  have E6 := hide (show Below w2.heap.size w2 W6 from ((unhide Bw2).trans ((unhide C5).mono (unhide Bw2).size)).trans hb6)
  clear hb6
  go_wp2_with fail
  refine (unhide c3 N1 (unhide A1) (unhide A2) _).mono ?_
  rintro x W7 ⟨x5, e5, rfl, o5, hb7⟩
  have O5 := hide o5
  have E7 := hide ((unhide E6).trans (hb7.mono (unhide E6).size))
  clear o5 hb7
  go_wp2_with fail
  refine (same_b _ _ _ N1 n1 _ (Sg.of_owns (unhide O5)) ((unhide G1').later (unhide E7))).mono ?_
  rintro x W8 ⟨rfl, hb8⟩
  have E8 := hide ((unhide E7).trans (hb8.mono (unhide E7).size))
  clear hb8
  go_wp2_with fail
  go_ret
  exact ⟨rfl, (unhide B1).trans (((unhide B2).mono z1).trans ((unhide E8).mono (by omega)))⟩

end Go.Proofs.Ytfnbclehlikbkaa
