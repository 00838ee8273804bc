import Derived.Test.YtodlmbhlinpoeaaAuM
import Derived.Deep.CutRange
namespace Go.Proofs.Ytodlmbhlinpoeaa
open Go.RowKit

theorem zeroH7 : ∃ zc : List Value, (Try.prog.info? 47).map (fun i => (i.zero, i.size)) = some (some (.agg zc.toArray), 44) ∧ zc.length = 44 ∧ zc.all (·.oneCell') = true := zeroH5
set_option maxRecDepth 100000 in
set_option maxHeartbeats 8000000 in
theorem stayed_yes {w : World} {hs : List Hk} {lo g cap : Nat} {ov dv pv v : Value} {csl : List (List Value)} {od od2 : List Value} (h : Ld lo w hs g cap ov dv pv csl od od2) (hcap : hs.length + 2 ≤ cap) (k : Hds w v hs) (hl : hs.length ≤ 586406201463) (hz : ∀ p ∈ hs, HkZ p) :
    Calls Try.prog 9 #[.agg #[.slice (some ⟨g, 0, none⟩) hs.length cap, ov, dv, pv, .bool true], v] w fun e w' => e = .returned (.bool true) ∧ Below w.heap.size w w' := by
  obtain ⟨a, c, rfl⟩ := k.form
  obtain ⟨oa, oc, rfl⟩ := owns_form h.orow
  obtain ⟨da9, dc9, rfl⟩ := owns_form h.drow
  obtain ⟨pa, pc, rfl⟩ := owns_form h.prow
  have HP := hide (fun (i : Nat) (hi : i < hs.length) => h.rd k hz hi)
  have HZ := hide (fun (i : Nat) (hi : i < hs.length) => hz _ (List.getElem_mem hi))
  have HSH := hide (fun (X : World) (hX : Below w.heap.size w X) => sameHeld_yes hl hz ((h.later hX).hds k.okh cap) (k.later hX))
  have hlr := h.lrow
  have m77 : w.cell? ⟨g, hs.length * 44 + 43, none⟩ = some (.int .i64 77) := owns_at hlr _ _ (by
    have hq := flat_lenm h.c44
    rw [h.l1] at hq
    rw [List.getElem?_append_right (by omega), hq, Nat.add_sub_cancel_left]
    rfl)
  have m78 : w.cell? ⟨g, (hs.length + 1) * 44 + 43, none⟩ = some (.int .i64 78) := owns_at hlr _ _ (by
    have hq := flat_lenm h.c44
    rw [h.l1] at hq
    rw [List.getElem?_append_right (by omega), hq, show (hs.length + 1) * 44 + 43 - hs.length * 44 = 87 by omega]
    rfl)
  have hgl := (World.ownsRow.lt hlr g rfl).2
  have HM := hide (show ∀ X, Below w.heap.size w X → X.cell? ⟨g, hs.length * 44 + 43, none⟩ = some (.int .i64 77) ∧ X.cell? ⟨g, (hs.length + 1) * 44 + 43, none⟩ = some (.int .i64 78) from fun X hX => ⟨(hX.cell (p := ⟨g, _, none⟩) hgl).trans m77, (hX.cell (p := ⟨g, _, none⟩) hgl).trans m78⟩)
  obtain ⟨N, hN⟩ : ∃ N, hs.length = N := ⟨_, rfl⟩
  have HN := hide hN
  rw [hN] at hcap hl HSH HM ⊢
  have hw2 : IntKind.i64.wrap ((N : Int) + 2) = (N : Int) + 2 := IntWalk.i64_in _ (by omega)
  have hw1 : IntKind.i64.wrap ((N : Int) + 1) = (N : Int) + 1 := IntWalk.i64_in _ (by omega)
  have hcz : (N : Int) + 2 ≤ (cap : Int) := by omega
  clear h k hz hN hlr m77 m78 hgl
  obtain ⟨zcH, zeroH6⟩ := zeroH7
  go_enter Try.func9, Try.ntmps9
  go_wp2_with (first
    | ((with_reducible refine b_box (t := 26) (k := 5) [.slice (some ⟨g, 0, none⟩) N cap, .slice oa N oc, .slice da9 N dc9, .slice pa N pc, .bool true] rfl (by simp [Value.oneCell']) _ rfl rfl rfl ?_); intro w2 B1 k1 z1; have K1 := hide k1; have X1 := hide B1; have a0 := B1.cell (i := 0) rfl; have a4 := B1.cell (i := 4) rfl; clear B1 k1 z1)
    | (go_at_call 19; refine (unhide HSH _ (unhide K1)).mono ?_; rintro e w3 ⟨rfl, b3⟩; have K3 := hide (bl_t (unhide K1) b3); have X3 := hide ((unhide X1).later b3); clear a0 a4 b3; have a0 := (unhide X3).cell (i := 0) rfl))
  clear a0 HSH K1 X1
  go_loopg [6, 7, 8, 9] N (fun gq iv _ _ _ wr => ∃ i : Nat, iv = .int .i64 i ∧ i ≤ N ∧ N - i ≤ gq ∧ Hid (Below w.heap.size w wr) ∧ Hid (Bk 26 5 wr w.heap.size [.slice (some ⟨g, 0, none⟩) N cap, .slice oa N oc, .slice da9 N dc9, .slice pa N pc, .bool true]))
  case atStart => exact ⟨0, by go_num, by omega, by omega, K3, X3⟩
  case round =>
    clear K3 X3
    obtain ⟨i, rfl, hi, hg, HB, HX⟩ := hrel
    by_cases hlt : i < N
    · have hin : (i : Int) < (N : Int) := by omega
      have hil : i < hs.length := by have := unhide HN; omega
      obtain ⟨b, o, go, gd, gp, cs, gD, qD, gR, qR, gC, qC, gV, qV, gF, qF, ua1, uc1, ua2, uc2, da, ra, ca, va, fa, dc, rc, cc, vc, fc, rfl, rfl, rfl, rfl, R⟩ := unhide HP i hil
      have z := unhide HZ i hil
      have bC := z.cl
      have bF := z.fl
      have hqC := R.hC
      have hqF := R.hF
      have hlen := R.len
      have HONE := hide R.one
      have RC := hide (And.intro R.c3 (And.intro R.c4 (And.intro R.c5 (And.intro R.c6 R.c7))))
      have HR := hide (R.rng wr (unhide HB))
      have HCL := hide R.cells
      have HK1 := hide R.k1
      have HK2 := hide R.k2
      have HK3 := hide R.k3
      clear R z HP HZ HM
      generalize (hs[i]).dp.length = nD at *
      generalize (hs[i]).pr.length = nR at *
      generalize (hs[i]).cf.length = nC at *
      generalize (hs[i]).pv.length = nV at *
      generalize (hs[i]).fs.length = nF at *
      have a1 := (unhide HX).cell (i := 1) rfl
      have hwC : IntKind.i64.wrap ((nC : Int) + 1) = (nC : Int) + 1 := IntWalk.i64_in _ (by omega)
      have hwF : IntKind.i64.wrap ((nF : Int) + 1) = (nF : Int) + 1 := IntWalk.i64_in _ (by omega)
      have hzC : (nC : Int) + 1 ≤ (qC : Int) := by omega
      have hzF : (nF : Int) + 1 ≤ (qF : Int) := by omega
      have hvC : (0 : Int) ≤ (nC : Int) + 1 := by omega
      have hvF : (0 : Int) ≤ (nF : Int) + 1 := by omega
      have hxC : nC ≤ qC := by omega
      have hxF : nF ≤ qF := by omega
      go_upto_region 8 with (first
        | ((with_reducible refine m_load (t := 47) (k := 44) Try.underlying47 rfl infoH _ rfl rfl go (i * 44) rfl cs (unhide HR) hlen ?_); clear HR)
        | ((with_reducible refine b_alloc (t := 47) (k := 44) zeroH6 rfl rfl ?_); intro w2 B2 k2 z2)
        | ((with_reducible refine b_store (t := 47) (k := 44) infoH _ _ rfl rfl wr.heap.size rfl cs rfl hlen (unhide HONE) _ B2 ?_); intro w3 B3 o3 k3 z3; have BH := hide B3; have K3 := hide (k2.trans (k3 _ (Nat.le_refl _))); clear B2 k2 z2 B3 o3 k3 z3 a1))
      have HQ := hide (show ∀ X, Below w3.heap.size w3 X → Below w.heap.size w X ∧ Bk 26 5 X w.heap.size [.slice (some ⟨g, 0, none⟩) N cap, .slice (some ⟨go, 0, none⟩) N oc, .slice (some ⟨gd, 0, none⟩) N dc9, .slice (some ⟨gp, 0, none⟩) N pc, .bool true] ∧ Bk 47 44 X wr.heap.size cs from fun X hX => ⟨bl_t (unhide HB) (bl_t (unhide K3) hX), (unhide HX).later (bl_t (unhide K3) hX), (unhide BH).later hX⟩)
      have HWR := hide (show wr.heap.size < w3.heap.size from (unhide BH).lt)
      have f5 := (unhide BH).cell (unhide RC).2.2.1
      have i5 := (unhide HCL w3 (unhide HQ _ (Below.refl _ _)).1).2.2.2.2.1
      clear HB HX K3 BH
      generalize wr.heap.size = HBn at *
      go_quiet (fail)
      have KA := hide (show Below w3.heap.size w3 (w3.drewN nq) from bl_drewN _ _)
      clear f5 i5
      generalize w3.drewN nq = wa at *
      have f7 := (unhide HQ _ (unhide KA)).2.2.cell (unhide RC).2.2.2.2
      have i7 := (unhide HCL wa (unhide HQ _ (unhide KA)).1).2.2.2.2.2.2.1
      go_upto_region 9 with fail
      go_quiet (fail)
      have KB := hide (show Below w3.heap.size w3 (wa.drewN nq) from bl_t (unhide KA) (bl_drewN _ _))
      clear f7 i7 KA
      generalize wa.drewN nq = wb at *
      have r3 := (unhide HQ _ (unhide KB)).2.2.cell (unhide RC).1
      have r4 := (unhide HQ _ (unhide KB)).2.2.cell (unhide RC).2.1
      have x2 := (unhide HQ _ (unhide KB)).2.1.cell (i := 2) rfl
      have x3 := (unhide HQ _ (unhide KB)).2.1.cell (i := 3) rfl
      obtain ⟨j1, j2, j3, j4, j5, j6, j7, _, _⟩ := unhide HCL wb (unhide HQ _ (unhide KB)).1
      clear j5 j6 j7
      have KW := hide (fun t => bl_t (unhide HQ _ (unhide KB)).1 (bl_drewN wb t))
      go_upto_region 10 with fail
      go_quiet (first
        | (go_at_call_of 20 (Value.slice (some ⟨gD, 0, none⟩) nD qD); refine (unhide HK1 _ (unhide KW _)).mono ?_; rintro e w'' ⟨rfl, t, rfl⟩; exact ⟨rfl, _, by rw [World.drewN_drewN]⟩)
        | (go_at_call_of 20 (Value.slice (some ⟨gR, 0, none⟩) nR qR); refine (unhide HK2 _ (unhide KW _)).mono ?_; rintro e w'' ⟨rfl, t, rfl⟩; exact ⟨rfl, _, by rw [World.drewN_drewN]⟩))
      have KC := hide (show Below w3.heap.size w3 (wb.drewN nq) from bl_t (unhide KB) (bl_drewN _ _))
      clear r3 r4 x2 x3 j1 j2 j3 j4 KB KW HK1 HK2
      generalize wb.drewN nq = wc at *
      have r6 := (unhide HQ _ (unhide KC)).2.2.cell (unhide RC).2.2.2.1
      obtain ⟨_, _, _, _, j5, j6, j7, j8, j9⟩ := unhide HCL wc (unhide HQ _ (unhide KC)).1
      have KW := hide (fun t => bl_t (unhide HQ _ (unhide KC)).1 (bl_drewN wc t))
      have hyC : (nC : Int) < (nC : Int) + 1 := by omega
      have hyF : (nF : Int) < (nF : Int) + 1 := by omega
      go_upto_region 12 with fail
      go_quiet (first
        | (go_at_call 21; refine (unhide HK3 _ (unhide KW _)).mono ?_; rintro e w'' ⟨rfl, t, rfl⟩; exact ⟨rfl, _, by rw [World.drewN_drewN]⟩))
      have KD := hide (show Below w3.heap.size w3 (wc.drewN nq) from bl_t (unhide KC) (bl_drewN _ _))
      have HX2 := hide (unhide HQ _ (unhide KD))
      clear r6 j5 j6 j7 j8 j9 KC KW HK3 HQ KD HCL RC
      generalize wc.drewN nq = wd at *
      go_wp2_with fail
      go_roundg (N - (i + 1))
      case measure => omega
      case rel => exact ⟨i + 1, by go_num, by omega, by omega, hide (unhide HX2).1, hide (unhide HX2).2.1⟩
    · obtain rfl : i = N := by omega
      obtain ⟨m1, m2⟩ := unhide HM wr (unhide HB)
      have hy1 : (i : Int) < (i : Int) + 2 := by omega
      have hy2 : (i : Int) + 1 < (i : Int) + 2 := by omega
      clear HP HZ HX
      go_wp2_with fail
      go_ret
      exact ⟨rfl, unhide HB⟩
end Go.Proofs.Ytodlmbhlinpoeaa
