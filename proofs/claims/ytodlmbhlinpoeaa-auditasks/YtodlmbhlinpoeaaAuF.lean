import Derived.Test.YtodlmbhlinpoeaaAuE
namespace Go.Proofs.Ytodlmbhlinpoeaa
open Go.RowKit

theorem own_hit {hs : List Hk} {p : Nm} {i : Nat} (hi : i < hs.length) (hh : hasP p (hs[i]).fs = true) : ownK (hs.drop i) p = ((hs[i]).nm, (hs[i]).vr, true) := by
  rw [List.drop_eq_getElem_cons hi, ownK, if_pos hh]
theorem own_miss {hs : List Hk} {p : Nm} {i : Nat} (hi : i < hs.length) (hh : hasP p (hs[i]).fs = false) : ownK (hs.drop i) p = ownK (hs.drop (i + 1)) p := by
  rw [List.drop_eq_getElem_cons hi, ownK, if_neg (by rw [hh]; decide)]
def ownV (x : Nm × Nm × Bool) : Value := .tuple #[.agg #[.string x.1, .string x.2.1], .bool x.2.2]
theorem zeroH : ∃ zc : List Value, (Try.prog.info? 47).map (fun i => (i.zero, i.size)) = some (some (.agg zc.toArray), 44) ∧ zc.length = 44 ∧ zc.all (·.oneCell') = true :=
  ⟨((((Try.prog.info? 47).bind (·.zero)).map fun z => z.cells.toList).getD []), by kernel_rfl, by kernel_rfl, by kernel_rfl⟩
/-- WHAT AN ASKER LOOKS AT. -/
structure Ask (w U : World) (a : Option Addr) (h : Hk) (k : Nat) : Prop where
  at_ : ∃ b o cs fv, a = some ⟨b, o, none⟩ ∧ cs.length = 44 ∧ (∀ x ∈ cs, x.oneCell' = true) ∧ cs[0]? = some (.string h.nm) ∧ cs[1]? = some (.string h.vr) ∧ cs[7]? = some fv ∧ Rws 49 34 U fv h.fs ∧ ∀ X, Below U.heap.size U X → X.rangeAt b (o + k * 44) cs
theorem Hds.ask {w U : World} {a : Option Addr} {n c : Nat} {hs : List Hk} (h : Hds w (.slice a n c) hs) (hU : Below w.heap.size w U) {k : Nat} (hk : k < hs.length) : Ask w U a hs[k] k := by
  obtain ⟨b, o, cs, d, r, c, v, f, e, l, hr, kc, kl⟩ := h.at hk
  exact ⟨b, o, cs, f, e, kc.len, kc.one, kc.c0, kc.c1, kc.c7, kl.fl.later hU, fun X hX => rangeAt_later hr l (bl_t hU hX)⟩
set_option maxRecDepth 100000 in
set_option maxHeartbeats 4000000 in
theorem owner_any {w : World} {v : Value} {hs : List Hk} {p : Nm} (h : Hds w v hs) (hl : hs.length ≤ 586406201463) (hz : ∀ x ∈ hs, x.fs.length ≤ 2513169434843) :
    Calls Try.prog 5 #[v, .string p] w fun e w' => e = .returned (ownV (ownK hs p)) ∧ Below w.heap.size w w' := by
  obtain ⟨a, c, rfl⟩ := h.form
  have HC := hide (fun (U : World) (hU : Below w.heap.size w U) (k : Nat) (hk : k < hs.length) => And.intro (h.ask hU hk) (hz _ (List.getElem_mem hk)))
  obtain ⟨N, hN⟩ : ∃ N, hs.length = N := ⟨_, rfl⟩
  have HN := hide hN
  rw [hN] at hl ⊢
  have HE := hide (show ownK hs p = ownK (hs.drop 0) p from rfl)
  obtain ⟨zcH, zeroH2⟩ := zeroH
  clear h hN hz
  go_enter Try.func5, Try.ntmps5
  go_wp2_with (first
    | ((with_reducible refine b_alloc (t := 29) (k := 2) zeroK rfl rfl ?_); intro w3 B2 k2 z2; have P2 := hide (show Bk 29 2 w3 (w.heap.size + 1) _ from by have := B2; rwa [World.size_alloc] at this); have hb1 := (Below.refl w.heap.size w).alloc (Nat.le_refl _) (.cells #[.string p] 9); have a0 := hide (cell_later (show (w.alloc (.cells #[.string p] 9)).cell? ⟨w.heap.size, 0, none⟩ = some (.string p) from by rw [World.cell?_alloc_new]; rfl) k2); have HB0 := hide (hb1.trans (k2.mono hb1.size)); clear B2 k2 z2 hb1))
  go_loopg [7, 10] N (fun gq _ iv wr => ∃ k : Nat, iv = .int .i64 k ∧ k ≤ N ∧ N - k ≤ gq ∧ Hid (Below w.heap.size w wr) ∧ Hid (wr.cell? ⟨w.heap.size, 0, none⟩ = some (.string p)) ∧ Hid (∃ zc, Bk 29 2 wr (w.heap.size + 1) zc) ∧ Hid (ownK hs p = ownK (hs.drop k) p))
  case atStart => exact ⟨0, by go_num, by omega, by omega, HB0, a0, hide ⟨_, unhide P2⟩, HE⟩
  case round =>
    clear HB0 a0 P2 HE
    obtain ⟨k, rfl, hk, hg, HB, HPT, HBK, HE⟩ := hrel
    obtain ⟨zc, hBK⟩ := unhide HBK
    have HBK2 := hide hBK
    clear hBK HBK
    by_cases hlt : k < N
    · have hin : (k : Int) < (N : Int) := by omega
      have hkl : k < hs.length := by have := unhide HN; omega
      obtain ⟨⟨b, o, cs, fv, rfl, hlen, hone, c0, c1, c7, hfv, hr⟩, hfl⟩ := unhide HC wr (unhide HB) k hkl
      have HOH := hide (show hasP p (hs[k]).fs = true → ownK hs p = ((hs[k]).nm, (hs[k]).vr, true) from fun e => (unhide HE).trans (own_hit hkl e))
      have HOM := hide (show hasP p (hs[k]).fs = false → ownK hs p = ownK (hs.drop (k + 1)) p from fun e => (unhide HE).trans (own_miss hkl e))
      generalize hs[k] = q at *
      obtain ⟨fa, fc, rfl⟩ := hfv.form
      have HR := hide (hr wr (Below.refl _ _))
      have HFV := hide hfv
      have HONE := hide hone
      have C0 := hide c0
      have C1 := hide c1
      have C7 := hide c7
      clear hr hfv hone c0 c1 c7 HC HE
      cases hh : hasP p q.fs with
      | true =>
        have HO := hide (unhide HOH hh)
        have HH := hide hh
        clear hh HOH HOM
        go_wp2_with (first
          | ((with_reducible refine m_load (t := 47) (k := 44) Try.underlying47 rfl infoH _ rfl rfl b (o + k * 44) rfl cs (unhide HR) hlen ?_); clear HR)
          | ((with_reducible refine b_alloc (t := 47) (k := 44) zeroH2 rfl rfl ?_); intro w2 B2 k2 z2)
          | ((with_reducible refine b_store (t := 47) (k := 44) infoH _ _ rfl rfl wr.heap.size rfl cs rfl hlen (unhide HONE) _ B2 ?_); intro w3 B3 o3 k3 z3; have BB := hide B3; have K3 := hide (k2.trans (k3 _ (Nat.le_refl _))); have a7 := B3.cell (unhide C7); clear B2 k2 B3 o3 k3)
          | (go_at_call 15; refine (containsFunc_any (p := p) ((unhide HFV).later (unhide K3)) hfl (cell_later (unhide HPT) (unhide K3))).mono ?_; rintro e w4 ⟨rfl, hb4⟩; rw [unhide HH]; have K4 := hide (bl_t (unhide K3) hb4); have B4 := hide ((unhide BB).later hb4); clear hb4 a7 K3 BB z2 z3)
          | ((with_reducible refine m_load (t := 47) (k := 44) Try.underlying47 rfl infoH _ rfl rfl wr.heap.size 0 rfl cs (unhide B4).range hlen ?_))
          | (go_at_call 17; refine (keyOf_any hlen (unhide HONE) (unhide C0) (unhide C1)).mono ?_; rintro e w5 ⟨rfl, hb5⟩; have K5 := hide (bl_t (unhide K4) hb5); have B5 := hide ((unhide HBK2).later (unhide K5)); clear hb5 B4 K4)
          | ((with_reducible refine b_store (t := 29) (k := 2) infoK _ _ rfl rfl (w.heap.size + 1) rfl [.string q.nm, .string q.vr] rfl rfl (by simp [Value.oneCell']) _ (unhide B5) ?_); intro w6 B6 o6 k6 z6; have K6 := hide ((bl_t (unhide HB) (unhide K5)).trans (k6 _ (Nat.le_succ _))); have q0 := B6.cell (i := 0) rfl; have q1 := B6.cell (i := 1) rfl; clear B6 o6 k6 z6))
        rw [unhide HO]
        exact bodyPost_ret (v := .tuple #[.agg #[.string q.nm, .string q.vr], .bool true]) (by simp [results, Try.results5, go_sem, q0, q1]) rfl ⟨rfl, unhide K6⟩
      | false =>
        have HO := hide (unhide HOM hh)
        have HH := hide hh
        clear hh HOH HOM
        go_wp2_with (first
          | ((with_reducible refine m_load (t := 47) (k := 44) Try.underlying47 rfl infoH _ rfl rfl b (o + k * 44) rfl cs (unhide HR) hlen ?_); clear HR)
          | ((with_reducible refine b_alloc (t := 47) (k := 44) zeroH2 rfl rfl ?_); intro w2 B2 k2 z2)
          | ((with_reducible refine b_store (t := 47) (k := 44) infoH _ _ rfl rfl wr.heap.size rfl cs rfl hlen (unhide HONE) _ B2 ?_); intro w3 B3 o3 k3 z3; have BB := hide B3; have K3 := hide (k2.trans (k3 _ (Nat.le_refl _))); have a7 := B3.cell (unhide C7); clear B2 k2 B3 o3 k3)
          | (go_at_call 15; refine (containsFunc_any (p := p) ((unhide HFV).later (unhide K3)) hfl (cell_later (unhide HPT) (unhide K3))).mono ?_; rintro e w4 ⟨rfl, hb4⟩; rw [unhide HH]; have K4 := hide (bl_t (unhide K3) hb4); clear hb4 a7 K3 BB z2 z3))
        have HX := hide (show Below w.heap.size w w4 ∧ w4.cell? ⟨w.heap.size, 0, none⟩ = some (.string p) ∧ ∃ zc, Bk 29 2 w4 (w.heap.size + 1) zc from ⟨bl_t (unhide HB) (unhide K4), cell_later (unhide HPT) (unhide K4), zc, (unhide HBK2).later (unhide K4)⟩)
        go_roundg (N - (k + 1))
        case measure => omega
        case rel => exact ⟨k + 1, by go_num, by omega, by omega, hide (unhide HX).1, hide (unhide HX).2.1, hide (unhide HX).2.2, hide (unhide HO)⟩
    · obtain rfl : k = N := by omega
      have HO := hide (show ownK hs p = (⟨#[]⟩, ⟨#[]⟩, false) from by rw [unhide HE, ← unhide HN, List.drop_length]; rfl)
      clear HE HC
      go_wp2_with (first
        | ((with_reducible refine b_store (t := 29) (k := 2) infoK _ _ rfl rfl (w.heap.size + 1) rfl [.string ⟨#[]⟩, .string ⟨#[]⟩] rfl rfl (by simp [Value.oneCell']) _ (unhide HBK2) ?_); intro w6 B6 o6 k6 z6; have K6 := hide ((unhide HB).trans (k6 _ (Nat.le_succ _))); have q0 := B6.cell (i := 0) rfl; have q1 := B6.cell (i := 1) rfl; clear B6 o6 k6 z6))
      rw [unhide HO]
      exact bodyPost_ret (v := .tuple #[.agg #[.string ⟨#[]⟩, .string ⟨#[]⟩], .bool false]) (by simp [results, Try.results5, go_sem, q0, q1]) rfl ⟨rfl, unhide K6⟩
end Go.Proofs.Ytodlmbhlinpoeaa
