import Derived.Test.YtodlmbhlinpoeaaAuF
namespace Go.Proofs.Ytodlmbhlinpoeaa
open Go.RowKit

set_option maxRecDepth 100000 in
set_option maxHeartbeats 4000000 in
theorem rowner_any {w : World} {v : Value} {hs : List Hk} {p : Nm} (h : Hds w v hs) (hl : hs.length ≤ 586406201463) (hz : ∀ x ∈ hs, x.fs.length ≤ 2513169434843) :
    Calls Try.prog 6 #[v, .string p] w fun e w' => e = .returned (ownV (ownK hs p)) ∧ Below w.heap.size w w' := by
  obtain ⟨a, c, rfl⟩ := h.form
  have HC := hide (fun (U : World) (hU : Below w.heap.size w U) (k : Nat) (hk : k < hs.length) => And.intro (h.ask hU hk) (hz _ (List.getElem_mem hk)))
  obtain ⟨N, hN⟩ : ∃ N, hs.length = N := ⟨_, rfl⟩
  have HN := hide hN
  rw [hN] at hl ⊢
  have HE := hide (show ownK hs p = ownK (hs.drop 0) p from rfl)
  clear h hN hz
  go_enter Try.func6, Try.ntmps6
  go_wp2_with (first
    | ((with_reducible refine b_alloc (t := 29) (k := 2) zeroK rfl rfl ?_); intro w3 B2 k2 z2; have P2 := hide B2; have HB0 := hide k2; clear B2 k2 z2))
  go_loopg [6, 7] N (fun gq iv _ wr => ∃ k : Nat, iv = .int .i64 k ∧ k ≤ N ∧ N - k ≤ gq ∧ Hid (Below w.heap.size w wr) ∧ Hid (∃ zc, Bk 29 2 wr w.heap.size zc) ∧ Hid (ownK hs p = ownK (hs.drop k) p))
  case atStart => exact ⟨0, by go_num, by omega, by omega, HB0, hide ⟨_, unhide P2⟩, HE⟩
  case round =>
    clear HB0 P2 HE
    obtain ⟨k, rfl, hk, hg, HB, HBK, HE⟩ := hrel
    obtain ⟨zc, hBK⟩ := unhide HBK
    have HBK2 := hide hBK
    clear hBK HBK
    by_cases hlt : k < N
    · have hin : (k : Int) < (N : Int) := by omega
      have hkl : k < hs.length := by have := unhide HN; omega
      obtain ⟨⟨b, o, cs, fv, rfl, hlen, hone, c0, c1, c7, hfv, hr⟩, hfl⟩ := unhide HC wr (unhide HB) k hkl
      have HOH := hide (show hasP p (hs[k]).fs = true → ownK hs p = ((hs[k]).nm, (hs[k]).vr, true) from fun e => (unhide HE).trans (own_hit hkl e))
      have HOM := hide (show hasP p (hs[k]).fs = false → ownK hs p = ownK (hs.drop (k + 1)) p from fun e => (unhide HE).trans (own_miss hkl e))
      generalize hs[k] = q at *
      obtain ⟨fa, fc, rfl⟩ := hfv.form
      have HR := hide (fun (X : World) (hX : Below wr.heap.size wr X) => hr X hX)
      have HF := hide (show ∀ X, Below wr.heap.size wr X → X.cell? ⟨b, o + k * 44 + 7, none⟩ = some (.slice fa q.fs.length fc) from fun X hX => hr X hX 7 _ c7)
      have HFV := hide (show ∀ j (hj : j < q.fs.length), ∃ g u s, fa = some ⟨g, u, none⟩ ∧ pth q.fs[j] = s ∧ ∀ X, Below wr.heap.size wr X → X.cell? ⟨g, u + j * 34, none⟩ = some (.string s) from fun j hj => by
        obtain ⟨g, u, e, l, hok, hrr⟩ := hfv.at hj
        obtain ⟨s, hs0⟩ := hok.path
        exact ⟨g, u, s, e, pth_eq hs0, fun X hX => (hX.cell (p := ⟨g, _, none⟩) l).trans (hrr 0 _ hs0)⟩)
      have HONE := hide hone
      have C0 := hide c0
      have C1 := hide c1
      obtain ⟨M, hM⟩ : ∃ M, q.fs.length = M := ⟨_, rfl⟩
      have HM := hide hM
      rw [hM] at hfl HF
      clear hr hfv hone c0 c1 c7 HC HE hM
      go_wp2_with fail
      go_loopg [7] M (fun gq jv wx => ∃ j n : Nat, jv = .int .i64 j ∧ j ≤ M ∧ M - j ≤ gq ∧ wx = wr.drewN n ∧ Hid (∀ i (hi : i < q.fs.length), i < j → pth q.fs[i] ≠ p))
      case atStart => exact ⟨0, 0, by go_num, by omega, by omega, rfl, hide fun i _ h => absurd h (Nat.not_lt_zero _)⟩
      case round =>
        obtain ⟨j, n, rfl, hj, hgj, rfl, HZ⟩ := hrel
        have a7 := unhide HF _ (bl_drewN wr n)
        by_cases hjm : j < M
        · have hjn : (j : Int) < (M : Int) := by omega
          have hjl : j < q.fs.length := by have := unhide HM; omega
          obtain ⟨g, u, s, rfl, hs, hcs⟩ := unhide HFV j hjl
          have a9 := hcs _ (bl_drewN wr n)
          have e0 := ba_if s p
          by_cases hf : s = p
          · rw [decide_eq_true hf] at e0
            have HO := hide (unhide HOH (List.any_eq_true.2 ⟨q.fs[j], List.getElem_mem hjl, decide_eq_true (by rw [hs, hf])⟩))
            clear hf HOH HOM HFV hcs hs HZ
            go_wp2_with (first
              | ((with_reducible refine m_load (t := 47) (k := 44) Try.underlying47 rfl infoH _ rfl rfl b (o + k * 44) rfl cs (unhide HR _ (bl_drewN wr n)) hlen ?_))
              | (go_at_call 18; refine (rkeyOf_any hlen (unhide HONE) (unhide C0) (unhide C1)).mono ?_; rintro e w5 ⟨rfl, hb5⟩; have K5 := hide (bl_t (bl_drewN wr n) hb5); have B5 := hide ((unhide HBK2).later (unhide K5)); clear hb5)
              | ((with_reducible refine b_store (t := 29) (k := 2) infoK _ _ rfl rfl w.heap.size rfl [.string q.nm, .string q.vr] rfl rfl (by simp [Value.oneCell']) _ (unhide B5) ?_); intro w6 B6 o6 k6 z6; have K6 := hide ((bl_t (unhide HB) (unhide K5)).trans (k6 _ (Nat.le_refl _))); have q0 := B6.cell (i := 0) rfl; have q1 := B6.cell (i := 1) rfl; clear B6 o6 k6 z6))
            rw [unhide HO]
            exact bodyPost_ret (v := .tuple #[.agg #[.string q.nm, .string q.vr], .bool true]) (by simp [results, Try.results6, go_sem, q0, q1]) rfl ⟨rfl, unhide K6⟩
          · rw [decide_eq_false hf] at e0
            have HZ2 := hide (show ∀ i (hi : i < q.fs.length), i < j + 1 → pth q.fs[i] ≠ p from fun i hi hij => by
              by_cases e : i = j
              · subst e; rw [hs]; exact hf
              · exact unhide HZ i hi (by omega))
            clear hf HOH HOM HFV hcs hs HZ
            go_wp2_with fail
            go_roundg (M - (j + 1))
            case measure => omega
            case rel => exact ⟨j + 1, n, by go_num, by omega, by omega, rfl, HZ2⟩
        · obtain rfl : j = M := by omega
          have HO := hide (unhide HOM (List.any_eq_false.2 fun r hr => by
            obtain ⟨i, hi, rfl⟩ := List.getElem_of_mem hr
            simpa using unhide HZ i hi (by have := unhide HM; omega)))
          have HX := hide (show Below w.heap.size w (wr.drewN n) ∧ ∃ zc, Bk 29 2 (wr.drewN n) w.heap.size zc from ⟨bl_t (unhide HB) (bl_drewN _ _), zc, (unhide HBK2).later (bl_drewN _ _)⟩)
          clear HZ HOH HOM HFV
          go_wp2_with fail
          go_roundg (N - (k + 1))
          case measure => omega
          case rel => exact ⟨k + 1, by go_num, by omega, by omega, hide (unhide HX).1, hide (unhide HX).2, hide (unhide HO)⟩
    · obtain rfl : k = N := by omega
      have HO := hide (show ownK hs p = (⟨#[]⟩, ⟨#[]⟩, false) from by rw [unhide HE, ← unhide HN, List.drop_length]; rfl)
      clear HE HC
      go_wp2_with (first
        | ((with_reducible refine b_store (t := 29) (k := 2) infoK _ _ rfl rfl w.heap.size rfl [.string ⟨#[]⟩, .string ⟨#[]⟩] rfl rfl (by simp [Value.oneCell']) _ (unhide HBK2) ?_); intro w6 B6 o6 k6 z6; have K6 := hide ((unhide HB).trans (k6 _ (Nat.le_refl _))); have q0 := B6.cell (i := 0) rfl; have q1 := B6.cell (i := 1) rfl; clear B6 o6 k6 z6))
      rw [unhide HO]
      exact bodyPost_ret (v := .tuple #[.agg #[.string ⟨#[]⟩, .string ⟨#[]⟩], .bool false]) (by simp [results, Try.results6, go_sem, q0, q1]) rfl ⟨rfl, unhide K6⟩
end Go.Proofs.Ytodlmbhlinpoeaa
