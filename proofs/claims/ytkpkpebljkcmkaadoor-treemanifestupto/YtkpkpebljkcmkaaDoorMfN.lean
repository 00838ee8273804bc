import Derived.Test.YtkpkpebljkcmkaaDoorMfM
namespace Go.Proofs.YtkpkpebljkcmkaaDoor
open Go.RowKit

theorem nmT_ok {s : Nm} (h : chk s = 0) : nmT s = tpN s := by
  unfold chk at h
  split at h
  · rename_i h1; unfold nmT tpN; rw [if_pos h1]
  · cases h
theorem stS_ok {n M : Nat} (hn : n ≤ 281474976710655) (hM : M ≤ 2147483647) : stS (n : Int) (M : Int) = ba (stT n M) := by
  unfold stS
  rw [if_pos (by unfold stOk; simp; omega)]
  simp
set_option maxRecDepth 100000 in
set_option maxHeartbeats 16000000 in
theorem rsteps_any {w : World} {u v : Value} {os ps : List Pk} {seq : Int} (h : Pks w u os) (k : Pks w v ps) (hl : os.length ≤ 1048576) (kl : ps.length ≤ 1048576) (hs : (allF os).length ≤ 1048576) (ks : (allF ps).length ≤ 1048576) :
    Calls Tryd.prog 8 #[.int .i64 seq, u, v] w fun e w' => StA w seq (allF ps) (allF os) e w' := by
  obtain ⟨va, vc, rfl⟩ := k.form
  have HP := hide (fun (i : Nat) (hi : i < ps.length) => k.at hi)
  have HLE := hide (fun (i : Nat) (hi : i < ps.length) => Nat.le_trans (allF_le hi) ks)
  have HSN := hide (fun (i : Nat) (hi : i < ps.length) => allF_snoc hi)
  have HFULL := hide (show allF (ps.take ps.length) = allF ps by rw [List.take_length])
  have HMF := hide (fun (i : Nat) (hi : i < ps.length) (j : Nat) (hj : j < (ps[i]).fs.length) => And.intro (allF_split hi hj) (allF_mem hi (List.getElem_mem hj)))
  have CM1 := hide (rManifest_any k kl ks)
  have CM2 := hide (fun (X : World) (hX : Below w.heap.size w X) => rManifest_any (h.later hX) hl hs)
  have HOI := hide k.ok
  have HOO := hide h.ok
  obtain ⟨N, hN⟩ : ∃ N, ps.length = N := ⟨_, rfl⟩
  have HN := hide hN
  rw [hN] at kl HFULL CM1
  rw [hN]
  clear h k hN
  by_cases hq : 0 ≤ seq ∧ seq ≤ 281474976710655
  · have HQ := hide hq
    obtain ⟨n, rfl⟩ : ∃ n : Nat, seq = (n : Int) := ⟨seq.toNat, by omega⟩
    have hq1 : ¬ ((n : Int) < 0) := by omega
    have hq2 : ¬ ((281474976710655 : Int) < (n : Int)) := by omega
    go_enter Tryd.func8, Tryd.ntmps8
    go_upto_region 4 with (first
      | (go_at_call 6; refine (unhide CM1).mono ?_; rintro e w2 ⟨er, CM, v2, h1, rfl, h3, h4⟩; have HM1 := hide h1; have HO1 := hide h3; have HB1 := hide h4; clear h1 h3 h4))
    by_cases h0 : er = 0
    · subst h0
      go_upto_region 7 with (first
        | (go_at_call 6; refine (unhide CM2 _ (unhide HB1)).mono ?_; rintro e w3 ⟨er, GM, v3, h1, rfl, h3, h4⟩; have HM2 := hide h1; have HO2 := hide (own_base h3 (unhide HB1).size); have HB2 := hide (bl_t (unhide HB1) h4); have HO12 := hide (own_low (unhide HO1) h4); clear h1 h3 h4))
      by_cases h0 : er = 0
      · subst h0
        have hF1 := (unhide HM1).fine
        have hF2 := (unhide HM2).fine
        have HRES := hide (St.good CM GM (unhide HQ) (unhide HM1) (unhide HM2))
        have hcl : CM.length ≤ 1048576 := Nat.le_trans (unhide HM1).len ks
        have hgl : GM.length ≤ 1048576 := Nat.le_trans (unhide HM2).len hs
        have HRC := hide (own_rws2 ((unhide HM1).ok (unhide HOI)) (unhide HO12))
        have HRG := hide (own_rws2 ((unhide HM2).ok (unhide HOO)) (unhide HO2))
        obtain ⟨ga, gc, rfl⟩ := owns_form (unhide HO2)
        have HAT := hide (fun (j : Nat) (hj : j < GM.length) => (unhide HRG).at hj)
        have HFI := hide (fun (X : World) (p : Nm) (hX : Below w3.heap.size w3 X) => find_any (p := p) ((unhide HRC).later hX) hcl)
        have HCG := hide (fun (j : Nat) (hj : j < GM.length) => hF2.1 _ (hF2.2.1.mem_iff.1 (List.getElem_mem hj)))
        have HCI := hide hF1.1
        have HNM := hide (fun (s : Nm) (X : World) (hs : s.size ≤ maxLen) => rName_any s X hs)
        have HSG := hide (fun (j : Nat) (X : World) => rStaged_any (n : Int) (j : Int) X)
        have HRL := hide (rnm_len n (allF ps))
        obtain ⟨K, hK⟩ : ∃ K, GM.length = K := ⟨_, rfl⟩
        have HKN := hide hK
        rw [hK] at hgl ⊢
        have HST := hide (show w3.ownsRow w3.heap.size 42 3 (.slice none 0 0) (allF (ps.take 0)).length (rnm n (allF (ps.take 0))).flatten from World.ownsRow_nil _ _ _ _)
        clear hF1 hF2 HRC HRG CM2 CM1 hcl hK
        go_wp2_with fail
        go_loopg [11, 12, 13, 14, 15, 16, 17] N (fun gq fv iv _ _ _ _ _ wr => ∃ i : Nat, iv = .int .i64 i ∧ i ≤ N ∧ N - i ≤ gq ∧ Hid (wr.ownsRow w3.heap.size 42 3 fv (allF (ps.take i)).length (rnm n (allF (ps.take i))).flatten) ∧ Hid (Below w3.heap.size w3 wr))
        case atStart => exact ⟨0, by go_num, by omega, by omega, HST, hide (Below.refl _ _)⟩
        case round =>
          clear HST
          obtain ⟨i, rfl, hi, hg, HR, HB⟩ := hrel
          by_cases hlt : i < N
          · have hin : (i : Int) < (N : Int) := by omega
            have hil : i < ps.length := by have := unhide HN; omega
            obtain ⟨b, o, cs, xa, xc, rfl, hbl, hr, hc, hf⟩ := unhide HP i hil
            have a7w := hr 7 _ hc.c7
            have hfl := unhide HLE i hil
            have HS1 := hide (unhide HSN i hil)
            have HMFi := hide (unhide HMF i hil)
            have HF := hide (fun (j : Nat) (hj : j < (ps[i]).fs.length) => hf.at hj)
            generalize hfs : (ps[i]).fs = fs at *
            obtain ⟨J, hJ⟩ : ∃ J, fs.length = J := ⟨_, rfl⟩
            have HJ := hide hJ
            rw [hJ] at hfl a7w
            have HA7 := hide (show ∀ X, Below w3.heap.size w3 X → X.cell? ⟨b, o + i * 43 + 7, none⟩ = some (.slice xa J xc) from fun X hX => cell_later a7w (bl_t (unhide HB2) hX))
            have HR0 := hide (show wr.ownsRow w3.heap.size 42 3 u11 (allF (ps.take i) ++ fs.take 0).length (rnm n (allF (ps.take i) ++ fs.take 0)).flatten from by rw [List.take_zero, List.append_nil]; exact unhide HR)
            clear hr hc hf hJ HR a7w
            go_wp2_with fail
            go_loopg [11, 13, 14, 15, 16, 17] J (fun gq fv iv _ _ _ _ wr => ∃ j : Nat, iv = .int .i64 j ∧ j ≤ J ∧ J - j ≤ gq ∧ Hid (wr.ownsRow w3.heap.size 42 3 fv (allF (ps.take i) ++ fs.take j).length (rnm n (allF (ps.take i) ++ fs.take j)).flatten) ∧ Hid (Below w3.heap.size w3 wr))
            case atStart => exact ⟨0, by go_num, by omega, by omega, HR0, HB⟩
            case round =>
              clear HR0 HB
              obtain ⟨j, rfl, hj, hgj, HRk, HBk⟩ := hrel
              obtain ⟨Z, rfl⟩ : ∃ Z, Z = wr := ⟨_, rfl⟩
              have a7 := unhide HA7 Z (unhide HBk)
              by_cases hlj : j < J
              · have hjn : (j : Int) < (J : Int) := by omega
                have hkl : j < fs.length := by have := unhide HJ; omega
                obtain ⟨b2, o2, rfl, hb2, hok, hrg⟩ := unhide HF j hkl
                obtain ⟨⟨rest, hsp⟩, hmem⟩ := unhide HMFi j hkl
                have hck := unhide HCI _ hmem
                obtain ⟨s, hs0, hsp2, hsz⟩ := hok.path2
                rw [hsp2] at hck
                have HC0 := hide (show ∀ X, Below w3.heap.size w3 X → X.cell? ⟨b2, o2 + j * 34, none⟩ = some (.string s) from fun X hX => by have := rangeAt_later hrg hb2 (bl_t (unhide HB2) hX) 0 _ hs0; rw [Nat.add_zero] at this; exact this)
                have HT2 := hide (show rnm n (allF (ps.take i) ++ fs.take (j + 1)) = rnm n (allF (ps.take i) ++ fs.take j) ++ [stp 1 (ba (stT n (allF (ps.take i) ++ fs.take j).length)) (tpN s)] from by rw [take_snoc2 hkl, ← List.append_assoc, rnm_snoc, hsp2])
                have HL2 := hide (show (allF (ps.take i) ++ fs.take (j + 1)).length = (allF (ps.take i) ++ fs.take j).length + 1 from by rw [take_snoc2 hkl, ← List.append_assoc, List.length_append]; rfl)
                have hpl : (allF (ps.take i) ++ fs.take j).length ≤ 1048576 := by
                  have h3 := congrArg List.length hsp
                  rw [List.length_append] at h3
                  omega
                have hnm := nmT_ok hck
                generalize hP : allF (ps.take i) ++ fs.take j = P at *
                obtain ⟨M, hM⟩ : ∃ M, P.length = M := ⟨_, rfl⟩
                rw [hM] at HRk hpl HT2 HL2
                obtain ⟨fa, fc, rfl⟩ := owns_form (unhide HRk)
                have HSGk := hide (fun (X : World) => unhide HSG M X)
                rw [stS_ok (by omega) (by omega)] at HSGk
                have HNMk := hide (fun (X : World) => unhide HNM s X hsz)
                rw [hnm] at HNMk
                have HAP := hide (fun (X : World) (hX : Below w3.heap.size w3 X) (hO : X.ownsRow w3.heap.size 42 3 (.slice fa M fc) M (rnm n P).flatten) => own_grow tyQ (wx := X.alloc (.cells (stp 1 (ba (stT n M)) (tpN s)).toArray 42)) hO hX (stp 1 (ba (stT n M)) (tpN s)) rfl (fun j u hj => by rw [World.cell?_alloc_new]; simpa using hj) ((Below.refl _ _).alloc (Nat.le_refl _) _) (stp_one _ _ _) (by unfold maxLen; omega) (by omega) 30)
                clear hok hrg hs0 hsp hsp2 hck hP hM hsz hmem hnm
                go_wp2_with (first
                  | (go_at_call 22; refine (unhide HSGk _).mono ?_; rintro e w5 ⟨rfl, hb5⟩; have HB5 := hide (bl_t (unhide HBk) hb5); have HR5 := hide (own_low (unhide HRk) hb5); clear a7; have a7 := unhide HA7 _ (unhide HB5); have c0 := unhide HC0 _ (unhide HB5); obtain ⟨v9, w9, hr9, ho9, hb9⟩ := unhide HAP w5 (unhide HB5) (unhide HR5); have HO9 := hide ho9; have HB9 := hide hb9; clear hb5 ho9 hb9)
                  | (go_at_call 23; refine (unhide HNMk _).mono ?_; rintro e w6 ⟨rfl, rfl⟩)
                  | (at_builtin; refine wpList_append_run rfl _ _ 30 rfl _ _ rfl rfl hr9 ?_; clear hr9))
                have HO8 := hide (show w9.ownsRow w3.heap.size 42 3 v9 (allF (ps.take i) ++ fs.take (j + 1)).length (rnm n (allF (ps.take i) ++ fs.take (j + 1))).flatten from by
                  rw [unhide HT2, unhide HL2, List.flatten_append]
                  simpa using unhide HO9)
                go_roundg (J - (j + 1))
                case measure => omega
                case rel => exact ⟨j + 1, by go_num, by omega, by omega, HO8, HB9⟩
              · obtain rfl : j = J := by omega
                have hge : ¬ (j : Int) < (j : Int) := by omega
                have HR2 := hide (show Z.ownsRow w3.heap.size 42 3 u11 (allF (ps.take (i + 1))).length (rnm n (allF (ps.take (i + 1)))).flatten from by rw [unhide HS1]; have := unhide HRk; rw [← unhide HJ, List.take_length] at this; exact this)
                clear HRk
                go_wp2_with fail
                go_roundg (N - (i + 1))
                case measure => omega
                case rel => exact ⟨i + 1, by go_num, by omega, by omega, HR2, HBk⟩
          · obtain rfl : i = N := by omega
            have hge : ¬ (i : Int) < (i : Int) := by omega
            have HS0 := hide (show wr.ownsRow w3.heap.size 42 3 u11 (rnm n (allF ps) ++ rmv CM (GM.take 0)).length (rnm n (allF ps) ++ rmv CM (GM.take 0)).flatten from by
              rw [List.take_zero, show rmv CM [] = [] from rfl, List.append_nil, unhide HRL]; have := unhide HR; rw [unhide HFULL] at this; exact this)
            clear HR
            go_wp2_with fail
            go_loopg [11, 18, 19, 20] K (fun gq fv iv _ _ wr => ∃ k : Nat, iv = .int .i64 k ∧ k ≤ K ∧ K - k ≤ gq ∧ Hid (wr.ownsRow w3.heap.size 42 3 fv (rnm n (allF ps) ++ rmv CM (GM.take k)).length (rnm n (allF ps) ++ rmv CM (GM.take k)).flatten) ∧ Hid (Below w3.heap.size w3 wr))
            case atStart => exact ⟨0, by go_num, by omega, by omega, HS0, HB⟩
            case round =>
              clear HS0 HB hge
              obtain ⟨k, rfl, hk, hgk, HR, HB⟩ := hrel
              obtain ⟨Z, rfl⟩ : ∃ Z, Z = wr := ⟨_, rfl⟩
              by_cases hlk : k < K
              · have hkn : (k : Int) < (K : Int) := by omega
                have hkl : k < GM.length := by have := unhide HKN; omega
                obtain ⟨b2, o2, rfl, hb2, hok, hrg⟩ := unhide HAT k hkl
                have hck := unhide HCG k hkl
                obtain ⟨s, hs0, hsp2, hsz⟩ := hok.path2
                rw [hsp2] at hck
                have hnm := nmT_ok hck
                have c0 : Z.cell? ⟨b2, o2 + k * 34, none⟩ = some (.string s) := by have := rangeAt_later hrg hb2 (unhide HB) 0 _ hs0; rw [Nat.add_zero] at this; exact this
                have HT2 := hide (show rmv CM (GM.take (k + 1)) = rmv CM (GM.take k) ++ rem1 CM GM[k] from by rw [take_snoc2 hkl, rmv_snoc])
                have HR1 := hide (show rem1 CM GM[k] = if (∀ x ∈ CM, pth x ≠ s) then [stp 2 ⟨#[]⟩ (tpN s)] else [] from by unfold rem1; rw [hsp2])
                have hpl : (rnm n (allF ps) ++ rmv CM (GM.take k)).length ≤ 2097152 := by
                  rw [List.length_append, unhide HRL]
                  have := rmv_len CM (GM.take k)
                  rw [List.length_take] at this
                  omega
                generalize GM[k] = xs at *
                generalize hP : rnm n (allF ps) ++ rmv CM (GM.take k) = P at *
                have HPP := hide (show rnm n (allF ps) ++ rmv CM (GM.take (k + 1)) = P ++ rem1 CM xs from by rw [unhide HT2, ← List.append_assoc, hP])
                obtain ⟨fa, fc, rfl⟩ := owns_form (unhide HR)
                have HNMk := hide (fun (X : World) => unhide HNM s X hsz)
                rw [hnm] at HNMk
                obtain ⟨v9, w9, hr9, ho9, hb9⟩ := own_grow tyQ (wx := Z.alloc (.cells (stp 2 ⟨#[]⟩ (tpN s)).toArray 42)) (unhide HR) (unhide HB) (stp 2 ⟨#[]⟩ (tpN s)) rfl (fun j u hj => by rw [World.cell?_alloc_new]; simpa using hj) ((Below.refl _ _).alloc (Nat.le_refl _) _) (stp_one _ _ _) (by unfold maxLen; omega) (by omega) 30
                have HO9 := hide ho9
                have HB9 := hide hb9
                clear hok hrg hs0 hsp2 hck hP hsz HT2 hnm ho9 hb9
                by_cases hd : ∀ x ∈ CM, pth x ≠ s
                · have HFI2 := hide (fun (X : World) (hX : Below w3.heap.size w3 X) => (unhide HFI X s hX).mono (R' := fun e w' => ∃ q : Int, e = .returned (.int .i64 q) ∧ q < 0 ∧ w' = X) fun e w' ⟨⟨q, e1, e2⟩, e3⟩ => ⟨q, e1, e2.2 hd, e3⟩)
                  rw [if_pos hd] at HR1
                  rw [unhide HR1] at HPP
                  clear hd
                  go_wp2_with (first
                    | (go_at_call 24; refine (unhide HFI2 _ (unhide HB)).mono ?_; rintro e w6 ⟨q, rfl, hqq, rfl⟩)
                    | (go_at_call 23; refine (unhide HNMk _).mono ?_; rintro e w6 ⟨rfl, rfl⟩)
                    | (at_builtin; refine wpList_append_run rfl _ _ 30 rfl _ _ rfl rfl hr9 ?_; clear hr9))
                  have HO8 := hide (show w9.ownsRow w3.heap.size 42 3 v9 (rnm n (allF ps) ++ rmv CM (GM.take (k + 1))).length (rnm n (allF ps) ++ rmv CM (GM.take (k + 1))).flatten from by
                    rw [unhide HPP, List.length_append, List.flatten_append]
                    simpa using unhide HO9)
                  go_roundg (K - (k + 1))
                  case measure => omega
                  case rel => exact ⟨k + 1, by go_num, by omega, by omega, HO8, HB9⟩
                · have HFI2 := hide (fun (X : World) (hX : Below w3.heap.size w3 X) => (unhide HFI X s hX).mono (R' := fun e w' => ∃ q : Int, e = .returned (.int .i64 q) ∧ ¬ q < 0 ∧ w' = X) fun e w' ⟨⟨q, e1, e2⟩, e3⟩ => ⟨q, e1, fun z => hd (e2.1 z), e3⟩)
                  rw [if_neg hd] at HR1
                  rw [unhide HR1, List.append_nil] at HPP
                  clear hd hr9 HO9 HB9
                  go_wp2_with (first
                    | (go_at_call 24; refine (unhide HFI2 _ (unhide HB)).mono ?_; rintro e w6 ⟨q, rfl, hqq, rfl⟩)
                    | (go_at_call 23; refine (unhide HNMk _).mono ?_; rintro e w6 ⟨rfl, rfl⟩)
                    | (at_builtin; refine wpList_append_run rfl _ _ 30 rfl _ _ rfl rfl hr9 ?_; clear hr9))
                  have HO8 := hide (show w6.ownsRow w3.heap.size 42 3 (.slice fa P.length fc) (rnm n (allF ps) ++ rmv CM (GM.take (k + 1))).length (rnm n (allF ps) ++ rmv CM (GM.take (k + 1))).flatten from by
                    rw [unhide HPP]; exact unhide HR)
                  go_roundg (K - (k + 1))
                  case measure => omega
                  case rel => exact ⟨k + 1, by go_num, by omega, by omega, HO8, HB⟩
              · obtain rfl : k = K := by omega
                have hge : ¬ (k : Int) < (k : Int) := by omega
                have HR2 := hide (show Z.ownsRow w.heap.size 42 3 u11 (rnm n (allF ps) ++ rmv CM GM).length (rnm n (allF ps) ++ rmv CM GM).flatten from own_base (by have := unhide HR; rw [← unhide HKN, List.take_length] at this; exact this) (unhide HB2).size)
                have HBB := hide (bl_t (unhide HB2) (unhide HB))
                clear HR
                go_wp2_with fail
                go_ret2
                exact sta (unhide HRES) rfl (unhide HR2) (unhide HBB)
      · have HRES := hide (St.out (seq := (n : Int)) (I := allF ps) (O := allF os) er CM GM (unhide HQ) (unhide HM1) (unhide HM2) h0)
        go_wp2_with fail
        go_ret2
        exact sta (unhide HRES) rfl (World.ownsRow_nil _ _ _ _) (unhide HB2)
    · have HRES := hide (St.inn (seq := (n : Int)) (I := allF ps) (O := allF os) er CM (unhide HQ) (unhide HM1) h0)
      go_wp2_with fail
      go_ret2
      exact sta (unhide HRES) rfl (World.ownsRow_nil _ _ _ _) (unhide HB1)
  · have HQ := hide hq
    by_cases h1 : seq < 0
    · clear hq
      go_enter Tryd.func8, Tryd.ntmps8
      go_wp2_with fail
      go_ret2
      exact sta (.arg (unhide HQ)) rfl (World.ownsRow_nil _ _ _ _) (Below.refl _ _)
    · have h2 : (281474976710655 : Int) < seq := by omega
      clear hq
      go_enter Tryd.func8, Tryd.ntmps8
      go_wp2_with fail
      go_ret2
      exact sta (.arg (unhide HQ)) rfl (World.ownsRow_nil _ _ _ _) (Below.refl _ _)
end Go.Proofs.YtkpkpebljkcmkaaDoor
