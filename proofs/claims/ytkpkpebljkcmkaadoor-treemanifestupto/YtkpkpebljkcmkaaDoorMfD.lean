import Derived.Test.YtkpkpebljkcmkaaDoorMfC
namespace Go.Proofs.YtkpkpebljkcmkaaDoor
open Go.RowKit

set_option maxRecDepth 100000 in
set_option maxHeartbeats 8000000 in
theorem rManifest_any {w : World} {v : Value} {ps : List Pk} (h : Pks w v ps) (hl : ps.length ≤ 1048576) (hs : (allF ps).length ≤ 1048576) :
    Calls Tryd.prog 6 #[v] w fun e w' => ∃ er M v', Mn (allF ps) er M ∧ e = .returned (.tuple #[v', .int .i64 er]) ∧ w'.ownsRow w.heap.size 40 34 v' M.length M.flatten ∧ Below w.heap.size w w' := by
  obtain ⟨a, c, rfl⟩ := h.form
  have HP := hide (fun (i : Nat) (hi : i < ps.length) => h.at hi)
  have HMEM := hide (fun (i : Nat) (hi : i < ps.length) (k : Nat) (hk : k < (ps[i]).fs.length) => And.intro (allF_mem hi (List.getElem_mem hk)) (allF_split hi hk))
  have HLE := hide (fun (i : Nat) (hi : i < ps.length) => Nat.le_trans (allF_le hi) hs)
  have HSN := hide (fun (i : Nat) (hi : i < ps.length) => allF_snoc hi)
  have HCK := hide (fun (s : Nm) (X : World) (hs : s.size ≤ maxLen) => rCheckPath_any s X hs)
  have HALL := hide (show ∀ i (hi : i < ps.length), ∀ r ∈ (ps[i]).fs, isT 40 34 r from fun i hi => by obtain ⟨_, _, _, _, _, _, _, _, _, k⟩ := h.at hi; exact k.ok)
  have HOKA := hide (show ∀ r ∈ allF ps, isT 40 34 r from fun r hr => by
    obtain ⟨p, hp, hr2⟩ := List.mem_flatMap.1 hr
    obtain ⟨i, hi, rfl⟩ := List.getElem_of_mem hp
    exact unhide HALL i hi r hr2)
  have HFULL := hide (show allF (ps.take ps.length) = allF ps by rw [List.take_length])
  obtain ⟨N, hN⟩ : ∃ N, ps.length = N := ⟨_, rfl⟩
  have HN := hide hN
  rw [hN] at hl HFULL ⊢
  clear h hN
  go_enter Tryd.func6, Tryd.ntmps6
  go_wp2_with fail
  go_loopg [4, 5, 6] N (fun gq iv _ _ wr => ∃ i : Nat, iv = .int .i64 i ∧ i ≤ N ∧ N - i ≤ gq ∧ wr = w ∧ Hid (∀ r ∈ allF (ps.take i), chk (pth r) = 0))
  case atStart => exact ⟨0, by go_num, by omega, by omega, rfl, hide fun r hr => (by cases hr)⟩
  case round =>
    obtain ⟨i, rfl, hi, hg, rfl, HK⟩ := hrel
    by_cases hlt : i < N
    · have hin : (i : Int) < (N : Int) := by omega
      have hil : i < ps.length := by have := unhide HN; omega
      obtain ⟨b, o, cs, xa, xc, rfl, hbl, hr, hc, hf⟩ := unhide HP i hil
      have a7 := hr 7 _ hc.c7
      have HF := hide (fun k (hk : k < (ps[i]).fs.length) => hf.at hk)
      have hfl := unhide HLE i hil
      have HME := hide (unhide HMEM i hil)
      have HS1 := hide (unhide HSN i hil)
      generalize hfs : (ps[i]).fs = fs at *
      obtain ⟨K, hK⟩ : ∃ K, fs.length = K := ⟨_, rfl⟩
      have HKN := hide hK
      rw [hK] at hfl a7
      clear hr hc hf hK
      go_wp2_with fail
      go_loopg [5, 6] K (fun gq iv _ wr2 => ∃ k : Nat, iv = .int .i64 k ∧ k ≤ K ∧ K - k ≤ gq ∧ wr2 = wr ∧ Hid (∀ j (hj : j < fs.length), j < k → chk (pth fs[j]) = 0))
      case atStart => exact ⟨0, by go_num, by omega, by omega, rfl, hide fun j hj h => absurd h (Nat.not_lt_zero _)⟩
      case round =>
        obtain ⟨k, rfl, hk, hgk, rfl, HZ⟩ := hrel
        by_cases hlk : k < K
        · have hkn : (k : Int) < (K : Int) := by omega
          have hkl : k < fs.length := by have := unhide HKN; omega
          obtain ⟨b2, o2, rfl, hb2, hok, hrg⟩ := unhide HF k hkl
          obtain ⟨s, hs0, hsp, hsz⟩ := hok.path2
          have c0 := hrg 0 _ hs0
          rw [Nat.add_zero] at c0
          have hck := unhide HCK s wr hsz
          rcases chk_two s with hz | hz
          · rw [hz] at hck
            have HZ2 := hide (show ∀ j (hj : j < fs.length), j < k + 1 → chk (pth fs[j]) = 0 from fun j hj hjk => by
              by_cases e : j = k
              · subst e; rw [hsp]; exact hz
              · exact unhide HZ j hj (by omega))
            clear hok hrg hs0 HZ
            go_wp2_with (refine hck.mono ?_; rintro e w1 ⟨rfl, rfl⟩)
            go_roundg (K - (k + 1))
            case measure => omega
            case rel => exact ⟨k + 1, by go_num, by omega, by omega, rfl, HZ2⟩
          · rw [hz] at hck
            have HBAD := hide (show ∃ r ∈ allF ps, chk (pth r) ≠ 0 from ⟨_, (unhide HME k hkl).1, by rw [hsp, hz]; decide⟩)
            clear hok hrg hs0 HZ
            go_wp2_with (refine hck.mono ?_; rintro e w1 ⟨rfl, rfl⟩)
            go_ret2
            exact ⟨170, [], _, .path (unhide HBAD), rfl, World.ownsRow_nil _ _ _ _, Below.refl _ _⟩
        · obtain rfl : k = K := by omega
          have hge : ¬ (k : Int) < (k : Int) := by omega
          have HK2 := hide (show ∀ r ∈ allF (ps.take (i + 1)), chk (pth r) = 0 from fun r hr => by
            rw [unhide HS1] at hr
            rcases List.mem_append.1 hr with q | q
            · exact unhide HK r q
            · obtain ⟨j, hj, rfl⟩ := List.getElem_of_mem q
              exact unhide HZ j hj (by have := unhide HKN; omega))
          clear HZ HK
          go_wp2_with fail
          go_roundg (N - (i + 1))
          case measure => omega
          case rel => exact ⟨i + 1, by go_num, by omega, by omega, rfl, HK2⟩
    · obtain rfl : i = N := by omega
      have hge : ¬ (i : Int) < (i : Int) := by omega
      have HCH := hide (show ∀ r ∈ allF ps, chk (pth r) = 0 from by have := unhide HK; rw [unhide HFULL] at this; exact this)
      obtain ⟨W, rfl⟩ : ∃ W, W = wr := ⟨_, rfl⟩
      have HSR := hide (Sr.start W)
      clear HK HCK
      go_wp2_with fail
      go_loopg [7, 8, 9, 10, 11] i (fun gq lv iv _ _ _ wy => ∃ (i2 : Nat) (acc : List (List Value)), iv = .int .i64 i2 ∧ i2 ≤ i ∧ i - i2 ≤ gq ∧ Hid (Sr W wy (allF (ps.take i2)) lv acc))
      case atStart => exact ⟨0, [], by go_num, by omega, by omega, HSR⟩
      case round =>
        clear HSR hge
        obtain ⟨i2, acc, rfl, hi2, hg2, HR⟩ := hrel
        by_cases hlt2 : i2 < i
        · have hin : (i2 : Int) < (i : Int) := by omega
          have hil : i2 < ps.length := by have := unhide HN; omega
          obtain ⟨b, o, cs, xa, xc, rfl, hbl, hr, hc, hf⟩ := unhide HP i2 hil
          have a7W := hr 7 _ hc.c7
          have HF := hide (fun k (hk : k < (ps[i2]).fs.length) => hf.at hk)
          have hfl := unhide HLE i2 hil
          have HME := hide (unhide HMEM i2 hil)
          have HS1 := hide (unhide HSN i2 hil)
          generalize hfs : (ps[i2]).fs = fs at *
          obtain ⟨K, hK⟩ : ∃ K, fs.length = K := ⟨_, rfl⟩
          have HKN := hide hK
          rw [hK] at hfl a7W
          obtain ⟨Y, rfl⟩ : ∃ Y, Y = wr := ⟨_, rfl⟩
          have a7 := cell_later a7W (unhide HR).bw
          have HR0 := hide (show Sr W Y (allF (ps.take i2) ++ fs.take 0) u7 acc from by rw [List.take_zero, List.append_nil]; exact unhide HR)
          have HA7 := hide (show ∀ X, Below W.heap.size W X → X.cell? ⟨b, o + i2 * 43 + 7, none⟩ = some (.slice xa K xc) from fun X hX => cell_later a7W hX)
          clear hr hc hf hK HR a7W
          go_wp2_with fail
          clear a7
          go_loopg [7, 9, 10, 11] K (fun gq lv iv _ _ wz => ∃ (k : Nat) (acc : List (List Value)), iv = .int .i64 k ∧ k ≤ K ∧ K - k ≤ gq ∧ Hid (Sr W wz (allF (ps.take i2) ++ fs.take k) lv acc))
          case atStart => exact ⟨0, acc, by go_num, by omega, by omega, HR0⟩
          case round =>
            clear HR0
            obtain ⟨k, acc, rfl, hk, hgk, HR⟩ := hrel
            obtain ⟨Z, rfl⟩ : ∃ Z, Z = wr := ⟨_, rfl⟩
            have a7 := unhide HA7 Z (unhide HR).bw
            by_cases hlk : k < K
            · have hkn : (k : Int) < (K : Int) := by omega
              have hkl : k < fs.length := by have := unhide HKN; omega
              obtain ⟨b2, o2, rfl, hb2, hok, hrg⟩ := unhide HF k hkl
              have HRG := hide (rangeAt_later hrg hb2 (unhide HR).bw)
              have hxl := hok.1
              have hacc : acc.length ≤ 1048576 := by
                have h1 := (unhide HR).perm.length_eq
                obtain ⟨_, rest, h2⟩ := unhide HME k hkl
                have h3 := congrArg List.length h2
                rw [List.length_append] at h3
                omega
              have HOA := hide (show ∀ r ∈ acc, isT 40 34 r from fun r hr => by
                obtain ⟨_, rest, h2⟩ := unhide HME k hkl
                refine unhide HOKA r ?_
                rw [h2]
                exact List.mem_append_left _ ((unhide HR).perm.mem_iff.1 hr))
              have HPUT := hide (put_any (own_rws2 (unhide HOA) (unhide HR).row) (by omega) hok)
              have HT2 := hide (show fs.take (k + 1) = fs.take k ++ [fs[k]] from take_snoc2 hkl)
              have HMEk := hide (unhide HME k hkl).2
              generalize hxs : fs[k] = xs at *
              clear hok hrg
              by_cases hd : ∃ x ∈ acc, pth x = pth xs
              · have HPY := hide ((unhide HPUT).mono (R' := fun e w' => Below Z.heap.size Z w' ∧ e = .returned (.tuple #[u7, .bool false])) fun e w' q => ⟨q.1, by
                  rcases q.2 with z | z
                  · exact z.2
                  · obtain ⟨x, hx, e2⟩ := hd; exact absurd e2 (z.1 x hx)⟩)
                have HTW := hide (show ¬ ((allF ps).map pth).Nodup from by obtain ⟨rest, h2⟩ := unhide HMEk; exact (unhide HR).twice hd h2)
                clear hd HPUT
                go_wp2_with (first
                  | ((with_reducible refine m_load (t := 40) (k := 34) Tryd.underlying40 rfl infoF _ rfl rfl b2 (o2 + k * 34) rfl xs (unhide HRG) hxl ?_))
                  | (refine (unhide HPY).mono ?_; rintro e w9 ⟨hb9, rfl⟩; have HB9 := hide hb9; clear hb9 HPY))
                go_ret2
                exact ⟨171, [], _, .twice (unhide HCH) (unhide HTW), rfl, World.ownsRow_nil _ _ _ _, bl_t (unhide HR).bw (unhide HB9)⟩
              · have hd2 : ∀ x ∈ acc, pth x ≠ pth xs := fun x hx e2 => hd ⟨x, hx, e2⟩
                have HPN := hide ((unhide HPUT).mono (R' := fun e w' => ∃ v', e = .returned (.tuple #[v', .bool true]) ∧ Sr W w' (allF (ps.take i2) ++ fs.take (k + 1)) v' (insR xs acc)) fun e w' q => by
                  rcases q.2 with z | ⟨_, v', z1, z2⟩
                  · exact absurd z.1 hd
                  · exact ⟨v', z1, by rw [unhide HT2, ← List.append_assoc]; exact (unhide HR).put hd2 z2 q.1⟩)
                clear hd hd2 HPUT
                go_wp2_with (first
                  | ((with_reducible refine m_load (t := 40) (k := 34) Tryd.underlying40 rfl infoF _ rfl rfl b2 (o2 + k * 34) rfl xs (unhide HRG) hxl ?_))
                  | (refine (unhide HPN).mono ?_; rintro e w9 ⟨v9, rfl, hs9⟩; have HS9 := hide hs9; clear hs9 HPN))
                go_roundg (K - (k + 1))
                case measure => omega
                case rel => exact ⟨k + 1, _, by go_num, by omega, by omega, HS9⟩
            · obtain rfl : k = K := by omega
              have hge : ¬ (k : Int) < (k : Int) := by omega
              have HR2 := hide (show Sr W Z (allF (ps.take (i2 + 1))) u7 acc from by rw [unhide HS1]; have := unhide HR; rw [← unhide HKN, List.take_length] at this; exact this)
              clear HR
              go_wp2_with fail
              go_roundg (i - (i2 + 1))
              case measure => omega
              case rel => exact ⟨i2 + 1, acc, by go_num, by omega, by omega, HR2⟩
        · obtain rfl : i2 = i := by omega
          have hge : ¬ (i2 : Int) < (i2 : Int) := by omega
          have HR2 := hide (show Sr W wr (allF ps) u7 acc from by have := unhide HR; rw [unhide HFULL] at this; exact this)
          clear HR
          have hM : Mn (allF ps) 0 acc := Mn.good acc (unhide HCH) (unhide HR2).perm (unhide HR2).up
          have hZ := (unhide HR2).row
          have hB := (unhide HR2).bw
          have HM := hide hM
          have HZ := hide hZ
          have HB := hide hB
          clear hM hZ hB
          go_wp2_with fail
          go_ret2
          first | exact ⟨0, acc, unhide HM, _, rfl, unhide HZ, unhide HB⟩ | exact ⟨0, acc, _, unhide HM, rfl, unhide HZ, unhide HB⟩
end Go.Proofs.YtkpkpebljkcmkaaDoor
