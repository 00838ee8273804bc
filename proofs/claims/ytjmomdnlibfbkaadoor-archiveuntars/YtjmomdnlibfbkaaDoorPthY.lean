import Derived.Test.YtjmomdnlibfbkaaDoorPthX
namespace Go.Proofs.YtjmomdnlibfbkaaDoor
open Go.RowKit

theorem okP_iff (s : ByteArray) : okP s = true ↔ s.size ≤ 256 ∧ inR 33 126 s = true ∧ segs s = true := by
  unfold okP
  simp [Bool.and_eq_true, and_assoc]
theorem okP_size {s : ByteArray} (h : ¬ s.size ≤ 256) : okP s = false := by
  cases e : okP s
  · rfl
  · exact absurd ((okP_iff s).1 e).1 h
theorem okP_inR {s : ByteArray} (h : inR 33 126 s = false) : okP s = false := by unfold okP; rw [h]; simp
theorem okP_segs {s : ByteArray} (h : segs s = false) : okP s = false := by unfold okP; rw [h]; simp
theorem spl_e44 {s : ByteArray} (h : okP s = false) : (spl s).2.2 = 44 := by rw [spl_bad s h]
theorem spl_e0 {s : ByteArray} (h : okP s = true) : (spl s).2.2 = if cutOf s < 0 then 44 else 0 := by
  by_cases hs : s.size ≤ 100
  · rw [spl_short s h hs]
    unfold cutOf
    rw [if_pos hs]
    rfl
  · unfold spl
    rw [if_neg (by rw [h]; simp), if_neg hs]
    split <;> rfl
theorem seg_nil (s : ByteArray) (k : Nat) : s.extract k k = ⟨#[]⟩ := by
  apply ba_inj
  rw [ext_list]
  simp
theorem segs_nil0 (s : ByteArray) (h : s.size = 0) : segs s = false := by
  have h0 := segs_last s 0 (fun j hj _ => by omega)
  rw [whole] at h0
  rw [h0]
  have : s.data.toList = [] := List.length_eq_zero_iff.1 (by rw [size_list]; exact h)
  unfold seg
  rw [this]
  rfl
theorem segs_head (s : ByteArray) (h : segs s = true) (hp : 0 < s.size) : s[0] ≠ 47 := by
  intro e
  have := segs_step s 0 0 (Nat.le_refl _) hp e (fun j _ _ hj => absurd hj (Nat.not_lt_zero _))
  rw [whole, h, seg_nil] at this
  cases this
theorem ext_snoc (s : ByteArray) (f k : Nat) (hf : f ≤ k) (hk : k < s.size) : s.extract f k ++ s.extract k (k + 1) = s.extract f (k + 1) := by
  apply ba_inj
  have hl := size_list s
  rw [ByteArray.data_append, Array.toList_append, ext_list, ext_list, ext_list]
  have e1 : (s.data.toList.drop k).take (k + 1 - k) = [s.data.toList[k]'(by omega)] := by
    rw [show k + 1 - k = 1 by omega, List.drop_eq_getElem_cons (by omega)]
    rfl
  have e2 : (s.data.toList.drop f).take (k + 1 - f) = (s.data.toList.drop f).take (k - f) ++ [(s.data.toList.drop f)[k - f]'(by rw [List.length_drop]; omega)] := by
    rw [show k + 1 - f = (k - f) + 1 by omega, List.take_succ_eq_append_getElem (by rw [List.length_drop]; omega)]
  have e3 : (s.data.toList.drop f)[k - f]'(by rw [List.length_drop]; omega) = s.data.toList[k]'(by omega) := by
    rw [List.getElem_drop]
    congr 1
    omega
  rw [e1, e2, e3]

/-- WHAT STANDS WHILE A PATH IS LOOKED AT. -/
def At (s sg : ByteArray) (k : Nat) : Prop :=
  (k ≤ s.size ∧ ∃ f, f ≤ k ∧ sg = s.extract f k ∧ (∀ j (hj : j < s.size), f ≤ j → j < k → s[j] ≠ 47) ∧ segs s = segs (s.extract f s.size)) ∨ (k = s.size + 1 ∧ segs s = true)
theorem At.start (s : ByteArray) : At s ⟨#[]⟩ 0 := .inl ⟨Nat.zero_le _, 0, Nat.le_refl _, (seg_nil s 0).symm, fun j _ _ h => absurd h (Nat.not_lt_zero _), by rw [whole]⟩
theorem At.more {s sg : ByteArray} {k : Nat} (h : At s sg k) (hk : k < s.size) (hc : s[k] ≠ 47) : At s (sg ++ s.extract k (k + 1)) (k + 1) := by
  rcases h with ⟨-, f, h1, h2, h3, h4⟩ | ⟨h, -⟩
  · refine .inl ⟨hk, f, by omega, by rw [h2, ext_snoc s f k h1 hk], fun j hj hfj hjk => ?_, h4⟩
    by_cases e : j < k
    · exact h3 j hj hfj e
    · obtain rfl : j = k := by omega
      exact hc
  · omega
theorem At.slash {s sg : ByteArray} {k : Nat} (h : At s sg k) (hk : k < s.size) (hc : s[k] = 47) : segs s = (seg sg && segs (s.extract (k + 1) s.size)) := by
  rcases h with ⟨-, f, h1, h2, h3, h4⟩ | ⟨h, -⟩
  · rw [h4, segs_step s f k h1 hk hc h3, h2]
  · omega
theorem At.over {s sg : ByteArray} {k : Nat} (h : At s sg k) (hk : k < s.size) (hc : s[k] = 47) (hg : seg sg = true) : At s ⟨#[]⟩ (k + 1) :=
  .inl ⟨hk, k + 1, Nat.le_refl _, (seg_nil s _).symm, fun j _ h1 h2 => by omega, by rw [h.slash hk hc, hg, Bool.true_and]⟩
theorem At.last {s sg : ByteArray} {k : Nat} (h : At s sg k) (hk : k = s.size) : segs s = seg sg := by
  subst hk
  rcases h with ⟨-, f, h1, h2, h3, h4⟩ | ⟨h, -⟩
  · rw [h4, segs_last s f (fun j hj hf => h3 j hj hf hj), h2]
  · omega
theorem At.done {s sg : ByteArray} {k : Nat} (h : At s sg k) (hk : k = s.size) (hg : seg sg = true) : At s ⟨#[]⟩ (k + 1) := .inr ⟨by omega, by rw [h.last hk, hg]⟩
theorem At.out {s sg : ByteArray} {k : Nat} (h : At s sg k) (hk : ¬ k ≤ s.size) : segs s = true := by
  rcases h with ⟨h, -⟩ | ⟨-, h⟩
  · exact absurd h hk
  · exact h

set_option maxHeartbeats 2000000 in
theorem rcutAt_any (s : ByteArray) (w : World) (hs : s.size ≤ 256) (hok : ∀ (hp : 0 < s.size), s[s.size - 1] ≠ 47) :
    Calls Tryd.prog 45 #[.string s] w fun e w' => e = .returned (.int .i64 (cutOf s)) ∧ Below w.heap.size w w' := by
  by_cases h1 : s.size ≤ 100
  · have h1' : (s.size : Int) ≤ 100 := by omega
    have HF := hide (show cutOf s = 0 by unfold cutOf; rw [if_pos h1])
    go_enter Tryd.func45, Tryd.ntmps45
    go_wp2_with fail
    go_ret
    rw [unhide HF]
    exact ⟨rfl, Below.refl _ _⟩
  · have h1' : ¬ ((s.size : Int) ≤ 100) := by omega
    have HHit := hide (cutOf_hit s (by omega))
    have HMiss := hide (cutOf_miss s (by omega))
    have HOK := hide hok
    clear hok
    go_enter Tryd.func45, Tryd.ntmps45
    go_wp2_with fail
    go_loopw [3] (fun i wr => ∃ k : Nat, k ≤ s.size ∧ k ≤ 156 ∧ i = .int .i64 k ∧ Hid (Below w.heap.size w wr) ∧ Hid (∀ j (hj : j < s.size), s.size - 101 ≤ j → j < k → s[j] ≠ 47)) (fun i _ => s.size - (intOf i).toNat)
    case atStart => exact ⟨0, Nat.zero_le _, Nat.zero_le _, rfl, hide (Below.refl _ _), hide (fun j _ _ h => absurd h (Nat.not_lt_zero _))⟩
    case round =>
      obtain ⟨k, hk, hk6, rfl, HB, HZ⟩ := hrel
      by_cases hlt : k < s.size
      · by_cases h155 : k ≤ 155
        · have h155' : (k : Int) ≤ 155 := by omega
          have HNx := hide (fun (h : s.size - 101 ≤ k → s[k] ≠ 47) => show ∀ j (hj : j < s.size), s.size - 101 ≤ j → j < k + 1 → s[j] ≠ 47 from fun j hj hf hjk => by
            by_cases e : j < k
            · exact unhide HZ j hj hf e
            · obtain rfl : j = k := by omega
              exact h hf)
          by_cases hc : s[k] = 47
          · have hcb : ((s[k].toNat : Int) == 47) = true := by rw [hc]; rfl
            have hce : (s[k].toNat : Int) = 47 := by rw [hc]; rfl
            have hne : k ≠ s.size - 1 := fun e => by
              subst e
              exact unhide HOK (by omega) hc
            by_cases hfar : s.size - 101 ≤ k
            · have HF := hide (unhide HHit k hlt hfar h155 hc (fun j hj hf hjk => unhide HZ j hj hf hjk))
              have b1 : (1 : Int) ≤ (s.size : Int) - (k : Int) - 1 := by omega
              have b2 : (s.size : Int) - (k : Int) - 1 ≤ 100 := by omega
              clear HNx HZ HMiss HHit HOK hc
              go_wp2_with fail
              go_ret
              rw [unhide HF]
              exact ⟨rfl, unhide HB⟩
            · have HZ' := hide (unhide HNx (fun h => absurd h hfar))
              have b1 : (1 : Int) ≤ (s.size : Int) - (k : Int) - 1 := by omega
              have b2 : ¬ ((s.size : Int) - (k : Int) - 1 ≤ 100) := by omega
              clear HNx HZ HHit hc
              go_wp2_with fail
              go_roundw
              case rel => exact ⟨k + 1, by omega, by omega, by go_num, HB, HZ'⟩
              case measure => simp [intOf]; omega
          · have hcn : ¬ ((s[k].toNat : Int) = 47) := fun e => hc (UInt8.toNat_inj.1 (by have : (47 : UInt8).toNat = 47 := rfl; omega))
            have hcb : ((s[k].toNat : Int) == 47) = false := beq_eq_false_iff_ne.2 hcn
            have HZ' := hide (unhide HNx (fun _ => hc))
            clear HNx HZ HHit hc
            go_wp2_with fail
            go_roundw
            case rel => exact ⟨k + 1, by omega, by omega, by go_num, HB, HZ'⟩
            case measure => simp [intOf]; omega
        · have h155' : ¬ ((k : Int) ≤ 155) := by omega
          have HF := hide (unhide HMiss (fun j hj hf hj5 => unhide HZ j hj hf (by omega)))
          clear HZ HMiss HHit HOK
          go_wp2_with fail
          go_ret
          rw [unhide HF]
          exact ⟨rfl, unhide HB⟩
      · have HF := hide (unhide HMiss (fun j hj hf hj5 => unhide HZ j hj hf (by omega)))
        clear HZ HMiss HHit HOK
        go_wp2_with fail
        go_ret
        rw [unhide HF]
        exact ⟨rfl, unhide HB⟩

set_option maxHeartbeats 4000000 in
theorem rCheckPath_any (s : ByteArray) (w : World) (hs : s.size ≤ 9223372036854775807) :
    Calls Tryd.prog 37 #[.string s] w fun e w' => e = .returned (.int .i64 (spl s).2.2) ∧ Below w.heap.size w w' := by
  by_cases h0 : s.size < 1
  · have h0' : (s.size : Int) < 1 := by omega
    have HF := hide (spl_e44 (okP_segs (segs_nil0 s (by omega))))
    go_enter Tryd.func37, Tryd.ntmps37
    go_wp2_with fail
    go_ret
    rw [unhide HF]
    exact ⟨rfl, Below.refl _ _⟩
  · have h0' : ¬ ((s.size : Int) < 1) := by omega
    by_cases h1 : s.size ≤ 256
    · have h1' : ¬ ((256 : Int) < (s.size : Int)) := by omega
      have HC := hide (fun (h : ∀ (hp : 0 < s.size), s[s.size - 1] ≠ 47) (w : World) => rcutAt_any s w h1 h)
      go_enter Tryd.func37, Tryd.ntmps37
      go_wp2_with fail
      go_loopw [3, 4] (fun v i wr => ∃ (k : Nat) (sg : ByteArray), k ≤ s.size + 1 ∧ sg.size ≤ k ∧ v = .string sg ∧ i = .int .i64 k ∧ Hid (Below w.heap.size w wr) ∧ Hid (At s sg k) ∧ Hid (∀ j (hj : j < s.size), j < k → 33 ≤ s[j].toNat ∧ s[j].toNat ≤ 126)) (fun _ i _ => s.size + 1 - (intOf i).toNat)
      case atStart => exact ⟨0, ⟨#[]⟩, Nat.zero_le _, Nat.le_refl _, rfl, rfl, hide (Below.refl _ _), hide (At.start s), hide (fun j _ h => absurd h (Nat.not_lt_zero _))⟩
      case round =>
        obtain ⟨k, sg, hk, hsg, rfl, rfl, HB, HA, HZ⟩ := hrel
        have HS := hide (seg_eq sg)
        by_cases hlt : k < s.size
        · have HBad := hide (inR_bad 33 126 s k hlt)
          have HN := hide (fun (h : 33 ≤ s[k].toNat ∧ s[k].toNat ≤ 126) => show ∀ j (hj : j < s.size), j < k + 1 → 33 ≤ s[j].toNat ∧ s[j].toNat ≤ 126 from fun j hj hjk => by
            by_cases e : j < k
            · exact unhide HZ j hj e
            · obtain rfl : j = k := by omega
              exact h)
          by_cases r1 : s[k].toNat < 33
          · have r1' : (s[k].toNat : Int) < 33 := by omega
            have HF := hide (spl_e44 (okP_inR (unhide HBad (by omega))))
            clear HBad HN HZ HA HS HC
            go_wp2_with fail
            go_ret
            rw [unhide HF]
            exact ⟨rfl, unhide HB⟩
          · have r1' : ¬ ((s[k].toNat : Int) < 33) := by omega
            by_cases r2 : 126 < s[k].toNat
            · have r2' : (126 : Int) < (s[k].toNat : Int) := by omega
              have HF := hide (spl_e44 (okP_inR (unhide HBad (by omega))))
              clear HBad HN HZ HA HS HC
              go_wp2_with fail
              go_ret
              rw [unhide HF]
              exact ⟨rfl, unhide HB⟩
            · have r2' : ¬ ((126 : Int) < (s[k].toNat : Int)) := by omega
              have HZ' := hide (unhide HN ⟨by omega, by omega⟩)
              clear HBad HN HZ
              by_cases hc : s[k] = 47
              · have hcb : ((s[k].toNat : Int) == 47) = true := by rw [hc]; rfl
                have hce : (s[k].toNat : Int) = 47 := by rw [hc]; rfl
                have HSl := hide ((unhide HA).slash hlt hc)
                have HOv := hide ((unhide HA).over hlt hc)
                clear HA hc
                by_cases e1 : sg.toList = []
                · have HF := hide (spl_e44 (okP_segs (show segs s = false by rw [unhide HSl, unhide HS, e1]; rfl)))
                  clear HSl HOv HS HC HZ'
                  go_wp2_with fail
                  go_ret
                  rw [unhide HF]
                  exact ⟨rfl, unhide HB⟩
                · have e1' : (sg.toList == []) = false := beq_eq_false_iff_ne.2 e1
                  by_cases e2 : sg.toList = [46]
                  · have HF := hide (spl_e44 (okP_segs (show segs s = false by rw [unhide HSl, unhide HS, e2]; rfl)))
                    clear HSl HOv HS HC HZ'
                    go_wp2_with fail
                    go_ret
                    rw [unhide HF]
                    exact ⟨rfl, unhide HB⟩
                  · have e2' : (sg.toList == [46]) = false := beq_eq_false_iff_ne.2 e2
                    by_cases e3 : sg.toList = [46, 46]
                    · have HF := hide (spl_e44 (okP_segs (show segs s = false by rw [unhide HSl, unhide HS, e3]; rfl)))
                      clear HSl HOv HS HC HZ'
                      go_wp2_with fail
                      go_ret
                      rw [unhide HF]
                      exact ⟨rfl, unhide HB⟩
                    · have e3' : (sg.toList == [46, 46]) = false := beq_eq_false_iff_ne.2 e3
                      have HA' := hide (unhide HOv (by rw [unhide HS, e1', e2', e3']; rfl))
                      clear HSl HOv HS
                      go_wp2_with fail
                      go_roundw
                      case rel => exact ⟨k + 1, ⟨#[]⟩, by omega, Nat.zero_le _, rfl, by go_num, HB, HA', HZ'⟩
                      case measure => simp [intOf]; omega
              · have hcn : ¬ ((s[k].toNat : Int) = 47) := fun e => hc (UInt8.toNat_inj.1 (by have : (47 : UInt8).toNat = 47 := rfl; omega))
                have hcb : ((s[k].toNat : Int) == 47) = false := beq_eq_false_iff_ne.2 hcn
                have HA' := hide ((unhide HA).more hlt hc)
                clear HA HS hc
                have j1 : (k : Int) ≤ (k : Int) + 1 := by omega
                have j2 : (k : Int) + 1 ≤ (s.size : Int) := by omega
                have j3 : (0 : Int) ≤ (k : Int) := by omega
                have j4 : (0 : Int) ≤ (k : Int) + 1 := by omega
                have hsz : (s.extract k (k + 1)).size = 1 := by rw [ByteArray.size_extract]; omega
                go_wp2_with fail
                go_roundw
                case rel => exact ⟨k + 1, sg ++ s.extract k (k + 1), by omega, by rw [ByteArray.size_append, hsz]; omega, rfl, by go_num, HB, HA', HZ'⟩
                case measure => simp [intOf]; omega
        · by_cases hle : k ≤ s.size
          · have hke : k = s.size := by omega
            have HLa := hide ((unhide HA).last hke)
            have HDo := hide ((unhide HA).done hke)
            have HZ' := hide (show ∀ j (hj : j < s.size), j < k + 1 → 33 ≤ s[j].toNat ∧ s[j].toNat ≤ 126 from fun j hj _ => unhide HZ j hj (by omega))
            clear HA HZ hke
            by_cases e1 : sg.toList = []
            · have HF := hide (spl_e44 (okP_segs (show segs s = false by rw [unhide HLa, unhide HS, e1]; rfl)))
              clear HLa HDo HS HC HZ'
              go_wp2_with fail
              go_ret
              rw [unhide HF]
              exact ⟨rfl, unhide HB⟩
            · have e1' : (sg.toList == []) = false := beq_eq_false_iff_ne.2 e1
              by_cases e2 : sg.toList = [46]
              · have HF := hide (spl_e44 (okP_segs (show segs s = false by rw [unhide HLa, unhide HS, e2]; rfl)))
                clear HLa HDo HS HC HZ'
                go_wp2_with fail
                go_ret
                rw [unhide HF]
                exact ⟨rfl, unhide HB⟩
              · have e2' : (sg.toList == [46]) = false := beq_eq_false_iff_ne.2 e2
                by_cases e3 : sg.toList = [46, 46]
                · have HF := hide (spl_e44 (okP_segs (show segs s = false by rw [unhide HLa, unhide HS, e3]; rfl)))
                  clear HLa HDo HS HC HZ'
                  go_wp2_with fail
                  go_ret
                  rw [unhide HF]
                  exact ⟨rfl, unhide HB⟩
                · have e3' : (sg.toList == [46, 46]) = false := beq_eq_false_iff_ne.2 e3
                  have HA' := hide (unhide HDo (by rw [unhide HS, e1', e2', e3']; rfl))
                  clear HLa HDo HS
                  go_wp2_with fail
                  go_roundw
                  case rel => exact ⟨k + 1, ⟨#[]⟩, by omega, Nat.zero_le _, rfl, by go_num, HB, HA', HZ'⟩
                  case measure => simp [intOf]; omega
          · have HSg := hide ((unhide HA).out hle)
            have HOK := hide ((okP_iff s).2 ⟨h1, inR_all 33 126 s (fun j hj => unhide HZ j hj (by omega)), unhide HSg⟩)
            have HE := hide (spl_e0 (unhide HOK))
            have c9 := hide (unhide HC (fun hp => okP_tail s (unhide HOK) hp) wr)
            generalize cutOf s = cu at *
            clear HA HZ HS HSg HOK HC
            by_cases hcu : cu < 0
            · have HF := hide (show (spl s).2.2 = 44 by rw [unhide HE, if_pos hcu])
              clear HE
              go_wp2_with fail
              refine (unhide c9).mono ?_
              rintro e w1 ⟨rfl, hb1⟩
              have HB1 := hide ((unhide HB).trans (hb1.mono (unhide HB).size))
              clear hb1
              go_wp2_with fail
              go_ret
              rw [unhide HF]
              exact ⟨rfl, unhide HB1⟩
            · have HF := hide (show (spl s).2.2 = 0 by rw [unhide HE, if_neg hcu])
              clear HE
              go_wp2_with fail
              refine (unhide c9).mono ?_
              rintro e w1 ⟨rfl, hb1⟩
              have HB1 := hide ((unhide HB).trans (hb1.mono (unhide HB).size))
              clear hb1
              go_wp2_with fail
              go_ret
              rw [unhide HF]
              exact ⟨rfl, unhide HB1⟩
    · have h1' : (256 : Int) < (s.size : Int) := by omega
      have HF := hide (spl_e44 (okP_size h1))
      go_enter Tryd.func37, Tryd.ntmps37
      go_wp2_with fail
      go_ret
      rw [unhide HF]
      exact ⟨rfl, Below.refl _ _⟩


set_option maxHeartbeats 2000000 in
theorem rSplit_any (s : ByteArray) (w : World) (hs : s.size ≤ 9223372036854775807) :
    Calls Tryd.prog 46 #[.string s] w fun e w' => e = .returned (.tuple #[.string (spl s).1, .string (spl s).2.1, .int .i64 (spl s).2.2]) ∧ Below w.heap.size w w' := by
  have c1 := hide (rCheckPath_any s w hs)
  by_cases h0 : (spl s).2.2 = 0
  · have hok : okP s = true := by
      cases e : okP s
      · rw [spl_e44 e] at h0; cases h0
      · rfl
    have h256 := ((okP_iff s).1 hok).1
    have hcu : ¬ cutOf s < 0 := fun hc => by rw [spl_e0 hok, if_pos hc] at h0; cases h0
    have c2 := hide (fun w => rcutAt_any s w h256 (fun hp => okP_tail s hok hp))
    rw [h0] at c1
    by_cases h1 : s.size ≤ 100
    · have hc0 : cutOf s = 0 := by unfold cutOf; rw [if_pos h1]
      have HF := hide (spl_short s hok h1)
      rw [hc0] at c2
      clear hcu hc0 hok h0
      go_enter Tryd.func46, Tryd.ntmps46
      go_wp2_with fail
      refine (unhide c1).mono ?_
      rintro e w1 ⟨rfl, hb1⟩
      have HB1 := hide hb1
      clear hb1
      go_wp2_with fail
      refine (unhide c2 _).mono ?_
      rintro e w2 ⟨rfl, hb2⟩
      have HB2 := hide (bl_t (unhide HB1) hb2)
      clear hb2
      go_wp2_with fail
      go_ret3
      rw [unhide HF]
      exact ⟨rfl, unhide HB2⟩
    · obtain ⟨i, hi⟩ : ∃ i : Nat, cutOf s = i := ⟨(cutOf s).toNat, by omega⟩
      have HF := hide (spl_hit s hok (by omega) i hi)
      have hi5 : i ≤ 155 ∧ i < s.size ∧ s.size - 101 ≤ i ∧ i ≠ 0 := by
        have hx := hi
        unfold cutOf at hx
        rw [if_neg h1] at hx
        simp only at hx
        split at hx
        · omega
        · rename_i hj
          split at hx
          · omega
          · rename_i h155
            by_cases hm : (47 : UInt8) ∈ s.data.toList.drop (s.size - 101)
            · obtain ⟨a, r, e, hn⟩ := first_of hm
              rw [e, idx1_hit 47 r a hn] at hx h155
              have hla := congrArg List.length e
              rw [List.length_drop, List.length_append, List.length_cons, size_list] at hla
              refine ⟨by omega, by omega, by omega, fun h0i => ?_⟩
              have ha0 : a = [] := List.length_eq_zero_iff.1 (by omega)
              have hsz : s.size - 101 = 0 := by omega
              rw [ha0, hsz, List.drop_zero, List.nil_append] at e
              have hs0 : s[0]'(by omega) = 47 := by
                have : s.data.toList[0]'(by rw [size_list]; omega) = 47 := by simp [e]
                exact this
              exact segs_head s ((okP_iff s).1 hok).2.2 (by omega) hs0
            · exact absurd (idx1_miss 47 _ hm) hj
      have hne : ((i : Int) == 0) = false := beq_eq_false_iff_ne.2 (by omega)
      have hnz : ¬ ((i : Int) = 0) := by omega
      rw [hi] at c2
      clear hcu hok h0 hi
      obtain ⟨q1, q2, q3, -⟩ := hi5
      have j1 : (0 : Int) ≤ (i : Int) := by omega
      have j2 : (i : Int) ≤ (s.size : Int) := by omega
      have j3 : (i : Int) + 1 ≤ (s.size : Int) := by omega
      have j4 : (0 : Int) ≤ (i : Int) + 1 := by omega
      go_enter Tryd.func46, Tryd.ntmps46
      go_wp2_with fail
      refine (unhide c1).mono ?_
      rintro e w1 ⟨rfl, hb1⟩
      have HB1 := hide hb1
      clear hb1
      go_wp2_with fail
      refine (unhide c2 _).mono ?_
      rintro e w2 ⟨rfl, hb2⟩
      have HB2 := hide (bl_t (unhide HB1) hb2)
      clear hb2
      go_wp2_with fail
      go_quiet (fail)
      go_wp2
      go_ret3
      rw [unhide HF]
      exact ⟨rfl, bl_t (unhide HB2) (bl_drewN _ _)⟩
  · have hF : spl s = (⟨#[]⟩, ⟨#[]⟩, (spl s).2.2) := by
      cases e : okP s
      · rw [spl_bad s e]
      · by_cases hs : s.size ≤ 100
        · rw [spl_short s e hs] at h0; exact absurd rfl h0
        · unfold spl at h0 ⊢
          rw [if_neg (by rw [e]; simp), if_neg hs] at h0 ⊢
          split
          · rfl
          · rename_i hc
            rw [if_neg hc] at h0
            exact absurd rfl h0
    have HF := hide hF
    generalize (spl s).2.2 = e0 at *
    have h0' : (e0 == 0) = false := beq_eq_false_iff_ne.2 h0
    clear hF
    go_enter Tryd.func46, Tryd.ntmps46
    go_wp2_with fail
    refine (unhide c1).mono ?_
    rintro e w1 ⟨rfl, hb1⟩
    have HB1 := hide hb1
    clear hb1
    go_wp2_with fail
    go_ret3
    rw [unhide HF]
    exact ⟨rfl, unhide HB1⟩

end Go.Proofs.YtjmomdnlibfbkaaDoor
