import Derived.Test.YtkpkpebljkcmkaaDoorTrG
namespace Go.Proofs.YtkpkpebljkcmkaaDoor
open Go.RowKit

/-- The way through a path: the segment that begins at f, up to k. -/
def Af (s : ByteArray) (f k : Nat) : Prop :=
  (k ≤ s.size ∧ f ≤ k ∧ (∀ j (hj : j < s.size), f ≤ j → j < k → s[j] ≠ 47) ∧ segs s = segs (s.extract f s.size)) ∨ (s.size < k ∧ segs s = true)
theorem Af.start (s : ByteArray) : Af s 0 0 := .inl ⟨Nat.zero_le _, Nat.le_refl _, fun j _ _ h => absurd h (Nat.not_lt_zero _), by rw [whole]⟩
theorem Af.more {s : ByteArray} {f k : Nat} (h : Af s f k) (hk : k < s.size) (hc : s[k] ≠ 47) : Af s f (k + 1) := by
  rcases h with ⟨h1, h2, h3, h4⟩ | ⟨h1, _⟩
  · refine .inl ⟨hk, by omega, fun j hj hf hjk => ?_, h4⟩
    by_cases e : j < k
    · exact h3 j hj hf e
    · obtain rfl : j = k := by omega
      exact hc
  · omega
theorem Af.le {s : ByteArray} {f k : Nat} (h : Af s f k) (hk : k ≤ s.size) : f ≤ k := by
  rcases h with ⟨_, h2, _⟩ | ⟨h1, _⟩
  · exact h2
  · omega
theorem Af.slash {s : ByteArray} {f k : Nat} (h : Af s f k) (hk : k < s.size) (hc : s[k] = 47) : segs s = (seg (s.extract f k) && segs (s.extract (k + 1) s.size)) := by
  rcases h with ⟨h1, h2, h3, h4⟩ | ⟨h1, _⟩
  · rw [h4]
    exact segs_step s f k h2 hk hc h3
  · omega
theorem Af.over {s : ByteArray} {f k : Nat} (h : Af s f k) (hk : k < s.size) (hc : s[k] = 47) (hg : seg (s.extract f k) = true) : Af s (k + 1) (k + 1) :=
  .inl ⟨hk, Nat.le_refl _, fun j _ h1 h2 => absurd h2 (by omega), by rw [h.slash hk hc, hg, Bool.true_and]⟩
theorem Af.last {s : ByteArray} {f k : Nat} (h : Af s f k) (hk : k = s.size) : segs s = seg (s.extract f k) := by
  rcases h with ⟨h1, h2, h3, h4⟩ | ⟨h1, _⟩
  · rw [h4, hk]
    exact segs_last s f (fun j hj hf => h3 j hj hf (by omega))
  · omega
theorem Af.done {s : ByteArray} {f k : Nat} (h : Af s f k) (hk : k = s.size) (hg : seg (s.extract f k) = true) : Af s (k + 1) (k + 1) := .inr ⟨by omega, by rw [h.last hk, hg]⟩
theorem Af.out {s : ByteArray} {f k : Nat} (h : Af s f k) (hk : ¬ k ≤ s.size) : segs s = true := by
  rcases h with ⟨h1, _⟩ | ⟨_, h2⟩
  · omega
  · exact h2
theorem seg_nil (s : ByteArray) (k : Nat) : s.extract k k = ⟨#[]⟩ := by
  apply ba_inj
  rw [ext_list]
  simp
theorem segs_nil0 (s : ByteArray) (h : s.size = 0) : segs s = false := by
  have e := segs_last s 0 (fun j hj _ => by omega)
  rw [whole] at e
  rw [e]
  have hl : s.data.toList = [] := List.length_eq_zero_iff.1 (by rw [size_list]; exact h)
  unfold seg
  rw [hl]
  rfl

set_option maxRecDepth 100000 in
set_option maxHeartbeats 4000000 in
theorem rCheckPath_any (s : ByteArray) (w : World) (hs : s.size ≤ 9223372036854775807) :
    Calls Tryd.prog 17 #[.string s] w fun e w' => e = .returned (.int .i64 (chk s)) ∧ w' = w := by
  by_cases h0 : s.size < 1
  · have h0' : (s.size : Int) < 1 := by omega
    have HF := hide (chk_segs (segs_nil0 s (by omega)))
    go_enter Tryd.func17, Tryd.ntmps17
    go_wp2_with fail
    go_ret
    rw [unhide HF]
    exact ⟨rfl, rfl⟩
  · have h0' : ¬ ((s.size : Int) < 1) := by omega
    by_cases h1 : s.size ≤ 256
    · have h1' : ¬ ((256 : Int) < (s.size : Int)) := by omega
      go_enter Tryd.func17, Tryd.ntmps17
      go_wp2_with fail
      go_loopw [3, 4] (fun v i wr => ∃ (k f : Nat), k ≤ s.size + 1 ∧ f ≤ k ∧ v = .int .i64 f ∧ i = .int .i64 k ∧ wr = w ∧ Hid (Af s f k) ∧ Hid (∀ j (hj : j < s.size), j < k → 33 ≤ s[j].toNat ∧ s[j].toNat ≤ 126)) (fun _ i _ => s.size + 1 - (intOf i).toNat)
      case atStart => exact ⟨0, 0, Nat.zero_le _, Nat.le_refl _, rfl, rfl, rfl, hide (Af.start s), hide (fun j _ h => absurd h (Nat.not_lt_zero _))⟩
      case round =>
        obtain ⟨k, f, hk, hfk, rfl, rfl, rfl, HA, HZ⟩ := hrel
        by_cases hlt : k < s.size
        · have HBad := hide (inR_bad 33 126 s k hlt)
          have HN := hide (fun (h : 33 ≤ s[k].toNat ∧ s[k].toNat ≤ 126) => show ∀ j (hj : j < s.size), j < k + 1 → 33 ≤ s[j].toNat ∧ s[j].toNat ≤ 126 from fun j hj hjk => by
            by_cases e : j < k
            · exact unhide HZ j hj e
            · obtain rfl : j = k := by omega
              exact h)
          clear HZ
          by_cases hc : s[k] = 47
          · have hcb : ((s[k].toNat : Int) == 47) = true := by rw [hc]; rfl
            have hce : (s[k].toNat : Int) = 47 := by rw [hc]; rfl
            have HZ' := hide (unhide HN (by omega))
            have HSl := hide ((unhide HA).slash hlt hc)
            have HOv := hide ((unhide HA).over hlt hc)
            have HS := hide (seg_eq (s.extract f k))
            have j1 : (f : Int) ≤ (k : Int) := by omega
            have j2 : (k : Int) ≤ (s.size : Int) := by omega
            have j3 : (0 : Int) ≤ (f : Int) := by omega
            clear HA hc HN HBad
            generalize hsg : s.extract f k = sg at *
            by_cases e1 : sg.toList = []
            · have HF := hide (chk_segs (show segs s = false by rw [unhide HSl, unhide HS, e1]; rfl))
              clear HSl HOv HS HZ'
              go_wp2_with fail
              go_ret
              rw [unhide HF]
              exact ⟨rfl, rfl⟩
            · have e1' : (sg.toList == []) = false := beq_eq_false_iff_ne.2 e1
              by_cases e2 : sg.toList = [46]
              · have HF := hide (chk_segs (show segs s = false by rw [unhide HSl, unhide HS, e2]; rfl))
                clear HSl HOv HS HZ'
                go_wp2_with fail
                go_ret
                rw [unhide HF]
                exact ⟨rfl, rfl⟩
              · have e2' : (sg.toList == [46]) = false := beq_eq_false_iff_ne.2 e2
                by_cases e3 : sg.toList = [46, 46]
                · have HF := hide (chk_segs (show segs s = false by rw [unhide HSl, unhide HS, e3]; rfl))
                  clear HSl HOv HS HZ'
                  go_wp2_with fail
                  go_ret
                  rw [unhide HF]
                  exact ⟨rfl, rfl⟩
                · have e3' : (sg.toList == [46, 46]) = false := beq_eq_false_iff_ne.2 e3
                  have HA' := hide (unhide HOv (by rw [unhide HS, e1', e2', e3']; rfl))
                  clear HSl HOv HS
                  go_wp2_with fail
                  go_roundw
                  case rel => exact ⟨k + 1, k + 1, by omega, Nat.le_refl _, by go_num, by go_num, by first | rfl | trivial, HA', HZ'⟩
                  case measure => simp [intOf]; omega
          · have hcn : ¬ ((s[k].toNat : Int) = 47) := fun e => hc (UInt8.toNat_inj.1 (by have : (47 : UInt8).toNat = 47 := rfl; omega))
            have hcb : ((s[k].toNat : Int) == 47) = false := beq_eq_false_iff_ne.2 hcn
            have HA' := hide ((unhide HA).more hlt hc)
            clear HA hc
            by_cases r1 : s[k].toNat < 33
            · have r1' : (s[k].toNat : Int) < 33 := by omega
              have HF := hide (chk_inR (unhide HBad (by omega)))
              clear HBad HN HA'
              go_wp2_with fail
              go_ret
              rw [unhide HF]
              exact ⟨rfl, rfl⟩
            · have r1' : ¬ ((s[k].toNat : Int) < 33) := by omega
              by_cases r2 : 126 < s[k].toNat
              · have r2' : (126 : Int) < (s[k].toNat : Int) := by omega
                have HF := hide (chk_inR (unhide HBad (by omega)))
                clear HBad HN HA'
                go_wp2_with fail
                go_ret
                rw [unhide HF]
                exact ⟨rfl, rfl⟩
              · have r2' : ¬ ((126 : Int) < (s[k].toNat : Int)) := by omega
                have HZ' := hide (unhide HN ⟨by omega, by omega⟩)
                clear HBad HN
                go_wp2_with fail
                go_roundw
                case rel => exact ⟨k + 1, f, by omega, by omega, by go_num, by go_num, by first | rfl | trivial, HA', HZ'⟩
                case measure => simp [intOf]; omega
        · by_cases hle : k ≤ s.size
          · have hke : k = s.size := by omega
            have HLa := hide ((unhide HA).last hke)
            have HDo := hide ((unhide HA).done hke)
            have HS := hide (seg_eq (s.extract f k))
            have HZ' := hide (show ∀ j (hj : j < s.size), j < k + 1 → 33 ≤ s[j].toNat ∧ s[j].toNat ≤ 126 from fun j hj _ => unhide HZ j hj (by omega))
            have j1 : (f : Int) ≤ (k : Int) := by omega
            have j2 : (k : Int) ≤ (s.size : Int) := by omega
            have j3 : (0 : Int) ≤ (f : Int) := by omega
            clear HA HZ hke
            generalize hsg : s.extract f k = sg at *
            by_cases e1 : sg.toList = []
            · have HF := hide (chk_segs (show segs s = false by rw [unhide HLa, unhide HS, e1]; rfl))
              clear HLa HDo HS HZ'
              go_wp2_with fail
              go_ret
              rw [unhide HF]
              exact ⟨rfl, rfl⟩
            · have e1' : (sg.toList == []) = false := beq_eq_false_iff_ne.2 e1
              by_cases e2 : sg.toList = [46]
              · have HF := hide (chk_segs (show segs s = false by rw [unhide HLa, unhide HS, e2]; rfl))
                clear HLa HDo HS HZ'
                go_wp2_with fail
                go_ret
                rw [unhide HF]
                exact ⟨rfl, rfl⟩
              · have e2' : (sg.toList == [46]) = false := beq_eq_false_iff_ne.2 e2
                by_cases e3 : sg.toList = [46, 46]
                · have HF := hide (chk_segs (show segs s = false by rw [unhide HLa, unhide HS, e3]; rfl))
                  clear HLa HDo HS HZ'
                  go_wp2_with fail
                  go_ret
                  rw [unhide HF]
                  exact ⟨rfl, rfl⟩
                · have e3' : (sg.toList == [46, 46]) = false := beq_eq_false_iff_ne.2 e3
                  have HA' := hide (unhide HDo (by rw [unhide HS, e1', e2', e3']; rfl))
                  clear HLa HDo HS
                  go_wp2_with fail
                  go_roundw
                  case rel => exact ⟨k + 1, k + 1, by omega, Nat.le_refl _, by go_num, by go_num, by first | rfl | trivial, HA', HZ'⟩
                  case measure => simp [intOf]; omega
          · have HF := hide (chk_ok h1 (inR_all 33 126 s (fun j hj => unhide HZ j hj (by omega))) ((unhide HA).out hle))
            clear HA HZ
            go_wp2_with fail
            go_ret
            rw [unhide HF]
            exact ⟨rfl, rfl⟩
    · have h1' : (256 : Int) < (s.size : Int) := by omega
      have HF := hide (chk_size h1)
      go_enter Tryd.func17, Tryd.ntmps17
      go_wp2_with fail
      go_ret
      rw [unhide HF]
      exact ⟨rfl, rfl⟩

end Go.Proofs.YtkpkpebljkcmkaaDoor
