import Derived.Test.YtjlgfljfokmemaaDoorTrF
namespace Go.Proofs.YtjlgfljfokmemaaDoor
open Go.RowKit

/-- The number that is told. -/
def nv (l : List UInt8) : Int := if cn l = true then (vl 0 l : Int) else 0
theorem nv_no {l : List UInt8} (h : ¬ cn l = true) (most : Nat) : nv l = 0 ∧ nb most l = false := by
  refine ⟨by unfold nv; rw [if_neg h], ?_⟩
  rw [Bool.not_eq_true] at h
  unfold nb
  rw [h]
  rfl
theorem nv_yes {l : List UInt8} (h : cn l = true) (most : Nat) : nv l = (vl 0 l : Int) ∧ nb most l = decide (vl 0 l ≤ most) := by
  refine ⟨by unfold nv; rw [if_pos h], ?_⟩
  unfold nb
  rw [h]
  rfl
theorem take_snoc (s : ByteArray) (k : Nat) (hk : k < s.size) : s.data.toList.take (k + 1) = s.data.toList.take k ++ [s[k]] := by
  rw [List.take_succ_eq_append_getElem (by rw [size_list]; exact hk)]
  rfl
theorem vl_snoc (s : ByteArray) (k : Nat) (hk : k < s.size) : vl 0 (s.data.toList.take (k + 1)) = vl 0 (s.data.toList.take k) * 10 + (s[k].toNat - 48) := by
  rw [take_snoc s k hk, vl_app]
  rfl
theorem all_snoc (s : ByteArray) (k : Nat) (hk : k < s.size) (h : (s.data.toList.take k).all dgt = true) (hd : 48 ≤ s[k].toNat ∧ s[k].toNat ≤ 57) : (s.data.toList.take (k + 1)).all dgt = true := by
  rw [take_snoc s k hk, List.all_append, h]
  simp only [List.all_cons, List.all_nil, Bool.and_true, Bool.true_and]
  exact (dgt_iff _).2 hd
theorem all_at (s : ByteArray) (k : Nat) (hk : k < s.size) (h : ¬ (48 ≤ s[k].toNat ∧ s[k].toNat ≤ 57)) : ¬ cn s.data.toList = true := by
  intro e
  have := List.all_eq_true.1 ((cn_iff _).1 e).2.2.2 s[k] (List.getElem_mem (l := s.data.toList) (by rw [size_list]; exact hk))
  exact h ((dgt_iff _).1 this)
theorem head_at (s : ByteArray) (h : 0 < s.size) : s.data.toList.head? = some s[0] := by
  rw [List.head?_eq_getElem?, List.getElem?_eq_getElem (by rw [size_list]; exact h)]
  rfl
theorem vl_lim (l : List UInt8) (k : Nat) (h : (l.take k).all dgt = true) (hl : k ≤ 15) : vl 0 (l.take k) < 1000000000000000 := by
  have := vl_lt (l.take k) 0 h
  have hp : 10 ^ (l.take k).length ≤ 10 ^ 15 := Nat.pow_le_pow_right (by decide) (by rw [List.length_take]; omega)
  omega
set_option maxRecDepth 100000 in
set_option maxHeartbeats 2000000 in
theorem number_any (s : ByteArray) (most : Nat) (w : World) (hs : s.size ≤ 9223372036854775807) :
    Calls Tryd.prog 25 #[.string s, .int .i64 most] w fun e w' => e = .returned (.tuple #[.int .i64 (nv s.data.toList), .bool (nb most s.data.toList)]) ∧ w' = w := by
  by_cases h0 : s.size < 1
  · have h0' : (s.size : Int) < 1 := by omega
    obtain ⟨e1, e2⟩ := nv_no (l := s.data.toList) (fun e => by have := ((cn_iff _).1 e).1; rw [size_list] at this; omega) most
    rw [e1, e2]
    clear e1 e2
    go_enter Tryd.func25, Tryd.ntmps25
    go_wp2_with fail
    go_ret2
    exact ⟨rfl, rfl⟩
  · have h0' : ¬ ((s.size : Int) < 1) := by omega
    have hp : 0 < s.size := by omega
    by_cases h1 : 15 < s.size
    · have h1' : (15 : Int) < (s.size : Int) := by omega
      obtain ⟨e1, e2⟩ := nv_no (l := s.data.toList) (fun e => by have := ((cn_iff _).1 e).2.1; rw [size_list] at this; omega) most
      rw [e1, e2]
      clear e1 e2
      go_enter Tryd.func25, Tryd.ntmps25
      go_wp2_with fail
      go_ret2
      exact ⟨rfl, rfl⟩
    · have h1' : ¬ ((15 : Int) < (s.size : Int)) := by omega
      have HH := hide (head_at s hp)
      by_cases hc : s[0].toNat = 48 ∧ 1 < s.size
      · obtain ⟨e1, e2⟩ := nv_no (l := s.data.toList) (fun e => ((cn_iff _).1 e).2.2.1 ⟨by rw [unhide HH, show s[0] = 48 from UInt8.toNat_inj.1 hc.1], by rw [size_list]; exact hc.2⟩) most
        rw [e1, e2]
        clear e1 e2 HH
        obtain ⟨hc1, hc2⟩ := hc
        have hce : (s[0].toNat : Int) = 48 := by omega
        have hcb : ((s[0].toNat : Int) == 48) = true := by rw [hce]; rfl
        have hc2' : (1 : Int) < (s.size : Int) := by omega
        go_enter Tryd.func25, Tryd.ntmps25
        go_wp2_with fail
        go_ret2
        exact ⟨rfl, rfl⟩
      · have HNo := hide (fun h => nv_no (l := s.data.toList) h most)
        have HYe := hide (fun h => nv_yes (l := s.data.toList) h most)
        have HBad := hide (all_at s)
        have HSn := hide (vl_snoc s)
        have HAl := hide (all_snoc s)
        have HLi := hide (vl_lim s.data.toList)
        have HCn := hide (fun h => (cn_iff s.data.toList).2 ⟨by rw [size_list]; exact hp, by rw [size_list]; omega, fun e => hc ⟨by
          have h3 := e.1
          rw [unhide HH] at h3
          injection h3 with h3
          rw [h3]
          rfl, by rw [← size_list]; exact e.2⟩, h⟩)
        have HT := hide (show s.data.toList.take s.size = s.data.toList by rw [← size_list]; exact List.take_length)
        have HEnd : Hid (∀ (k : Nat), ¬ k < s.size → k ≤ s.size → (s.data.toList.take k).all dgt = true → nv s.data.toList = (vl 0 (s.data.toList.take k) : Int) ∧ nb most s.data.toList = decide (vl 0 (s.data.toList.take k) ≤ most)) := hide (by
          intro k h1 h2 h3
          obtain rfl : k = s.size := by omega
          rw [unhide HT] at h3 ⊢
          exact unhide HYe (unhide HCn h3))
        clear HH HCn HT HYe
        generalize nv s.data.toList = n0 at *
        generalize nb most s.data.toList = b0 at *
        go_enter Tryd.func25, Tryd.ntmps25
        by_cases hc1 : s[0].toNat = 48
        · have hc2 : ¬ 1 < s.size := fun h => hc ⟨hc1, h⟩
          have hce : (s[0].toNat : Int) = 48 := by omega
          have hcb : ((s[0].toNat : Int) == 48) = true := by rw [hce]; rfl
          have hc2' : ¬ ((1 : Int) < (s.size : Int)) := by omega
          clear hc
          go_wp2_with fail
          go_loopw [6, 7] (fun v i wr => ∃ k n : Nat, k ≤ s.size ∧ v = .int .i64 n ∧ i = .int .i64 k ∧ wr = w ∧ n < 1000000000000000 ∧ Hid (n = vl 0 (s.data.toList.take k)) ∧ Hid ((s.data.toList.take k).all dgt = true)) (fun _ i _ => s.size - (intOf i).toNat)
          case atStart => exact ⟨0, 0, Nat.zero_le _, rfl, rfl, rfl, by decide, hide rfl, hide rfl⟩
          case round =>
            obtain ⟨k, n, hk, rfl, rfl, rfl, hn, HV, HA⟩ := hrel
            by_cases hlt : k < s.size
            · have HB := hide (unhide HBad k hlt)
              have HS := hide (unhide HSn k hlt)
              have HL := hide (unhide HAl k hlt (unhide HA))
              have HM := hide (fun h => unhide HLi (k + 1) h (by omega))
              clear HBad HSn HAl HLi HEnd
              by_cases r1 : s[k].toNat < 48
              · have r1' : (s[k].toNat : Int) < 48 := by omega
                have HF := hide (unhide HNo (unhide HB (by omega)))
                clear HB HS HL HM HNo HV HA
                go_wp2_with fail
                go_ret2
                obtain ⟨f1, f2⟩ := unhide HF
                rw [f1, f2]
                exact ⟨rfl, rfl⟩
              · have r1' : ¬ ((s[k].toNat : Int) < 48) := by omega
                by_cases r2 : 57 < s[k].toNat
                · have r2' : (57 : Int) < (s[k].toNat : Int) := by omega
                  have HF := hide (unhide HNo (unhide HB (by omega)))
                  clear HB HS HL HM HNo HV HA
                  go_wp2_with fail
                  go_ret2
                  obtain ⟨f1, f2⟩ := unhide HF
                  rw [f1, f2]
                  exact ⟨rfl, rfl⟩
                · have r2' : ¬ ((57 : Int) < (s[k].toNat : Int)) := by omega
                  have HA' := hide (unhide HL ⟨by omega, by omega⟩)
                  have HV' := hide (show n * 10 + (s[k].toNat - 48) = vl 0 (s.data.toList.take (k + 1)) by rw [unhide HS, unhide HV])
                  have hn' : n * 10 + (s[k].toNat - 48) < 1000000000000000 := by rw [unhide HV']; exact unhide HM (unhide HA')
                  clear HB HS HL HM HNo HV HA
                  go_wp2_with fail
                  go_roundw
                  case rel => exact ⟨k + 1, n * 10 + (s[k].toNat - 48), by omega, by go_num, by go_num, by first | rfl | trivial, hn', HV', HA'⟩
                  case measure => simp [intOf]; omega
            · have HF := hide (unhide HEnd k hlt hk (unhide HA))
              rw [← unhide HV] at HF
              clear HBad HSn HAl HLi HEnd HNo HV HA
              go_wp2_with fail
              go_ret2
              obtain ⟨f1, f2⟩ := unhide HF
              rw [f1, f2]
              exact ⟨rfl, rfl⟩
        · have hce : ¬ (s[0].toNat : Int) = 48 := by omega
          have hcb : ((s[0].toNat : Int) == 48) = false := beq_eq_false_iff_ne.2 hce
          clear hc
          go_wp2_with fail
          go_loopw [6, 7] (fun v i wr => ∃ k n : Nat, k ≤ s.size ∧ v = .int .i64 n ∧ i = .int .i64 k ∧ wr = w ∧ n < 1000000000000000 ∧ Hid (n = vl 0 (s.data.toList.take k)) ∧ Hid ((s.data.toList.take k).all dgt = true)) (fun _ i _ => s.size - (intOf i).toNat)
          case atStart => exact ⟨0, 0, Nat.zero_le _, rfl, rfl, rfl, by decide, hide rfl, hide rfl⟩
          case round =>
            obtain ⟨k, n, hk, rfl, rfl, rfl, hn, HV, HA⟩ := hrel
            by_cases hlt : k < s.size
            · have HB := hide (unhide HBad k hlt)
              have HS := hide (unhide HSn k hlt)
              have HL := hide (unhide HAl k hlt (unhide HA))
              have HM := hide (fun h => unhide HLi (k + 1) h (by omega))
              clear HBad HSn HAl HLi HEnd
              by_cases r1 : s[k].toNat < 48
              · have r1' : (s[k].toNat : Int) < 48 := by omega
                have HF := hide (unhide HNo (unhide HB (by omega)))
                clear HB HS HL HM HNo HV HA
                go_wp2_with fail
                go_ret2
                obtain ⟨f1, f2⟩ := unhide HF
                rw [f1, f2]
                exact ⟨rfl, rfl⟩
              · have r1' : ¬ ((s[k].toNat : Int) < 48) := by omega
                by_cases r2 : 57 < s[k].toNat
                · have r2' : (57 : Int) < (s[k].toNat : Int) := by omega
                  have HF := hide (unhide HNo (unhide HB (by omega)))
                  clear HB HS HL HM HNo HV HA
                  go_wp2_with fail
                  go_ret2
                  obtain ⟨f1, f2⟩ := unhide HF
                  rw [f1, f2]
                  exact ⟨rfl, rfl⟩
                · have r2' : ¬ ((57 : Int) < (s[k].toNat : Int)) := by omega
                  have HA' := hide (unhide HL ⟨by omega, by omega⟩)
                  have HV' := hide (show n * 10 + (s[k].toNat - 48) = vl 0 (s.data.toList.take (k + 1)) by rw [unhide HS, unhide HV])
                  have hn' : n * 10 + (s[k].toNat - 48) < 1000000000000000 := by rw [unhide HV']; exact unhide HM (unhide HA')
                  clear HB HS HL HM HNo HV HA
                  go_wp2_with fail
                  go_roundw
                  case rel => exact ⟨k + 1, n * 10 + (s[k].toNat - 48), by omega, by go_num, by go_num, by first | rfl | trivial, hn', HV', HA'⟩
                  case measure => simp [intOf]; omega
            · have HF := hide (unhide HEnd k hlt hk (unhide HA))
              rw [← unhide HV] at HF
              clear HBad HSn HAl HLi HEnd HNo HV HA
              go_wp2_with fail
              go_ret2
              obtain ⟨f1, f2⟩ := unhide HF
              rw [f1, f2]
              exact ⟨rfl, rfl⟩

end Go.Proofs.YtjlgfljfokmemaaDoor
