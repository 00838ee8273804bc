import Derived.Test.YtkpkpebljkcmkaaDoorTrW
namespace Go.Proofs.YtkpkpebljkcmkaaDoor
open Go.RowKit

theorem inR_bad (lo hi : Nat) (s : ByteArray) (k : Nat) (hk : k < s.size) (h : ¬ (lo ≤ s[k].toNat ∧ s[k].toNat ≤ hi)) : inR lo hi s = false := by
  cases e : inR lo hi s
  · rfl
  · exfalso
    unfold inR at e
    rw [List.all_eq_true] at e
    have := e s[k] (List.getElem_mem (l := s.data.toList) (by rw [size_list]; exact hk))
    simp at this
    exact h this
theorem inR_all (lo hi : Nat) (s : ByteArray) (h : ∀ k (hk : k < s.size), lo ≤ s[k].toNat ∧ s[k].toNat ≤ hi) : inR lo hi s = true := by
  unfold inR
  rw [List.all_eq_true]
  intro b hb
  obtain ⟨i, hi, rfl⟩ := List.getElem_of_mem hb
  have := h i (by rw [← size_list]; exact hi)
  simp
  exact this

set_option maxHeartbeats 2000000 in
theorem isVisible_any (s : ByteArray) (w : World) (hs : s.size ≤ 9223372036854775807) :
    Calls Tryd.prog 26 #[.string s] w fun e w' => e = .returned (.bool (inR 33 126 s)) ∧ Below w.heap.size w w' := by
  go_enter Tryd.func26, Tryd.ntmps26
  go_wp2_with fail
  go_loopw [6] (fun i wr => ∃ k : Nat, k ≤ s.size ∧ i = .int .i64 k ∧ Hid (Below w.heap.size w wr) ∧ Hid (∀ j (hj : j < s.size), j < k → 33 ≤ s[j].toNat ∧ s[j].toNat ≤ 126)) (fun i _ => s.size - (intOf i).toNat)
  case atStart => exact ⟨0, Nat.zero_le _, rfl, hide (Below.refl _ _), hide (fun j _ h => absurd h (Nat.not_lt_zero _))⟩
  case round =>
    obtain ⟨k, hk, rfl, HB, HZ⟩ := hrel
    by_cases hlt : k < s.size
    · have HBad := hide (inR_bad 33 126 s k hlt)
      have HN := hide (fun (h : 33 ≤ s[k].toNat ∧ s[k].toNat ≤ 126) => show ∀ j (hj : j < s.size), j < k + 1 → 33 ≤ s[j].toNat ∧ s[j].toNat ≤ 126 from fun j hj hjk => by
        by_cases e : j < k
        · exact unhide HZ j hj e
        · obtain rfl : j = k := by omega
          exact h)
      by_cases h1 : s[k].toNat < 33
      · have h1' : ((s[k].toNat : Int) < 33) := by omega
        have HF := hide (unhide HBad (by omega))
        clear HZ HBad HN
        go_wp2_with fail
        go_ret
        exact ⟨ret_bool (unhide HF).symm, unhide HB⟩
      · have h1' : ¬ ((s[k].toNat : Int) < 33) := by omega
        by_cases h2 : 126 < s[k].toNat
        · have h2' : ((126 : Int) < (s[k].toNat : Int)) := by omega
          have HF := hide (unhide HBad (by omega))
          clear HZ HBad HN
          go_wp2_with fail
          go_ret
          exact ⟨ret_bool (unhide HF).symm, unhide HB⟩
        · have h2' : ¬ ((126 : Int) < (s[k].toNat : Int)) := by omega
          have HZ' := hide (unhide HN ⟨by omega, by omega⟩)
          clear HZ HBad HN
          go_wp2_with fail
          go_roundw
          case rel => exact ⟨k + 1, by omega, by go_num, HB, HZ'⟩
          case measure => simp [intOf]; omega
    · have HF := hide (inR_all 33 126 s (fun j hj => unhide HZ j hj (by omega)))
      clear HZ
      go_wp2_with fail
      go_ret
      exact ⟨ret_bool (unhide HF).symm, unhide HB⟩

theorem seg_eq (t : ByteArray) : seg t = (!(t.toList == []) && !(t.toList == [46]) && !(t.toList == [46, 46])) := by
  unfold seg
  rw [Lib.toList_data]
theorem segs_bad (s : ByteArray) (k : Nat) (hk : k < (pcs s 47).length) (h : seg (pcs s 47)[k] = false) : segs s = false := by
  cases e : segs s
  · rfl
  · unfold segs at e
    rw [List.all_eq_true] at e
    rw [e _ (List.getElem_mem hk)] at h
    cases h
theorem segs_good (s : ByteArray) (h : ∀ k (hk : k < (pcs s 47).length), seg (pcs s 47)[k] = true) : segs s = true := by
  unfold segs
  rw [List.all_eq_true]
  intro b hb
  obtain ⟨i, hi, rfl⟩ := List.getElem_of_mem hb
  exact h i hi


/-- What CheckPath tells. -/
def chk (s : ByteArray) : Int := if okP s = true then 0 else 170
theorem okP_iff (s : ByteArray) : okP s = true ↔ s.size ≤ 256 ∧ inR 33 126 s = true ∧ segs s = true := by
  unfold okP
  simp [and_assoc]
theorem chk_size {s : ByteArray} (h : ¬ s.size ≤ 256) : chk s = 170 := by
  unfold chk
  rw [if_neg]
  exact fun e => h ((okP_iff s).1 e).1
theorem chk_inR {s : ByteArray} (h : inR 33 126 s = false) : chk s = 170 := by
  unfold chk
  rw [if_neg]
  intro e
  rw [((okP_iff s).1 e).2.1] at h
  cases h
theorem chk_segs {s : ByteArray} (h : segs s = false) : chk s = 170 := by
  unfold chk
  rw [if_neg]
  intro e
  rw [((okP_iff s).1 e).2.2] at h
  cases h
theorem chk_ok {s : ByteArray} (h1 : s.size ≤ 256) (h2 : inR 33 126 s = true) (h3 : segs s = true) : chk s = 0 := by
  unfold chk
  rw [if_pos ((okP_iff s).2 ⟨h1, h2, h3⟩)]

set_option maxHeartbeats 2000000 in
theorem CheckPath_any (s : ByteArray) (w : World) (hs : s.size ≤ 9223372036854775807) (hg : Glob w) :
    Calls Tryd.prog 15 #[.string s] w fun e w' => e = .returned (.int .i64 (chk s)) ∧ Below w.heap.size w w' := by
  by_cases h256 : s.size ≤ 256
  · have c0 := hide (fun w => isVisible_any s w hs)
    have HIn := hide (fun h => chk_inR (s := s) h)
    have h256' : ¬ ((256 : Int) < (s.size : Int)) := by omega
    have HG := hide hg
    have cs := hide (fun w hg => cSplit s 47 w (by omega) hg)
    have HBad := hide (segs_bad s)
    have HGood := hide (segs_good s)
    have HSg := hide (fun h => chk_segs (s := s) h)
    have HOk := hide (fun h1 h2 => chk_ok (s := s) h256 h1 h2)
    have hl := pcs_len s 47
    have hcl := Lib.countB_le ⟨#[47]⟩ (Nat.le_refl _) s.size s (Nat.le_refl _)
    have hN0 : (pcs s 47).length ≤ 4294967282 := by omega
    clear hg hl hcl h256
    generalize pcs s 47 = ps at *
    generalize segs s = b at *
    generalize chk s = ck at *
    obtain ⟨N, hN⟩ : ∃ N, ps.length = N := ⟨_, rfl⟩
    rw [hN] at cs hN0
    cases hin : inR 33 126 s
    · rw [hin] at c0
      have HF := hide (unhide HIn hin)
      clear HIn HBad HGood HSg HOk cs
      go_enter Tryd.func15, Tryd.ntmps15
      go_wp2_with fail
      refine (unhide c0 _).mono ?_
      rintro e w1 ⟨rfl, hb⟩
      have HB := hide hb
      clear hb
      go_wp2_with fail
      go_ret
      rw [unhide HF]
      exact ⟨rfl, unhide HB⟩
    · rw [hin] at c0
      have HOk' := hide (unhide HOk hin)
      clear HIn HOk
      go_enter Tryd.func15, Tryd.ntmps15
      go_wp2_with fail
      refine (unhide c0 _).mono ?_
      rintro e w0 ⟨rfl, hb0⟩
      have HB0 := hide hb0
      clear hb0
      go_wp2_with fail
      refine (unhide cs _ ((unhide HG).later (unhide HB0))).mono ?_
      rintro e w1 ⟨rfl, hw1⟩
      have HB1 := hide (show Below w0.heap.size w0 w1 by rw [hw1]; exact (Below.refl _ w0).alloc (Nat.le_refl _) _)
      have HC := hide (show w0.heap.size < w1.heap.size ∧ ∀ j (h : j < ps.length), w1.cell? ⟨w0.heap.size, j, none⟩ = some (.string ps[j]) by
        rw [hw1]
        refine ⟨by simp, fun j h => ?_⟩
        rw [World.cell?_alloc_at _ _ _ _ rfl]
        simp [h])
      have HB1' := hide (bl_t (unhide HB0) (unhide HB1))
      clear hw1 cs c0 HB0 HB1 HG
      go_wp2_with fail
      go_loopw [16] (fun i wr => ∃ k : Nat, k ≤ N ∧ i = .int .i64 k ∧ Hid (Below w1.heap.size w1 wr) ∧ Hid (∀ j (hj : j < ps.length), j < k → seg ps[j] = true)) (fun i _ => N - (intOf i).toNat)
      case atStart => exact ⟨0, Nat.zero_le _, rfl, hide (Below.refl _ _), hide (fun j _ h => absurd h (Nat.not_lt_zero _))⟩
      case round =>
        obtain ⟨k, hk, rfl, HB, HZ⟩ := hrel
        by_cases hlt : k < N
        · have hkl : k < ps.length := by omega
          have hw := Nat.lt_of_lt_of_le (unhide HC).1 (unhide HB).size
          have hc := ((unhide HB).cell (p := ⟨w0.heap.size, k, none⟩) (unhide HC).1).trans ((unhide HC).2 k hkl)
          have HBad' := hide (unhide HBad k hkl)
          have HN := hide (fun (h : seg ps[k] = true) => show ∀ j (hj : j < ps.length), j < k + 1 → seg ps[j] = true from fun j hj hjk => by
            by_cases e : j < k
            · exact unhide HZ j hj e
            · obtain rfl : j = k := by omega
              exact h)
          have HS := hide (seg_eq ps[k])
          generalize ps[k] = t at *
          clear HZ HBad HC
          by_cases e1 : t.toList = []
          · have HF := hide (unhide HSg (unhide HBad' (by rw [unhide HS, e1]; rfl)))
            clear HBad' HN HS
            go_wp2_with fail
            go_ret
            rw [unhide HF]
            exact ⟨rfl, bl_t (unhide HB1') (unhide HB)⟩
          · have e1' : (t.toList == []) = false := beq_eq_false_iff_ne.2 e1
            by_cases e2 : t.toList = [46]
            · have HF := hide (unhide HSg (unhide HBad' (by rw [unhide HS, e2]; rfl)))
              clear HBad' HN HS
              go_wp2_with fail
              go_ret
              rw [unhide HF]
              exact ⟨rfl, bl_t (unhide HB1') (unhide HB)⟩
            · have e2' : (t.toList == [46]) = false := beq_eq_false_iff_ne.2 e2
              by_cases e3 : t.toList = [46, 46]
              · have HF := hide (unhide HSg (unhide HBad' (by rw [unhide HS, e3]; rfl)))
                clear HBad' HN HS
                go_wp2_with fail
                go_ret
                rw [unhide HF]
                exact ⟨rfl, bl_t (unhide HB1') (unhide HB)⟩
              · have e3' : (t.toList == [46, 46]) = false := beq_eq_false_iff_ne.2 e3
                have HZ' := hide (unhide HN (by rw [unhide HS, e1', e2', e3']; rfl))
                clear HBad' HN HS
                go_wp2_with fail
                go_roundw
                case rel => exact ⟨k + 1, by omega, by go_num, HB, HZ'⟩
                case measure => simp [intOf]; omega
        · have HF := hide (unhide HOk' (unhide HGood (fun j hj => unhide HZ j hj (by omega))))
          clear HZ HBad HC HGood
          go_wp2_with fail
          go_ret
          rw [unhide HF]
          exact ⟨rfl, bl_t (unhide HB1') (unhide HB)⟩


  · have h1' : (256 : Int) < (s.size : Int) := by omega
    have HF := hide (chk_size h256)
    go_enter Tryd.func15, Tryd.ntmps15
    go_wp2_with fail
    go_ret
    rw [unhide HF]
    exact ⟨rfl, Below.refl _ _⟩

end Go.Proofs.YtkpkpebljkcmkaaDoor
