import Derived.Test.YtiibobjbcgbknaaDoorRpB
import Derived.Test.YtiibobjbcgbknaaDoorSwA
namespace Go.Proofs.YtiibobjbcgbknaaDoor
open Go.RowKit

set_option maxRecDepth 100000 in
set_option maxHeartbeats 2000000 in
/-- find IN A PARAGRAPH AS IT LIES. -/
theorem rfind_g (p : List Fd) (pa : Option Addr) (pc : Nat) (n : Bs) (w : World) (hP : 0 < p.length → ∃ g o, pa = some ⟨g, o, none⟩ ∧ ∀ i f, p[i]? = some f → w.cell? ⟨g, o + i * 3, none⟩ = some (.string (ba f.nm))) (hl : p.length ≤ 16777216) (hn : n.length ≤ 16777216) (hnm : ∀ f ∈ p, f.nm.length ≤ 16777216) :
    Calls Tryd.prog 43 #[.slice pa p.length pc, .string (ba n)] w fun e w' => ∃ x : Int, e = .returned (.int .i64 x) ∧ (0 ≤ x ↔ hasN p n = true) ∧ Below w.heap.size w w' := by
  have HP := hide hP
  have HNM := hide hnm
  obtain ⟨N, hN⟩ : ∃ N, p.length = N := ⟨_, rfl⟩
  rw [hN] at hl ⊢
  have HN := hide hN
  clear hP hnm hN
  go_enter Tryd.func43, Tryd.ntmps43
  go_wp2_with fail
  go_loopw [5] (fun iv wr => ∃ k : Nat, k ≤ N ∧ iv = .int .i64 k ∧ Hid (∀ j f, j < k → p[j]? = some f → ¬ small f.nm = small n) ∧ Hid (Below w.heap.size w wr)) (fun iv _ => N - (intOf iv).toNat)
  case atStart => exact ⟨0, Nat.zero_le _, rfl, hide (fun j _ h => absurd h (Nat.not_lt_zero _)), hide (Below.refl _ _)⟩
  case round =>
    obtain ⟨k, hk, rfl, HZ, HB⟩ := hrel
    by_cases hlt : k < N
    · have hkp : k < p.length := by have := unhide HN; omega
      obtain ⟨g, o, rfl, hcells⟩ := unhide HP (by omega)
      have c0 := cell_later (hcells k p[k] (List.getElem?_eq_getElem hkp)) (unhide HB)
      have hsz := unhide HNM p[k] (List.getElem_mem hkp)
      have hltz : (k : Int) < (N : Int) := by omega
      by_cases hb : small p[k].nm = small n
      · have c1 := hide (fun w' => by have := rAlike_any (ba p[k].nm) (ba n) w' (by rw [ba_size]; omega) (by rw [ba_size]; omega); rw [ba_list, ba_list, decide_eq_true hb] at this; exact this)
        have HF := hide (show hasN p n = true by
          unfold hasN
          rw [List.any_eq_true]
          exact ⟨p[k], List.getElem_mem hkp, decide_eq_true hb⟩)
        generalize p[k].nm = q at *
        clear hb HZ hcells HP
        go_wp2_with (go_at_call 61; refine (unhide c1 _).mono ?_; rintro e w2 ⟨rfl, hb2⟩; have HB2 := hide (bl_t (unhide HB) hb2); clear hb2)
        go_ret
        exact ⟨_, rfl, ⟨fun _ => unhide HF, fun _ => by omega⟩, unhide HB2⟩
      · have c1 := hide (fun w' => by have := rAlike_any (ba p[k].nm) (ba n) w' (by rw [ba_size]; omega) (by rw [ba_size]; omega); rw [ba_list, ba_list, decide_eq_false hb] at this; exact this)
        have HZ2 := hide (show ∀ j f, j < k + 1 → p[j]? = some f → ¬ small f.nm = small n from fun j f hj hf => by
          by_cases e : j < k
          · exact unhide HZ j f e hf
          · obtain rfl : j = k := by omega
            rw [List.getElem?_eq_getElem hkp] at hf
            cases hf
            exact hb)
        generalize p[k].nm = q at *
        clear hb HZ hcells HP
        go_wp2_with (go_at_call 61; refine (unhide c1 _).mono ?_; rintro e w2 ⟨rfl, hb2⟩; have HB2 := hide (bl_t (unhide HB) hb2); clear hb2)
        go_roundw
        case rel => exact ⟨k + 1, by omega, by go_num, HZ2, HB2⟩
        case measure => simp [intOf]; omega
    · have HF := hide (show hasN p n = false by
        unfold hasN
        rw [List.any_eq_false]
        intro f hf
        obtain ⟨i, hi, e⟩ := List.getElem_of_mem hf
        have := unhide HZ i f (by have := unhide HN; omega) (by rw [List.getElem?_eq_getElem hi, e])
        simpa using this)
      clear HZ
      go_wp2_with fail
      go_ret
      exact ⟨_, rfl, ⟨fun h => absurd h (by decide), fun h => by rw [unhide HF] at h; cases h⟩, unhide HB⟩

/-- A FIELD AS TEXT, UP TO k FURTHER LINES. -/
def prS (nm a : Bs) (r : List Bs) (k : Nat) : Bs := headL nm a ++ [10] ++ (r.take k).flatMap fun l => 32 :: (l ++ [10])
theorem prS_step (nm a : Bs) (r : List Bs) (k : Nat) (h : k < r.length) : prS nm a r (k + 1) = prS nm a r k ++ [32] ++ r[k] ++ [10] := by
  unfold prS
  rw [List.take_succ_eq_append_getElem h, List.flatMap_append]
  simp
theorem prS_le (nm a : Bs) (r : List Bs) (j : Nat) : (prS nm a r j).length ≤ (prS nm a r r.length).length := by
  unfold prS
  rw [List.take_length]
  have h := List.take_append_drop j r
  have h2 : (r.flatMap fun l => 32 :: (l ++ [10])) = ((r.take j).flatMap fun l => 32 :: (l ++ [10])) ++ ((r.drop j).flatMap fun l => 32 :: (l ++ [10])) := by rw [← List.flatMap_append, h]
  rw [h2]
  simp only [List.length_append]
  omega
theorem prS_all (nm a : Bs) (r : List Bs) (ns : List Nat) : prS nm a r r.length = fldT ⟨nm, a :: r, ns⟩ := by
  unfold prS fldT linF
  rw [List.take_length]
  simp [List.flatMap_map]
theorem ba_add (a b : Bs) : ba a ++ ba b = ba (a ++ b) := by
  apply ByteArray.ext
  simp [ba]

theorem head_nil (nm : Bs) : (ba nm ++ ⟨#[58]⟩) ++ ⟨#[10]⟩ = ba (headL nm [] ++ [10]) := by
  rw [show (⟨#[58]⟩ : ByteArray) = ba [58] from rfl, show (⟨#[10]⟩ : ByteArray) = ba [10] from rfl, ba_add, ba_add]
  simp [headL]
theorem head_cons (nm a : Bs) (h : a ≠ []) : ((ba nm ++ ⟨#[58]⟩) ++ ⟨#[32]⟩ ++ ba a) ++ ⟨#[10]⟩ = ba (headL nm a ++ [10]) := by
  rw [show (⟨#[58]⟩ : ByteArray) = ba [58] from rfl, show (⟨#[32]⟩ : ByteArray) = ba [32] from rfl, show (⟨#[10]⟩ : ByteArray) = ba [10] from rfl, ba_add, ba_add, ba_add, ba_add]
  simp [headL, h]
theorem line_add (s l : Bs) : ((ba s ++ ⟨#[32]⟩) ++ ba l) ++ ⟨#[10]⟩ = ba (s ++ [32] ++ l ++ [10]) := by
  rw [show (⟨#[32]⟩ : ByteArray) = ba [32] from rfl, show (⟨#[10]⟩ : ByteArray) = ba [10] from rfl, ba_add, ba_add, ba_add]

set_option maxRecDepth 100000 in
set_option maxHeartbeats 4000000 in
theorem rprinted_any (nm a : Bs) (r : List Bs) (b o c : Nat) (nv : Value) (w : World) (hl : r.length ≤ 16777216) (hsz : (fldT ⟨nm, a :: r, []⟩).length ≤ 268435456) (hC : ∀ i u, (strs (a :: r))[i]? = some u → w.cell? ⟨b, o + i, none⟩ = some u) :
    Calls Tryd.prog 45 #[.agg #[.string (ba nm), .slice (some ⟨b, o, none⟩) (r.length + 1) c, nv]] w fun e w' => e = .returned (.string (ba (fldT ⟨nm, a :: r, []⟩))) ∧ Below w.heap.size w w' := by
  have bx := (show Below w.heap.size w (w.alloc (.cells #[.string (ba nm), .slice (some ⟨b, o, none⟩) (r.length + 1) c, nv] 49)) from (Below.refl _ _).alloc (Nat.le_refl _) _)
  have c0 : (w.alloc (.cells #[.string (ba nm), .slice (some ⟨b, o, none⟩) (r.length + 1) c, nv] 49)).cell? ⟨b, o, none⟩ = some (.string (ba a)) := cell_later (hC 0 _ rfl) bx
  have HC := hide (fun (j : Nat) (hj : j < r.length) => cell_later (hC (j + 1) (.string (ba r[j])) (by rw [strs, List.map_cons, List.getElem?_cons_succ, List.getElem?_map, List.getElem?_eq_getElem hj]; rfl)) bx)
  have HA := hide (prS_all nm a r [])
  have HLE := hide (fun (j : Nat) => (show (prS nm a r j).length ≤ 268435456 from by
    rw [← prS_all] at hsz
    exact Nat.le_trans (prS_le nm a r j) hsz))
  have hbn : (ba nm).size ≤ 268435456 := by rw [ba_size]; have := unhide HLE 0; unfold prS headL at this; simp at this; omega
  have hba : (ba a).size ≤ 268435456 := by rw [ba_size]; have := unhide HLE 0; unfold prS headL at this; split at this <;> simp_all <;> omega
  have HR := hide (fun (j : Nat) (hj : j < r.length) => (show (ba r[j]).size ≤ 268435456 from by
    rw [ba_size]
    have := unhide HLE (j + 1)
    rw [prS_step nm a r j hj] at this
    simp at this
    omega))
  have HS := hide (prS_step nm a r)
  have BX := hide bx
  have H0 := hide (show prS nm a r 0 = headL nm a ++ [10] by unfold prS; simp)
  have k0 : (0 : Int) < (r.length : Int) + 1 := by omega
  clear bx hC
  by_cases ha : a = []
  · subst ha
    have hn : (ba ([] : Bs)).toList.isEmpty = true := by rw [ba_tl]; rfl
    have hst := head_nil nm
    have HST := hide hst
    clear hst
    generalize hnb : ba nm = nb at *
    clear hnb
    go_enter Tryd.func45, Tryd.ntmps45
    go_wp2_with fail
    rw [unhide HST]
    clear c0 hn
    go_loop [3, 4] (fun sv i => ∃ j : Nat, j ≤ r.length ∧ i = .int .i64 ((j : Int) + 1) ∧ sv = .string (ba (prS nm [] r j))) (fun _ i => r.length + 1 - (intOf i).toNat)
    case atStart => exact ⟨0, Nat.zero_le _, rfl, by rw [unhide H0]⟩
    case round =>
      obtain ⟨j, hj, rfl, rfl⟩ := hrel
      by_cases hlt : j < r.length
      · have cj := unhide HC j hlt
        have hls := line_add (prS nm [] r j) r[j]
        rw [← unhide HS j hlt] at hls
        have e1 : (j : Int) + 1 < (r.length : Int) + 1 := by omega
        have e2 : ((j : Int) + 1).toNat = j + 1 := by omega
        have e3 : (0 : Int) ≤ (j : Int) + 1 := by omega
        have HLS := hide hls
        clear hls
        have z1 := unhide HR j hlt
        have z2 : (ba (prS nm [] r j)).size ≤ 268435456 := by rw [ba_size]; exact unhide HLE j
        generalize ba r[j] = lj at *
        generalize ba (prS nm [] r j) = sj at *
        go_wp2_with fail
        rw [unhide HLS]
        go_round
        case rel => exact ⟨j + 1, by omega, by go_num, rfl⟩
        case measure => simp [intOf]; omega
      · obtain rfl : j = r.length := by omega
        rw [unhide HA]
        have e1 : ¬ (r.length : Int) + 1 < (r.length : Int) + 1 := by omega
        go_wp2_with fail
        go_ret
        exact ⟨rfl, unhide BX⟩
  · have hn : (ba a).toList.isEmpty = false := by rw [ba_tl]; cases a with
      | nil => exact absurd rfl ha
      | cons _ _ => rfl
    have hst := head_cons nm a ha
    have HST := hide hst
    clear hst
    generalize hnb : ba nm = nb at *
    clear hnb
    generalize hab : ba a = ab at *
    clear hab
    go_enter Tryd.func45, Tryd.ntmps45
    go_wp2_with fail
    rw [unhide HST]
    clear c0 hn
    go_loop [3, 4] (fun sv i => ∃ j : Nat, j ≤ r.length ∧ i = .int .i64 ((j : Int) + 1) ∧ sv = .string (ba (prS nm a r j))) (fun _ i => r.length + 1 - (intOf i).toNat)
    case atStart => exact ⟨0, Nat.zero_le _, rfl, by rw [unhide H0]⟩
    case round =>
      obtain ⟨j, hj, rfl, rfl⟩ := hrel
      by_cases hlt : j < r.length
      · have cj := unhide HC j hlt
        have hls := line_add (prS nm a r j) r[j]
        rw [← unhide HS j hlt] at hls
        have e1 : (j : Int) + 1 < (r.length : Int) + 1 := by omega
        have e2 : ((j : Int) + 1).toNat = j + 1 := by omega
        have e3 : (0 : Int) ≤ (j : Int) + 1 := by omega
        have HLS := hide hls
        clear hls
        have z1 := unhide HR j hlt
        have z2 : (ba (prS nm a r j)).size ≤ 268435456 := by rw [ba_size]; exact unhide HLE j
        generalize ba r[j] = lj at *
        generalize ba (prS nm a r j) = sj at *
        go_wp2_with fail
        rw [unhide HLS]
        go_round
        case rel => exact ⟨j + 1, by omega, by go_num, rfl⟩
        case measure => simp [intOf]; omega
      · obtain rfl : j = r.length := by omega
        rw [unhide HA]
        have e1 : ¬ (r.length : Int) + 1 < (r.length : Int) + 1 := by omega
        go_wp2_with fail
        go_ret
        exact ⟨rfl, unhide BX⟩
end Go.Proofs.YtiibobjbcgbknaaDoor
