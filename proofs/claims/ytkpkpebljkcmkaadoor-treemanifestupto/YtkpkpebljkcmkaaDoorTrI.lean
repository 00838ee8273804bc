import Derived.Test.YtkpkpebljkcmkaaDoorTrH
namespace Go.Proofs.YtkpkpebljkcmkaaDoor
open Go.RowKit

theorem rName_any (s : ByteArray) (w : World) (hs : s.size ≤ 9223372036854775807) :
    Calls Tryd.prog 23 #[.string s] w fun e w' => e = .returned (.tuple #[.string (nmT s), .int .i64 (chk s)]) ∧ w' = w := by
  have c1 := hide (rCheckPath_any s w hs)
  by_cases h : okP s = true
  · have hsz := ((okP_iff s).1 h).1
    have e1 : chk s = 0 := by unfold chk; rw [if_pos h]
    have e2 : nmT s = ⟨#[116, 47]⟩ ++ s := by unfold nmT; rw [if_pos h]
    rw [e1] at c1 ⊢
    rw [e2]
    clear h e1 e2
    go_enter Tryd.func23, Tryd.ntmps23
    go_wp2_with fail
    refine (unhide c1).mono ?_
    rintro e w1 ⟨rfl, rfl⟩
    go_wp2_with fail
    go_ret2
    exact ⟨rfl, rfl⟩
  · have e1 : chk s = 170 := by unfold chk; rw [if_neg h]
    have e2 : nmT s = ⟨#[]⟩ := by unfold nmT; rw [if_neg h]
    rw [e1] at c1 ⊢
    rw [e2]
    clear h e1 e2
    go_enter Tryd.func23, Tryd.ntmps23
    go_wp2_with fail
    refine (unhide c1).mono ?_
    rintro e w1 ⟨rfl, rfl⟩
    go_wp2_with fail
    go_ret2
    exact ⟨rfl, rfl⟩

theorem rStaged_any (a b : Int) (w : World) :
    Calls Tryd.prog 22 #[.int .i64 a, .int .i64 b] w fun e w' => e = .returned (.tuple #[.string (stS a b), .int .i64 (stE a b)]) ∧ Below w.heap.size w w' := by
  by_cases h : stOk a b = true
  · obtain ⟨h1, h2, h3, h4⟩ := (stOk_iff a b).1 h
    have e1 : stE a b = 0 := by unfold stE; rw [if_pos h]
    have e2 : stS a b = ba (stT a.toNat b.toNat) := by unfold stS; rw [if_pos h]
    rw [e1, e2, ← st_cat]
    have c1 := hide (decimal_any a.toNat w (by omega))
    have c2 := hide (fun w => decimal_any b.toNat w (by omega))
    rw [Int.toNat_of_nonneg h1] at c1
    rw [Int.toNat_of_nonneg h3] at c2
    have s1 := dec_size a.toNat (by omega)
    have s2 := dec_size b.toNat (by omega)
    generalize ba (Lib.decDigits a.toNat) = x at *
    generalize ba (Lib.decDigits b.toNat) = y at *
    have k1 : ¬ (b < 0) := by omega
    have k2 : ¬ ((2147483647 : Int) < b) := by omega
    have k3 : ¬ (a < 0) := by omega
    have k4 : ¬ ((281474976710655 : Int) < a) := by omega
    clear h e1 e2
    go_enter Tryd.func22, Tryd.ntmps22
    go_wp2_with fail
    refine (unhide c1).mono ?_
    rintro e w1 ⟨rfl, hb⟩
    have HB := hide hb
    clear hb
    go_wp2_with fail
    refine (unhide c2 _).mono ?_
    rintro e w2 ⟨rfl, hb2⟩
    have HB2 := hide (bl_t (unhide HB) hb2)
    clear hb2
    go_wp2_with fail
    go_ret2
    exact ⟨rfl, unhide HB2⟩
  · have e1 : stE a b = 1 := by unfold stE; rw [if_neg h]
    have e2 : stS a b = ⟨#[]⟩ := by unfold stS; rw [if_neg h]
    have HN := hide (fun h' => h ((stOk_iff a b).2 h'))
    rw [e1, e2]
    clear h e1 e2
    by_cases k3 : a < 0
    · clear HN
      go_enter Tryd.func22, Tryd.ntmps22
      go_wp2_with fail
      go_ret2
      exact ⟨rfl, Below.refl _ _⟩
    · by_cases k4 : (281474976710655 : Int) < a
      · clear HN
        go_enter Tryd.func22, Tryd.ntmps22
        go_wp2_with fail
        go_ret2
        exact ⟨rfl, Below.refl _ _⟩
      · by_cases k1 : b < 0
        · clear HN
          go_enter Tryd.func22, Tryd.ntmps22
          go_wp2_with fail
          go_ret2
          exact ⟨rfl, Below.refl _ _⟩
        · have k2 : (2147483647 : Int) < b := by
            by_cases k : (2147483647 : Int) < b
            · exact k
            · exact absurd ⟨by omega, by omega, by omega, by omega⟩ (unhide HN)
          clear HN
          go_enter Tryd.func22, Tryd.ntmps22
          go_wp2_with fail
          go_ret2
          exact ⟨rfl, Below.refl _ _⟩

theorem ps_ref (l : List UInt8) (h : l.take 2 = [110, 47]) (hd : (46 : UInt8) ∈ l.drop 2) :
    psO l = (nb 281474976710655 (cF (l.drop 2)) && nb 2147483647 (cS (l.drop 2))) ∧ (psO l = true → psA l = nv (cF (l.drop 2)) ∧ psB l = nv (cS (l.drop 2))) := by
  unfold psO psA psB pst
  by_cases hc : nb 281474976710655 (cF (l.drop 2)) = true ∧ nb 2147483647 (cS (l.drop 2)) = true
  · rw [if_pos ⟨h, hd, hc.1, hc.2⟩, hc.1, hc.2]
    refine ⟨rfl, fun _ => ?_⟩
    have n1 := ((nb_iff _ _).1 hc.1).1
    have n2 := ((nb_iff _ _).1 hc.2).1
    unfold nv
    rw [if_pos n1, if_pos n2]
    exact ⟨rfl, rfl⟩
  · rw [if_neg (fun e => hc ⟨e.2.2.1, e.2.2.2⟩)]
    refine ⟨?_, fun e => by cases e⟩
    cases e1 : nb 281474976710655 (cF (l.drop 2))
    · rfl
    · cases e2 : nb 2147483647 (cS (l.drop 2))
      · rfl
      · exact absurd ⟨e1, e2⟩ hc
theorem ps_none (l : List UInt8) (h : ¬ (l.take 2 = [110, 47] ∧ (46 : UInt8) ∈ l.drop 2)) : psO l = false ∧ psA l = 0 ∧ psB l = 0 := by
  have e : psO l = false := by
    unfold psO pst
    rw [if_neg (fun e => h ⟨e.1, e.2.1⟩)]
    rfl
  exact ⟨e, psO_no e⟩
theorem dot_cut (r : ByteArray) (k : Nat) (hk : k < r.size) (hc : r[k] = 46) (h : ∀ j (hj : j < r.size), j < k → r[j] ≠ 46) : (r.extract 0 k).data.toList = cF r.data.toList ∧ (r.extract (k + 1) r.size).data.toList = cS r.data.toList ∧ (46 : UInt8) ∈ r.data.toList := by
  have hl : r.data.toList = r.data.toList.take k ++ 46 :: r.data.toList.drop (k + 1) := by
    have h1 := List.take_append_drop k r.data.toList
    have h2 : r.data.toList.drop k = r[k] :: r.data.toList.drop (k + 1) := List.drop_eq_getElem_cons (by rw [size_list]; exact hk)
    rw [h2, hc] at h1
    exact h1.symm
  have hn : (46 : UInt8) ∉ r.data.toList.take k := by
    intro hm
    obtain ⟨i, hi, he⟩ := List.getElem_of_mem hm
    rw [List.length_take, size_list] at hi
    rw [List.getElem_take] at he
    exact h i (by omega) (by omega) he
  obtain ⟨e1, e2⟩ := c_hit (r.data.toList.drop (k + 1)) (r.data.toList.take k) hn
  rw [← hl] at e1 e2
  rw [ext_to, ext_from, e1, e2]
  refine ⟨rfl, rfl, ?_⟩
  rw [hl]
  simp
theorem dot_none (r : ByteArray) (h : ∀ j (hj : j < r.size), r[j] ≠ 46) : (46 : UInt8) ∉ r.data.toList := by
  intro hm
  obtain ⟨i, hi, he⟩ := List.getElem_of_mem hm
  rw [size_list] at hi
  exact h i hi he

end Go.Proofs.YtkpkpebljkcmkaaDoor
