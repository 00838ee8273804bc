import Derived.Test.YtjlgfljfokmemaaDoorTrH
namespace Go.Proofs.YtjlgfljfokmemaaDoor
open Go.RowKit

theorem rName_any (s : ByteArray) (w : World) (hs : s.size ≤ 9223372036854775807) :
    Calls Tryd.prog 6 #[.string s] w fun e w' => e = .returned (.tuple #[.string (nmT s), .int .i64 (chk s)]) ∧ w' = w := by
  have c1 := hide (rCheckPath_any s w hs)
  by_cases h : okP s = true
  · have hsz := ((okP_iff s).1 h).1
    have e1 : chk s = 0 := by unfold chk; rw [if_pos h]
    have e2 : nmT s = ⟨#[116, 47]⟩ ++ s := by unfold nmT; rw [if_pos h]
    rw [e1] at c1 ⊢
    rw [e2]
    clear h e1 e2
    go_enter Tryd.func6, Tryd.ntmps6
    go_wp2_with fail
    refine (unhide c1).mono ?_
    rintro e w1 ⟨rfl, rfl⟩
    go_wp2_with fail
    go_ret2
    exact ⟨rfl, rfl⟩
  · have e1 : chk s = 170 := by unfold chk; rw [if_neg h]
    have e2 : nmT s = ⟨#[]⟩ := by unfold nmT; rw [if_neg h]
    rw [e1] at c1 ⊢
    rw [e2]
    clear h e1 e2
    go_enter Tryd.func6, Tryd.ntmps6
    go_wp2_with fail
    refine (unhide c1).mono ?_
    rintro e w1 ⟨rfl, rfl⟩
    go_wp2_with fail
    go_ret2
    exact ⟨rfl, rfl⟩

theorem rStaged_any (a b : Int) (w : World) :
    Calls Tryd.prog 8 #[.int .i64 a, .int .i64 b] w fun e w' => e = .returned (.tuple #[.string (stS a b), .int .i64 (stE a b)]) ∧ Below w.heap.size w w' := by
  by_cases h : stOk a b = true
  · obtain ⟨h1, h2, h3, h4⟩ := (stOk_iff a b).1 h
    have e1 : stE a b = 0 := by unfold stE; rw [if_pos h]
    have e2 : stS a b = ba (stT a.toNat b.toNat) := by unfold stS; rw [if_pos h]
    rw [e1, e2, ← st_cat]
    have c1 := hide (decimal_any a.toNat w (by omega))
    have c2 := hide (fun w => decimal_any b.toNat w (by omega))
    rw [Int.toNat_of_nonneg h1] at c1
    rw [Int.toNat_of_nonneg h3] at c2
    have s1 := dec_size a.toNat (by omega)
    have s2 := dec_size b.toNat (by omega)
    generalize ba (Lib.decDigits a.toNat) = x at *
    generalize ba (Lib.decDigits b.toNat) = y at *
    have k1 : ¬ (b < 0) := by omega
    have k2 : ¬ ((2147483647 : Int) < b) := by omega
    have k3 : ¬ (a < 0) := by omega
    have k4 : ¬ ((281474976710655 : Int) < a) := by omega
    clear h e1 e2
    go_enter Tryd.func8, Tryd.ntmps8
    go_wp2_with fail
    refine (unhide c1).mono ?_
    rintro e w1 ⟨rfl, hb⟩
    have HB := hide hb
    clear hb
    go_wp2_with fail
    refine (unhide c2 _).mono ?_
    rintro e w2 ⟨rfl, hb2⟩
    have HB2 := hide (bl_t (unhide HB) hb2)
    clear hb2
    go_wp2_with fail
    go_ret2
    exact ⟨rfl, unhide HB2⟩
  · have e1 : stE a b = 1 := by unfold stE; rw [if_neg h]
    have e2 : stS a b = ⟨#[]⟩ := by unfold stS; rw [if_neg h]
    have HN := hide (fun h' => h ((stOk_iff a b).2 h'))
    rw [e1, e2]
    clear h e1 e2
    by_cases k3 : a < 0
    · clear HN
      go_enter Tryd.func8, Tryd.ntmps8
      go_wp2_with fail
      go_ret2
      exact ⟨rfl, Below.refl _ _⟩
    · by_cases k4 : (281474976710655 : Int) < a
      · clear HN
        go_enter Tryd.func8, Tryd.ntmps8
        go_wp2_with fail
        go_ret2
        exact ⟨rfl, Below.refl _ _⟩
      · by_cases k1 : b < 0
        · clear HN
          go_enter Tryd.func8, Tryd.ntmps8
          go_wp2_with fail
          go_ret2
          exact ⟨rfl, Below.refl _ _⟩
        · have k2 : (2147483647 : Int) < b := by
            by_cases k : (2147483647 : Int) < b
            · exact k
            · exact absurd ⟨by omega, by omega, by omega, by omega⟩ (unhide HN)
          clear HN
          go_enter Tryd.func8, Tryd.ntmps8
          go_wp2_with fail
          go_ret2
          exact ⟨rfl, Below.refl _ _⟩

theorem ps_ref (l : List UInt8) (h : l.take 2 = [110, 47]) (hd : (46 : UInt8) ∈ l.drop 2) :
    psO l = (nb 281474976710655 (cF (l.drop 2)) && nb 2147483647 (cS (l.drop 2))) ∧ (psO l = true → psA l = nv (cF (l.drop 2)) ∧ psB l = nv (cS (l.drop 2))) := by
  unfold psO psA psB pst
  by_cases hc : nb 281474976710655 (cF (l.drop 2)) = true ∧ nb 2147483647 (cS (l.drop 2)) = true
  · rw [if_pos ⟨h, hd, hc.1, hc.2⟩, hc.1, hc.2]
    refine ⟨rfl, fun _ => ?_⟩
    have n1 := ((nb_iff _ _).1 hc.1).1
    have n2 := ((nb_iff _ _).1 hc.2).1
    unfold nv
    rw [if_pos n1, if_pos n2]
    exact ⟨rfl, rfl⟩
  · rw [if_neg (fun e => hc ⟨e.2.2.1, e.2.2.2⟩)]
    refine ⟨?_, fun e => by cases e⟩
    cases e1 : nb 281474976710655 (cF (l.drop 2))
    · rfl
    · cases e2 : nb 2147483647 (cS (l.drop 2))
      · rfl
      · exact absurd ⟨e1, e2⟩ hc
theorem ps_none (l : List UInt8) (h : ¬ (l.take 2 = [110, 47] ∧ (46 : UInt8) ∈ l.drop 2)) : psO l = false ∧ psA l = 0 ∧ psB l = 0 := by
  have e : psO l = false := by
    unfold psO pst
    rw [if_neg (fun e => h ⟨e.1, e.2.1⟩)]
    rfl
  exact ⟨e, psO_no e⟩
theorem dot_cut (r : ByteArray) (k : Nat) (hk : k < r.size) (hc : r[k] = 46) (h : ∀ j (hj : j < r.size), j < k → r[j] ≠ 46) : (r.extract 0 k).data.toList = cF r.data.toList ∧ (r.extract (k + 1) r.size).data.toList = cS r.data.toList ∧ (46 : UInt8) ∈ r.data.toList := by
  have hl : r.data.toList = r.data.toList.take k ++ 46 :: r.data.toList.drop (k + 1) := by
    have h1 := List.take_append_drop k r.data.toList
    have h2 : r.data.toList.drop k = r[k] :: r.data.toList.drop (k + 1) := List.drop_eq_getElem_cons (by rw [size_list]; exact hk)
    rw [h2, hc] at h1
    exact h1.symm
  have hn : (46 : UInt8) ∉ r.data.toList.take k := by
    intro hm
    obtain ⟨i, hi, he⟩ := List.getElem_of_mem hm
    rw [List.length_take, size_list] at hi
    rw [List.getElem_take] at he
    exact h i (by omega) (by omega) he
  obtain ⟨e1, e2⟩ := c_hit (r.data.toList.drop (k + 1)) (r.data.toList.take k) hn
  rw [← hl] at e1 e2
  rw [ext_to, ext_from, e1, e2]
  refine ⟨rfl, rfl, ?_⟩
  rw [hl]
  simp
theorem dot_none (r : ByteArray) (h : ∀ j (hj : j < r.size), r[j] ≠ 46) : (46 : UInt8) ∉ r.data.toList := by
  intro hm
  obtain ⟨i, hi, he⟩ := List.getElem_of_mem hm
  rw [size_list] at hi
  exact h i hi he

set_option maxRecDepth 100000 in
set_option maxHeartbeats 4000000 in
theorem rParse_any (s : ByteArray) (w : World) (hs : s.size ≤ 9223372036854775807) :
    Calls Tryd.prog 13 #[.string s] w fun e w' => e = .returned (.tuple #[.string (prs s).1, .int .i64 (prs s).2.1, .int .i64 (prs s).2.2.1, .int .i64 (prs s).2.2.2]) ∧ w' = w := by
  by_cases h2 : s.size < 2
  · have h2' : (s.size : Int) < 2 := by omega
    have hl : (s.data.toList.take 2).length < 2 := by rw [List.length_take, size_list]; omega
    obtain ⟨p1, p2, p3⟩ := ps_none s.data.toList (fun e => by rw [e.1] at hl; simp at hl)
    rw [prs_rest s (fun e => by rw [e.1] at hl; simp at hl), p1, p2, p3]
    clear p1 p2 p3 hl
    go_enter Tryd.func13, Tryd.ntmps13
    go_wp2_with fail
    ((try simp only [Exit.inBlock, Exit.then]); refine bodyPost_ret (results_tmp4 rfl _ _ _) rfl ?_)
    exact ⟨rfl, rfl⟩
  · have h2' : ¬ ((s.size : Int) < 2) := by omega
    have h2'' : (2 : Int) ≤ (s.size : Int) := by omega
    have et : (s.extract 0 2).toList = s.data.toList.take 2 := by rw [Lib.toList_data, ext_to]
    have er : (s.extract 2 s.size).data.toList = s.data.toList.drop 2 := ext_from s 2
    have eb : ba (s.data.toList.drop 2) = s.extract 2 s.size := by
      apply ba_inj
      rw [ba_list, er]
    have hrs : (s.extract 2 s.size).size ≤ s.size := by rw [ByteArray.size_extract]; omega
    have c1 := hide (rCheckPath_any (s.extract 2 s.size) w (by omega))
    have HT := hide (fun h hk => prs_tree s h hk)
    have HR := hide (fun h => prs_rest s h)
    have HN := hide (ps_none s.data.toList)
    have HP := hide (ps_ref s.data.toList)
    rw [eb] at HT HR
    rw [← er] at HN HP
    generalize hr : s.extract 2 s.size = r at *
    generalize hq : s.extract 0 2 = q at *
    rw [← et] at HT HR HN HP
    clear et er eb
    by_cases hn : q.toList = [116, 47]
    · have hnb : (q.toList == [116, 47]) = true := by rw [hn]; rfl
      by_cases hk : okP r = true
      · have e1 : chk r = 0 := by unfold chk; rw [if_pos hk]
        rw [unhide HT hn hk]
        rw [e1] at c1
        clear HT HR HN HP hk e1
        go_enter Tryd.func13, Tryd.ntmps13
        go_wp2_with fail
        refine (unhide c1).mono ?_
        rintro e w1 ⟨rfl, rfl⟩
        go_wp2_with fail
        ((try simp only [Exit.inBlock, Exit.then]); refine bodyPost_ret (results_tmp4 rfl _ _ _) rfl ?_)
        exact ⟨rfl, rfl⟩
      · have e1 : chk r = 170 := by unfold chk; rw [if_neg hk]
        have hn2 : (q.toList == [110, 47]) = false := by rw [hn]; rfl
        obtain ⟨p1, p2, p3⟩ := unhide HN (fun e => by rw [hn] at e; exact absurd e.1 (by decide))
        rw [unhide HR (fun e => hk e.2), p1, p2, p3]
        rw [e1] at c1
        clear HT HR HN HP hk e1 p1 p2 p3
        go_enter Tryd.func13, Tryd.ntmps13
        go_wp2_with fail
        refine (unhide c1).mono ?_
        rintro e w1 ⟨rfl, rfl⟩
        go_wp2_with fail
        ((try simp only [Exit.inBlock, Exit.then]); refine bodyPost_ret (results_tmp4 rfl _ _ _) rfl ?_)
        exact ⟨rfl, rfl⟩
    · have hnb : (q.toList == [116, 47]) = false := beq_eq_false_iff_ne.2 hn
      rw [unhide HR (fun e => hn e.1)]
      clear HT HR c1
      by_cases hm : q.toList = [110, 47]
      · have hmb : (q.toList == [110, 47]) = true := by rw [hm]; rfl
        have HNo := hide (fun (h : (46 : UInt8) ∉ r.data.toList) => unhide HN (fun e => h e.2))
        have HQ := hide (fun h => psO_no (l := s.data.toList) h)
        have HP' := hide (unhide HP hm)
        have HD := hide (dot_cut r)
        have HD0 := hide (dot_none r)
        have HNu := hide (fun s most w hs => number_any s most w hs)
        clear HN HP
        generalize psA s.data.toList = pa at *
        generalize psB s.data.toList = pb at *
        generalize psO s.data.toList = po at *
        go_enter Tryd.func13, Tryd.ntmps13
        go_wp2_with fail
        go_loopw [7] (fun i wr => ∃ k : Nat, k ≤ r.size ∧ i = .int .i64 k ∧ wr = w ∧ Hid (∀ j (hj : j < r.size), j < k → r[j] ≠ 46)) (fun i _ => r.size - (intOf i).toNat)
        case atStart => exact ⟨0, Nat.zero_le _, rfl, rfl, hide (fun j _ h => absurd h (Nat.not_lt_zero _))⟩
        case round =>
          obtain ⟨k, hk, rfl, rfl, HZ⟩ := hrel
          by_cases hlt : k < r.size
          · by_cases hc : r[k] = 46
            · have hce : (r[k].toNat : Int) = 46 := by rw [hc]; rfl
              have hcb : ((r[k].toNat : Int) == 46) = true := by rw [hce]; rfl
              obtain ⟨d1, d2, d3⟩ := unhide HD k hlt hc (unhide HZ)
              have c1 := number_any (r.extract 0 k) 281474976710655 wr (by rw [ByteArray.size_extract]; omega)
              have c2 := number_any (r.extract (k + 1) r.size) 2147483647 wr (by rw [ByteArray.size_extract]; omega)
              rw [show ((281474976710655 : Nat) : Int) = 281474976710655 from rfl, d1] at c1
              rw [show ((2147483647 : Nat) : Int) = 2147483647 from rfl, d2] at c2
              obtain ⟨q1, q2⟩ := unhide HP' d3
              have C1 := hide c1
              have C2 := hide c2
              have Q1 := hide q1
              have Q2 := hide q2
              generalize nb 281474976710655 (cF r.data.toList) = b1 at *
              generalize nb 2147483647 (cS r.data.toList) = b2 at *
              generalize nv (cF r.data.toList) = n1 at *
              generalize nv (cS r.data.toList) = n2 at *
              have j0 : ¬ ((k : Int) = (r.size : Int)) := by omega
              have j0b : ((k : Int) == (r.size : Int)) = false := beq_eq_false_iff_ne.2 j0
              have j1 : (0 : Int) ≤ (k : Int) := by omega
              have j2 : (k : Int) ≤ (r.size : Int) := by omega
              have j3 : (k : Int) + 1 ≤ (r.size : Int) := by omega
              have j4 : (0 : Int) ≤ (k : Int) + 1 := by omega
              clear c1 c2 q1 q2 d1 d2 d3 HZ HD HD0 HNo HP' HNu hc
              cases b1
              · obtain rfl : po = false := (unhide Q1).trans rfl
                obtain ⟨rfl, rfl⟩ := unhide HQ rfl
                clear HQ Q1 Q2
                go_wp2_with fail
                refine (unhide C1).mono ?_
                rintro e w1 ⟨rfl, rfl⟩
                go_wp2_with fail
                refine (unhide C2).mono ?_
                rintro e w1 ⟨rfl, rfl⟩
                go_wp2_with fail
                ((try simp only [Exit.inBlock, Exit.then]); refine bodyPost_ret (results_tmp4 rfl _ _ _) rfl ?_)
                exact ⟨rfl, rfl⟩
              · cases b2
                · obtain rfl : po = false := (unhide Q1).trans rfl
                  obtain ⟨rfl, rfl⟩ := unhide HQ rfl
                  clear HQ Q1 Q2
                  go_wp2_with fail
                  refine (unhide C1).mono ?_
                  rintro e w1 ⟨rfl, rfl⟩
                  go_wp2_with fail
                  refine (unhide C2).mono ?_
                  rintro e w1 ⟨rfl, rfl⟩
                  go_wp2_with fail
                  ((try simp only [Exit.inBlock, Exit.then]); refine bodyPost_ret (results_tmp4 rfl _ _ _) rfl ?_)
                  exact ⟨rfl, rfl⟩
                · obtain rfl : po = true := (unhide Q1).trans rfl
                  obtain ⟨rfl, rfl⟩ := unhide Q2 rfl
                  clear HQ Q1 Q2
                  go_wp2_with fail
                  refine (unhide C1).mono ?_
                  rintro e w1 ⟨rfl, rfl⟩
                  go_wp2_with fail
                  refine (unhide C2).mono ?_
                  rintro e w1 ⟨rfl, rfl⟩
                  go_wp2_with fail
                  ((try simp only [Exit.inBlock, Exit.then]); refine bodyPost_ret (results_tmp4 rfl _ _ _) rfl ?_)
                  exact ⟨rfl, rfl⟩
            · have hcn : ¬ ((r[k].toNat : Int) = 46) := fun e => hc (UInt8.toNat_inj.1 (by have : (46 : UInt8).toNat = 46 := rfl; omega))
              have hcb : ((r[k].toNat : Int) == 46) = false := beq_eq_false_iff_ne.2 hcn
              have HZ' := hide (show ∀ j (hj : j < r.size), j < k + 1 → r[j] ≠ 46 from fun j hj hjk => by
                by_cases e : j < k
                · exact unhide HZ j hj e
                · obtain rfl : j = k := by omega
                  exact hc)
              clear HZ HD HD0 HNo HP' HNu HQ hc
              go_wp2_with fail
              go_roundw
              case rel => exact ⟨k + 1, by omega, by go_num, by first | rfl | trivial, HZ'⟩
              case measure => simp [intOf]; omega
          · have hke : k = r.size := by omega
            obtain ⟨p1, p2, p3⟩ := unhide HNo (unhide HD0 (fun j hj => unhide HZ j hj (by omega)))
            subst p1 p2 p3 hke
            clear HZ HD HD0 HNo HP' HNu HQ
            go_wp2_with fail
            ((try simp only [Exit.inBlock, Exit.then]); refine bodyPost_ret (results_tmp4 rfl _ _ _) rfl ?_)
            exact ⟨rfl, rfl⟩
      · have hmb : (q.toList == [110, 47]) = false := beq_eq_false_iff_ne.2 hm
        obtain ⟨p1, p2, p3⟩ := unhide HN (fun e => hm e.1)
        rw [p1, p2, p3]
        clear HN HP p1 p2 p3
        go_enter Tryd.func13, Tryd.ntmps13
        go_wp2_with fail
        ((try simp only [Exit.inBlock, Exit.then]); refine bodyPost_ret (results_tmp4 rfl _ _ _) rfl ?_)
        exact ⟨rfl, rfl⟩

end Go.Proofs.YtjlgfljfokmemaaDoor
