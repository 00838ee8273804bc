import Derived.Test.YtmjdpddpphfpiaaOrD
import Derived.Carry
namespace Go.Proofs.Ytmjdpddpphfpiaa
open Go.RowKit Go.Maps Go.Sort Go.Shelf

theorem row_lo {w : World} {lo lo2 e size n : Nat} {v : Value} {xs : List Value} (h : w.ownsRow lo e size v n xs) (hl : lo2 ≤ lo) : w.ownsRow lo2 e size v n xs := by
  refine ⟨h.1, ?_⟩
  rcases h.2 with h | ⟨g, cap, cur, e, h1, h2, h3⟩
  · exact .inl h
  · exact .inr ⟨g, cap, cur, e, Nat.le_trans hl h1, h2, h3⟩
theorem makeHint (n : Int) (w : World) : (Instr.makeMap 37 (some (.int .i64 n))).run Try.prog w = .ok (.map (some w.heap.size)) (w.alloc (.map #[] 0)) := by
  simp [Instr.makeMap, run_underlying Try.underlying37, asInt, asIntOf]
theorem Dv.keys {wr : World} {b k : Nat} {l : List Nm} (h : Dv wr b l k) (hz : ∀ x ∈ l, x.size ≤ maxLen) (hl : l.length ≤ 586406201463) : ∃ D, wr.ownsMap Try.prog 9 raw b k D ∧ (strKeys D).Nodup ∧ (∀ x : Nm, x.data.toList ∈ strKeys D ↔ x ∈ l) ∧ Maps.size D ≤ 586406201463 := by
  obtain ⟨D, ho, r⟩ := h
  obtain ⟨h1, h2, h3⟩ := RepV.keys hz ho r
  refine ⟨D, ho, h1, h2, ?_⟩
  rw [← h3]
  refine Nat.le_trans ?_ hl
  have hn : ((strKeys D).map nmOf).Nodup := by
    rw [List.Nodup, List.pairwise_map]
    exact h1.imp fun {a b} q e => q (by rw [← data_nmOf a, ← data_nmOf b, e])
  have := List.Nodup.length_le_of_subset (l₂ := l) hn fun x hx => by
    obtain ⟨y, hy, rfl⟩ := List.mem_map.1 hx
    exact (h2 _).1 (by rw [data_nmOf]; exact hy)
  rwa [List.length_map] at this
theorem keysC (mb : Option Nat) (W : World) : Calls Try.prog 8 #[.map mb] W fun e w' => e = .returned (.func (.func 12) #[] #[.pointer (some ⟨W.heap.size, 0, none⟩)]) ∧ w' = W.alloc (.cells #[.map mb] 37) := callsIn_wide.1 (maps_Keys_8 mb W)
theorem sortC {wr : World} {b k : Nat} {l : List Nm} (h : Dv wr b l k) (hz : ∀ x ∈ l, x.size ≤ maxLen) (hl : l.length ≤ 586406201463) :
    Calls Try.prog 7 #[.func (.func 12) #[] #[.pointer (some ⟨wr.heap.size, 0, none⟩)]] (wr.alloc (.cells #[.map (some b)] 37)) fun e w' => ∃ r m, e = .returned r ∧ Ris m l ∧ w'.ownsRow wr.heap.size 9 1 r m.length (sv m) ∧ Below wr.heap.size wr w' := by
  obtain ⟨D, ho, h1, h2, h3⟩ := h.keys hz hl
  refine (callsIn_wide.1 (slices_Sorted_keys_7_8 b k D raw wr ho (Nat.le_trans h3 (by unfold maxLen; omega)) (by omega))).mono ?_
  rintro e w' ⟨v, ss, rfl, hS, hrow, hnil, hb⟩
  obtain ⟨q1, q2, q3⟩ := sorted_ris h1 h2 hS
  rw [q2, ← q3] at hrow
  exact ⟨v, _, rfl, q1, ownsRow_base_a hrow (by simp), bl_t ((Below.refl _ _).alloc (Nat.le_refl _) _) hb⟩
set_option maxRecDepth 100000 in
set_option maxHeartbeats 4000000 in
theorem Roots_any {w : World} {v u : Value} {hs : List Hx} {L : List Nm} (hh : hs.length ≤ 586406201463) (hL : L.length ≤ 8796093022208) (hz : ∀ x ∈ L, x.size ≤ 140737488351233) (h : Hls w v hs) (k : Sl w u L) :
    Calls Try.prog 4 #[v, u] w fun e w' => ∃ r l, e = .returned r ∧ Ris l (pick hs L) ∧ w'.ownsRow w.heap.size 9 1 r l.length (sv l) ∧ Below w.heap.size w w' := by
  obtain ⟨a, c, rfl⟩ := h.form
  obtain ⟨a2, c2, rfl⟩ := k.form
  have HH := hide h
  have HK := hide k
  have HZ := hide hz
  obtain ⟨N, hN⟩ : ∃ N, N = hs.length := ⟨_, rfl⟩
  obtain ⟨M, hM⟩ : ∃ M, M = L.length := ⟨_, rfl⟩
  have HN := hide hN
  have HM := hide hM
  rw [← hN] at hh ⊢
  rw [← hM] at hL ⊢
  clear h k hz hN hM
  have hmm := @run_makeMap Try.prog
  have hmh := makeHint
  have HD0 := hide (Dv.make w)
  go_enter Try.func4, Try.ntmps4
  go_wp2_with fail
  clear hmh
  go_loopg [7, 18] M (fun gq _ iv wr => ∃ i : Nat, iv = .int .i64 i ∧ i ≤ M ∧ M - i ≤ gq ∧ Hid (Dv wr w.heap.size (L.take i) i ∧ Below w.heap.size w wr))
  case atStart => exact ⟨0, by go_num, by omega, by omega, hide ⟨unhide HD0, (Below.refl _ w).alloc (Nat.le_refl _) _⟩⟩
  case round =>
    clear HD0
    obtain ⟨i, rfl, hi, hg, HX⟩ := hrel
    by_cases hlt : i < M
    · have hin : (i : Int) < (M : Int) := by omega
      have hil : i < L.length := by have := unhide HM; omega
      obtain ⟨hd, hb⟩ := unhide HX
      obtain ⟨g, o, rfl, hgl, c0⟩ := ((unhide HK).later hb).at hil
      obtain ⟨W2, hup, hd2, fx⟩ := hd.put (x := L[i]) (by unfold maxLen; omega) (Nat.le_trans (unhide HZ _ (List.getElem_mem hil)) (by unfold maxLen; omega))
      have HT := hide (show Dv W2 w.heap.size (L.take (i + 1)) (i + 1) ∧ Below w.heap.size w W2 from ⟨by rw [List.take_add_one, List.getElem?_eq_getElem hil]; exact hd2, hb.trans (fx.below hb.size fun b q e => by omega)⟩)
      clear hd hd2 hb fx HX
      generalize L[i] = y at *
      go_wp2_with fail
      go_roundg (M - (i + 1))
      case measure => omega
      case rel => exact ⟨i + 1, by go_num, by omega, by omega, HT⟩
    · obtain rfl : i = M := by omega
      have HT := hide (show Dv wr w.heap.size L L.length ∧ Below w.heap.size w wr from by
        have h := unhide HX
        rw [unhide HM, List.take_length] at h
        exact h)
      have HST := hide (tw_start (unhide HT).1 (unhide HT).2)
      clear HX HT
      go_wp2_with fail
      clear hmm
      obtain ⟨B1, hB1⟩ : ∃ B, B = wr.heap.size := ⟨_, rfl⟩
      rw [← hB1] at HST ⊢
      clear hB1
      go_loopg [10, 11, 12, 29] N (fun gq _ _ _ iv wq => ∃ j k : Nat, iv = .int .i64 j ∧ j ≤ N ∧ N - j ≤ gq ∧ k ≤ j ∧ Hid (Tw w wq B1 L (pick (hs.take j) L) L.length k))
      case atStart => exact ⟨0, 0, by go_num, by omega, by omega, Nat.le_refl _, HST⟩
      case round =>
        clear HST
        obtain ⟨j, k, rfl, hj, hgj, hkj, HU⟩ := hrel
        have hu := unhide HU
        by_cases hlt2 : j < N
        · have hjn : (j : Int) < (N : Int) := by omega
          have hjl : j < hs.length := by have := unhide HN; omega
          obtain ⟨hb, ho, rfl, hbl, hok, hr⟩ := ((unhide HH).later hu.bw).at hjl
          have HPS := hide (pick_snoc hjl L)
          generalize hs[j] = x at *
          have HR := hide hr
          have HXL := hide hok.len
          have HXO := hide hok.one
          have HIF := hide (show (Try.prog.info? 31).map (·.size) = some x.cs.length from by rw [hok.len]; exact sizeH)
          have hxz : x.nm.size ≤ maxLen := Nat.le_trans hok.sz (by unfold maxLen; omega)
          have HAT := hide (show ∀ X, BkH X wr.heap.size x.cs → Below wr.heap.size wr X → X.cell? ⟨wr.heap.size, 0, none⟩ = some (.string x.nm) ∧ X.cell? ⟨wr.heap.size, 2, none⟩ = some (.bool x.es) ∧ X.cell? ⟨wr.heap.size, 43, none⟩ = some (.int .i64 x.mr) ∧ (Instr.lookup 37 (.map (some w.heap.size)) (.string x.nm) true).run Try.prog X = .ok (.tuple #[.agg #[], .bool (hasN L x.nm)]) X ∧ wr.heap.size < X.heap.size ∧ Hid (Tw w X B1 L (pick (hs.take j) L) L.length k) from fun X hX hb => by
            have hu3 := hu.later hb
            exact ⟨hX.cell hok.c0, hX.cell hok.c2, hX.cell hok.c43, hu3.kept.look hxz, blk_lt hX.at_, hide hu3⟩)
          have HKP := hide (show keepH L x = (hasN L x.nm || x.mr == 0 || x.es) from rfl)
          clear hok hr hu HU hbl
          generalize hasN L x.nm = bh at *
          generalize pick (hs.take j) L = l at *
          cases bh with
          | true =>
            have HE := hide (show pick (hs.take (j + 1)) L = l ++ [x.nm] from by rw [unhide HPS, unhide HKP]; simp)
            clear HPS HKP
            go_wp2_with (first | ((with_reducible refine wpList_load_p (op := { dst := some 32, op := Op.load 31 (Operand.tmp 31), type := 31, pos := "orphans.go:18", after := #[{ on := 0, ground := Ground.data }], guard := none }) ?fpa 31 (.tmp 31) ?fpb hb (ho + j * 44) ?fpc x.cs _ (unhide HR) Try.underlying31 ?fpd (unhide HIF) ?fpe); (case fpa => rfl); (case fpb => rfl); (case fpc => rfl); (case fpd => rfl)) | (with_reducible refine f_alloc rfl rfl ?_; intro w2 zc bk2 k2 z2) | ((with_reducible refine f_store _ _ rfl rfl wr.heap.size rfl x.cs rfl (unhide HXL) (unhide HXO) zc bk2 ?_); intro w3 bk3 k3; have hbel := fnew k2 k3; obtain ⟨c0, c2, c43, lk, hgz, HU2⟩ := unhide HAT w3 bk3 hbel; clear k2 k3 bk2 bk3 z2 hbel))
            obtain ⟨W2, hup, hu3⟩ := ((unhide HU2).later ((Below.refl _ w3).alloc (Nat.le_refl _) (.cells #[] 38))).put (x := x.nm) (by unfold maxLen; omega) hxz
            have HU3 := hide hu3
            clear hu3 HU2
            simp only [hup]
            go_wp2_with fail
            go_roundg (N - (j + 1))
            case measure => omega
            case rel => exact ⟨j + 1, k + 1, by go_num, by omega, by omega, by omega, by rw [unhide HE]; exact HU3⟩
          | false =>
            by_cases hm : x.mr = 0
            · have hm2 : (x.mr == 0) = true := by rw [hm]; rfl
              clear hm
              have HE := hide (show pick (hs.take (j + 1)) L = l ++ [x.nm] from by rw [unhide HPS, unhide HKP]; simp [hm2])
              clear HPS HKP
              go_wp2_with (first | ((with_reducible refine wpList_load_p (op := { dst := some 32, op := Op.load 31 (Operand.tmp 31), type := 31, pos := "orphans.go:18", after := #[{ on := 0, ground := Ground.data }], guard := none }) ?fqa 31 (.tmp 31) ?fqb hb (ho + j * 44) ?fqc x.cs _ (unhide HR) Try.underlying31 ?fqd (unhide HIF) ?fqe); (case fqa => rfl); (case fqb => rfl); (case fqc => rfl); (case fqd => rfl)) | (with_reducible refine f_alloc rfl rfl ?_; intro w2 zc bk2 k2 z2) | ((with_reducible refine f_store _ _ rfl rfl wr.heap.size rfl x.cs rfl (unhide HXL) (unhide HXO) zc bk2 ?_); intro w3 bk3 k3; have hbel := fnew k2 k3; obtain ⟨c0, c2, c43, lk, hgz, HU2⟩ := unhide HAT w3 bk3 hbel; clear k2 k3 bk2 bk3 z2 hbel))
              obtain ⟨W2, hup, hu3⟩ := ((unhide HU2).later ((Below.refl _ w3).alloc (Nat.le_refl _) (.cells #[] 38))).put (x := x.nm) (by unfold maxLen; omega) hxz
              have HU3 := hide hu3
              clear hu3 HU2
              simp only [hup]
              go_wp2_with fail
              go_roundg (N - (j + 1))
              case measure => omega
              case rel => exact ⟨j + 1, k + 1, by go_num, by omega, by omega, by omega, by rw [unhide HE]; exact HU3⟩
            · have hm2 : (x.mr == 0) = false := beq_eq_false_iff_ne.2 hm
              clear hm
              cases hes : x.es with
              | true =>
                rw [hes] at HAT HKP
                have HE := hide (show pick (hs.take (j + 1)) L = l ++ [x.nm] from by rw [unhide HPS, unhide HKP]; simp)
                clear HPS HKP
                go_wp2_with (first | ((with_reducible refine wpList_load_p (op := { dst := some 32, op := Op.load 31 (Operand.tmp 31), type := 31, pos := "orphans.go:18", after := #[{ on := 0, ground := Ground.data }], guard := none }) ?fra 31 (.tmp 31) ?frb hb (ho + j * 44) ?frc x.cs _ (unhide HR) Try.underlying31 ?frd (unhide HIF) ?fre); (case fra => rfl); (case frb => rfl); (case frc => rfl); (case frd => rfl)) | (with_reducible refine f_alloc rfl rfl ?_; intro w2 zc bk2 k2 z2) | ((with_reducible refine f_store _ _ rfl rfl wr.heap.size rfl x.cs rfl (unhide HXL) (unhide HXO) zc bk2 ?_); intro w3 bk3 k3; have hbel := fnew k2 k3; obtain ⟨c0, c2, c43, lk, hgz, HU2⟩ := unhide HAT w3 bk3 hbel; clear k2 k3 bk2 bk3 z2 hbel))
                obtain ⟨W2, hup, hu3⟩ := ((unhide HU2).later ((Below.refl _ w3).alloc (Nat.le_refl _) (.cells #[] 38))).put (x := x.nm) (by unfold maxLen; omega) hxz
                have HU3 := hide hu3
                clear hu3 HU2
                simp only [hup]
                go_wp2_with fail
                go_roundg (N - (j + 1))
                case measure => omega
                case rel => exact ⟨j + 1, k + 1, by go_num, by omega, by omega, by omega, by rw [unhide HE]; exact HU3⟩
              | false =>
                rw [hes] at HAT HKP
                have HE := hide (show pick (hs.take (j + 1)) L = l from by rw [unhide HPS, unhide HKP]; simp [hm2])
                clear HPS HKP
                go_wp2_with (first | ((with_reducible refine wpList_load_p (op := { dst := some 32, op := Op.load 31 (Operand.tmp 31), type := 31, pos := "orphans.go:18", after := #[{ on := 0, ground := Ground.data }], guard := none }) ?fsa 31 (.tmp 31) ?fsb hb (ho + j * 44) ?fsc x.cs _ (unhide HR) Try.underlying31 ?fsd (unhide HIF) ?fse); (case fsa => rfl); (case fsb => rfl); (case fsc => rfl); (case fsd => rfl)) | (with_reducible refine f_alloc rfl rfl ?_; intro w2 zc bk2 k2 z2) | ((with_reducible refine f_store _ _ rfl rfl wr.heap.size rfl x.cs rfl (unhide HXL) (unhide HXO) zc bk2 ?_); intro w3 bk3 k3; have hbel := fnew k2 k3; obtain ⟨c0, c2, c43, lk, hgz, HU2⟩ := unhide HAT w3 bk3 hbel; clear k2 k3 bk2 bk3 z2 hbel))
                have HU3 := hide ((unhide HU2).later ((Below.refl _ w3).alloc (Nat.le_refl _) (.cells #[] 38)))
                go_roundg (N - (j + 1))
                case measure => omega
                case rel => exact ⟨j + 1, k, by go_num, by omega, by omega, by omega, by rw [unhide HE]; exact HU3⟩
        · obtain rfl : j = N := by omega
          have HP := hide (show hs.take j = hs from by rw [unhide HN]; exact List.take_length)
          rw [unhide HP] at hu
          have HB := hide hu.bw
          have cK := hide (fun mb W => keysC mb W)
          have cS := hide (sortC hu.nam (fun x hx => by
            obtain ⟨y, hy, _, rfl⟩ := pick_mem.1 hx
            obtain ⟨_, _, _, ok, _⟩ := unhide HH
            exact Nat.le_trans (ok y hy).sz (by unfold maxLen; omega)) (Nat.le_trans (pick_len hs L) (by rw [← unhide HN]; exact hh)))
          clear hu HU HP
          go_wp2_with (first | (go_at_call 8; refine (unhide cK _ _).mono ?_; rintro e w' ⟨rfl, rfl⟩) | (go_at_call 7; refine (unhide cS).mono ?_; rintro e w' ⟨r, m, rfl, hR, hrow, hb⟩))
          go_ret
          exact ⟨r, m, rfl, hR, row_lo hrow (unhide HB).size, bl_t (unhide HB) hb⟩
end Go.Proofs.Ytmjdpddpphfpiaa
