import Derived.Test.YtokgegbodbnimaaMsK
namespace Go.Proofs.Ytokgegbodbnimaa
open Go.RowKit Go.Maps

theorem blk_ne {W : World} {g B : Nat} {c1 c2 : Array Value} {t1 t2 : TypeId} (ht : t1 ≠ t2) (h1 : W.heap[g]? = some (.cells c1 t1 (0, 0))) (h2 : W.heap[B]? = some (.cells c2 t2 (0, 0))) : B ≠ g := by
  rintro rfl
  rw [h1] at h2
  injection h2 with h2
  injection h2 with _ h2
  exact ht h2
set_option maxRecDepth 100000 in
theorem entN (o : Opn) (args : Array Value) (w : World) : (callFunc o.fN args).run Try.prog w = .ok (.enter o.fN args) w := by
  cases o <;> (unfold Opn.fN; go_simp)
set_option maxRecDepth 100000 in
theorem entO (o : Opn) (args : Array Value) (w : World) : (callFunc o.fO args).run Try.prog w = .ok (.enter o.fO args) w := by
  cases o <;> (unfold Opn.fO; go_simp)
theorem nms_le (o : Opn) : o.nms.length ≤ 2 := by cases o <;> simp [Opn.nms, Opn.e, Ope.nms]
theorem take_succ {α : Type} (l : List α) (i : Nat) (h : i < l.length) : l.take (i + 1) = l.take i ++ [l[i]] := by simp
set_option maxRecDepth 100000 in
set_option maxHeartbeats 8000000 in
theorem level_any {W : World} {B o o2 k k2 : Nat} {d d2 : Value} {u : Int} {cur : Array Value} {H H2 : Nm → Option Hd} {ps : List Opn} {b pc : Nat} (hB : W.heap[B]? = some (.cells cur 75 (0, 0))) (hd : cur[o]? = some d) (hu : cur[o + 1]? = some (.int .i64 u)) (ho : o2 ≠ o ∧ o2 ≠ o + 1) (hd2 : cur[o2]? = some d2) (h : Dm W d H k) (h2 : Dm W d2 H2 k2) (hm : ∀ b, mb d2 = some b → mb d ≠ some b)
    {pcur : Array Value} (hp : W.heap[b]? = some (.cells pcur 84 (0, 0))) (hpv : ∀ i (h : i < ps.length), pcur[i]? = some ps[i].val) (hn : ∀ o ∈ ps, ∀ x ∈ o.nms, x.size ≤ 258) (hk : k + (nmsL ps).length < maxLen) (hpl : ps.length ≤ 1099511627776) :
    Calls Try.prog 44 #[.pointer (some ⟨B, o, none⟩), .pointer (some ⟨B, o2, none⟩), .slice (some ⟨b, 0, none⟩) ps.length pc] W fun x W' => x = .returned (.tuple #[]) ∧ Lv W B o o2 cur d d2 H H2 k k2 (nmsL ps) (nmsL ps).length W' := by
  have hlo : o + 1 < cur.size := (Array.getElem?_eq_some_iff.1 hu).1
  have hbB : b ≠ B := blk_ne (by decide) hB hp
  have HL0 := hide (show Lv W B o o2 cur d d2 H H2 k k2 (nmsL (ps.take 0)) (nmsL (ps.take 0)).length W from ⟨⟨d, u, by rw [set_self hd, set_self hu]; exact hB, h, .inl rfl⟩, h2, Fx.refl _ _⟩)
  have HW2 := hide (fun b (e : mb d2 = some b) => h2.lt e)
  have HM := hide hm
  have HP := hide (fun W' (f : Lv W B o o2 cur d d2 H H2 k k2 (nmsL ps) (nmsL ps).length W' → True) => hp)
  have hmd : mb d ≠ some b := h.ne hp
  have HN := hide hn
  have HPB := hide (show W.heap[b]? = some (.cells pcur 84 (0, 0)) from hp)
  have HV := hide hpv
  have HD2 := hide hd2
  have HH := hide (And.intro hbB hmd)
  clear HP hB hd hu hd2 h h2 hm hp hn hpv hbB hmd
  obtain ⟨N, hN⟩ : ∃ x, x = ps.length := ⟨_, rfl⟩
  rw [← hN]
  rw [← hN] at hpl
  have HNN := hide hN
  clear hN
  go_enter Try.func44, Try.ntmps44
  go_wp2_with fail
  go_loopg [7, 9, 12, 17, 18, 19] N (fun g1 _ _ vi _ _ _ wr => ∃ i : Nat, vi = .int .i64 i ∧ i ≤ N ∧ N - i ≤ g1 ∧ Hid (Lv W B o o2 cur d d2 H H2 k k2 (nmsL (ps.take i)) (nmsL (ps.take i)).length wr))
  case atStart => exact ⟨0, by go_num, by omega, by omega, HL0⟩
  case round =>
    clear HL0
    obtain ⟨i, rfl, hi, hg, HL⟩ := hrel
    by_cases hlt : i < N
    · have hlt2 : (i : Int) < (N : Int) := by omega
      have hip : i < ps.length := by have := unhide HNN; omega
      have hce : wr.cell? ⟨b, i, none⟩ = some ps[i].val := by
        rw [(cell_blk (((unhide HL).fx.blk b (blk_lt (unhide HPB)) (fun q => by
          rcases q with q | q
          · exact (unhide HH).1 q
          · exact (unhide HH).2 q)).trans (unhide HPB)) i).1]
        exact unhide HV i hip
      have hnn := hide (unhide HN ps[i] (List.getElem_mem hip))
      have etk := take_succ ps i hip
      have esn : nmsL (ps.take (i + 1)) = nmsL (ps.take i) ++ ps[i].nms := by rw [etk, nmsL_snoc]
      have hkk : k + (nmsL (ps.take (i + 1))).length < maxLen := by
        have : (nmsL (ps.take (i + 1))).length ≤ (nmsL ps).length := by
          have e2 : nmsL ps = nmsL (ps.take (i + 1)) ++ nmsL (ps.drop (i + 1)) := by
            unfold nmsL
            rw [← List.flatMap_append, List.take_append_drop]
          rw [e2, List.length_append]
          omega
        omega
      rw [esn, List.length_append] at hkk
      have HES := hide esn
      clear etk esn
      unfold Opn.val at hce
      have mN := methN ps[i]
      have cN := names_any ps[i]
      have eN := entN ps[i]
      generalize ps[i] = op at *
      generalize nmsL (ps.take i) = L0 at *
      go_wp2_with (first | (refine (cN _).mono ?_; rintro x1 w1 ⟨v, rfl, ⟨gn, rfl, hgn, hgb⟩, hb1⟩; have HLA := hide ((unhide HL).later hb1); have HG := hide hgb; clear hb1 hgb hgn))
      obtain ⟨M, hM⟩ : ∃ x, x = op.nms.length := ⟨_, rfl⟩
      rw [← hM]
      have hM2 : M ≤ 2 := by rw [hM]; exact nms_le op
      have HMM := hide hM
      have HKK := hide hkk
      clear hM hkk
      go_loopg [9, 19] M (fun g2 _ vj w2 => ∃ j : Nat, vj = .int .i64 j ∧ j ≤ M ∧ M - j ≤ g2 ∧ Hid (Lv W B o o2 cur d d2 H H2 k k2 (L0 ++ op.nms.take j) (L0.length + j) w2) ∧ Hid (w2.heap[gn]? = some (.cells (op.nms.map Value.string).toArray 9 (0, 0))))
      case atStart => exact ⟨0, by go_num, by omega, by omega, by simpa using HLA, HG⟩
      case round =>
        clear HLA HG HL
        obtain ⟨j, rfl, hj, hg2, HL, HG⟩ := hrel
        by_cases hlj : j < M
        · have hlj2 : (j : Int) < (M : Int) := by omega
          have hjn : j < op.nms.length := by have := unhide HMM; omega
          have hcj : wr.cell? ⟨gn, j, none⟩ = some (.string op.nms[j]) := by
            rw [(cell_blk (unhide HG) j).1]
            simp [hjn]
          have HNB := hide (show gn ≠ B from by
            obtain ⟨d', u', q, _⟩ := (unhide HL).blk
            exact blk_ne (by decide) q (unhide HG))
          have C := (unhide HL).step hlo ho (unhide HD2) (unhide HW2) (unhide HM) (by
            have := unhide HKK
            omega) (unhide hnn op.nms[j] (List.getElem_mem hjn))
          have etk := take_succ op.nms j hjn
          have HE := hide (show L0 ++ op.nms.take j ++ [op.nms[j]] = L0 ++ op.nms.take (j + 1) from by rw [etk, List.append_assoc])
          clear etk
          generalize op.nms[j] = x at *
          have HCC := hide C
          clear C
          go_wp2_with (first | (go_at_call 52; refine (unhide HCC).mono ?_; rintro x1 w3 ⟨rfl, HL3, HK3⟩; have HL3 := hide HL3; have HG3 := hide ((HK3 gn _ _ _ (unhide HG) (unhide HNB)).trans (unhide HG)); clear HK3))
          go_roundg (M - (j + 1))
          case measure => omega
          case rel => exact ⟨j + 1, by go_num, by omega, by omega, by rw [← unhide HE]; exact HL3, HG3⟩
        · obtain rfl : j = M := by omega
          have HLF := hide (show Lv W B o o2 cur d d2 H H2 k k2 (nmsL (ps.take (i + 1))) (nmsL (ps.take (i + 1))).length wr from by
            have q := unhide HL
            rw [unhide HMM, List.take_length] at q
            rw [unhide HES, List.length_append]
            exact q)
          clear HL HG
          go_wp2_with fail
          go_roundg (N - (i + 1))
          case measure => omega
          case rel => exact ⟨i + 1, by go_num, by omega, by omega, HLF⟩
    · obtain rfl : i = N := by omega
      clear HPB HV
      have hfin := unhide HL
      rw [unhide HNN, List.take_length] at hfin
      have HF := hide hfin
      clear hfin HL
      go_wp2_with fail
      go_end0
      exact ⟨rfl, unhide HF⟩
end Go.Proofs.Ytokgegbodbnimaa
