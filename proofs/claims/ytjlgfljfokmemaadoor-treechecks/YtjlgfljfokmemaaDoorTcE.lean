import Derived.Test.YtjlgfljfokmemaaDoorTcD
namespace Go.Proofs.YtjlgfljfokmemaaDoor
open Go.RowKit Go.Maps Go.Shelf

/-- WHAT A LAYING IN LEAVES. -/
theorem ns_bl {w W W2 : World} {b : Nat} (hw : Below w.heap.size w W) (hb : w.heap.size ≤ b) (h : W2.os = W.os ∧ W2.tape = W.tape ∧ W2.output = W.output ∧ W.heap.size ≤ W2.heap.size ∧ ∀ c, c < W.heap.size → c ≠ b → W2.heap[c]? = W.heap[c]?) : Below w.heap.size w W2 :=
  ⟨h.1.trans hw.os, h.2.1.trans hw.tape, h.2.2.1.trans hw.output, Nat.le_trans hw.size h.2.2.2.1, fun c hc => (h.2.2.2.2 c (Nat.lt_of_lt_of_le hc hw.size) (by omega)).trans (hw.block c hc)⟩
theorem ns_cell {W W2 : World} {b c o : Nat} (hc : c < W.heap.size) (hb : c ≠ b) (h : W2.os = W.os ∧ W2.tape = W.tape ∧ W2.output = W.output ∧ W.heap.size ≤ W2.heap.size ∧ ∀ c, c < W.heap.size → c ≠ b → W2.heap[c]? = W.heap[c]?) : W2.cell? ⟨c, o, none⟩ = W.cell? ⟨c, o, none⟩ :=
  World.cell?_of_block (h.2.2.2.2 c hc hb)

set_option maxRecDepth 100000 in
set_option maxHeartbeats 4000000 in
theorem Check_any (l : List Stp) (v : Value) (w : World) (h : Sps w v l) (hn : l.length ≤ 3518437208883) (hok : ∀ x ∈ l, SpOk x) (hg : Glob w) :
    Calls Tryd.prog 15 #[v] w fun e w' => e = .returned (.int .i64 (ckS l)) ∧ Below w.heap.size w w' := by
  obtain ⟨va, vc, rfl⟩ := h.shape
  have H := hide h
  have HG := hide hg
  have HO := hide hok
  have HBad := hide (ckS_bad l)
  have HTw := hide (ckS_twice l)
  have HOk := hide (ckS_ok l)
  obtain ⟨N, hN⟩ : ∃ N, l.length = N := ⟨_, rfl⟩
  rw [hN] at hn H ⊢
  clear h hg hok
  generalize ckS l = ck at *
  go_enter Tryd.func15, Tryd.ntmps15
  go_wp2_with fail
  go_loopw [11] (fun i wr => ∃ k : Nat, k ≤ N ∧ i = .int .i64 k ∧ Hid (Below w.heap.size w wr) ∧ Hid (∀ j (hj : j < l.length), j < k → mb l[j] = true)) (fun i _ => N - (intOf i).toNat)
  case atStart => exact ⟨0, Nat.zero_le _, rfl, hide (Below.refl _ _), hide (fun j _ h => absurd h (Nat.not_lt_zero _))⟩
  case round =>
    obtain ⟨k, hk, rfl, HB, HZ⟩ := hrel
    by_cases hlt : k < N
    · have hkl : k < l.length := by omega
      obtain ⟨b, o, rfl, hb, p0, p1, p2⟩ := ((unhide H).later (unhide HB)).elem k hkl
      have hx := unhide HO _ (List.getElem_mem hkl)
      have HBad' := hide (unhide HBad k hkl)
      have HN := hide (fun (h : mb l[k] = true) => show ∀ j (hj : j < l.length), j < k + 1 → mb l[j] = true from fun j hj hjk => by
        by_cases e : j < k
        · exact unhide HZ j hj e
        · obtain rfl : j = k := by omega
          exact h)
      have c1 := hide (fun w hg => mayBe_any l[k] w hx hg)
      generalize l[k] = x at *
      clear HBad HTw HOk HZ HO hx
      cases hm : mb x
      · rw [hm] at c1
        have HF := hide (unhide HBad' hm)
        have HA := hide (show Below w.heap.size w (wr.alloc (.cells #[.int .i64 x.k, .string x.f, .string x.t] 41)) from (unhide HB).alloc (unhide HB).size _)
        clear HBad' HN hm
        go_wp2_with fail
        refine (unhide c1 _ ((unhide HG).later (unhide HA))).mono ?_
        rintro e w1 ⟨rfl, hb1⟩
        have HB1 := hide (bl_t (unhide HA) hb1)
        clear hb1
        go_wp2_with fail
        go_ret
        rw [unhide HF]
        exact ⟨rfl, unhide HB1⟩
      · rw [hm] at c1
        have HZ' := hide (unhide HN hm)
        have HA := hide (show Below w.heap.size w (wr.alloc (.cells #[.int .i64 x.k, .string x.f, .string x.t] 41)) from (unhide HB).alloc (unhide HB).size _)
        clear HBad' HN hm
        go_wp2_with fail
        refine (unhide c1 _ ((unhide HG).later (unhide HA))).mono ?_
        rintro e w1 ⟨rfl, hb1⟩
        have HB1 := hide (bl_t (unhide HA) hb1)
        clear hb1
        go_wp2_with fail
        go_roundw
        case rel => exact ⟨k + 1, by omega, by go_num, HB1, HZ'⟩
        case measure => simp [intOf]; omega
    · have HM := hide (show ∀ j (hj : j < l.length), mb l[j] = true from fun j hj => unhide HZ j hj (by omega))
      have HTw' := hide (unhide HTw (unhide HM))
      have HOk' := hide (unhide HOk (unhide HM))
      clear HBad HTw HOk HZ HM
      have hmm := @run_makeMap Tryd.prog
      have HS := hide (Ns.make wr)
      have HS1 := hide (show Below w.heap.size w (wr.alloc (.map #[] 0)) from (unhide HB).alloc (unhide HB).size _)
      have hbw := (unhide HB).size
      obtain ⟨M, hM⟩ : ∃ M, wr.heap.size = M := ⟨_, rfl⟩
      rw [hM] at HS hbw
      obtain ⟨W1, hW1⟩ : ∃ W, W = wr.alloc (.map #[] 0) := ⟨_, rfl⟩
      rw [← hW1] at HS HS1
      go_wp2_with fail
      rw [← hW1]
      clear hmm hW1 hM HB
      go_loopw [6, 22] (fun c i W => ∃ (k : Nat) (n : Nat), k ≤ N ∧ i = .int .i64 k ∧ c = .int .i64 n ∧ n ≤ k * 2 ∧ Hid (n = (nmsL (l.take k)).length) ∧ Hid (∃ m, m ≤ k * 2 ∧ Ns W M (nmsL (l.take k)) m) ∧ Hid (Below w.heap.size w W)) (fun _ i _ => N - (intOf i).toNat)
      case atStart => exact ⟨0, 0, Nat.zero_le _, rfl, rfl, Nat.zero_le _, hide rfl, hide ⟨0, Nat.le_refl _, unhide HS⟩, HS1⟩
      case round =>
        obtain ⟨k, n, hk, rfl, rfl, hnk, HL, HNs, HB⟩ := hrel
        by_cases hlt : k < N
        · have hkl : k < l.length := by omega
          obtain ⟨b, o, rfl, hb, p0, p1, p2⟩ := ((unhide H).later (unhide HB)).elem k hkl
          have hx := unhide HO _ (List.getElem_mem hkl)
          have HSn := hide (nmsL_snoc l k hkl)
          generalize l[k] = x at *
          obtain ⟨m, hm, hns⟩ := unhide HNs
          have hml : maxLen = 9223372036854775807 := rfl
          have hns2 := hns.later ((Below.refl wr.heap.size wr).alloc (Nat.le_refl _) (.cells #[.int .i64 x.k, .string x.f, .string x.t] 41))
          obtain ⟨W3, hr3, hs3, hf3⟩ := hns2.put (by omega) (x := x.t) (by have := hx.2; omega) (.agg #[])
          have hMl := hns.lt
          have HA := hide (show Below w.heap.size w (wr.alloc (.cells #[.int .i64 x.k, .string x.f, .string x.t] 41)) from (unhide HB).alloc (unhide HB).size _)
          have z1 : W3.cell? ⟨wr.heap.size, 1, none⟩ = some (.string x.f) := by
            rw [ns_cell (by simp) (by omega) hf3, World.cell?_alloc_at _ _ _ _ rfl]
            rfl
          have HB3 := hide (ns_bl (unhide HA) hbw hf3)
          have hk2 : (nmsL (l.take k)).length + 1 = n + 1 := by rw [← unhide HL]
          by_cases hf : x.f.toList = []
          · have hfb : (x.f.toList == []) = true := by rw [hf]; rfl
            have e1 : nms x = [x.t] := by unfold nms; rw [if_pos hf]
            rw [e1] at HSn
            have HL' := hide (show n + 1 = (nmsL (l.take (k + 1))).length by rw [unhide HSn, List.length_append, ← unhide HL]; rfl)
            have HN' := hide (show ∃ m, m ≤ (k + 1) * 2 ∧ Ns W3 M (nmsL (l.take (k + 1))) m from ⟨m + 1, by omega, by rw [unhide HSn]; exact hs3⟩)
            clear HSn HL HNs hns hns2 hs3 hf3 HA e1 hx hk2
            go_wp2_with fail
            go_roundw
            case rel => exact ⟨k + 1, n + 1, by omega, by go_num, by go_num, by omega, HL', HN', HB3⟩
            case measure => simp [intOf]; omega
          · have hfb : (x.f.toList == []) = false := beq_eq_false_iff_ne.2 hf
            have e1 : nms x = [x.t, x.f] := by unfold nms; rw [if_neg hf]
            rw [e1] at HSn
            obtain ⟨W4, hr4, hs4, hf4⟩ := hs3.put (by omega) (x := x.f) (by have := hx.1; omega) (.agg #[])
            have HB4 := hide (ns_bl (unhide HB3) hbw hf4)
            have HL' := hide (show n + 2 = (nmsL (l.take (k + 1))).length by rw [unhide HSn, List.length_append, ← unhide HL]; rfl)
            have HN' := hide (show ∃ m, m ≤ (k + 1) * 2 ∧ Ns W4 M (nmsL (l.take (k + 1))) m from ⟨m + 1 + 1, by omega, by rw [unhide HSn]; simpa using hs4⟩)
            clear HSn HL HNs hns hns2 hs3 hf3 HA e1 hx hs4 hf4 hk2 HB3
            go_wp2_with fail
            go_roundw
            case rel => exact ⟨k + 1, n + 2, by omega, by go_num, by go_num, by omega, HL', HN', HB4⟩
            case measure => simp [intOf]; omega
        · have hke : l.take k = l := List.take_of_length_le (by omega)
          rw [hke] at HL HNs
          obtain ⟨m, hm, hns⟩ := unhide HNs
          obtain ⟨q, hq, hq1, hq2⟩ := hns.len 3
          rw [← unhide HL] at hq1 hq2
          have HQ := hide hq2
          clear hns HNs HL hq2 hke HO
          by_cases hlq : q < n
          · have HF := hide (unhide HTw' (fun h => by have := (unhide HQ).2 h; omega))
            clear HTw' HOk' HQ
            go_wp2_with fail
            go_ret
            rw [unhide HF]
            exact ⟨rfl, unhide HB⟩
          · have HF := hide (unhide HOk' ((unhide HQ).1 (by omega)))
            clear HTw' HOk' HQ
            go_wp2_with fail
            go_ret
            rw [unhide HF]
            exact ⟨rfl, unhide HB⟩

end Go.Proofs.YtjlgfljfokmemaaDoor
