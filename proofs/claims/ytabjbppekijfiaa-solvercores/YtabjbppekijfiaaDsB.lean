import Derived.Test.YtabjbppekijfiaaDsA
namespace Go.Proofs.Ytabjbppekijfiaa
open Go.RowKit

/-- THE VALUES OF A TRAIL IN A BLOCK. -/
def Va (W : World) (vb n : Nat) (tr : List Int) : Prop := ∃ cur, W.heap[vb]? = some (.cells cur 3 (0, 0)) ∧ ∀ i, i < n → cur[i]? = some (.int .i64 (ov (vt tr i)))
theorem Va.same {W W2 : World} {vb n : Nat} {tr : List Int} (h : Va W vb n tr) (e : W2.heap[vb]? = W.heap[vb]?) : Va W2 vb n tr := by
  obtain ⟨cur, h1, h2⟩ := h
  exact ⟨cur, e.trans h1, h2⟩
theorem Va.lt {W : World} {vb n : Nat} {tr : List Int} (h : Va W vb n tr) : vb < W.heap.size := by
  obtain ⟨cur, h1, _⟩ := h
  exact blk_lt h1
theorem Va.cell {W : World} {vb n : Nat} {tr : List Int} (h : Va W vb n tr) {i : Nat} (hi : i < n) : W.cell? ⟨vb, i, none⟩ = some (.int .i64 (ov (vt tr i))) := by
  obtain ⟨cur, h1, h2⟩ := h
  exact (cell_blk h1 i).1.trans (h2 i hi)
theorem ov_range (x : Int) : 0 ≤ ov x ∧ ov x ≤ 2 := by
  unfold ov
  split
  · omega
  · split <;> omega
set_option maxHeartbeats 1000000 in
theorem of_any {n : Nat} (hn : n ≤ 131071) {tr : List Int} {vb vc : Nat} {w : World} (h : Va w vb n tr) (l : Int) (hl : okL n l = true) :
    Calls Try.prog 66 #[.slice (some ⟨vb, 0, none⟩) n vc, .int .i64 l] w fun x w' => x = .returned (.int .i64 (ov (stn tr l))) ∧ w' = w := by
  obtain ⟨z1, z2, z3⟩ := (okL_iff _ _).1 hl
  by_cases hp : 0 < l
  · obtain ⟨a, rfl⟩ : ∃ a : Nat, l = (a : Int) + 1 := ⟨(l - 1).toNat, by omega⟩
    have ha : a < n := by omega
    have hc := h.cell ha
    have e : stn tr ((a : Int) + 1) = vt tr a := by
      unfold stn
      rw [if_neg (by omega), show ((a : Int) + 1).natAbs - 1 = a by omega]
    have i1 : (a : Int) + 1 - 1 = (a : Int) := by omega
    have i2 : IntKind.i64.wrap (a : Int) = (a : Int) := IntWalk.i64_in _ (by omega)
    have i3 : (a : Int) < (n : Int) := by omega
    rw [e]
    clear z1 z2 z3 hl h e
    go_enter Try.func66, Try.ntmps66
    go_wp2
    go_ret
    exact ⟨rfl, rfl⟩
  · obtain ⟨a, rfl⟩ : ∃ a : Nat, l = -((a : Int) + 1) := ⟨(-l - 1).toNat, by omega⟩
    have ha : a < n := by omega
    have hc := h.cell ha
    have e : stn tr (-((a : Int) + 1)) = -vt tr a := by
      unfold stn
      rw [if_pos (by omega), show (-((a : Int) + 1)).natAbs - 1 = a by omega]
    rw [e, ov_neg (vt_range tr a)]
    have i1 : -(-((a : Int) + 1)) = (a : Int) + 1 := by omega
    have i5 : IntKind.i64.wrap ((a : Int) + 1) = (a : Int) + 1 := IntWalk.i64_in _ (by omega)
    have i4 : (a : Int) + 1 - 1 = (a : Int) := by omega
    have i2 : IntKind.i64.wrap (a : Int) = (a : Int) := IntWalk.i64_in _ (by omega)
    have i3 : (a : Int) < (n : Int) := by omega
    have i6 : ¬ -((a : Int) + 1) > 0 := by omega
    have hr := ov_range (vt tr a)
    clear z1 z2 z3 hl h e hp
    generalize -((a : Int) + 1) = l at *
    generalize ov (vt tr a) = x at *
    have i7 : IntKind.i64.wrap (3 - x) = 3 - x := IntWalk.i64_in _ (by omega)
    by_cases hx : x = 0
    · subst hx
      go_enter Try.func66, Try.ntmps66
      go_wp2
      go_ret
      exact ⟨rfl, rfl⟩
    · rw [if_neg hx]
      go_enter Try.func66, Try.ntmps66
      go_wp2
      go_ret
      exact ⟨rfl, rfl⟩
theorem Va.later {W W2 : World} {vb n : Nat} {tr : List Int} (h : Va W vb n tr) (hb : Below W.heap.size W W2) : Va W2 vb n tr := h.same (hb.block _ h.lt)
theorem ret_ii {a b c d : Int} (h : (a, b) = (c, d)) : Ending.returned (.tuple #[.int .i64 a, .int .i64 b]) = .returned (.tuple #[.int .i64 c, .int .i64 d]) := by
  cases h
  rfl
set_option maxRecDepth 100000 in
set_option maxHeartbeats 4000000 in
theorem Kind_any {n : Nat} (hn : n ≤ 131071) {tr : List Int} {vb vc : Nat} {m : Nat} {f : Nat → Int} {pa : Option Addr} {c : Nat} {w : World} (h : Va w vb n tr) (hm : m ≤ 140737488355328) (hf : Ri w pa m f) (hok : ∀ j, j < m → okL n (f j) = true) :
    Calls Try.prog 65 #[.slice (some ⟨vb, 0, none⟩) n vc, .slice pa m c] w fun x w' => x = .returned (.tuple #[.int .i64 (kd tr m f).1, .int .i64 (kd tr m f).2]) ∧ Below w.heap.size w w' := by
  have HV := hide h
  have HF := hide hf
  have HOK := hide hok
  clear h hf hok
  go_enter Try.func65, Try.ntmps65
  go_wp2_with fail
  go_loopg [6, 7, 8] m (fun g1 vo vs vi wr => ∃ i : Nat, vi = .int .i64 i ∧ i ≤ m ∧ m - i ≤ g1 ∧ vo = .int .i64 (ko tr f i).1 ∧ vs = .bool (ko tr f i).2 ∧ Hid (∀ j, j < i → stn tr (f j) ≠ 1) ∧ Hid (Below w.heap.size w wr))
  case atStart => exact ⟨0, by go_num, by omega, by omega, rfl, rfl, hide (fun j hj => absurd hj (Nat.not_lt_zero _)), hide (Below.refl _ _)⟩
  case round =>
    obtain ⟨i, rfl, hi, hg, rfl, rfl, HA, HB⟩ := hrel
    by_cases hlt : i < m
    · obtain ⟨b, o, rfl, _, hc0⟩ := (Ri.later (unhide HF) (unhide HB)).at hlt
      have hc : wr.cell? ⟨b, o + i, none⟩ = some (.int .i64 (f i)) := hc0
      clear hc0
      have HK := hide (show ko tr f (i + 1) = if stn tr (f i) = 0 then (f i, (ko tr f i).2 || (!((ko tr f i).1 == 0) && !((ko tr f i).1 == f i))) else ko tr f i from rfl)
      have HT := hide (fun (e : stn tr (f i) = 1) => kd_true (tr := tr) (f := f) hlt e)
      have cO := hide (of_any (vc := vc) hn ((unhide HV).later (unhide HB)) (f i) (unhide HOK i hlt))
      have HS := hide (stn_range tr (f i))
      obtain ⟨st, hst⟩ : ∃ st, st = stn tr (f i) := ⟨_, rfl⟩
      have HST := hide (show stn tr (f i) = st from hst.symm)
      rw [← hst] at HK HT cO HS
      clear hst
      generalize hko : ko tr f i = q at *
      obtain ⟨q1, q2⟩ := q
      obtain ⟨l, hl⟩ : ∃ l, l = f i := ⟨_, rfl⟩
      rw [← hl] at HK cO hc
      clear hl
      rcases unhide HS with e | e | e
      · subst e
        rw [show ov (-1) = 2 from rfl] at cO
        rw [if_neg (by decide)] at HK
        go_wp2_with (go_at_call 66; refine (unhide cO).mono ?_; rintro x1 w1 ⟨rfl, hw1⟩; rw [hw1]; clear hw1 w1)
        go_roundg (m - (i + 1))
        case measure => omega
        case rel => exact ⟨i + 1, by go_num, by omega, by omega, by rw [unhide HK], by rw [unhide HK], hide (fun j hj => by
          by_cases e : j = i
          · subst e; rw [unhide HST]; decide
          · exact unhide HA j (by omega)), HB⟩
      · subst e
        rw [show ov 0 = 0 from rfl] at cO
        rw [if_pos rfl] at HK
        have HA2 := hide (show ∀ j, j < i + 1 → stn tr (f j) ≠ 1 from fun j hj => by
          by_cases e : j = i
          · subst e; rw [unhide HST]; decide
          · exact unhide HA j (by omega))
        cases q2 with
        | true =>
          go_wp2_with (go_at_call 66; refine (unhide cO).mono ?_; rintro x1 w1 ⟨rfl, hw1⟩; rw [hw1]; clear hw1 w1)
          go_roundg (m - (i + 1))
          case measure => omega
          case rel => exact ⟨i + 1, by go_num, by omega, by omega, by rw [unhide HK], by rw [unhide HK]; rfl, HA2, HB⟩
        | false =>
          by_cases hq : q1 = 0
          · subst hq
            go_wp2_with (go_at_call 66; refine (unhide cO).mono ?_; rintro x1 w1 ⟨rfl, hw1⟩; rw [hw1]; clear hw1 w1)
            go_roundg (m - (i + 1))
            case measure => omega
            case rel => exact ⟨i + 1, by go_num, by omega, by omega, by rw [unhide HK], by rw [unhide HK]; rfl, HA2, HB⟩
          · have hq' : (q1 != 0) = true := by simpa using hq
            have hq2 : (q1 == 0) = false := by simpa using hq
            go_wp2_with (go_at_call 66; refine (unhide cO).mono ?_; rintro x1 w1 ⟨rfl, hw1⟩; rw [hw1]; clear hw1 w1)
            go_roundg (m - (i + 1))
            case measure => omega
            case rel => exact ⟨i + 1, by go_num, by omega, by omega, by rw [unhide HK], by rw [unhide HK]; simp [bne, hq2], HA2, HB⟩
      · subst e
        rw [show ov 1 = 1 from rfl] at cO
        have HT1 := hide (unhide HT rfl)
        clear HT
        go_wp2_with (go_at_call 66; refine (unhide cO).mono ?_; rintro x1 w1 ⟨rfl, hw1⟩; rw [hw1]; clear hw1 w1)
        go_ret2
        exact ⟨ret_ii (by rw [unhide HT1]), unhide HB⟩
    · obtain rfl : i = m := by omega
      have HE := hide (kd_end (fun j hj => okL_ne (unhide HOK j hj)) (unhide HA))
      generalize hko : ko tr f i = q at *
      obtain ⟨q1, q2⟩ := q
      by_cases hq : q1 = 0
      · subst hq
        go_wp2
        go_ret2
        exact ⟨ret_ii (by rw [unhide HE]; rfl), unhide HB⟩
      · have HE2 := hide ((unhide HE).trans (if_neg hq))
        have hq' : (q1 == 0) = false := by simpa using hq
        cases q2 with
        | true =>
          go_wp2
          go_ret2
          exact ⟨ret_ii (by rw [unhide HE2]; rfl), unhide HB⟩
        | false =>
          go_wp2
          go_ret2
          exact ⟨ret_ii (by rw [unhide HE2]; rfl), unhide HB⟩
end Go.Proofs.Ytabjbppekijfiaa
