import Derived.Test.YtodlmbhlinpoeaaAuE
namespace Go.Proofs.Ytodlmbhlinpoeaa
open Go.RowKit

theorem knd_eq {r : List Value} {n : Int} (h : r[0]? = some (.int .i64 n)) : knd r = n := by unfold knd; rw [h]
/-- THE COUNTS AS THEY LIE. -/
def ctL (fl : List (List Value)) : List Value := (List.range 7).map fun k => .int .i64 (cnt fl k : Nat)
def ctV (fl : List (List Value)) : Value := .agg #[.int .i64 (cnt fl 0 : Nat), .int .i64 (cnt fl 1 : Nat), .int .i64 (cnt fl 2 : Nat), .int .i64 (cnt fl 3 : Nat), .int .i64 (cnt fl 4 : Nat), .int .i64 (cnt fl 5 : Nat), .int .i64 (cnt fl 6 : Nat)]
theorem ctL_len (fl : List (List Value)) : (ctL fl).length = 7 := by simp [ctL]
theorem ctL_at (fl : List (List Value)) {k : Nat} (hk : k < 7) : (ctL fl)[k]? = some (.int .i64 (cnt fl k : Nat)) := by
  unfold ctL
  rw [List.getElem?_map, List.getElem?_range hk]
  rfl
theorem ctL_one (fl : List (List Value)) : ∀ u ∈ ctL fl, u.oneCell' = true := fun u hu => by
  obtain ⟨x, _, rfl⟩ := List.mem_map.1 hu
  rfl
theorem ctL_snoc (fl : List (List Value)) (r : List Value) {k : Nat} (hk : kix r = k) : (ctL fl).set k (.int .i64 ((cnt fl k : Nat) + 1 : Int)) = ctL (fl ++ [r]) := by
  refine List.ext_getElem? fun j => ?_
  by_cases hj : j < 7
  · rw [ctL_at _ hj, cnt_snoc, List.getElem?_set]
    by_cases e : k = j
    · subst e
      rw [if_pos rfl, if_pos (by rw [ctL_len]; exact hj), if_pos hk]
      push_cast
      rfl
    · rw [if_neg e, ctL_at _ hj, if_neg (by omega)]
      rfl
  · rw [List.getElem?_eq_none (by rw [List.length_set, ctL_len]; omega), List.getElem?_eq_none (by rw [ctL_len]; omega)]
theorem zeroR : (Try.prog.info? 34).map (fun i => (i.zero, i.size)) = some (some (.agg (ctL []).toArray), 7) ∧ (ctL []).length = 7 ∧ (ctL []).all (·.oneCell') = true := ⟨by kernel_rfl, by kernel_rfl, by kernel_rfl⟩
theorem infoR : (Try.prog.info? 34).map (·.size) = some 7 := by kernel_rfl
theorem zeroW : ∃ zc : List Value, (Try.prog.info? 31).map (fun i => (i.zero, i.size)) = some (some (.agg zc.toArray), 4) ∧ zc.length = 4 ∧ zc.all (·.oneCell') = true :=
  ⟨((((Try.prog.info? 31).bind (·.zero)).map fun z => z.cells.toList).getD []), by kernel_rfl, by kernel_rfl, by kernel_rfl⟩
theorem st3 (w : World) (g i : Nat) (n : Int) (old : Value) (hc : w.cell? ⟨g, i, none⟩ = some old) (hz : w.frozen? ⟨g, i, none⟩ = false) :
    (storeVar 3 ⟨g, i, none⟩ (.int .i64 n)).run Try.prog w = .ok () (w.setCell ⟨g, i, none⟩ (.int .i64 n)) := by
  simp [go_sem, hc, hz]
theorem take_snoc {fl : List (List Value)} {i : Nat} (hi : i < fl.length) : fl.take (i + 1) = fl.take i ++ [fl[i]] := by
  rw [List.take_add_one, List.getElem?_eq_getElem hi]
  rfl
set_option maxRecDepth 100000 in
set_option maxHeartbeats 4000000 in
theorem summary_any {w : World} {v : Value} {fl : List (List Value)} (h : Rws 31 4 w v fl) (hl : fl.length ≤ 2513169434843) :
    Calls Try.prog 7 #[v] w fun e w' => e = .returned (ctV fl) ∧ Below w.heap.size w w' := by
  obtain ⟨a, c, rfl⟩ := h.form
  have HC := hide (show ∀ (U : World) (hU : Below w.heap.size w U) (k : Nat) (hk : k < fl.length), ∃ b o n, a = some ⟨b, o, none⟩ ∧ (fl[k]).length = 4 ∧ (∀ x ∈ fl[k], x.oneCell' = true) ∧ (fl[k])[0]? = some (.int .i64 n) ∧ U.rangeAt b (o + k * 4) fl[k] from fun U hU k hk => by
    obtain ⟨b, o, e, l, hok, hr⟩ := h.at hk
    obtain ⟨n, hn⟩ := hok.kind
    exact ⟨b, o, n, e, hok.1, hok.2.2, hn, rangeAt_later hr l hU⟩)
  obtain ⟨N, hN⟩ : ∃ N, fl.length = N := ⟨_, rfl⟩
  have HN := hide hN
  rw [hN] at hl ⊢
  obtain ⟨zcW, zeroW2⟩ := zeroW
  clear h hN
  go_enter Try.func7, Try.ntmps7
  go_wp2_with (first
    | ((with_reducible refine b_alloc (t := 34) (k := 7) zeroR rfl rfl ?_); intro w2 B1 k1 z1; have K1 := hide k1; guard_hyp k1 : Below w.heap.size w w2)
    | ((with_reducible refine b_alloc (t := 34) (k := 7) zeroR rfl rfl ?_); intro w3 B2 k2 z2; have P1 := hide (B1.later k2); have HZ := hide z1.1; have P2 := hide B2; have K2 := hide (bl_t (unhide K1) k2); clear B1 B2 k1 k2 z1 z2 K1))
  generalize w2.heap.size = CB at *
  go_loopg [5, 8, 16] N (fun gq _ iv _ wr => ∃ i : Nat, iv = .int .i64 i ∧ i ≤ N ∧ N - i ≤ gq ∧ Hid (Below w.heap.size w wr) ∧ Hid (Bk 34 7 wr w.heap.size (ctL [])) ∧ Hid (Bk 34 7 wr CB (ctL (fl.take i))))
  case atStart => exact ⟨0, by go_num, by omega, by omega, K2, P1, P2⟩
  case round =>
    clear K2 P1 P2
    obtain ⟨i, rfl, hi, hg, HB, HR, HT⟩ := hrel
    by_cases hlt : i < N
    · have hin : (i : Int) < (N : Int) := by omega
      have hil : i < fl.length := by have := unhide HN; omega
      obtain ⟨b, o, n, rfl, hlen, hone, h0, hr⟩ := unhide HC wr (unhide HB) i hil
      have HTS := hide (take_snoc hil)
      have HKN := hide (knd_eq h0)
      have HLE := hide (show ∀ k, cnt (fl.take i) k ≤ N from fun k => Nat.le_trans (cnt_le _ _) (by rw [List.length_take]; omega))
      generalize fl[i] = r at *
      have HRR := hide hr
      have HONE := hide hone
      have H0 := hide h0
      clear hr hone h0 HC
      have HLK := kix_lt r
      have HKX := hide (show ∀ m, kix r = m → ctL (fl.take (i + 1)) = (ctL (fl.take i)).set m (.int .i64 ((cnt (fl.take i) m : Nat) + 1 : Int)) from fun m hm => by rw [unhide HTS, ctL_snoc _ _ hm])
      have HT2 := hide (fun (X : World) (hX : Below wr.heap.size wr X) => (unhide HT).later hX)
      have HR2 := hide (fun (X : World) (hX : Below wr.heap.size wr X) => (unhide HR).later hX)
      have HCN := hide (show wr.heap.size ≠ CB from fun e => by have := (unhide HT).lt; omega)
      clear HT HR
      by_cases hk : 1 ≤ n ∧ n ≤ 6
      · obtain ⟨m, rfl⟩ : ∃ m : Nat, n = (m : Int) := ⟨n.toNat, by omega⟩
        have hm1 : (1 : Int) ≤ (m : Int) := hk.1
        have hm6 : (m : Int) ≤ 6 := hk.2
        have hm7 : m < 7 := by omega
        have HKM := hide (unhide HKX m (by unfold kix; rw [unhide HKN, if_pos hk]; omega))
        have HC5 := hide (fun (X : World) (hX : Below wr.heap.size wr X) => (unhide HT2 X hX).cell (ctL_at (fl.take i) hm7))
        have hcl := unhide HLE m
        generalize cnt (fl.take i) m = z at *
        have hw : IntKind.i64.wrap ((z : Int) + 1) = (z : Int) + 1 := IntWalk.i64_in _ (by omega)
        clear hk HKX HLE HKN
        go_wp2_with (first
          | ((with_reducible refine m_load (t := 31) (k := 4) Try.underlying31 rfl infoW _ rfl rfl b (o + i * 4) rfl r (unhide HRR) hlen ?_); clear HRR)
          | ((with_reducible refine b_alloc (t := 31) (k := 4) zeroW2 rfl rfl ?_); intro w2 B2 k2 z2)
          | ((with_reducible refine b_store (t := 31) (k := 4) infoW _ _ rfl rfl wr.heap.size rfl r rfl hlen (unhide HONE) _ B2 ?_); intro w3 B3 o3 k3 z3; have K3 := hide (k2.trans (k3 _ (Nat.le_refl _))); have a0 := B3.cell (unhide H0); have c5 := unhide HC5 _ (unhide K3); have B5 := hide (unhide HT2 _ (unhide K3)); clear B2 k2 B3 o3 k3 z2 z3)
          | ((with_reducible refine b_set (t := 34) (k := 7) 3 _ _ rfl rfl CB m rfl (.int .i64 ((z : Int) + 1)) (st3 _ _ _ _) rfl rfl _ (unhide B5) hm7 ?_); intro w6 B6 o6 k6 z6; have H6 := hide (And.intro B6 (And.intro o6 k6)); clear B6 o6 k6 z6 c5))
        have HX := hide (show Below w.heap.size w w6 ∧ Bk 34 7 w6 w.heap.size (ctL []) ∧ Bk 34 7 w6 CB (ctL (fl.take (i + 1))) from ⟨(bl_t (unhide HB) (unhide K3)).trans ((unhide H6).2.2 _ (by have := unhide HZ; omega)), (unhide HR2 _ (unhide K3)).of ((unhide H6).2.1 _ (by have := unhide HZ; omega)), by rw [unhide HKM]; exact (unhide H6).1⟩)
        go_roundg (N - (i + 1))
        case measure => omega
        case rel => exact ⟨i + 1, by go_num, by omega, by omega, hide (unhide HX).1, hide (unhide HX).2.1, hide (unhide HX).2.2⟩
      · have HKM := hide (unhide HKX 0 (by unfold kix; rw [unhide HKN, if_neg hk]))
        have HC5 := hide (fun (X : World) (hX : Below wr.heap.size wr X) => (unhide HT2 X hX).cell (ctL_at (fl.take i) (show 0 < 7 by decide)))
        have hcl := unhide HLE 0
        generalize cnt (fl.take i) 0 = z at *
        have hw : IntKind.i64.wrap ((z : Int) + 1) = (z : Int) + 1 := IntWalk.i64_in _ (by omega)
        clear HKX HLE HKN
        by_cases hk1 : 1 ≤ n
        · have hk6 : ¬ n ≤ 6 := fun h => hk ⟨hk1, h⟩
          clear hk
          go_wp2_with (first
            | ((with_reducible refine m_load (t := 31) (k := 4) Try.underlying31 rfl infoW _ rfl rfl b (o + i * 4) rfl r (unhide HRR) hlen ?_); clear HRR)
            | ((with_reducible refine b_alloc (t := 31) (k := 4) zeroW2 rfl rfl ?_); intro w2 B2 k2 z2)
            | ((with_reducible refine b_store (t := 31) (k := 4) infoW _ _ rfl rfl wr.heap.size rfl r rfl hlen (unhide HONE) _ B2 ?_); intro w3 B3 o3 k3 z3; have K3 := hide (k2.trans (k3 _ (Nat.le_refl _))); have a0 := B3.cell (unhide H0); have c5 := unhide HC5 _ (unhide K3); have B5 := hide (unhide HT2 _ (unhide K3)); clear B2 k2 B3 o3 k3 z2 z3)
            | ((with_reducible refine b_set (t := 34) (k := 7) 3 _ _ rfl rfl CB 0 rfl (.int .i64 ((z : Int) + 1)) (st3 _ _ _ _) rfl rfl _ (unhide B5) (by decide) ?_); intro w6 B6 o6 k6 z6; have H6 := hide (And.intro B6 (And.intro o6 k6)); clear B6 o6 k6 z6 c5))
          have HX := hide (show Below w.heap.size w w6 ∧ Bk 34 7 w6 w.heap.size (ctL []) ∧ Bk 34 7 w6 CB (ctL (fl.take (i + 1))) from ⟨(bl_t (unhide HB) (unhide K3)).trans ((unhide H6).2.2 _ (by have := unhide HZ; omega)), (unhide HR2 _ (unhide K3)).of ((unhide H6).2.1 _ (by have := unhide HZ; omega)), by rw [unhide HKM]; exact (unhide H6).1⟩)
          go_roundg (N - (i + 1))
          case measure => omega
          case rel => exact ⟨i + 1, by go_num, by omega, by omega, hide (unhide HX).1, hide (unhide HX).2.1, hide (unhide HX).2.2⟩
        · clear hk
          go_wp2_with (first
            | ((with_reducible refine m_load (t := 31) (k := 4) Try.underlying31 rfl infoW _ rfl rfl b (o + i * 4) rfl r (unhide HRR) hlen ?_); clear HRR)
            | ((with_reducible refine b_alloc (t := 31) (k := 4) zeroW2 rfl rfl ?_); intro w2 B2 k2 z2)
            | ((with_reducible refine b_store (t := 31) (k := 4) infoW _ _ rfl rfl wr.heap.size rfl r rfl hlen (unhide HONE) _ B2 ?_); intro w3 B3 o3 k3 z3; have K3 := hide (k2.trans (k3 _ (Nat.le_refl _))); have a0 := B3.cell (unhide H0); have c5 := unhide HC5 _ (unhide K3); have B5 := hide (unhide HT2 _ (unhide K3)); clear B2 k2 B3 o3 k3 z2 z3)
            | ((with_reducible refine b_set (t := 34) (k := 7) 3 _ _ rfl rfl CB 0 rfl (.int .i64 ((z : Int) + 1)) (st3 _ _ _ _) rfl rfl _ (unhide B5) (by decide) ?_); intro w6 B6 o6 k6 z6; have H6 := hide (And.intro B6 (And.intro o6 k6)); clear B6 o6 k6 z6 c5))
          have HX := hide (show Below w.heap.size w w6 ∧ Bk 34 7 w6 w.heap.size (ctL []) ∧ Bk 34 7 w6 CB (ctL (fl.take (i + 1))) from ⟨(bl_t (unhide HB) (unhide K3)).trans ((unhide H6).2.2 _ (by have := unhide HZ; omega)), (unhide HR2 _ (unhide K3)).of ((unhide H6).2.1 _ (by have := unhide HZ; omega)), by rw [unhide HKM]; exact (unhide H6).1⟩)
          go_roundg (N - (i + 1))
          case measure => omega
          case rel => exact ⟨i + 1, by go_num, by omega, by omega, hide (unhide HX).1, hide (unhide HX).2.1, hide (unhide HX).2.2⟩
    · obtain rfl : i = N := by omega
      have HF := hide (show fl.take i = fl from by rw [← unhide HN]; exact List.take_length)
      rw [unhide HF] at HT
      go_wp2_with (first
        | ((with_reducible refine m_load (t := 34) (k := 7) Try.underlying34 rfl infoR _ rfl rfl CB 0 rfl (ctL fl) (unhide HT).range (ctL_len _) ?_))
        | ((with_reducible refine b_store (t := 34) (k := 7) infoR _ _ rfl rfl w.heap.size rfl (ctL fl) rfl (ctL_len _) (ctL_one _) _ (unhide HR) ?_); intro w6 B6 o6 k6 z6; have K6 := hide ((unhide HB).trans (k6 _ (Nat.le_refl _))); have B7 := hide B6; clear B6 o6 k6 z6))
      have q0 := (unhide B7).cell (ctL_at fl (show 0 < 7 by decide))
      have q1 := (unhide B7).cell (ctL_at fl (show 1 < 7 by decide))
      have q2 := (unhide B7).cell (ctL_at fl (show 2 < 7 by decide))
      have q3 := (unhide B7).cell (ctL_at fl (show 3 < 7 by decide))
      have q4 := (unhide B7).cell (ctL_at fl (show 4 < 7 by decide))
      have q5 := (unhide B7).cell (ctL_at fl (show 5 < 7 by decide))
      have q6 := (unhide B7).cell (ctL_at fl (show 6 < 7 by decide))
      exact bodyPost_ret (v := ctV fl) (by simp [results, Try.results7, go_sem, q0, q1, q2, q3, q4, q5, q6, ctV]) rfl ⟨rfl, unhide K6⟩
end Go.Proofs.Ytodlmbhlinpoeaa
