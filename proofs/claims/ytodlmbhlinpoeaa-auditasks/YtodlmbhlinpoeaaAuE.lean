import Derived.Test.YtodlmbhlinpoeaaAuD
namespace Go.Proofs.Ytodlmbhlinpoeaa
open Go.RowKit

theorem infoK : (Try.prog.info? 29).map (·.size) = some 2 := by kernel_rfl
theorem zeroK : (Try.prog.info? 29).map (fun i => (i.zero, i.size)) = some (some (.agg [Value.string ⟨#[]⟩, Value.string ⟨#[]⟩].toArray), 2) ∧ [Value.string ⟨#[]⟩, Value.string ⟨#[]⟩].length = 2 ∧ [Value.string ⟨#[]⟩, Value.string ⟨#[]⟩].all (·.oneCell') = true := ⟨by kernel_rfl, rfl, rfl⟩
set_option maxRecDepth 100000 in
theorem keyOf_any {w : World} {cs : List Value} {nm vr : Nm} (hl : cs.length = 44) (h1 : ∀ x ∈ cs, x.oneCell' = true) (c0 : cs[0]? = some (.string nm)) (c1 : cs[1]? = some (.string vr)) :
    Calls Try.prog 17 #[.agg cs.toArray] w fun e w' => e = .returned (.agg #[.string nm, .string vr]) ∧ Below w.heap.size w w' := by
  have HL := hide hl
  have HO := hide h1
  have H0 := hide c0
  have H1 := hide c1
  clear hl h1 c0 c1
  go_enter Try.func17, Try.ntmps17
  go_wp2_with (first
    | ((with_reducible refine b_box (t := 47) (k := 44) cs (unhide HL) (unhide HO) _ rfl rfl rfl ?_); intro w2 B1 k1 z1; have K1 := hide k1)
    | ((with_reducible refine b_alloc (t := 29) (k := 2) zeroK rfl rfl ?_); intro w3 B2 k2 z2; have P1 := hide (B1.later k2); have P2 := hide B2; have K2 := hide (bl_t (unhide K1) k2); clear B1 B2 k1 k2 z2 K1; have a0 := (unhide P1).cell (unhide H0); have a1 := (unhide P1).cell (unhide H1))
    | ((with_reducible refine b_store (t := 29) (k := 2) infoK _ _ rfl rfl w2.heap.size rfl [.string nm, .string vr] rfl rfl (by simp [Value.oneCell']) _ (unhide P2) ?_); intro w4 B4 o4 k4 z4; have K4 := hide (show Below w.heap.size w w4 from (unhide K2).trans (k4 _ (by omega))); have q0 := B4.cell (i := 0) rfl; have q1 := B4.cell (i := 1) rfl))
  exact bodyPost_ret (v := .agg #[.string nm, .string vr]) (by simp [results, Try.results17, go_sem, q0, q1]) rfl ⟨rfl, unhide K4⟩
set_option maxRecDepth 100000 in
theorem rkeyOf_any {w : World} {cs : List Value} {nm vr : Nm} (hl : cs.length = 44) (h1 : ∀ x ∈ cs, x.oneCell' = true) (c0 : cs[0]? = some (.string nm)) (c1 : cs[1]? = some (.string vr)) :
    Calls Try.prog 18 #[.agg cs.toArray] w fun e w' => e = .returned (.agg #[.string nm, .string vr]) ∧ Below w.heap.size w w' := by
  have HL := hide hl
  have HO := hide h1
  have H0 := hide c0
  have H1 := hide c1
  clear hl h1 c0 c1
  go_enter Try.func18, Try.ntmps18
  go_wp2_with (first
    | ((with_reducible refine b_box (t := 47) (k := 44) cs (unhide HL) (unhide HO) _ rfl rfl rfl ?_); intro w2 B1 k1 z1; have K1 := hide k1)
    | ((with_reducible refine b_alloc (t := 29) (k := 2) zeroK rfl rfl ?_); intro w3 B2 k2 z2; have P1 := hide (B1.later k2); have P2 := hide B2; have K2 := hide (bl_t (unhide K1) k2); clear B1 B2 k1 k2 z2 K1; have a0 := (unhide P1).cell (unhide H0); have a1 := (unhide P1).cell (unhide H1))
    | ((with_reducible refine b_store (t := 29) (k := 2) infoK _ _ rfl rfl w2.heap.size rfl [.string nm, .string vr] rfl rfl (by simp [Value.oneCell']) _ (unhide P2) ?_); intro w4 B4 o4 k4 z4; have K4 := hide (show Below w.heap.size w w4 from (unhide K2).trans (k4 _ (by omega))); have q0 := B4.cell (i := 0) rfl; have q1 := B4.cell (i := 1) rfl))
  exact bodyPost_ret (v := .agg #[.string nm, .string vr]) (by simp [results, Try.results18, go_sem, q0, q1]) rfl ⟨rfl, unhide K4⟩

theorem pth_eq {r : List Value} {s : Nm} (h : r[0]? = some (.string s)) : pth r = s := by unfold pth; rw [h]
set_option maxRecDepth 100000 in
theorem owner1_any {w : World} {Bp : Nat} {r : List Value} {p : Nm} (hr : isT 49 34 r) (hp : w.cell? ⟨Bp, 0, none⟩ = some (.string p)) :
    Calls Try.prog 16 #[.agg r.toArray, .pointer (some ⟨Bp, 0, none⟩)] w fun e w' => e = .returned (.bool (decide (pth r = p))) ∧ Below w.heap.size w w' := by
  obtain ⟨s, hs⟩ := hr.path
  have HL := hide hr.1
  have HO := hide hr.2.2
  have H0 := hide hs
  have e0 := ba_if s p
  rw [pth_eq hs]
  have HP := hide hp
  clear hr hs hp
  go_enter Try.func16, Try.ntmps16
  go_wp2_with (first
    | ((with_reducible refine b_box (t := 49) (k := 34) r (unhide HL) (unhide HO) _ rfl rfl rfl ?_); intro w2 B1 k1 z1; have K1 := hide k1; have a0 := B1.cell (unhide H0); have a1 := cell_later (unhide HP) k1; clear B1 k1 z1))
  go_ret
  exact ⟨rfl, unhide K1⟩
set_option maxRecDepth 100000 in
set_option maxHeartbeats 4000000 in
theorem indexFunc_any {w : World} {Bp : Nat} {v : Value} {fl : List (List Value)} {p : Nm} (h : Rws 49 34 w v fl) (hl : fl.length ≤ 2513169434843) (hp : w.cell? ⟨Bp, 0, none⟩ = some (.string p)) :
    Calls Try.prog 23 #[v, .func (.func 16) #[] #[.pointer (some ⟨Bp, 0, none⟩)]] w fun e w' => ∃ r : Int, e = .returned (.int .i64 r) ∧ (0 ≤ r ↔ hasP p fl = true) ∧ Below w.heap.size w w' := by
  obtain ⟨a, c, rfl⟩ := h.form
  have HC := hide (show ∀ k (hk : k < fl.length) U, Below w.heap.size w U → ∃ b o, a = some ⟨b, o, none⟩ ∧ (fl[k]).length = 34 ∧ U.rangeAt b (o + k * 34) fl[k] ∧ Calls Try.prog 16 #[.agg (fl[k]).toArray, .pointer (some ⟨Bp, 0, none⟩)] U fun e w' => e = .returned (.bool (decide (pth fl[k] = p))) ∧ Below U.heap.size U w' from fun k hk U hU => by
    obtain ⟨b, o, e, l, hok, hr⟩ := h.at hk
    exact ⟨b, o, e, hok.1, rangeAt_later hr l hU, owner1_any hok (cell_later hp hU)⟩)
  obtain ⟨N, hN⟩ : ∃ N, fl.length = N := ⟨_, rfl⟩
  have HN := hide hN
  rw [hN] at hl ⊢
  clear h hp hN
  go_enter Try.func23, Try.ntmps23
  go_wp2_with fail
  go_loopg [5, 8] N (fun gq _ iv wr => ∃ k : Nat, iv = .int .i64 k ∧ k ≤ N ∧ N - k ≤ gq ∧ Hid (Below w.heap.size w wr) ∧ Hid (∀ j (hj : j < fl.length), j < k → pth fl[j] ≠ p))
  case atStart => exact ⟨0, by go_num, by omega, by omega, hide (Below.refl _ _), hide fun j _ h => absurd h (Nat.not_lt_zero _)⟩
  case round =>
    obtain ⟨k, rfl, hk, hg, HB, HZ⟩ := hrel
    by_cases hlt : k < N
    · have hin : (k : Int) < (N : Int) := by omega
      have hkl : k < fl.length := by have := unhide HN; omega
      obtain ⟨b, o, rfl, hlen, hr, hc⟩ := unhide HC k hkl wr (unhide HB)
      have HM := hide (show fl[k] ∈ fl from List.getElem_mem _)
      have HZ2 := hide (show pth fl[k] ≠ p → ∀ j (hj : j < fl.length), j < k + 1 → pth fl[j] ≠ p from fun hn j hj hjk => by
        by_cases e : j = k
        · subst e; exact hn
        · exact unhide HZ j hj (by omega))
      generalize fl[k] = r at *
      have HR := hide hr
      have hcc := hide hc
      clear hr hc HC HZ
      by_cases hf : pth r = p
      · rw [decide_eq_true hf] at hcc
        have HA := hide (show hasP p fl = true from List.any_eq_true.2 ⟨r, unhide HM, decide_eq_true hf⟩)
        clear hf HZ2
        go_wp2_with (first
          | ((with_reducible refine m_load (t := 49) (k := 34) Try.underlying49 rfl infoF _ rfl rfl b (o + k * 34) rfl r (unhide HR) hlen ?_))
          | (refine (unhide hcc).mono ?_; rintro e w1 ⟨rfl, hb1⟩; have HB1 := hide (bl_t (unhide HB) hb1); clear hb1))
        go_ret
        exact ⟨k, rfl, ⟨fun _ => unhide HA, fun _ => by omega⟩, unhide HB1⟩
      · rw [decide_eq_false hf] at hcc
        have HZ3 := hide (unhide HZ2 hf)
        clear hf HZ2
        go_wp2_with (first
          | ((with_reducible refine m_load (t := 49) (k := 34) Try.underlying49 rfl infoF _ rfl rfl b (o + k * 34) rfl r (unhide HR) hlen ?_))
          | (refine (unhide hcc).mono ?_; rintro e w1 ⟨rfl, hb1⟩; have HB1 := hide (bl_t (unhide HB) hb1); clear hb1))
        go_roundg (N - (k + 1))
        case measure => omega
        case rel => exact ⟨k + 1, by go_num, by omega, by omega, HB1, HZ3⟩
    · obtain rfl : k = N := by omega
      have HA := hide (show hasP p fl = false from List.any_eq_false.2 fun r hr => by
        obtain ⟨j, hj, rfl⟩ := List.getElem_of_mem hr
        simpa using unhide HZ j hj (by have := unhide HN; omega))
      clear HZ
      go_wp2_with fail
      go_ret
      exact ⟨-1, rfl, ⟨fun h => by omega, fun h => by rw [unhide HA] at h; cases h⟩, unhide HB⟩
set_option maxHeartbeats 4000000 in
theorem containsFunc_any {w : World} {Bp : Nat} {v : Value} {fl : List (List Value)} {p : Nm} (h : Rws 49 34 w v fl) (hl : fl.length ≤ 2513169434843) (hp : w.cell? ⟨Bp, 0, none⟩ = some (.string p)) :
    Calls Try.prog 15 #[v, .func (.func 16) #[] #[.pointer (some ⟨Bp, 0, none⟩)]] w fun e w' => e = .returned (.bool (hasP p fl)) ∧ Below w.heap.size w w' := by
  have c1 := hide (indexFunc_any h hl hp)
  clear h hl hp
  go_enter Try.func15, Try.ntmps15
  go_wp2_with (go_at_call 23; refine (unhide c1).mono ?_; rintro e w' ⟨r, rfl, hr, hb⟩; have HR := hide (And.intro hr hb); clear hr hb)
  go_ret
  refine ⟨?_, (unhide HR).2⟩
  have := (unhide HR).1
  by_cases h0 : 0 ≤ r
  · rw [this.1 h0]; simp [h0]
  · rw [Bool.eq_false_iff.2 fun h => h0 (this.2 h)]; simp [h0]
end Go.Proofs.Ytodlmbhlinpoeaa
