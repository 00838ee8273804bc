import Derived.Test.YtjlgfljfokmemaaDoorTcB
namespace Go.Proofs.YtjlgfljfokmemaaDoor
open Go.RowKit Go.Maps Go.Shelf

set_option maxRecDepth 100000 in
set_option maxHeartbeats 2000000 in
theorem stillSteps_any (ws : List Stp) (B c : Nat) (u : Value) (w : World) (hk : Sk w B ws) (hc : ws.length + 1 ≤ c) (hn : ws.length ≤ 3518437208883) (h : Sps w u ws) :
    Calls Tryd.prog 17 #[.slice (some ⟨B, 0, none⟩) ws.length c, u] w fun e w' => e = .returned (.bool true) ∧ Below w.heap.size w w' := by
  obtain ⟨va, vc, rfl⟩ := h.shape
  have c1 := hide (sameSteps_any ws ws (.slice (some ⟨B, 0, none⟩) ws.length c) (.slice va ws.length vc) w (hk.sps (by omega)) h)
  rw [eqL_self] at c1
  have HK := hide hk
  obtain ⟨N, hN⟩ : ∃ N, ws.length = N := ⟨_, rfl⟩
  rw [hN] at c1 hc hn ⊢
  clear hk h
  go_enter Tryd.func17, Tryd.ntmps17
  go_wp2_with fail
  refine (unhide c1).mono ?_
  rintro e w1 ⟨rfl, hb⟩
  have hm : w1.cell? ⟨B, N * 3, none⟩ = some (.int .i64 77) := by rw [← hN]; exact ((unhide HK).later hb).mrk
  have HB := hide hb
  have j1 : (N : Int) + 1 ≤ (c : Int) := by omega
  have j2 : (0 : Int) ≤ (N : Int) + 1 := by omega
  clear hb
  go_wp2_with fail
  go_ret
  exact ⟨rfl, unhide HB⟩

/-- The kind of a name. -/
def kd (s : ByteArray) : Int := (prs s).2.2.2
theorem kindOf_any (s : ByteArray) (w : World) (hs : s.size ≤ 281474976710656) (hg : Glob w) :
    Calls Tryd.prog 34 #[.string s] w fun e w' => e = .returned (.int .i64 (kd s)) ∧ Below w.heap.size w w' := by
  have c1 := hide (Parse_any s w hs hg)
  unfold kd
  generalize prs s = p at *
  obtain ⟨p1, p2, p3, p4⟩ := p
  simp only at c1
  clear hg
  go_enter Tryd.func34, Tryd.ntmps34
  go_wp2_with fail
  refine (unhide c1).mono ?_
  rintro e w1 ⟨rfl, hb⟩
  have HB := hide hb
  clear hb
  go_wp2_with fail
  go_ret
  exact ⟨rfl, unhide HB⟩

/-- Whether a step may be. -/
def mb (x : Stp) : Bool := if x.k = 1 then decide (kd x.f = 2) && decide (kd x.t = 1) else if x.k = 2 then decide (x.f.toList = []) && decide (kd x.t = 1) else false
/-- What the steps' names are good for. -/
def SpOk (x : Stp) : Prop := x.f.size ≤ 281474976710656 ∧ x.t.size ≤ 281474976710656

set_option maxRecDepth 100000 in
set_option maxHeartbeats 2000000 in
theorem mayBe_any (x : Stp) (w : World) (hx : SpOk x) (hg : Glob w) :
    Calls Tryd.prog 26 #[.agg #[.int .i64 x.k, .string x.f, .string x.t]] w fun e w' => e = .returned (.bool (mb x)) ∧ Below w.heap.size w w' := by
  have c1 := hide (fun w hg => kindOf_any x.f w hx.1 hg)
  have c2 := hide (fun w hg => kindOf_any x.t w hx.2 hg)
  have HG := hide hg
  have e0 : mb x = if x.k = 1 then decide (kd x.f = 2) && decide (kd x.t = 1) else if x.k = 2 then decide (x.f.toList = []) && decide (kd x.t = 1) else false := rfl
  rw [e0]
  clear e0 hg hx
  generalize kd x.f = a at *
  generalize kd x.t = b at *
  obtain ⟨k, f, t⟩ := x
  simp only at c1 c2 ⊢
  have HA := hide ((Below.refl w.heap.size w).alloc (Nat.le_refl _) (.cells #[.int .i64 k, .string f, .string t] 41))
  by_cases h1 : k = 1
  · subst h1
    rw [if_pos rfl]
    by_cases ha : a = 2
    · have hab : (a == 2) = true := by rw [ha]; rfl
      rw [show decide (a = 2) = true by simp [ha], Bool.true_and]
      go_enter Tryd.func26, Tryd.ntmps26
      go_wp2_with fail
      refine (unhide c1 _ ((unhide HG).later (unhide HA))).mono ?_
      rintro e w1 ⟨rfl, hb⟩
      have z2 : w1.cell? ⟨w.heap.size, 2, none⟩ = some (.string t) := by
        rw [hb.cell (p := ⟨w.heap.size, 2, none⟩) (by simp)]
        rw [World.cell?_alloc_at _ _ _ _ rfl]
        rfl
      have HB := hide (bl_t (unhide HA) hb)
      clear hb
      go_wp2_with fail
      refine (unhide c2 _ ((unhide HG).later (unhide HB))).mono ?_
      rintro e w2 ⟨rfl, hb⟩
      have HB2 := hide (bl_t (unhide HB) hb)
      clear hb
      by_cases hbb : b = 1
      · have hb1 : (b == 1) = true := by rw [hbb]; rfl
        go_wp2_with fail
        go_ret
        exact ⟨ret_bool (by simp [hbb]), unhide HB2⟩
      · have hb1 : (b == 1) = false := beq_eq_false_iff_ne.2 hbb
        go_wp2_with fail
        go_ret
        exact ⟨ret_bool (by simp [hbb]), unhide HB2⟩
    · have hab : (a == 2) = false := beq_eq_false_iff_ne.2 ha
      rw [show decide (a = 2) = false by simp [ha], Bool.false_and]
      go_enter Tryd.func26, Tryd.ntmps26
      go_wp2_with fail
      refine (unhide c1 _ ((unhide HG).later (unhide HA))).mono ?_
      rintro e w1 ⟨rfl, hb⟩
      have HB := hide (bl_t (unhide HA) hb)
      clear hb
      go_wp2_with fail
      go_ret
      exact ⟨rfl, unhide HB⟩
  · rw [if_neg h1]
    have h1b : (k == 1) = false := beq_eq_false_iff_ne.2 h1
    by_cases h2 : k = 2
    · subst h2
      rw [if_pos rfl]
      by_cases hf : f.toList = []
      · have hfb : (f.toList == []) = true := by rw [hf]; rfl
        rw [show decide (f.toList = []) = true by simp [hf], Bool.true_and]
        go_enter Tryd.func26, Tryd.ntmps26
        go_wp2_with fail
        refine (unhide c2 _ ((unhide HG).later (unhide HA))).mono ?_
        rintro e w2 ⟨rfl, hb⟩
        have HB2 := hide (bl_t (unhide HA) hb)
        clear hb
        by_cases hbb : b = 1
        · have hb1 : (b == 1) = true := by rw [hbb]; rfl
          go_wp2_with fail
          go_ret
          exact ⟨ret_bool (by simp [hbb]), unhide HB2⟩
        · have hb1 : (b == 1) = false := beq_eq_false_iff_ne.2 hbb
          go_wp2_with fail
          go_ret
          exact ⟨ret_bool (by simp [hbb]), unhide HB2⟩
      · have hfb : (f.toList == []) = false := beq_eq_false_iff_ne.2 hf
        rw [show decide (f.toList = []) = false by simp [hf], Bool.false_and]
        go_enter Tryd.func26, Tryd.ntmps26
        go_wp2_with fail
        go_ret
        exact ⟨rfl, unhide HA⟩
    · rw [if_neg h2]
      have h2b : (k == 2) = false := beq_eq_false_iff_ne.2 h2
      go_enter Tryd.func26, Tryd.ntmps26
      go_wp2_with fail
      go_ret
      exact ⟨rfl, unhide HA⟩

end Go.Proofs.YtjlgfljfokmemaaDoor
