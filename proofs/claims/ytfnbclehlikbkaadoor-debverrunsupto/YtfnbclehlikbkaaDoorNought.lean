import Derived.Test.YtfnbclehlikbkaaDoorRef6
namespace Go.Proofs.YtfnbclehlikbkaaDoor
open Go.RowKit

def pD (dg : Bool) (c : UInt8) : Bool := isDig (c.toNat : Int) == dg

/-- WHAT IS LEFT OF A PART BEHIND n RUNS. -/
def remL : Nat → List UInt8 → List UInt8
  | 0, l => l
  | n + 1, l => (remL n l).dropWhile (pD (odd n))
def runL (n : Nat) (l : List UInt8) : List UInt8 := (remL n l).takeWhile (pD (odd n))

theorem drop_ia (s : ByteArray) : ∀ n, s.data.toList.drop (ia s n) = remL n s.data.toList
  | 0 => rfl
  | n + 1 => by
    have ih := drop_ia s n
    have e : ia s (n + 1) = ia s n + ((s.data.toList.drop (ia s n)).takeWhile (pD (odd n))).length := rfl
    have e2 : remL (n + 1) s.data.toList = (remL n s.data.toList).dropWhile (pD (odd n)) := rfl
    rw [e, e2, ← List.drop_drop, ih, dropWhile_eq]

theorem runOf_list (s : ByteArray) (n : Nat) : (runOf s n).data.toList = runL n s.data.toList := by
  unfold runOf runL
  rw [toList_ext, ← drop_ia]
  have e : ia s (n + 1) - ia s n = ((s.data.toList.drop (ia s n)).takeWhile (pD (odd n))).length := by
    have : ia s (n + 1) = ia s n + ((s.data.toList.drop (ia s n)).takeWhile (pD (odd n))).length := rfl
    omega
  rw [e, take_takeWhile]

theorem ba_of_list {a b : ByteArray} (h : a.data.toList = b.data.toList) : a = b := by
  apply ByteArray.ext
  apply Array.ext'
  exact h

theorem cp_same (a b : ByteArray) (n : Nat) (h : runL n a.data.toList = runL n b.data.toList) : cp a b n = 0 := by
  have e : runOf a n = runOf b n := ba_of_list (by rw [runOf_list, runOf_list, h])
  unfold cp
  rw [e]
  split
  · exact ordNum_refl _
  · exact ordWord_refl _

/-- A NOUGHT AHEAD OF EACH RUN OF DIGITS. -/
def nUL : Bool → List UInt8 → List UInt8
  | _, [] => []
  | pd, c :: l => (if (isDig (c.toNat : Int) && !pd) = true then [48] else []) ++ c :: nUL (isDig (c.toNat : Int)) l

theorem nUL_word : ∀ l, (nUL false l).takeWhile (pD false) = l.takeWhile (pD false) ∧ (nUL false l).dropWhile (pD false) = nUL false (l.dropWhile (pD false))
  | [] => ⟨rfl, rfl⟩
  | c :: l => by
    cases h : isDig (c.toNat : Int)
    · have ih := nUL_word l
      have e : nUL false (c :: l) = c :: nUL false l := by show (if (isDig (c.toNat : Int) && !false) = true then _ else _) ++ c :: nUL (isDig (c.toNat : Int)) l = _; rw [h]; rfl
      have p : pD false c = true := by unfold pD; rw [h]; rfl
      rw [e, List.takeWhile_cons, if_pos p, List.dropWhile_cons, if_pos p, List.takeWhile_cons, if_pos p, List.dropWhile_cons, if_pos p, ih.1, ih.2]
      exact ⟨rfl, rfl⟩
    · have e : nUL false (c :: l) = 48 :: c :: nUL true l := by show (if (isDig (c.toNat : Int) && !false) = true then _ else _) ++ c :: nUL (isDig (c.toNat : Int)) l = _; rw [h]; rfl
      have p : ¬ pD false c = true := by unfold pD; rw [h]; decide
      rw [List.takeWhile_cons, if_neg p, List.dropWhile_cons, if_neg p, e]
      exact ⟨rfl, rfl⟩

theorem nUL_num : ∀ l, (nUL true l).takeWhile (pD true) = l.takeWhile (pD true) ∧ (nUL true l).dropWhile (pD true) = nUL false (l.dropWhile (pD true))
  | [] => ⟨rfl, rfl⟩
  | c :: l => by
    cases h : isDig (c.toNat : Int)
    · have e : nUL true (c :: l) = c :: nUL false l := by show (if (isDig (c.toNat : Int) && !true) = true then _ else _) ++ c :: nUL (isDig (c.toNat : Int)) l = _; rw [h]; rfl
      have e2 : nUL false (c :: l) = c :: nUL false l := by show (if (isDig (c.toNat : Int) && !false) = true then _ else _) ++ c :: nUL (isDig (c.toNat : Int)) l = _; rw [h]; rfl
      have p : ¬ pD true c = true := by unfold pD; rw [h]; decide
      rw [e, List.takeWhile_cons, if_neg p, List.dropWhile_cons, if_neg p, List.takeWhile_cons, if_neg p, List.dropWhile_cons, if_neg p, e2]
      exact ⟨rfl, rfl⟩
    · have ih := nUL_num l
      have e : nUL true (c :: l) = c :: nUL true l := by show (if (isDig (c.toNat : Int) && !true) = true then _ else _) ++ c :: nUL (isDig (c.toNat : Int)) l = _; rw [h]; rfl
      have p : pD true c = true := by unfold pD; rw [h]; rfl
      rw [e, List.takeWhile_cons, if_pos p, List.dropWhile_cons, if_pos p, List.takeWhile_cons, if_pos p, List.dropWhile_cons, if_pos p, ih.1, ih.2]
      exact ⟨rfl, rfl⟩

/-- THE NUMBER RUN OF A NOUGHTED TEXT. -/
theorem nUL_num0 (l : List UInt8) : ((nUL false l).takeWhile (pD true) = l.takeWhile (pD true) ∨ (nUL false l).takeWhile (pD true) = 48 :: l.takeWhile (pD true)) ∧ (nUL false l).dropWhile (pD true) = nUL false (l.dropWhile (pD true)) := by
  cases l with
  | nil => exact ⟨.inl rfl, rfl⟩
  | cons c l =>
    cases h : isDig (c.toNat : Int)
    · have e : nUL false (c :: l) = c :: nUL false l := by show (if (isDig (c.toNat : Int) && !false) = true then _ else _) ++ c :: nUL (isDig (c.toNat : Int)) l = _; rw [h]; rfl
      have p : ¬ pD true c = true := by unfold pD; rw [h]; decide
      have d1 : (c :: nUL false l).dropWhile (pD true) = c :: nUL false l := by rw [List.dropWhile_cons, if_neg p]
      have d2 : (c :: l).dropWhile (pD true) = c :: l := by rw [List.dropWhile_cons, if_neg p]
      have t1 : (c :: nUL false l).takeWhile (pD true) = [] := by rw [List.takeWhile_cons, if_neg p]
      have t2 : (c :: l).takeWhile (pD true) = [] := by rw [List.takeWhile_cons, if_neg p]
      rw [e, t1, t2, d1, d2, e]
      exact ⟨.inl rfl, rfl⟩
    · have ih := nUL_num l
      have e : nUL false (c :: l) = 48 :: c :: nUL true l := by show (if (isDig (c.toNat : Int) && !false) = true then _ else _) ++ c :: nUL (isDig (c.toNat : Int)) l = _; rw [h]; rfl
      have p : pD true c = true := by unfold pD; rw [h]; rfl
      have q : pD true 48 = true := by decide
      rw [e, List.takeWhile_cons, if_pos q, List.takeWhile_cons, if_pos p, List.dropWhile_cons, if_pos q, List.dropWhile_cons, if_pos p, List.takeWhile_cons, if_pos p, List.dropWhile_cons, if_pos p, ih.1, ih.2]
      exact ⟨.inr rfl, rfl⟩

theorem remL_nought (l : List UInt8) : ∀ n, remL n (nUL false l) = nUL false (remL n l)
  | 0 => rfl
  | n + 1 => by
    show (remL n (nUL false l)).dropWhile (pD (odd n)) = nUL false ((remL n l).dropWhile (pD (odd n)))
    rw [remL_nought l n]
    cases odd n
    · exact (nUL_word _).2
    · exact (nUL_num0 _).2

theorem strip_zero (a b : ByteArray) (h : b.data.toList = 48 :: a.data.toList) : stripB b = stripB a := by
  refine eq_stripB ?_
  show (trim b) = trim a
  unfold trim
  rw [h, List.dropWhile_cons, if_pos (by decide)]

theorem ordNum_strip (a b : ByteArray) (h : stripB b = stripB a) : ordNum a b = 0 := by
  unfold ordNum
  rw [h, ci_refl, if_pos rfl, cs_refl]

/-- NOUGHTS CHANGE NOTHING. -/
theorem ordPart_nought (u x : ByteArray) (h : x.data.toList = nUL false u.data.toList) : ordPart u x = 0 := by
  unfold ordPart
  rw [sq_zero]
  intro n _
  cases ho : odd n
  · apply cp_same
    unfold runL
    rw [h, remL_nought, ho]
    exact (nUL_word _).1.symm
  · have hr : runL n x.data.toList = runL n u.data.toList ∨ runL n x.data.toList = 48 :: runL n u.data.toList := by
      unfold runL
      rw [h, remL_nought, ho]
      exact (nUL_num0 _).1
    rcases hr with hr | hr
    · exact cp_same u x n hr.symm
    · unfold cp
      rw [if_pos ho]
      exact ordNum_strip _ _ (strip_zero _ _ (by rw [runOf_list, runOf_list, hr]))

theorem tw_snoc (p : UInt8 → Bool) (c : UInt8) : ∀ l, (l.dropWhile p ≠ [] → (l ++ [c]).takeWhile p = l.takeWhile p ∧ (l ++ [c]).dropWhile p = l.dropWhile p ++ [c]) ∧ (l.dropWhile p = [] → l.takeWhile p = l ∧ (p c = true → (l ++ [c]).takeWhile p = l ++ [c]) ∧ (p c = false → (l ++ [c]).takeWhile p = l ∧ (l ++ [c]).dropWhile p = [c]))
  | [] => by
    refine ⟨fun h => absurd rfl h, fun _ => ⟨rfl, fun h => ?_, fun h => ?_⟩⟩
    · show [c].takeWhile p = [c]; rw [List.takeWhile_cons, if_pos h]; rfl
    · have h' : ¬ p c = true := by rw [h]; decide
      exact ⟨by show [c].takeWhile p = []; rw [List.takeWhile_cons, if_neg h'], by show [c].dropWhile p = [c]; rw [List.dropWhile_cons, if_neg h']⟩
  | a :: l => by
    have ih := tw_snoc p c l
    cases h : p a
    · have h' : ¬ p a = true := by rw [h]; decide
      have d : (a :: l).dropWhile p = a :: l := by rw [List.dropWhile_cons, if_neg h']
      refine ⟨fun _ => ?_, fun e => by rw [d] at e; cases e⟩
      rw [d, List.cons_append, List.takeWhile_cons, if_neg h', List.dropWhile_cons, if_neg h', List.takeWhile_cons, if_neg h']
      exact ⟨rfl, rfl⟩
    · have d : (a :: l).dropWhile p = l.dropWhile p := by rw [List.dropWhile_cons, if_pos h]
      have d2 : (a :: l ++ [c]).dropWhile p = (l ++ [c]).dropWhile p := by rw [List.cons_append, List.dropWhile_cons, if_pos h]
      have t : (a :: l).takeWhile p = a :: l.takeWhile p := by rw [List.takeWhile_cons, if_pos h]
      have t2 : (a :: l ++ [c]).takeWhile p = a :: (l ++ [c]).takeWhile p := by rw [List.cons_append, List.takeWhile_cons, if_pos h]
      rw [d, d2, t, t2]
      refine ⟨fun e => ?_, fun e => ?_⟩
      · rw [(ih.1 e).1, (ih.1 e).2]; exact ⟨rfl, rfl⟩
      · obtain ⟨h1, h2, h3⟩ := ih.2 e
        refine ⟨by rw [h1], fun k => by rw [h2 k]; rfl, fun k => ?_⟩
        rw [(h3 k).1, (h3 k).2]; exact ⟨rfl, rfl⟩

/-- WHERE A BYTE MORE THAT IS NO DIGIT TELLS. -/
theorem snoc_at (u : List UInt8) (c : UInt8) (hc : isDig (c.toNat : Int) = false) (N : Nat) (hN : odd N = false) (hdone : remL N u = []) :
    ∀ k n, n + k = N → remL n (u ++ [c]) = remL n u ++ [c] → ∃ t, n ≤ t ∧ odd t = false ∧ (∀ i, n ≤ i → i < t → runL i (u ++ [c]) = runL i u) ∧ runL t (u ++ [c]) = runL t u ++ [c]
  | 0, n, hn, hr => by
    have e : n = N := by omega
    subst e
    refine ⟨n, Nat.le_refl _, hN, fun i h1 h2 => by omega, ?_⟩
    unfold runL
    rw [hr, hdone, hN]
    show [c].takeWhile (pD false) = [] ++ [c]
    rw [List.takeWhile_cons, if_pos (by unfold pD; rw [hc]; rfl)]
    rfl
  | k + 1, n, hn, hr => by
    have tw := tw_snoc (pD (odd n)) c (remL n u)
    have step : runL n (u ++ [c]) = runL n u → remL (n + 1) (u ++ [c]) = remL (n + 1) u ++ [c] → ∃ t, n ≤ t ∧ odd t = false ∧ (∀ i, n ≤ i → i < t → runL i (u ++ [c]) = runL i u) ∧ runL t (u ++ [c]) = runL t u ++ [c] := by
      intro h1 h2
      obtain ⟨t, a1, a2, a3, a4⟩ := snoc_at u c hc N hN hdone k (n + 1) (by omega) h2
      refine ⟨t, by omega, a2, fun i b1 b2 => ?_, a4⟩
      by_cases e : i = n
      · rw [e]; exact h1
      · exact a3 i (by omega) b2
    by_cases hd : (remL n u).dropWhile (pD (odd n)) = []
    · obtain ⟨t1, t2, t3⟩ := tw.2 hd
      cases ho : odd n
      · rw [ho] at t1 t2
        refine ⟨n, Nat.le_refl _, ho, fun i h1 h2 => by omega, ?_⟩
        unfold runL
        rw [hr, ho, t1]
        exact t2 (by unfold pD; rw [hc]; rfl)
      · have pc : pD (odd n) c = false := by unfold pD; rw [hc, ho]; rfl
        obtain ⟨s1, s2⟩ := t3 pc
        refine step ?_ ?_
        · unfold runL; rw [hr, s1, t1]
        · show (remL n (u ++ [c])).dropWhile (pD (odd n)) = (remL n u).dropWhile (pD (odd n)) ++ [c]
          rw [hr, s2, hd]; rfl
    · obtain ⟨s1, s2⟩ := tw.1 hd
      refine step ?_ ?_
      · unfold runL; rw [hr, s1]
      · show (remL n (u ++ [c])).dropWhile (pD (odd n)) = (remL n u).dropWhile (pD (odd n)) ++ [c]
        rw [hr, s2]

theorem odd_double (m : Nat) : odd (2 * m) = false := odd_two m

theorem rkAt_list {s : ByteArray} {l : List UInt8} (h : s.data.toList = l) (i : Nat) : rkAt s i = match l[i]? with | some c => rk (c.toNat : Int) | none => 1 := by
  subst h
  unfold rkAt
  by_cases hi : i < s.size
  · have h' : i < s.data.toList.length := by simpa using hi
    rw [dif_pos hi, List.getElem?_eq_getElem h']
    rfl
  · have h' : s.data.toList.length ≤ i := by simpa using hi
    rw [dif_neg hi, List.getElem?_eq_none h']

/-- A PART AND ITSELF WITH A BYTE MORE THAT IS NO DIGIT. -/
theorem ordPart_snoc (u x : ByteArray) (c : UInt8) (hc : isDig (c.toNat : Int) = false) (h : x.data.toList = u.data.toList ++ [c]) : ordPart x u = ci (rk (c.toNat : Int)) 1 := by
  have hdone : remL (2 * u.size) u.data.toList = [] := by
    rw [← drop_ia, ia_done u _ (Nat.le_refl _)]
    exact List.drop_eq_nil_of_le (by simp)
  obtain ⟨t, _, ht, heq, hlast⟩ := snoc_at u.data.toList c hc (2 * u.size) (odd_two _) hdone (2 * u.size) 0 (by omega) rfl
  have h0 : sq (cp x u) t = 0 := by
    rw [sq_zero]
    intro i hi
    apply cp_same
    rw [h]
    exact heq i (Nat.zero_le _) hi
  have hx : (runOf x t).data.toList = runL t u.data.toList ++ [c] := by rw [runOf_list, h, hlast]
  have hu : (runOf u t).data.toList = runL t u.data.toList := runOf_list u t
  generalize runL t u.data.toList = r at hx hu
  have hsz1 : (runOf x t).size = r.length + 1 := by have : (runOf x t).data.toList.length = (runOf x t).size := by simp
                                                    rw [← this, hx]; simp
  have hsz2 : (runOf u t).size = r.length := by have : (runOf u t).data.toList.length = (runOf u t).size := by simp
                                                rw [← this, hu]
  have hcp : cp x u t = ci (rk (c.toNat : Int)) 1 := by
    unfold cp
    rw [if_neg (by rw [ht]; decide)]
    unfold ordWord
    have hk : cw (runOf x t) (runOf u t) r.length = ci (rk (c.toNat : Int)) 1 := by
      unfold cw
      rw [rkAt_list hx, rkAt_list hu]
      simp
    have hne : ci (rk (c.toNat : Int)) 1 ≠ 0 := by
      have h1 := rk_ne_one (c.toNat : Int) (by omega)
      unfold ci
      split
      · decide
      · split
        · decide
        · omega
    rw [sq_hit _ r.length _ ?_ (by rw [hk]; exact hne) (by omega), hk]
    rw [sq_zero]
    intro i hi
    unfold cw
    rw [rkAt_list hx, rkAt_list hu, List.getElem?_append_left hi]
    exact ci_refl _
  have hne : cp x u t ≠ 0 := by
    rw [hcp]
    have h1 := rk_ne_one (c.toNat : Int) (by omega)
    unfold ci
    split
    · decide
    · split
      · decide
      · omega
  have h1 : sq (cp x u) (t + 1) = cp x u t := by
    show (if sq (cp x u) t = 0 then _ else _) = _
    rw [if_pos h0]
  rw [ordPart_stop x u (t + 1) (by rw [h1]; exact hne), h1, hcp]

end Go.Proofs.YtfnbclehlikbkaaDoor
