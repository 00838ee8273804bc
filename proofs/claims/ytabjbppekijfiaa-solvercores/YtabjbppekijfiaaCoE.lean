import Derived.Test.YtabjbppekijfiaaCoD
namespace Go.Proofs.Ytabjbppekijfiaa
open Go.RowKit

theorem Fo.verdict {P : Pb} {B : Nat} {w w' : World} {x : Ending} (h : Fo P B w x w') : ∃ v tr S ga gl gc, Rs P B v tr S ∧ x = .returned (.agg #[.int .i64 v, .slice ga gl gc, .int .i64 (S : Int)]) ∧ Below w.heap.size w w' := by
  obtain ⟨v, tr, S, vv, h1, h2, h3, ⟨_, e⟩ | ⟨_, g, e, _⟩⟩ := h
  · subst e; exact ⟨v, tr, S, _, _, _, h1, h2, h3⟩
  · subst e; exact ⟨v, tr, S, _, _, _, h1, h2, h3⟩
set_option maxRecDepth 100000 in
theorem field0 (v S : Int) (ga : Option Addr) (gl gc : Nat) (u : World) : (Instr.field 29 (.agg #[.int .i64 v, .slice ga gl gc, .int .i64 S]) 0).run Try.prog u = .ok (.int .i64 v) u := by
  kernel_rfl
/-- ALL THE PASSES: WHAT IS LEFT. -/
def Cg (n N B : Nat) (ln : Nat → Nat) (L : Nat → Nat → Int) (p : List Int) : Prop := Cf n N B ln L p ∧ p = cf n ln L B (N + 1) (p0 N)
/-- BETWEEN THE PASSES. -/
structure Ob (n N B : Nat) (ln : Nat → Nat) (L : Nat → Nat → Int) (p : List Int) (nd : Nat → Bool) (fw : Bool) : Prop where
  cs : Cs N ln L p
  nd : ∀ x : Nat, nd x = true → Ha ln L p (x : Int)
  fin : fw = false → Cf n N B ln L p
  eq : ∃ r, p.length < r ∧ cf n ln L B r p = cf n ln L B (N + 1) (p0 N)
  fin2 : fw = false → p = cf n ln L B (N + 1) (p0 N)
theorem Is.over {n N B : Nat} {ln : Nat → Nat} {L : Nat → Nat → Int} {q p T : List Int} {nd : Nat → Bool} {fw : Bool} (h : Is n N B ln L q q.length p nd fw) (hq : ∃ r, q.length < r ∧ cf n ln L B r q = T) : (∃ r, p.length < r ∧ cf n ln L B r p = T) ∧ (fw = false → p = T) := by
  obtain ⟨r, hr, e⟩ := hq
  obtain ⟨r', rfl⟩ : ∃ r', r = r' + 1 := ⟨r - 1, by omega⟩
  have he := h.eq
  cases fw with
  | false =>
    obtain ⟨e1, _⟩ := h.nof rfl
    subst e1
    refine ⟨⟨_, hr, e⟩, fun _ => ?_⟩
    rw [cf, if_pos (by rw [← he])] at e
    exact e
  | true =>
    have hl := h.yes rfl
    rw [cf, ← he, if_neg (by omega)] at e
    exact ⟨⟨r', by omega, e⟩, by intro q; cases q⟩
theorem Mw.cellT {g n : Nat} {f : Nat → Bool} {W : World} (h : Mw g n f W) {k : Nat} (hk : k < n) : W.cell? ⟨g, k, none⟩ = some (.bool (f k)) ∧ W.frozen? ⟨g, k, none⟩ = false := by
  obtain ⟨cur, h1, h2⟩ := h
  exact ⟨(cell_blk h1 k).1.trans (h2 k hk), (cell_blk h1 k).2⟩
theorem own_up {W : World} {b0 b1 e size n : Nat} {v : Value} {xs : List Value} (h : W.ownsRow b1 e size v n xs) (hb : b0 ≤ b1) : W.ownsRow b0 e size v n xs := by
  refine ⟨h.1, ?_⟩
  rcases h.2 with q | ⟨g, cap, cur, q1, q2, q3⟩
  · exact .inl q
  · exact .inr ⟨g, cap, cur, q1, Nat.le_trans hb q2, q3⟩
/-- How long a block of numbers is. -/
def Bs (g N : Nat) (W : World) : Prop := ∃ cur : Array Value, W.heap[g]? = some (.cells cur 3 (0, 0)) ∧ cur.size = N
theorem Bs.later {g N : Nat} {W W2 : World} (h : Bs g N W) (hb : Below W.heap.size W W2) : Bs g N W2 := by
  obtain ⟨cur, h1, h2⟩ := h
  exact ⟨cur, (hb.block _ (blk_lt h1)).trans h1, h2⟩
theorem Bs.set {g N : Nat} {W : World} (h : Bs g N W) (j : Nat) (u : Value) : Bs g N (W.setCell ⟨g, j, none⟩ u) := by
  obtain ⟨cur, h1, h2⟩ := h
  exact ⟨_, set_blk h1 j u, by simp [h2]⟩
theorem Bs.own {g N base : Nat} {W : World} (h : Bs g N W) (hm : Mv g N 3 (fun j => .int .i64 ((p0 N).getD j 0)) W) (hb : base ≤ g) (hN : N ≤ maxLen) : W.ownsRow base 3 1 (.slice (some ⟨g, 0, none⟩) N N) N (tV (p0 N)) := by
  obtain ⟨cur, h1, h2⟩ := h
  obtain ⟨cur2, q1, q2⟩ := hm
  rw [h1] at q1
  cases q1
  refine ⟨by simp [tV, p0], .inr ⟨g, N, cur, rfl, hb, h1, Nat.le_refl _, hN, by omega, ?_⟩⟩
  apply List.ext_getElem?
  intro i
  rw [Nat.mul_one, List.getElem?_take]
  by_cases hi : i < N
  · rw [if_pos hi, Array.getElem?_toList, q2 i hi, tV_at (p0 N) i (by rw [p0_len]; exact hi)]
    show some (Value.int .i64 ((p0 N).getD i 0)) = _
    rw [p0_at (N := N) hi]
    simp [p0]
  · rw [if_neg hi]
    symm
    rw [List.getElem?_eq_none_iff]
    simp [tV, p0]
    omega
set_option maxRecDepth 100000 in
set_option maxHeartbeats 4000000 in
theorem fewest_any {n N B : Nat} {ln : Nat → Nat} {L : Nat → Nat → Int} (ho : Oc n N ln L) (hno : ∀ v, ¬ ∀ k, k < N → clT v (ln k) (L k) = true) (hB : B ≤ 1152921504606846976) (hN : N * 24 ≤ 140737488351232) (hln : ∀ k, k < N → ln k ≤ 140737488355328) {ca : Option Addr} {cc : Nat} {w : World} (hR : Rr w ca N ln L) :
    Calls Try.prog 43 #[.int .i64 n, .slice ca N cc, .int .i64 B] w fun x w' => ∃ p la lc, x = .returned (.slice la p.length lc) ∧ Cg n N B ln L p ∧ Ri w' la p.length (fun j => p.getD j 0) ∧ Below w.heap.size w w' ∧ w'.ownsRow w.heap.size 3 1 (.slice la p.length lc) p.length (tV p) := by
  have mk := makeI N hN
  have HMT := hide (makeT N hN)
  have HO := hide ho
  have HNO := hide (p0_cs hno)
  have HLN := hide hln
  have HR := hide hR
  have hn1 := ho.le
  clear ho hno hln hR
  obtain ⟨W0, hW0⟩ : ∃ W, W = w.alloc (.cells (madeCells #[.int .i64 0] N) 3) := ⟨_, rfl⟩
  have HM0 := hide (show Mv w.heap.size N 3 (fun j => if j < 0 then Value.int .i64 (j : Int) else .int .i64 0) W0 from by rw [hW0]; exact ⟨_, heap_new _ _, fun k hk => by rw [made_at _ _ _ hk]; simp⟩)
  have HS0 := hide (show Bs w.heap.size N W0 from by rw [hW0]; exact ⟨_, heap_new _ _, by rw [← Array.length_toList, toList_madeCells_one]; simp⟩)
  have HB0 := hide (show Below w.heap.size w W0 from by rw [hW0]; exact (Below.refl w.heap.size w).alloc (Nat.le_refl _) _)
  go_enter Try.func43, Try.ntmps43
  go_wp2_with fail
  rw [← hW0]
  obtain ⟨g, hg⟩ : ∃ x, x = w.heap.size := ⟨_, rfl⟩
  rw [← hg]
  rw [← hg] at HM0 HS0
  have HG := hide (show w.heap.size ≤ g from by rw [hg]; exact Nat.le_refl _)
  clear hg hW0 mk
  go_loopg [8, 19] N (fun g1 _ vi wr => ∃ k : Nat, vi = .int .i64 k ∧ k ≤ N ∧ N - k ≤ g1 ∧ Hid (Mv g N 3 (fun j => if j < k then Value.int .i64 (j : Int) else .int .i64 0) wr) ∧ Hid (Below w.heap.size w wr) ∧ Hid (Bs g N wr))
  case atStart => exact ⟨0, by go_num, by omega, by omega, HM0, HB0, HS0⟩
  case round =>
    obtain ⟨k, rfl, hk, hg1, HM, HB, HS⟩ := hrel
    by_cases hlt : k < N
    · obtain ⟨z1, z2⟩ := (unhide HM).cell hlt
      simp only [Nat.lt_irrefl, if_false] at z1
      have HM2 := hide (((unhide HM).set hlt (Value.int .i64 (k : Int))).congr (G := fun j => if j < k + 1 then Value.int .i64 (j : Int) else .int .i64 0) (fun j hj => by
        by_cases e : j = k
        · subst e; simp
        · have : (j < k + 1) = (j < k) := by simp; omega
          simp only [e, this, if_false]))
      have HB2 := hide ((unhide HB).setCell (p := ⟨g, k, none⟩) (unhide HG) (Value.int .i64 (k : Int)))
      have HS2 := hide ((unhide HS).set k (Value.int .i64 (k : Int)))
      clear HM HB HS
      go_wp2
      go_roundg (N - (k + 1))
      case measure => omega
      case rel => exact ⟨k + 1, by go_num, by omega, by omega, HM2, HB2, HS2⟩
    · obtain rfl : k = N := by omega
      have HM1 := hide ((unhide HM).congr (G := fun j => .int .i64 ((p0 k).getD j 0)) (fun j hj => by rw [p0_at hj]; exact if_pos hj))
      have mt := unhide HMT
      obtain ⟨W1, hW1⟩ : ∃ W, W = wr.alloc (.cells (madeCells #[.bool false] k) 4) := ⟨_, rfl⟩
      have hba : Below wr.heap.size wr W1 := by rw [hW1]; exact (Below.refl _ _).alloc (Nat.le_refl _) _
      have HT1 := hide (show Mw wr.heap.size k (fun _ => false) W1 from by rw [hW1]; exact ⟨_, heap_new _ _, fun j hj => by rw [made_at _ _ _ hj]⟩)
      have HL1 := hide (show Lw wr.heap.size (p0 k) (some ⟨g, 0, none⟩) W1 from Lw.of_mv ((unhide HM1).later hba) (p0_len k).symm (by obtain ⟨cur, q, _⟩ := unhide HM1; have := blk_lt q; omega))
      have HB1 := hide (bl_t (unhide HB) hba)
      have HO1 := hide (show W1.ownsRow w.heap.size 3 1 (.slice (some ⟨g, 0, none⟩) k k) k (tV (p0 k)) from Bs.own ((unhide HS).later hba) ((unhide HM1).later hba) (unhide HG) (by unfold maxLen; omega))
      have HG2 := hide (show w.heap.size ≤ wr.heap.size from (unhide HB).size)
      go_wp2_with fail
      rw [← hW1]
      generalize wr.heap.size = g2 at *
      clear hba hW1 mt HM HM1 HMT HB HS
      have cW := hide (fun (p : List Int) (one : Int) (pa : Option Addr) (c m : Nat) (w1 : World) (hl : p.length = m) (hm : m ≤ k) (h : Lw g2 p pa w1) => without_any p one pa c m w1 hl (by omega) (by rw [← hl]; exact h.ri))
      have cC := hide (fun (p : List Int) (pa : Option Addr) (c : Nat) (w1 : World) (hp : ∀ x ∈ p, 0 ≤ x ∧ x < (k : Int)) (hl : p.length ≤ k) (hb : Below w.heap.size w w1) (h : Lw g2 p pa w1) => schosen_any k ln L p.length (fun j => (p.getD j 0).toNat) ca pa cc c w1 (by omega) (by omega) (fun j hj => by have := hp _ (getD_mem hj); omega) ((unhide HR).later hb) (h.ri.congr fun j hj => by have := hp _ (getD_mem hj); show Value.int .i64 (p.getD j 0) = .int .i64 (((p.getD j 0).toNat : Nat) : Int); rw [show (((p.getD j 0).toNat : Nat) : Int) = p.getD j 0 by omega]))
      have cF := hide (fun (p : List Int) (hp : ∀ x ∈ p, 0 ≤ x ∧ x < (k : Int)) (hl : p.length ≤ k) (w1 : World) (ga : Option Addr) (gc : Nat) (h : Rr w1 ga p.length (fun j => ln (p.getD j 0).toNat) (fun j => L (p.getD j 0).toNat)) => find_any (P := PP n ln L p) (B := B) (ca := ga) (cc := gc) (qa := none) (qc := 0) (w := w1) (PP_ok (unhide HO) hp) hB (by show p.length ≤ _; omega) (by show 0 ≤ _; omega) (fun j hj => unhide HLN _ (by have := hp _ (getD_mem hj); omega)) h (fun h0 => absurd h0 (Nat.lt_irrefl _)))
      go_loopg [7, 10, 12, 13] (2 * k + 1) (fun g1 vl_ vf _ _ wr2 => ∃ (q : List Int) (m : Nat) (la : Option Addr) (lc : Nat) (nd : Nat → Bool) (fw : Bool), vl_ = .slice la m lc ∧ vf = .bool fw ∧ m ≤ k ∧ 2 * m + fw.toNat ≤ g1 ∧ Hid (q.length = m) ∧ Hid (Ob n k B ln L q nd fw) ∧ Hid (Lw g2 q la wr2) ∧ Hid (Mw g2 k nd wr2) ∧ Hid (Below w.heap.size w wr2) ∧ Hid (wr2.ownsRow w.heap.size 3 1 (.slice la m lc) m (tV q)))
      case atStart => exact ⟨p0 k, k, _, _, _, true, rfl, rfl, by omega, by simp, hide (p0_len k), hide ⟨unhide HNO, (fun x hx => by cases hx), (by intro e; cases e), ⟨k + 1, by rw [p0_len]; omega, rfl⟩, (by intro e; cases e)⟩, HL1, HT1, HB1, HO1⟩
      case round =>
        obtain ⟨q, m, la, lc, nd, fw, rfl, rfl, hm, hg2, HLq, HOu, HLw, HMw, HBw, HOw⟩ := hrel
        cases fw with
        | false =>
          go_wp2
          go_ret
          exact ⟨q, la, lc, by rw [unhide HLq]; rfl, ⟨(unhide HOu).fin rfl, (unhide HOu).fin2 rfl⟩, (unhide HLw).ri, unhide HBw, by rw [unhide HLq]; exact unhide HOw⟩
        | true =>
          go_wp2_with fail
          go_loopg [7, 10, 12, 13, 33] m (fun g3 vl_ vf _ _ vi wr3 => ∃ (j : Nat) (p : List Int) (m2 : Nat) (la2 : Option Addr) (lc2 : Nat) (nd2 : Nat → Bool) (fw : Bool), vi = .int .i64 j ∧ vl_ = .slice la2 m2 lc2 ∧ vf = .bool fw ∧ j ≤ m ∧ m - j ≤ g3 ∧ m2 ≤ k ∧ Hid (p.length = m2) ∧ Hid (Is n k B ln L q j p nd2 fw) ∧ Hid (Lw g2 p la2 wr3) ∧ Hid (Lw g2 q la wr3) ∧ Hid (Mw g2 k nd2 wr3) ∧ Hid (Below w.heap.size w wr3) ∧ Hid (wr3.ownsRow w.heap.size 3 1 (.slice la2 m2 lc2) m2 (tV p)))
          case atStart => exact ⟨0, q, m, la, lc, nd, false, by go_num, rfl, rfl, by omega, by omega, by omega, HLq, hide (Is.start (unhide HOu).cs (unhide HOu).nd), HLw, HLw, HMw, HBw, HOw⟩
          case round =>
            obtain ⟨j, p, m2, la2, lc2, nd2, fw, rfl, rfl, rfl, hj, hg3, hm2, HLp, HIs, HLa, HLb, HMa, HBa, HOa⟩ := hrel
            by_cases hlt : j < m
            · have hjq : j < q.length := by rw [unhide HLq]; exact hlt
              have hin := (unhide HIs).cs.inN _ ((unhide HIs).more j (Nat.le_refl _) hjq)
              obtain ⟨xn, hxn⟩ : ∃ xn : Nat, q.getD j 0 = (xn : Int) := ⟨(q.getD j 0).toNat, by omega⟩
              obtain ⟨b, rfl, _, _, hc0⟩ := unhide HLb (by omega)
              have hc : wr.cell? ⟨b, j, none⟩ = some (.int .i64 (xn : Int)) := by rw [← hxn]; exact hc0 j hjq
              have hx1 : xn < k := by omega
              have hx2 : (xn : Int) < (k : Int) := by omega
              obtain ⟨y1, y2⟩ := (unhide HMa).cellT hx1
              have HX := hide hxn
              have HJQ := hide hjq
              clear hc0 hin hxn hjq
              cases hnd : nd2 xn with
              | true =>
                rw [hnd] at y1
                have HI2 := hide ((unhide HIs).cont (unhide HO) (unhide HJQ) (by rw [unhide HX, Int.toNat_natCast]; exact hnd))
                clear hnd
                go_wp2
                go_roundg (m - (j + 1))
                case measure => omega
                case rel => exact ⟨j + 1, p, m2, la2, lc2, nd2, fw, by go_num, rfl, rfl, by omega, by omega, by omega, HLp, HI2, HLa, HLb, HMa, HBa, HOa⟩
              | false =>
                rw [hnd] at y1
                clear hnd
                have HIN := hide (wo_in (unhide HIs).cs.inN (xn : Int))
                have HLE := hide (show (wo p (xn : Int)).length ≤ k from by
                  have h1 : (wo p (xn : Int)).length ≤ p.length := List.length_filter_le _ _
                  have h2 := unhide HLp
                  omega)
                have cW1 := hide (unhide cW p (xn : Int) la2 lc2 m2 wr (unhide HLp) hm2 (unhide HLa))
                have HGW := hide (show g2 < wr.heap.size from by obtain ⟨cur, h, _⟩ := unhide HMa; exact blk_lt h)
                go_upto_region 17 with (first | (go_at_call 51; refine (unhide cW1).mono ?_; rintro x3 w3 ⟨ra, rc, rfl, how, hb3⟩; have HLr3 := hide (Lw.of_owns how rfl (unhide HGW)); have HOr3 := hide (own_up how (unhide HBa).size); have HB3 := hide hb3; clear how hb3) | (go_at_call 52; refine (unhide cC (wo p (xn : Int)) ra rc _ (unhide HIN) (unhide HLE) (bl_t (unhide HBa) (unhide HB3)) (unhide HLr3)).mono ?_; rintro x4 w4 ⟨rg, rfl, hrr, hb4⟩; have HRR := hide hrr; have HLr4 := hide ((unhide HLr3).later hb4); have HOr4 := hide (owns_below (unhide HOr3) hb4); have HB4 := hide (bl_t (unhide HB3) hb4); clear hrr hb4) | (go_at_call 39; refine (unhide cF (wo p (xn : Int)) (unhide HIN) (unhide HLE) _ _ _ (unhide HRR)).mono ?_; rintro x5 w5 hfo; obtain ⟨v, tr, S, ga, gl, gc, hrs, rfl, hb5⟩ := hfo.verdict; have HRS := hide hrs; have HLr5 := hide ((unhide HLr4).later hb5); have HOr5 := hide (owns_below (unhide HOr4) hb5); have HB5 := hide (bl_t (unhide HB4) hb5); clear hrs hb5 hfo; have ff := field0 v S ga gl gc w5))
                have HRX := hide (show Rs (PP n ln L (wo p (q.getD j 0))) B v tr S from by rw [unhide HX]; exact unhide HRS)
                have HLa5 := hide ((unhide HLa).later (unhide HB5))
                have HLb5 := hide ((unhide HLb).later (unhide HB5))
                have HMa5 := hide ((unhide HMa).later (unhide HB5))
                have HBa5 := hide (bl_t (unhide HBa) (unhide HB5))
                have HOa5 := hide (owns_below (unhide HOa) (unhide HB5))
                obtain ⟨u1, u2⟩ := (unhide HMa5).cellT hx1
                rcases (unhide HRS).le.2 with hv | hv | ⟨hv, _⟩
                · subst hv
                  have HI2 := hide ((unhide HIs).sat (unhide HO) (unhide HJQ) (unhide HRX))
                  rw [unhide HX, Int.toNat_natCast] at HI2
                  have HM6 := hide ((unhide HMa5).set hx1 true)
                  have HL6 := hide ((unhide HLa5).set xn (.bool true))
                  have HL7 := hide ((unhide HLb5).set xn (.bool true))
                  have HO6 := hide (show (w5.setCell ⟨g2, xn, none⟩ (.bool true)).ownsRow w.heap.size 3 1 (.slice la2 m2 lc2) m2 (tV p) from by
                    obtain ⟨cur, h, _⟩ := unhide HMa5
                    exact own_set (by decide) h (unhide HOa5))
                  have HB6 := hide ((unhide HBa5).setCell (p := ⟨g2, xn, none⟩) (unhide HG2) (.bool true))
                  go_wp2
                  go_roundg (m - (j + 1))
                  case measure => omega
                  case rel => exact ⟨j + 1, p, m2, la2, lc2, _, fw, by go_num, rfl, rfl, by omega, by omega, by omega, HLp, HI2, HL6, HL7, HM6, HB6, HO6⟩
                · subst hv
                  have HI2 := hide ((unhide HIs).unsat (unhide HO) (unhide HJQ) (unhide HRX))
                  rw [unhide HX] at HI2
                  go_wp2
                  go_roundg (m - (j + 1))
                  case measure => omega
                  case rel => exact ⟨j + 1, wo p (xn : Int), _, ra, rc, nd2, true, by go_num, rfl, rfl, by omega, by omega, unhide HLE, hide rfl, HI2, HLr5, HLb5, HMa5, HBa5, HOr5⟩
                · subst hv
                  have HI2 := hide ((unhide HIs).spent (unhide HO) (unhide HRX) (by decide))
                  go_wp2
                  go_roundg (m - (j + 1))
                  case measure => omega
                  case rel => exact ⟨j + 1, p, m2, la2, lc2, nd2, fw, by go_num, rfl, rfl, by omega, by omega, by omega, HLp, HI2, HLa5, HLb5, HMa5, HBa5, HOa5⟩
            · obtain rfl : j = m := by omega
              have HI3 := hide (show Is n k B ln L q q.length p nd2 fw from by rw [unhide HLq]; exact unhide HIs)
              have hle : m2 + fw.toNat ≤ j := by
                have h1 := (unhide HI3).le
                rw [unhide HLp, unhide HLq] at h1
                cases fw with
                | false => exact h1
                | true =>
                  have h2 := (unhide HI3).yes rfl
                  rw [unhide HLp, unhide HLq] at h2
                  exact h2
              go_wp2
              go_roundg (2 * m2 + fw.toNat)
              case measure => cases fw <;> simp at * <;> omega
              case rel => exact ⟨p, m2, la2, lc2, nd2, fw, rfl, rfl, hm2, Nat.le_refl _, HLp, hide ⟨(unhide HIs).cs, (unhide HIs).nd, fun e => by subst e; exact (unhide HI3).done, ((unhide HI3).over (unhide HOu).eq).1, ((unhide HI3).over (unhide HOu).eq).2⟩, HLa, HMa, HBa, HOa⟩
end Go.Proofs.Ytabjbppekijfiaa
