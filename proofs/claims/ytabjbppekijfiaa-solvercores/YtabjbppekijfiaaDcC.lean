import Derived.Test.YtabjbppekijfiaaDcB
namespace Go.Proofs.Ytabjbppekijfiaa
open Go.RowKit

theorem ri_tv {W : World} {lo c : Nat} {g : Option Addr} {p : List Int} (h : W.ownsRow lo 3 1 (.slice g p.length c) p.length (tV p)) : Ri W g p.length (fun j => p.getD j 0) := by
  have e : tV p = vl p.length (iv fun j => p.getD j 0) := by
    unfold tV vl iv
    apply List.ext_getElem
    · simp
    · intro i h1 h2
      have hi : i < p.length := by simpa using h1
      simp [hi]
  rw [e] at h
  exact Rv.of_owns h
/-- NUMBERS AS THEY LIE, IN NEW MEMORY. -/
def Rf (base : Nat) (W : World) (a : Option Addr) (n : Nat) (f : Nat → Int) : Prop := Ri W a n f ∧ (0 < n → ∀ b, a = some b → base ≤ b.block)
theorem Rf.later {base : Nat} {W W2 : World} {a : Option Addr} {n : Nat} {f : Nat → Int} (h : Rf base W a n f) (hb : Below W.heap.size W W2) : Rf base W2 a n f := ⟨Ri.later h.1 hb, h.2⟩
theorem own_fr {W : World} {lo base e n c : Nat} {a : Option Addr} {xs : List Value} (h : W.ownsRow lo e 1 (.slice a n c) n xs) (hb : base ≤ lo) : ∀ b, a = some b → base ≤ b.block := by
  intro b e
  rcases h.2 with ⟨h1, _⟩ | ⟨g, cap, cur, h1, h2, _⟩
  · cases h1; cases e
  · cases h1; cases e; exact Nat.le_trans hb h2
theorem rf_tv {W : World} {lo base c : Nat} {g : Option Addr} {p : List Int} (h : W.ownsRow lo 3 1 (.slice g p.length c) p.length (tV p)) (hb : base ≤ lo) : Rf base W g p.length (fun j => p.getD j 0) := ⟨ri_tv h, fun _ => own_fr h hb⟩
set_option maxRecDepth 100000 in
set_option maxHeartbeats 4000000 in
theorem once_any {n : Nat} {B : Int} {N : Nat} {ln : Nat → Nat} {L : Nat → Nat → Int} (hp : prob n B N ln L 0 nof = true) (q : List Int) (m : Nat) (hqi : ∀ x ∈ q, 0 ≤ x ∧ x < (N : Int)) (hqm : q.length = m) (hmN : m ≤ N) {ca la : Option Addr} {cc lc : Nat} {w : World} (hN : N * 24 ≤ 140737488351232) (hln : ∀ k, k < N → ln k ≤ 140737488355328) {base : Nat} (hbase : base ≤ w.heap.size) (hR : Rr w ca N ln L) (hQ : Rf base w la m (fun j => q.getD j 0)) :
    Calls Try.prog 45 #[.int .i64 n, .slice ca N cc, .slice la m lc, .int .i64 B] w fun x w' => ∃ qa qc, x = .returned (.slice qa (on n ln L B.toNat q N).length qc) ∧ Rf base w' qa (on n ln L B.toNat q N).length (fun j => (on n ln L B.toNat q N).getD j 0) ∧ Below w.heap.size w w' := by
  have HR := hide hR
  have HQ := hide hQ
  have HQI := hide hqi
  have HQM := hide hqm
  have cC := hide (fun (p : List Int) (m2 : Nat) (but : Int) (pa : Option Addr) (c : Nat) (w1 : World) (hl : p.length = m2) (hm : m2 ≤ N) (hi : ∀ x ∈ p, 0 ≤ x ∧ x < (N : Int)) (hb : Below w.heap.size w w1) (h : Ri w1 pa m2 (fun j => p.getD j 0)) => rchosen_any N ln L p m2 but ca pa cc c w1 hl (by omega) hi ((unhide HR).later hb) h)
  have cS := hide (fun (p : List Int) (hi : ∀ x ∈ p, 0 ≤ x ∧ x < (N : Int)) (hl : p.length ≤ N) (w1 : World) (ga : Option Addr) (gc : Nat) (h : Rr w1 ga p.length (fun j => ln (p.getD j 0).toNat) (fun j => L (p.getD j 0).toNat)) => rSolve_an (n := n) (B := B) (cc := gc) (qa := none) (qc := 0) (m := 0) (f := nof) (by omega) (by omega) (fun j hj => hln _ (by have := hi _ (getD_mem (p := p) hj); omega)) h (Ri.nil w1 nof))
  have HVD := hide (fun (p : List Int) (hi : ∀ x ∈ p, 0 ≤ x ∧ x < (N : Int)) => an_vd hp hi)
  clear hp hqi hqm hln hR hQ
  go_enter Try.func45, Try.ntmps45
  go_wp2_with fail
  go_loopg [2, 9] N (fun g1 vl_ vi wr => ∃ (i : Nat) (p : List Int) (m2 : Nat) (la2 : Option Addr) (lc2 : Nat), vi = .int .i64 i ∧ vl_ = .slice la2 m2 lc2 ∧ i ≤ N ∧ N - i ≤ g1 ∧ m2 ≤ N ∧ Hid (p = on n ln L B.toNat q i) ∧ Hid (p.length = m2) ∧ Hid (Rf base wr la2 m2 (fun j => p.getD j 0)) ∧ Hid (Below w.heap.size w wr))
  case atStart => exact ⟨0, q, m, la, lc, by go_num, rfl, by omega, by omega, hmN, hide rfl, HQM, HQ, hide (Below.refl _ _)⟩
  case round =>
    obtain ⟨i, p, m2, la2, lc2, rfl, rfl, hi, hg, hm2, HPO, HPL, HPR, HB⟩ := hrel
    by_cases hlt : i < N
    · have HPI := hide (show ∀ x ∈ p, 0 ≤ x ∧ x < (N : Int) from fun x hx => unhide HQI x (on_sub i x (by rw [← unhide HPO]; exact hx)))
      have HWI := hide (wo_in (unhide HPI) (i : Int))
      have hwl : (wo p (i : Int)).length ≤ N := by
        have h1 : (wo p (i : Int)).length ≤ p.length := List.length_filter_le _ _
        have h2 := unhide HPL
        omega
      have cC1 := hide (unhide cC p m2 (i : Int) la2 lc2 wr (unhide HPL) hm2 (unhide HPI) (unhide HB) (unhide HPR).1)
      have cS1 := hide (unhide cS (wo p (i : Int)) (unhide HWI) hwl)
      have hvd := unhide HVD (wo p (i : Int)) (unhide HWI)
      have HON := hide (show on n ln L B.toNat q (i + 1) = if vd n ln L B.toNat (wo p (i : Int)) = 2 then wo p (i : Int) else p from by rw [unhide HPO]; rfl)
      have cW := hide (fun (w1 : World) (h : Ri w1 la2 m2 (fun j => p.getD j 0)) => rwithout_any p (i : Int) la2 lc2 m2 w1 (unhide HPL) (by omega) h)
      obtain ⟨A, hA⟩ : ∃ A, A = an n B (wo p (i : Int)).length (fun j => ln ((wo p (i : Int)).getD j 0).toNat) (fun j => L ((wo p (i : Int)).getD j 0).toNat) 0 nof := ⟨_, rfl⟩
      rw [← hA] at cS1 hvd
      rw [← hvd] at HON
      clear hA hvd
      obtain ⟨wl, hwl2⟩ : ∃ wl, wl = (wo p (i : Int)).length := ⟨_, rfl⟩
      rw [← hwl2] at cC1 cS1 hwl cW
      have HWL := hide hwl2
      clear hwl2
      go_upto_region 5 with (first | (go_at_call 56; refine (unhide cC1).mono ?_; rintro x3 w3 ⟨ra, rc, rfl, hrr, hb3⟩; have HRR := hide hrr; have HB3 := hide hb3; clear hrr hb3) | (go_at_call 31; refine (unhide cS1 _ _ _ (unhide HRR)).mono ?_; rintro x4 w4 ⟨ga, gc, rfl, hb4, _⟩; have HB4 := hide (bl_t (unhide HB3) hb4); clear hb4))
      have hz := heap_new w4 (.cells #[.int .i64 A.v, .slice ga A.l gc, .int .i64 (A.S : Int)] 29)
      have HB5 := hide (bl_t (unhide HB4) (al w4 (.cells #[.int .i64 A.v, .slice ga A.l gc, .int .i64 (A.S : Int)] 29)))
      have c0 : (w4.alloc (.cells #[.int .i64 A.v, .slice ga A.l gc, .int .i64 (A.S : Int)] 29)).cell? ⟨w4.heap.size, 0, none⟩ = some (.int .i64 A.v) := (cell_blk hz 0).1
      clear hz HB3 HB4 HRR cC1 cS1
      generalize w4.alloc (.cells #[.int .i64 A.v, .slice ga A.l gc, .int .i64 (A.S : Int)] 29) = W5 at *
      generalize w4.heap.size = rb at *
      have HPR5 := hide ((unhide HPR).later (unhide HB5))
      have HSZ := hide (show base ≤ W5.heap.size from Nat.le_trans hbase (bl_t (unhide HB) (unhide HB5)).size)
      have HBB := hide (bl_t (unhide HB) (unhide HB5))
      by_cases hv : A.v = 2
      · rw [if_pos hv] at HON
        have hv' : (A.v == 2) = true := by simpa using hv
        generalize A.v = v at *
        clear hv
        go_wp2_with (go_at_call 57; refine (unhide cW _ (unhide HPR5).1).mono ?_; rintro x6 w6 ⟨qa, qc, rfl, how, hb6⟩; have HO6 := hide how; have HB6 := hide (bl_t (unhide HBB) hb6); clear how hb6)
        go_roundg (N - (i + 1))
        case measure => omega
        case rel => exact ⟨i + 1, wo p (i : Int), _, qa, qc, by go_num, rfl, by omega, by omega, hwl, hide (unhide HON).symm, hide (unhide HWL).symm, hide (by have h := unhide HO6; rw [unhide HWL] at h ⊢; exact rf_tv h (unhide HSZ)), HB6⟩
      · rw [if_neg hv] at HON
        have hv' : (A.v == 2) = false := by simpa using hv
        generalize A.v = v at *
        go_wp2_with fail
        go_roundg (N - (i + 1))
        case measure => omega
        case rel => exact ⟨i + 1, p, m2, la2, lc2, by go_num, rfl, by omega, by omega, hm2, hide (unhide HON).symm, HPL, HPR5, HBB⟩
    · obtain rfl : i = N := by omega
      go_wp2
      go_ret
      have e := unhide HPO
      have e2 := unhide HPL
      subst e
      subst e2
      exact ⟨la2, lc2, rfl, unhide HPR, unhide HB⟩
end Go.Proofs.Ytabjbppekijfiaa
