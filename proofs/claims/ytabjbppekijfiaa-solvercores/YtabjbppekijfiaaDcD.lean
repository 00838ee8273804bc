import Derived.Test.YtabjbppekijfiaaDcC
namespace Go.Proofs.Ytabjbppekijfiaa
open Go.RowKit

theorem sp_rise {n : Nat} {ln : Nat → Nat} {L : Nat → Nat → Int} {B : Nat} {a : List Int} {x : Int} (h : a.Pairwise (· < ·)) : (sp n ln L B a x).Pairwise (· < ·) := by
  unfold sp
  split
  · exact h.filter _
  · exact h
theorem on_rise {n : Nat} {ln : Nat → Nat} {L : Nat → Nat → Int} {B : Nat} {q : List Int} (h : q.Pairwise (· < ·)) : ∀ i, (on n ln L B q i).Pairwise (· < ·)
  | 0 => h
  | i + 1 => sp_rise (on_rise h i)
/-- WHAT IS LEFT, TO THE END. -/
structure Rd (n N : Nat) (ln : Nat → Nat) (L : Nat → Nat → Int) (B : Nat) (q : List Int) (r : Nat) : Prop where
  rise : q.Pairwise (· < ·)
  inN : ∀ x ∈ q, 0 ≤ x ∧ x < (N : Int)
  eq : cf n ln L B r q = cf n ln L B (N + 1) (p0 N)
theorem Rd.last {n N : Nat} {ln : Nat → Nat} {L : Nat → Nat → Int} {B : Nat} {q : List Int} {r : Nat} (h : Rd n N ln L B q (r + 1)) (hl : (on n ln L B q N).length = q.length) : q = cf n ln L B (N + 1) (p0 N) := by
  have e := h.eq
  rw [cf, if_pos (by rw [← on_ps h.rise h.inN]; exact hl)] at e
  exact e
theorem Rd.next {n N : Nat} {ln : Nat → Nat} {L : Nat → Nat → Int} {B : Nat} {q : List Int} {r : Nat} (h : Rd n N ln L B q (r + 1)) (hl : (on n ln L B q N).length ≠ q.length) : Rd n N ln L B (on n ln L B q N) r := by
  refine ⟨on_rise h.rise N, fun x hx => h.inN x (on_sub N x hx), ?_⟩
  have e := h.eq
  rw [cf, if_neg (by rw [← on_ps h.rise h.inN]; exact hl), ← on_ps h.rise h.inN] at e
  exact e
theorem iv_p0 (k : Nat) : vl k (iv fun j => (j : Int)) = tV (p0 k) := by
  unfold tV p0 vl iv
  simp
/-- What the definition's Core answers. -/
def Dr (n : Nat) (B : Int) (N : Nat) (ln : Nat → Nat) (L : Nat → Nat → Int) (w : World) (x : Ending) (w' : World) : Prop := ∃ (p : List Int) (la : Option Addr) (lc : Nat), x = .returned (.tuple #[.slice la p.length lc, .int .i64 (an n B N ln L 0 nof).v, .int .i64 0]) ∧ p = (if (an n B N ln L 0 nof).v = 2 then cf n ln L B.toNat (N + 1) (p0 N) else []) ∧ Rf w.heap.size w' la p.length (fun j => p.getD j 0) ∧ Below w.heap.size w w'
set_option maxRecDepth 100000 in
set_option maxHeartbeats 4000000 in
theorem rCore_ok {n : Nat} {B : Int} {N : Nat} {ln : Nat → Nat} {L : Nat → Nat → Int} (hp : prob n B N ln L 0 nof = true) {ca : Option Addr} {cc : Nat} {w : World} (hN : N * 24 ≤ 140737488351232) (hln : ∀ k, k < N → ln k ≤ 140737488355328) (hR : Rr w ca N ln L) :
    Calls Try.prog 33 #[.int .i64 n, .slice ca N cc, .int .i64 B] w fun x w' => Dr n B N ln L w x w' := by
  have HR := hide hR
  have HSO := hide (rSolve_an (n := n) (B := B) (ca := ca) (cc := cc) (qa := none) (qc := 0) (w := w) (m := 0) (f := nof) (by omega) (by omega) hln hR (Ri.nil w nof))
  have hAe : (an n B N ln L 0 nof).e = 0 := by
    unfold an
    rw [if_pos hp]
  have HON := hide (fun (q : List Int) (m : Nat) (la : Option Addr) (lc : Nat) (w1 : World) (hqi : ∀ x ∈ q, 0 ≤ x ∧ x < (N : Int)) (hqm : q.length = m) (hmN : m ≤ N) (hb : Below w.heap.size w w1) (h : Rf w.heap.size w1 la m (fun j => q.getD j 0)) => once_any (ca := ca) (cc := cc) (lc := lc) hp q m hqi hqm hmN hN hln hb.size ((unhide HR).later hb) h)
  unfold Dr
  generalize an n B N ln L 0 nof = A at *
  rw [hAe] at HSO
  clear hp hln hR hAe
  by_cases hv : A.v = 2
  · simp only [if_pos hv]
    have hv' : (A.v == 2) = true := by simpa using hv
    have hv2 : (A.v != 2) = false := by simp [hv]
    have HV := hide hv
    clear hv
    go_enter Try.func33, Try.ntmps33
    go_upto_region 2 with (go_at_call 31; refine (unhide HSO).mono ?_; rintro x1 w1 ⟨ga, gc, rfl, hb1, _⟩; have HB1 := hide hb1; clear hb1)
    have hz := heap_new w1 (.cells #[.int .i64 A.v, .slice ga A.l gc, .int .i64 (A.S : Int)] 29)
    have HB2 := hide (bl_t (unhide HB1) (al w1 (.cells #[.int .i64 A.v, .slice ga A.l gc, .int .i64 (A.S : Int)] 29)))
    have c0 : (w1.alloc (.cells #[.int .i64 A.v, .slice ga A.l gc, .int .i64 (A.S : Int)] 29)).cell? ⟨w1.heap.size, 0, none⟩ = some (.int .i64 A.v) := (cell_blk hz 0).1
    clear hz HB1 HSO
    generalize w1.alloc (.cells #[.int .i64 A.v, .slice ga A.l gc, .int .i64 (A.S : Int)] 29) = W2 at *
    generalize w1.heap.size = rb at *
    obtain ⟨i0, hi0, hz0, hz1, hz2⟩ := info_parts infoI
    go_upto_region 5 with fail
    clear c0
    go_wp2_with fail
    go_loopg [11, 12] N (fun g1 vl_ vi wr => ∃ (k : Nat) (la : Option Addr) (lc : Nat), vi = .int .i64 k ∧ vl_ = .slice la k lc ∧ k ≤ N ∧ N - k ≤ g1 ∧ Hid (wr.ownsRow W2.heap.size 3 1 (.slice la k lc) k (vl k (iv fun j => (j : Int)))) ∧ Hid (Below W2.heap.size W2 wr))
    case atStart => exact ⟨0, none, 0, by go_num, rfl, by omega, by omega, hide (World.ownsRow_nil _ _ _ _), hide (Below.refl _ _)⟩
    case round =>
      obtain ⟨k, la, lc, rfl, rfl, hk, hg, HO, HB⟩ := hrel
      have hsz := (unhide HB).size
      by_cases hlt : k < N
      · have HVS := hide (show vl (k + 1) (iv fun j => (j : Int)) = vl k (iv fun j => (j : Int)) ++ [.int .i64 (k : Int)] from by rw [vl_succ]; rfl)
        go_wp2_with (at_builtin; go_must (refine wpList_append_lies _ rfl _ _ 23 rfl W2.heap.size 3 i0 (.int .i64 0) 1 8 Try.underlying23 hi0 hz0 hz1 hz2 rfl (by decide) (.slice la k lc) k _ rfl ((unhide HO).alloc _) ⟨wr.heap.size, 0, none⟩ 1 1 [.int .i64 (k : Int)] rfl rfl (cell_one_new _ _ _) (by simp [Value.oneCell']) (by decide) (by unfold maxLen; omega) (by omega) (by simp; omega) _ rfl ?_); intro gg c9 w9 hown hgrow hat _; have HO9 := hide (show w9.ownsRow W2.heap.size 3 1 (.slice (some ⟨gg, 0, none⟩) (k + 1) c9) (k + 1) (vl (k + 1) (iv fun j => (j : Int))) from by rw [unhide HVS]; exact hown); have HB9 := hide (((unhide HB).alloc hsz _).grown hgrow (by simp; omega) (fun j e => ((unhide HO).lt j e).1)); clear hown hgrow hat)
        go_roundg (N - (k + 1))
        case measure => omega
        case rel => exact ⟨k + 1, _, _, by go_num, rfl, by omega, by omega, HO9, HB9⟩
      · obtain rfl : k = N := by omega
        have HBW := hide (bl_t (unhide HB2) (unhide HB))
        have HRI := hide (show Rf w.heap.size wr la k (fun j => (p0 k).getD j 0) from by
          have h := unhide HO
          rw [iv_p0] at h
          have e := p0_len k
          have h2 : wr.ownsRow W2.heap.size 3 1 (.slice la (p0 k).length lc) (p0 k).length (tV (p0 k)) := by rw [e]; exact h
          have h3 := rf_tv h2 (unhide HB2).size
          rw [e] at h3
          exact h3)
        have HRD := hide (show Rd n k ln L B.toNat (p0 k) (k + 1) from ⟨p0_rise k, fun x hx => p0_mem.1 hx, rfl⟩)
        have HPL := hide (p0_len k)
        clear HO HB HB2 hlt hg hk hsz
        go_wp2_with fail
        go_loopg [11, 13] (k + 2) (fun g1 vl_ vr wr => ∃ (r m2 : Nat) (q : List Int) (la : Option Addr) (lc : Nat), vr = .int .i64 r ∧ vl_ = .slice la m2 lc ∧ r ≤ k + 1 ∧ k + 1 - r < g1 ∧ m2 ≤ k ∧ Hid (q.length = m2) ∧ Hid (Rd n k ln L B.toNat q (k + 1 - r)) ∧ Hid (Rf w.heap.size wr la m2 (fun j => q.getD j 0)) ∧ Hid (Below w.heap.size w wr))
        case atStart => exact ⟨0, k, p0 k, la, lc, by go_num, rfl, by omega, by omega, Nat.le_refl _, HPL, HRD, HRI, HBW⟩
        case round =>
          obtain ⟨r, m2, q, la2, lc2, rfl, rfl, hr, hgr, hm2, HQL, HRD2, HRI2, HB⟩ := hrel
          by_cases hlr : r ≤ k
          · have HRD3 := hide (show Rd n k ln L B.toNat q ((k - r) + 1) from by have h := unhide HRD2; rw [show k + 1 - r = (k - r) + 1 by omega] at h; exact h)
            have cO := hide (unhide HON q m2 la2 lc2 wr (unhide HRD2).inN (unhide HQL) hm2 (unhide HB) (unhide HRI2))
            have HLS := hide (fun h => (unhide HRD3).last h)
            have HNX := hide (fun h => (unhide HRD3).next h)
            have hol : (on n ln L B.toNat q k).length ≤ k := by have h1 := on_len (n := n) (ln := ln) (L := L) (B := B.toNat) (q := q) k; have h2 := unhide HQL; omega
            obtain ⟨o, ho⟩ : ∃ o, o = on n ln L B.toNat q k := ⟨_, rfl⟩
            rw [← ho] at cO HLS HNX hol
            clear ho
            obtain ⟨ol, hol2⟩ : ∃ ol, ol = o.length := ⟨_, rfl⟩
            have HOL := hide hol2
            rw [← hol2] at cO HLS HNX hol
            clear hol2
            rw [unhide HQL] at HLS HNX
            by_cases he : ol = m2
            · have HL2 := hide (unhide HLS he)
              subst he
              clear HLS HNX
              go_wp2_with (go_at_call 45; refine (unhide cO).mono ?_; rintro x6 w6 ⟨qa, qc, rfl, hri, hb6⟩; have HR6 := hide ((unhide HRI2).later hb6); have HB6 := hide (bl_t (unhide HB) hb6); clear hri hb6)
              refine bodyPost_ret (v := .tuple #[.slice la2 ol lc2, .int .i64 2, .int .i64 0]) (by simp [results, Try.results33, go_sem]) rfl ⟨q, la2, lc2, by rw [unhide HQL, unhide HV], unhide HL2, ?_, unhide HB6⟩
              rw [unhide HQL]
              exact unhide HR6
            · have HN2 := hide (unhide HNX he)
              clear HLS HNX
              go_wp2_with (go_at_call 45; refine (unhide cO).mono ?_; rintro x6 w6 ⟨qa, qc, rfl, hri, hb6⟩; have HR6 := hide hri; have HB6 := hide (bl_t (unhide HB) hb6); clear hri hb6)
              go_roundg (k + 1 - (r + 1) + 1)
              case measure => omega
              case rel => exact ⟨r + 1, ol, o, qa, qc, by go_num, rfl, by omega, by omega, hol, hide (unhide HOL).symm, hide (by rw [show k + 1 - (r + 1) = k - r by omega]; exact unhide HN2), HR6, HB6⟩
          · have HRD3 := hide (show Rd n k ln L B.toNat q 0 from by have h := unhide HRD2; rw [show k + 1 - r = 0 by omega] at h; exact h)
            go_wp2_with fail
            refine bodyPost_ret (v := .tuple #[.slice la2 m2 lc2, .int .i64 2, .int .i64 0]) (by simp [results, Try.results33, go_sem]) rfl ⟨q, la2, lc2, by rw [unhide HQL, unhide HV], (unhide HRD3).eq, ?_, unhide HB⟩
            rw [unhide HQL]
            exact unhide HRI2
  · simp only [if_neg hv]
    have hv' : (A.v == 2) = false := by simpa using hv
    have hv2 : (A.v != 2) = true := by simpa using hv
    go_enter Try.func33, Try.ntmps33
    go_upto_region 2 with (go_at_call 31; refine (unhide HSO).mono ?_; rintro x1 w1 ⟨ga, gc, rfl, hb1, _⟩; have HB1 := hide hb1; clear hb1)
    have hz := heap_new w1 (.cells #[.int .i64 A.v, .slice ga A.l gc, .int .i64 (A.S : Int)] 29)
    have HB2 := hide (bl_t (unhide HB1) (al w1 (.cells #[.int .i64 A.v, .slice ga A.l gc, .int .i64 (A.S : Int)] 29)))
    have c0 : (w1.alloc (.cells #[.int .i64 A.v, .slice ga A.l gc, .int .i64 (A.S : Int)] 29)).cell? ⟨w1.heap.size, 0, none⟩ = some (.int .i64 A.v) := (cell_blk hz 0).1
    clear hz HB1 HSO
    generalize w1.alloc (.cells #[.int .i64 A.v, .slice ga A.l gc, .int .i64 (A.S : Int)] 29) = W2 at *
    generalize w1.heap.size = rb at *
    go_wp2_with fail
    go_quiet (fail)
    have HB8 := hide (bl_t (unhide HB2) (bl_drewN W2 nq))
    generalize W2.drewN nq = W8 at *
    go_wp2
    exact bodyPost_ret (v := .tuple #[.slice none 0 0, .int .i64 A.v, .int .i64 0]) (by simp [results, Try.results33, go_sem]) rfl ⟨[], none, 0, rfl, rfl, ⟨fun h => absurd h (Nat.lt_irrefl _), fun h => absurd h (Nat.lt_irrefl _)⟩, unhide HB8⟩
end Go.Proofs.Ytabjbppekijfiaa
