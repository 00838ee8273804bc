import Derived.Test.YtjflnpcpnoccjaaTmB
import Derived.Deep.RegionHeld3
namespace Go.Proofs.Ytjflnpcpnoccjaa
open Go.RowKit

theorem own_put {W : World} {lo e size g n cap k : Nat} {xs : List Value} (h : W.ownsRow lo e size (.slice (some ⟨g, 0, none⟩) n cap) n xs) (y : Value) : (W.setCell ⟨g, k, none⟩ y).ownsRow lo e size (.slice (some ⟨g, 0, none⟩) n cap) n (xs.set k y) := by
  refine ⟨by rw [List.length_set]; exact h.1, ?_⟩
  rcases h.2 with ⟨q, _⟩ | ⟨g2, cap2, cur, h1, h2, h3, h4, h5, h6, h7⟩
  · cases q
  · cases h1
    refine .inr ⟨g, cap, cur.setIfInBounds k y, rfl, h2, set_blk h3 k y, h4, h5, by simpa using h6, ?_⟩
    rw [← h7, Array.toList_setIfInBounds, List.take_set]
theorem fV_bump (r : List (Nat × Nat)) (v nx : Nat) : (fV ((v, nx) :: r).reverse).set (2 * r.length + 1) (.int .i64 ((nx + 1 : Nat) : Int)) = fV ((v, nx + 1) :: r).reverse := by
  rw [List.reverse_cons, List.reverse_cons, fV_snoc, fV_snoc]
  have h : (fV r.reverse).length = 2 * r.length := by rw [fV_len, List.length_reverse]; omega
  rw [List.set_append_right _ _ (by omega), h, show 2 * r.length + 1 - 2 * r.length = 1 by omega]
  rfl
theorem Sg.bump {N : Nat} {na : Option Addr} {nc : Nat} {w0 : World} {sb rb lb hb lo : Nat} {rk lw : Nat → Nat} {hd : Nat → Int} {op : List Nat} {v nx sn fb fc : Nat} {r : List (Nat × Nat)} {ov : Value} {W : World} (h : Sg N na nc w0 sb rb lb hb lo ⟨rk, lw, hd, op, (v, nx) :: r, sn⟩ (.slice (some ⟨fb, 0, none⟩) (r.length + 1) fc) ov W) :
    Sg N na nc w0 sb rb lb hb lo ⟨rk, lw, hd, op, (v, nx + 1) :: r, sn⟩ (.slice (some ⟨fb, 0, none⟩) (r.length + 1) fc) ov (W.setCell ⟨fb, 2 * r.length + 1, none⟩ (.int .i64 ((nx + 1 : Nat) : Int))) := by
  have hlo : lo ≤ fb := ((h.frs).lt fb rfl).1
  obtain ⟨l1, l2, l3, l4⟩ := h.low
  obtain ⟨cur, hb1, _⟩ := owns_blk h.frs
  refine ⟨(set_other _ _ _ _ _ (by omega)).trans h.str, h.rk.same (set_other _ _ _ _ _ (by omega)), h.lw.same (set_other _ _ _ _ _ (by omega)), h.hd.same (set_other _ _ _ _ _ (by omega)), ?_, own_set (by decide) hb1 h.opn, h.ne, h.low, h.ge, h.bel.setCell (p := ⟨fb, 2 * r.length + 1, none⟩) (by have := h.ge.1; show w0.heap.size ≤ fb; omega) _, by rw [set_size]; exact h.siz⟩
  show World.ownsRow _ lo 99 2 _ (r.length + 1) (fV ((v, nx + 1) :: r).reverse)
  rw [← fV_bump]
  exact own_put h.frs _
theorem Rr.row {w0 : World} {pa : Option Addr} {N : Nat} {ln : Nat → Nat} {L : Nat → Nat → Int} (h : Rr w0 pa N ln L) {k : Nat} (hk : k < N) : ∃ b o ca cc, pa = some ⟨b, o, none⟩ ∧ ∀ W, Below w0.heap.size w0 W → W.cell? ⟨b, o + k, none⟩ = some (.slice ca (ln k) cc) ∧ Ri W ca (ln k) (L k) := by
  obtain ⟨ca, cc, h1, h2⟩ := h
  obtain ⟨b, o, e, hl, hc⟩ := h1.at hk
  exact ⟨b, o, ca k, cc k, e, fun W hW => ⟨(hW.cell (p := ⟨b, o + k, none⟩) hl).trans hc, (h2 k hk).later hW⟩⟩
theorem up_self (f : Nat → Nat) (v : Nat) : up f v (f v) = f := by
  funext x
  unfold up
  split
  · rename_i e; rw [e]
  · rfl
theorem Tj.split {N : Nat} {ln : Nat → Nat} {L : Nat → Nat → Int} {s : Ts} (h : Tj N ln L s) {v : Nat} (hv : v ∈ s.op) : ∃ A C, s.op = A ++ v :: C ∧ v ∉ C ∧ ∀ x, x ∈ v :: C → x < N := by
  obtain ⟨A, C, e⟩ := List.append_of_mem hv
  refine ⟨A, C, e, fun q => ?_, fun x hx => (h.o1 x (by rw [e]; exact List.mem_append_right _ hx)).1⟩
  have := h.os
  rw [e] at this
  have h2 := (List.pairwise_append.1 this).2.1
  have h3 := (List.pairwise_cons.1 h2).1 v q
  omega
/-- How many have not been come upon. -/
def wh (rk : Nat → Nat) (N : Nat) : Nat := cnt (fun v => if rk v = 0 then -1 else 0) N
set_option maxRecDepth 100000 in
set_option maxHeartbeats 8000000 in
theorem explore_any {N : Nat} {ln : Nat → Nat} {L : Nat → Nat → Int} {na : Option Addr} {nc : Nat} {w0 : World} (hr : rgt N ln L = true) (hN : N ≤ 1048576) (hln : ∀ k, k < N → ln k ≤ 1048576) (hR : Rr w0 na N ln L) {sb rb lb hb lo : Nat} {s0 : Ts} {fv ov : Value} {w : World} (h : Sg N na nc w0 sb rb lb hb lo s0 fv ov w) (ht : Tj N ln L s0) (hfr : s0.fr = []) {u : Nat} (hu : u < N) (hu0 : s0.rk u = 0) :
    Calls Try.prog 71 #[.pointer (some ⟨sb, 0, none⟩), .int .i64 (u : Int)] w fun x w' => x = .returned (.tuple #[]) ∧ ∃ s2 fv2 ov2, Sg N na nc w0 sb rb lb hb lo s2 fv2 ov2 w' ∧ Tj N ln L s2 ∧ s2.fr = [] ∧ 0 < s2.rk u ∧ ∀ x, 0 < s0.rk x → 0 < s2.rk x := by
  have hcw := ht.cw
  have hsN : s0.sn ≤ N := by omega
  have c1 := hide (enter_any h hN (Nat.le_trans ht.len1 hsN) (Nat.le_trans ht.len2 hsN) hsN hu)
  have T1 := hide (ht.enter hu hu0 (fun v nx r e => by rw [hfr] at e; cases e))
  rw [hfr] at c1 T1
  have HK1 := hide (show (∀ x, 0 < s0.rk x → 0 < up s0.rk u (s0.sn + 1) x) ∧ 0 < up s0.rk u (s0.sn + 1) u from ⟨fun x hx => by
    unfold up
    split
    · omega
    · exact hx, by rw [up_same]; omega⟩)
  have HR := hide hR
  have HLN := hide hln
  have HRG := hide (fun a i (ha : a < N) (hi : i < ln a) => rgt_at hr ha hi)
  clear h ht hR hln hr hcw hu0 hfr hsN
  go_enter Try.func71, Try.ntmps71
  go_wp2
  go_step3
  go_wp2_with (go_at_call 76; refine (unhide c1).mono ?_; rintro x1 w1 ⟨rfl, fv1, ov1, hs⟩; have H1 := hide hs; clear hs)
  clear c1
  go_step3
  go_wp2
  go_loopg [4, 5, 6] (2 * N + (2 * N)) (fun g1 _ _ _ wr => ∃ (s : Ts) (fv ov : Value), Hid (2 * wh s.rk N + s.fr.length ≤ g1) ∧ Hid (Sg N na nc w0 sb rb lb hb lo s fv ov wr) ∧ Hid (Tj N ln L s) ∧ Hid ((∀ x, 0 < s0.rk x → 0 < s.rk x) ∧ 0 < s.rk u))
  case atStart => exact ⟨_, fv1, ov1, hide (by have h1 := (unhide T1).cw; show 2 * cnt (fun v => if up s0.rk u (s0.sn + 1) v = 0 then -1 else 0) N + 1 ≤ _; have h3 : s0.sn + 1 + cnt (fun v => if up s0.rk u (s0.sn + 1) v = 0 then -1 else 0) N = N := h1; omega), H1, T1, HK1⟩
  case round =>
    clear H1 T1 HK1
    obtain ⟨s, fv, ov, HMS, HS, HT, HK⟩ := hrel
    obtain ⟨rk, lw, hd, op, fr, sn⟩ := s
    cases fr with
    | nil =>
      obtain ⟨_, d1, _, _, _, _, _, _⟩ := (unhide HS).cells
      obtain ⟨fa, fc, hfv⟩ := owns_form (unhide HS).frs
      subst hfv
      have d1' : wr.cell? ⟨sb, 1, none⟩ = some (.slice fa 0 fc) := d1
      clear d1
      go_wp2
      go_end0
      exact ⟨rfl, _, _, _, unhide HS, unhide HT, rfl, (unhide HK).2, (unhide HK).1⟩
    | cons f r =>
      obtain ⟨v, nx⟩ := f
      obtain ⟨fb, fc, hfv, _, _, t3, _⟩ := (unhide HS).topc (f := (v, nx)) (r := r) rfl
      subst hfv
      obtain ⟨hv, _, hvo, hrv⟩ := (unhide HT).top (v := v) (nx := nx) (r := r) rfl
      have h1 : sn + wh rk N = N := (unhide HT).cw
      have h2 : r.length + 1 ≤ sn := (unhide HT).len2
      have h3 : op.length ≤ sn := (unhide HT).len1
      have hln2 := unhide HLN v hv
      have HMS2 := hide (show 2 * wh rk N + (r.length + 1) ≤ gk from unhide HMS)
      have HTC := hide (fun (lw : Nat → Nat) (nx : Nat) (W : World) (h : Sg N na nc w0 sb rb lb hb lo ⟨rk, lw, hd, op, (v, nx) :: r, sn⟩ (.slice (some ⟨fb, 0, none⟩) (r.length + 1) fc) ov W) => show W.cell? ⟨fb, r.length * 2, none⟩ = some (.int .i64 (v : Int)) ∧ W.cell? ⟨fb, r.length * 2 + 1, none⟩ = some (.int .i64 (nx : Int)) ∧ W.frozen? ⟨fb, r.length * 2 + 1, none⟩ = false from by
        obtain ⟨fb2, fc2, e, q1, q2, _, q4, _⟩ := h.topc (f := (v, nx)) (r := r) rfl
        cases e
        rw [Nat.mul_comm]
        exact ⟨q1, q2, q4 _⟩)
      have HBP := hide (fun (lw : Nat → Nat) (nx : Nat) (W : World) (h : Sg N na nc w0 sb rb lb hb lo ⟨rk, lw, hd, op, (v, nx) :: r, sn⟩ (.slice (some ⟨fb, 0, none⟩) (r.length + 1) fc) ov W) => show Sg N na nc w0 sb rb lb hb lo ⟨rk, lw, hd, op, (v, nx + 1) :: r, sn⟩ (.slice (some ⟨fb, 0, none⟩) (r.length + 1) fc) ov (W.setCell ⟨fb, r.length * 2 + 1, none⟩ (.int .i64 ((nx : Int) + 1))) from by
        have := h.bump
        rw [Nat.mul_comm] at this
        exact this)
      have HEN := hide (fun (lw : Nat → Nat) (nx : Nat) (fv : Value) (W : World) (h : Sg N na nc w0 sb rb lb hb lo ⟨rk, lw, hd, op, (v, nx) :: r, sn⟩ fv ov W) (x : Nat) (hx : x < N) => enter_any h hN (show op.length ≤ N by omega) (show r.length + 1 ≤ N by omega) (show sn ≤ N by omega) hx)
      obtain ⟨nb, no, ca, cc, hna, hrow⟩ := (unhide HR).row hv
      subst hna
      have HROW := hide hrow
      have hv2 : (v : Int) < (N : Int) := by omega
      have hlr : r.length ≤ 1048576 := by omega
      have HSN := hide h1
      have HL2 := hide h2
      have HL3 := hide h3
      have HVO := hide hvo
      clear hrow HMS h1 h2 h3 hvo hrv
      generalize hrl : r.length = rl at *
      have HRL := hide hrl
      clear hrl
      obtain ⟨d0, d1, _, _, _, _, _, _⟩ := (unhide HS).cells
      have jp : (0 : Int) < (rl : Int) + 1 := by omega
      have j0 : ((rl + 1 : Nat) : Int) - 1 = (rl : Int) := by omega
      have j00 : (rl : Int) + 1 - 1 = (rl : Int) := by omega
      have j1 : IntKind.i64.wrap (rl : Int) = (rl : Int) := IntWalk.i64_in _ (by omega)
      have j2 : (rl : Int) < (rl : Int) + 1 := by omega
      go_upto_region 2 with fail
      go_quiet (fail)
      have HS1 := hide ((unhide HS).later (bl_drewN wr nq))
      clear HS d0 d1
      generalize wr.drewN nq = W1 at *
      obtain ⟨e0, _, _, _, _, _, _, _⟩ := (unhide HS1).cells
      obtain ⟨tc1, _, _⟩ := unhide HTC _ _ _ (unhide HS1)
      obtain ⟨rw1, _⟩ := unhide HROW _ (unhide HS1).bel
      go_upto_region 3 with fail
      go_quiet (fail)
      have HS2 := hide ((unhide HS1).later (bl_drewN W1 nq))
      clear HS1 e0 tc1 rw1
      generalize W1.drewN nq = W2 at *
      go_wp2_with fail
      go_loopg [6] (ln v) (fun g2 _ wr => ∃ (nx : Nat) (lw : Nat → Nat), Hid (ln v - nx ≤ g2) ∧ Hid (Sg N (some ⟨nb, no, none⟩) nc w0 sb rb lb hb lo ⟨rk, lw, hd, op, (v, nx) :: r, sn⟩ (.slice (some ⟨fb, 0, none⟩) (rl + 1) fc) ov wr) ∧ Hid (Tj N ln L ⟨rk, lw, hd, op, (v, nx) :: r, sn⟩))
      case atStart => exact ⟨nx, lw, hide (by omega), HS2, HT⟩
      case round =>
        clear HS2 HT
        obtain ⟨nx, lw, HG2, HS, HT⟩ := hrel
        by_cases hlt : nx < ln v
        · obtain ⟨x, hx, ex⟩ := unhide HRG v nx hv hlt
          obtain ⟨_, hri⟩ := unhide HROW _ (unhide HS).bel
          obtain ⟨cb, co, hca, _, hcx⟩ := hri.at hlt
          subst hca
          unfold iv at hcx
          rw [ex] at hcx
          clear hri
          have HEX := hide ex
          clear ex
          obtain ⟨t1, t2, t4⟩ := unhide HTC _ _ _ (unhide HS)
          have HB := hide (unhide HBP _ _ _ (unhide HS))
          have hx2 : (x : Int) < (N : Int) := by omega
          have hlt2 : (nx : Int) < (ln v : Int) := by omega
          have iw : IntKind.i64.wrap ((nx : Int) + 1) = (nx : Int) + 1 := IntWalk.i64_in _ (by omega)
          clear HS
          go_upto_region 7 with fail
          generalize wr.setCell ⟨fb, rl * 2 + 1, none⟩ (.int .i64 ((nx : Int) + 1)) = W3 at *
          clear t1 t2 t4 hcx
          obtain ⟨_, _, _, _, d4, d5, d6, _⟩ := (unhide HB).cells
          obtain ⟨cr, _⟩ := (unhide HB).rk.cell hx
          obtain ⟨ch, _⟩ := (unhide HB).hd.cell hx
          unfold iv at cr ch
          unfold nf at cr
          by_cases hx0 : rk x = 0
          · have cr2 : W3.cell? ⟨rb, x, none⟩ = some (.int .i64 0) := by rw [cr]; show some (Value.int .i64 ((rk x : Nat) : Int)) = _; rw [hx0]; rfl
            have T5 := hide ((unhide HT).enter hx hx0 (fun v' nx' r' e => by cases e; exact ⟨hlt, unhide HEX, hv⟩))
            have cE := hide (unhide HEN _ _ _ _ (unhide HB) x hx)
            have HK5 := hide (show (∀ y, 0 < s0.rk y → 0 < up rk x (sn + 1) y) ∧ 0 < up rk x (sn + 1) u from by
              have hh : ∀ y, 0 < rk y → 0 < up rk x (sn + 1) y := fun y hy => by
                unfold up
                split
                · omega
                · exact hy
              exact ⟨fun y hy => hh y ((unhide HK).1 y hy), hh u (unhide HK).2⟩)
            have HM5 := hide (show 2 * wh (up rk x (sn + 1)) N + (rl + 2) < 2 * wh rk N + (rl + 1) from by
              have q1 : (sn + 1) + wh (up rk x (sn + 1)) N = N := (unhide T5).cw
              have q2 := unhide HSN
              omega)
            clear HB cr ch HT
            go_wp2_with (go_at_call 76; refine (unhide cE).mono ?_; rintro x5 w5 ⟨rfl, fv5, ov5, hs5⟩; have HS5 := hide hs5; clear hs5)
            go_roundg (2 * wh (up rk x (sn + 1)) N + (rl + 2))
            case measure => have := unhide HM5; have := unhide HMS2; omega
            case rel => exact ⟨_, fv5, ov5, hide (by show _ + (r.length + 2) ≤ _; rw [unhide HRL]; exact Nat.le_refl _), HS5, T5, HK5⟩
          · have hz : ((rk x : Int) == 0) = false := by simpa using hx0
            have HX0 := hide hx0
            by_cases hh : hd x = -1
            · have hxo : x ∈ op := (unhide HT).o2 x hx (by show 0 < rk x; omega) hh
              have T5 := hide ((unhide HT).look (v := v) (nx := nx) (r := r) rfl hlt (unhide HEX) hv (.inr ⟨hxo, rfl⟩))
              have ch2 : W3.cell? ⟨hb, x, none⟩ = some (.int .i64 (-1)) := by rw [ch]; show some (Value.int .i64 (hd x)) = _; rw [hh]
              have cr2 : W3.cell? ⟨rb, x, none⟩ = some (.int .i64 (rk x : Int)) := cr
              have HBT := hide (unhide HTC _ _ _ (unhide HB))
              obtain ⟨t1, _, _⟩ := unhide HBT
              obtain ⟨cl, fl⟩ := (unhide HB).lw.cell hv
              unfold iv nf at cl
              have cl2 : W3.cell? ⟨lb, v, none⟩ = some (.int .i64 (lw v : Int)) := cl
              have HBd := hide ((unhide HB).later (W2 := W3.drew) ((Below.refl _ _).drew))
              have HS4 := hide (show Sg N (some ⟨nb, no, none⟩) nc w0 sb rb lb hb lo ⟨rk, up lw v (min (lw v) (rk x)), hd, op, (v, nx + 1) :: r, sn⟩ (.slice (some ⟨fb, 0, none⟩) (rl + 1) fc) ov (W3.drew.setCell ⟨lb, v, none⟩ (.int .i64 (((min (lw v) (rk x) : Nat)) : Int))) from (unhide HBd).setL hv _)
              have HKS := hide (fun (lw : Nat → Nat) (nx : Nat) (W : World) (h : Sg N (some ⟨nb, no, none⟩) nc w0 sb rb lb hb lo ⟨rk, lw, hd, op, (v, nx) :: r, sn⟩ (.slice (some ⟨fb, 0, none⟩) (rl + 1) fc) ov W) => show W.cell? ⟨sb, 5, none⟩ = some (.slice (some ⟨lb, 0, none⟩) N N) ∧ W.cell? ⟨fb, rl * 2, none⟩ = some (.int .i64 (v : Int)) ∧ W.cell? ⟨sb, 4, none⟩ = some (.slice (some ⟨rb, 0, none⟩) N N) ∧ W.cell? ⟨rb, x, none⟩ = some (.int .i64 (rk x : Int)) from by
                obtain ⟨_, _, _, _, q4, q5, _, _⟩ := h.cells
                exact ⟨q5, (unhide HTC _ _ _ h).1, q4, (h.rk.cell hx).1⟩)
              clear cl ch cr HT hh hxo HB hx0 HBT
              change Hid (Tj N ln L ⟨rk, up lw v (min (lw v) (rk x)), hd, op, (v, nx + 1) :: r, sn⟩) at T5
              obtain ⟨lp, hlp⟩ : ∃ y, y = lw v := ⟨_, rfl⟩
              obtain ⟨lx, hlx⟩ : ∃ y, y = rk x := ⟨_, rfl⟩
              rw [← hlp, ← hlx] at HS4 T5
              rw [← hlp] at cl2
              rw [← hlx] at cr2 hz HKS
              clear hlp hlx t1
              go_upto_region 10 with fail
              by_cases hmin : (lx : Int) < (lp : Int)
              · rw [show min lp lx = lx by omega] at HS4 T5
                refine wp_region_held_drew (S := fun w' => w'.cell? ⟨sb, 5, none⟩ = some (.slice (some ⟨lb, 0, none⟩) N N) ∧ w'.cell? ⟨fb, rl * 2, none⟩ = some (.int .i64 (v : Int)) ∧ w'.cell? ⟨sb, 4, none⟩ = some (.slice (some ⟨rb, 0, none⟩) N N) ∧ w'.cell? ⟨rb, x, none⟩ = some (.int .i64 (lx : Int))) (by kernel_rfl) (unhide HKS _ _ _ (unhide HBd)) (fun hHeld => ?_)
                have cld : W3.drew.cell? ⟨lb, v, none⟩ = some (.int .i64 (lp : Int)) := cl2
                have fld : W3.drew.frozen? ⟨lb, v, none⟩ = false := fl
                clear cl2 fl d4 d5 d6 cr2 ch2
                generalize W3.drew = Wd at *
                refine wpAnyH_take (i := 0) (oi := { dst := some 77, op := Op.move (Operand.tmp 0), type := 96, pos := "parts.go:85", after := #[], guard := none }) (v := ?_) rfl (by kernel_rfl) (by kernel_rfl) (by kernel_rfl) (fun _ _ _ h => h) (Or.inl ⟨by rfl, ?_⟩) (by assumption) ?_
                rotate_left
                · intro w hSw; obtain ⟨k5, kf, k4, kr⟩ := hSw; go_simp; (try with_reducible rfl)
                try simp only [Act.put, List.setIfInBounds_toArray, List.set_cons_zero, List.set_cons_succ]
                refine wpAnyH_take (i := 1) (oi := { dst := some 78, op := Op.nilCheck (Operand.tmp 77), type := 0, pos := "parts.go:85", after := #[{ on := 0, ground := Ground.data }], guard := none }) (v := ?_) rfl (by kernel_rfl) (by kernel_rfl) (by kernel_rfl) (fun _ _ _ h => h) (Or.inl ⟨by rfl, ?_⟩) (by assumption) ?_
                rotate_left
                · intro w hSw; obtain ⟨k5, kf, k4, kr⟩ := hSw; go_simp; (try with_reducible rfl)
                try simp only [Act.put, List.setIfInBounds_toArray, List.set_cons_zero, List.set_cons_succ]
                refine wpAnyH_take (i := 2) (oi := { dst := some 79, op := Op.fieldAddr 87 (Operand.tmp 78) 5, type := 0, pos := "parts.go:85", after := #[{ on := 1, ground := Ground.data }], guard := none }) (v := ?_) rfl (by kernel_rfl) (by kernel_rfl) (by kernel_rfl) (fun _ _ _ h => h) (Or.inl ⟨by rfl, ?_⟩) (by assumption) ?_
                rotate_left
                · intro w hSw; obtain ⟨k5, kf, k4, kr⟩ := hSw; go_simp; (try with_reducible rfl)
                try simp only [Act.put, List.setIfInBounds_toArray, List.set_cons_zero, List.set_cons_succ]
                refine wpAnyH_take (i := 3) (oi := { dst := some 80, op := Op.load 23 (Operand.tmp 79), type := 23, pos := "parts.go:85", after := #[{ on := 2, ground := Ground.data }], guard := none }) (v := ?_) rfl (by kernel_rfl) (by kernel_rfl) (by kernel_rfl) (fun _ _ _ h => h) (Or.inl ⟨by rfl, ?_⟩) (by assumption) ?_
                rotate_left
                · intro w hSw; obtain ⟨k5, kf, k4, kr⟩ := hSw; go_simp; (try with_reducible rfl)
                try simp only [Act.put, List.setIfInBounds_toArray, List.set_cons_zero, List.set_cons_succ]
                refine wpAnyH_take (i := 4) (oi := { dst := some 81, op := Op.move (Operand.tmp 4), type := 97, pos := "parts.go:85", after := #[], guard := none }) (v := ?_) rfl (by kernel_rfl) (by kernel_rfl) (by kernel_rfl) (fun _ _ _ h => h) (Or.inl ⟨by rfl, ?_⟩) (by assumption) ?_
                rotate_left
                · intro w hSw; obtain ⟨k5, kf, k4, kr⟩ := hSw; go_simp; (try with_reducible rfl)
                try simp only [Act.put, List.setIfInBounds_toArray, List.set_cons_zero, List.set_cons_succ]
                refine wpAnyH_take (i := 5) (oi := { dst := some 82, op := Op.nilCheck (Operand.tmp 81), type := 0, pos := "parts.go:85", after := #[{ on := 4, ground := Ground.data }], guard := none }) (v := ?_) rfl (by kernel_rfl) (by kernel_rfl) (by kernel_rfl) (fun _ _ _ h => h) (Or.inl ⟨by rfl, ?_⟩) (by assumption) ?_
                rotate_left
                · intro w hSw; obtain ⟨k5, kf, k4, kr⟩ := hSw; go_simp; (try with_reducible rfl)
                try simp only [Act.put, List.setIfInBounds_toArray, List.set_cons_zero, List.set_cons_succ]
                refine wpAnyH_take (i := 6) (oi := { dst := some 83, op := Op.fieldAddr 99 (Operand.tmp 82) 0, type := 0, pos := "parts.go:85", after := #[{ on := 5, ground := Ground.data }], guard := none }) (v := ?_) rfl (by kernel_rfl) (by kernel_rfl) (by kernel_rfl) (fun _ _ _ h => h) (Or.inl ⟨by rfl, ?_⟩) (by assumption) ?_
                rotate_left
                · intro w hSw; obtain ⟨k5, kf, k4, kr⟩ := hSw; go_simp; (try with_reducible rfl)
                try simp only [Act.put, List.setIfInBounds_toArray, List.set_cons_zero, List.set_cons_succ]
                refine wpAnyH_take (i := 7) (oi := { dst := some 84, op := Op.load 3 (Operand.tmp 83), type := 3, pos := "parts.go:85", after := #[{ on := 6, ground := Ground.data }], guard := none }) (v := ?_) rfl (by kernel_rfl) (by kernel_rfl) (by kernel_rfl) (fun _ _ _ h => h) (Or.inl ⟨by rfl, ?_⟩) (by assumption) ?_
                rotate_left
                · intro w hSw; obtain ⟨k5, kf, k4, kr⟩ := hSw; go_simp; (try with_reducible rfl)
                try simp only [Act.put, List.setIfInBounds_toArray, List.set_cons_zero, List.set_cons_succ]
                refine wpAnyH_take (i := 8) (oi := { dst := some 85, op := Op.move (Operand.tmp 0), type := 96, pos := "parts.go:85", after := #[], guard := none }) (v := ?_) rfl (by kernel_rfl) (by kernel_rfl) (by kernel_rfl) (fun _ _ _ h => h) (Or.inl ⟨by rfl, ?_⟩) (by assumption) ?_
                rotate_left
                · intro w hSw; obtain ⟨k5, kf, k4, kr⟩ := hSw; go_simp; (try with_reducible rfl)
                try simp only [Act.put, List.setIfInBounds_toArray, List.set_cons_zero, List.set_cons_succ]
                refine wpAnyH_take (i := 9) (oi := { dst := some 86, op := Op.nilCheck (Operand.tmp 85), type := 0, pos := "parts.go:85", after := #[{ on := 8, ground := Ground.data }], guard := none }) (v := ?_) rfl (by kernel_rfl) (by kernel_rfl) (by kernel_rfl) (fun _ _ _ h => h) (Or.inl ⟨by rfl, ?_⟩) (by assumption) ?_
                rotate_left
                · intro w hSw; obtain ⟨k5, kf, k4, kr⟩ := hSw; go_simp; (try with_reducible rfl)
                try simp only [Act.put, List.setIfInBounds_toArray, List.set_cons_zero, List.set_cons_succ]
                refine wpAnyH_take (i := 10) (oi := { dst := some 87, op := Op.fieldAddr 87 (Operand.tmp 86) 5, type := 0, pos := "parts.go:85", after := #[{ on := 9, ground := Ground.data }], guard := none }) (v := ?_) rfl (by kernel_rfl) (by kernel_rfl) (by kernel_rfl) (fun _ _ _ h => h) (Or.inl ⟨by rfl, ?_⟩) (by assumption) ?_
                rotate_left
                · intro w hSw; obtain ⟨k5, kf, k4, kr⟩ := hSw; go_simp; (try with_reducible rfl)
                try simp only [Act.put, List.setIfInBounds_toArray, List.set_cons_zero, List.set_cons_succ]
                refine wpAnyH_take (i := 11) (oi := { dst := some 88, op := Op.load 23 (Operand.tmp 87), type := 23, pos := "parts.go:85", after := #[{ on := 10, ground := Ground.data }], guard := none }) (v := ?_) rfl (by kernel_rfl) (by kernel_rfl) (by kernel_rfl) (fun _ _ _ h => h) (Or.inl ⟨by rfl, ?_⟩) (by assumption) ?_
                rotate_left
                · intro w hSw; obtain ⟨k5, kf, k4, kr⟩ := hSw; go_simp; (try with_reducible rfl)
                try simp only [Act.put, List.setIfInBounds_toArray, List.set_cons_zero, List.set_cons_succ]
                refine wpAnyH_take (i := 12) (oi := { dst := some 89, op := Op.move (Operand.tmp 4), type := 97, pos := "parts.go:85", after := #[], guard := none }) (v := ?_) rfl (by kernel_rfl) (by kernel_rfl) (by kernel_rfl) (fun _ _ _ h => h) (Or.inl ⟨by rfl, ?_⟩) (by assumption) ?_
                rotate_left
                · intro w hSw; obtain ⟨k5, kf, k4, kr⟩ := hSw; go_simp; (try with_reducible rfl)
                try simp only [Act.put, List.setIfInBounds_toArray, List.set_cons_zero, List.set_cons_succ]
                refine wpAnyH_take (i := 13) (oi := { dst := some 90, op := Op.nilCheck (Operand.tmp 89), type := 0, pos := "parts.go:85", after := #[{ on := 12, ground := Ground.data }], guard := none }) (v := ?_) rfl (by kernel_rfl) (by kernel_rfl) (by kernel_rfl) (fun _ _ _ h => h) (Or.inl ⟨by rfl, ?_⟩) (by assumption) ?_
                rotate_left
                · intro w hSw; obtain ⟨k5, kf, k4, kr⟩ := hSw; go_simp; (try with_reducible rfl)
                try simp only [Act.put, List.setIfInBounds_toArray, List.set_cons_zero, List.set_cons_succ]
                refine wpAnyH_take (i := 14) (oi := { dst := some 91, op := Op.fieldAddr 99 (Operand.tmp 90) 0, type := 0, pos := "parts.go:85", after := #[{ on := 13, ground := Ground.data }], guard := none }) (v := ?_) rfl (by kernel_rfl) (by kernel_rfl) (by kernel_rfl) (fun _ _ _ h => h) (Or.inl ⟨by rfl, ?_⟩) (by assumption) ?_
                rotate_left
                · intro w hSw; obtain ⟨k5, kf, k4, kr⟩ := hSw; go_simp; (try with_reducible rfl)
                try simp only [Act.put, List.setIfInBounds_toArray, List.set_cons_zero, List.set_cons_succ]
                refine wpAnyH_take (i := 15) (oi := { dst := some 92, op := Op.load 3 (Operand.tmp 91), type := 3, pos := "parts.go:85", after := #[{ on := 14, ground := Ground.data }], guard := none }) (v := ?_) rfl (by kernel_rfl) (by kernel_rfl) (by kernel_rfl) (fun _ _ _ h => h) (Or.inl ⟨by rfl, ?_⟩) (by assumption) ?_
                rotate_left
                · intro w hSw; obtain ⟨k5, kf, k4, kr⟩ := hSw; go_simp; (try with_reducible rfl)
                try simp only [Act.put, List.setIfInBounds_toArray, List.set_cons_zero, List.set_cons_succ]
                refine wpAnyH_take (i := 16) (oi := { dst := some 93, op := Op.indexAddr 23 (Operand.tmp 88) (Operand.tmp 92), type := 0, pos := "parts.go:85", after := #[{ on := 11, ground := Ground.data }, { on := 15, ground := Ground.data }], guard := none }) (v := ?_) rfl (by kernel_rfl) (by kernel_rfl) (by kernel_rfl) (fun _ _ _ h => h) (Or.inl ⟨by rfl, ?_⟩) (by assumption) ?_
                rotate_left
                · intro w hSw; obtain ⟨k5, kf, k4, kr⟩ := hSw; go_simp; (try with_reducible rfl)
                try simp only [Act.put, List.setIfInBounds_toArray, List.set_cons_zero, List.set_cons_succ]
                refine wpAnyH_take (i := 18) (oi := { dst := some 95, op := Op.move (Operand.tmp 0), type := 96, pos := "parts.go:85", after := #[], guard := none }) (v := ?_) rfl (by kernel_rfl) (by kernel_rfl) (by kernel_rfl) (fun _ _ _ h => h) (Or.inl ⟨by rfl, ?_⟩) (by assumption) ?_
                rotate_left
                · intro w hSw; obtain ⟨k5, kf, k4, kr⟩ := hSw; go_simp; (try with_reducible rfl)
                try simp only [Act.put, List.setIfInBounds_toArray, List.set_cons_zero, List.set_cons_succ]
                refine wpAnyH_take (i := 19) (oi := { dst := some 96, op := Op.nilCheck (Operand.tmp 95), type := 0, pos := "parts.go:85", after := #[{ on := 18, ground := Ground.data }], guard := none }) (v := ?_) rfl (by kernel_rfl) (by kernel_rfl) (by kernel_rfl) (fun _ _ _ h => h) (Or.inl ⟨by rfl, ?_⟩) (by assumption) ?_
                rotate_left
                · intro w hSw; obtain ⟨k5, kf, k4, kr⟩ := hSw; go_simp; (try with_reducible rfl)
                try simp only [Act.put, List.setIfInBounds_toArray, List.set_cons_zero, List.set_cons_succ]
                refine wpAnyH_take (i := 20) (oi := { dst := some 97, op := Op.fieldAddr 87 (Operand.tmp 96) 4, type := 0, pos := "parts.go:85", after := #[{ on := 19, ground := Ground.data }], guard := none }) (v := ?_) rfl (by kernel_rfl) (by kernel_rfl) (by kernel_rfl) (fun _ _ _ h => h) (Or.inl ⟨by rfl, ?_⟩) (by assumption) ?_
                rotate_left
                · intro w hSw; obtain ⟨k5, kf, k4, kr⟩ := hSw; go_simp; (try with_reducible rfl)
                try simp only [Act.put, List.setIfInBounds_toArray, List.set_cons_zero, List.set_cons_succ]
                refine wpAnyH_take (i := 21) (oi := { dst := some 98, op := Op.load 23 (Operand.tmp 97), type := 23, pos := "parts.go:85", after := #[{ on := 20, ground := Ground.data }], guard := none }) (v := ?_) rfl (by kernel_rfl) (by kernel_rfl) (by kernel_rfl) (fun _ _ _ h => h) (Or.inl ⟨by rfl, ?_⟩) (by assumption) ?_
                rotate_left
                · intro w hSw; obtain ⟨k5, kf, k4, kr⟩ := hSw; go_simp; (try with_reducible rfl)
                try simp only [Act.put, List.setIfInBounds_toArray, List.set_cons_zero, List.set_cons_succ]
                refine wpAnyH_take (i := 22) (oi := { dst := some 99, op := Op.move (Operand.tmp 6), type := 3, pos := "parts.go:85", after := #[], guard := none }) (v := ?_) rfl (by kernel_rfl) (by kernel_rfl) (by kernel_rfl) (fun _ _ _ h => h) (Or.inl ⟨by rfl, ?_⟩) (by assumption) ?_
                rotate_left
                · intro w hSw; obtain ⟨k5, kf, k4, kr⟩ := hSw; go_simp; (try with_reducible rfl)
                try simp only [Act.put, List.setIfInBounds_toArray, List.set_cons_zero, List.set_cons_succ]
                refine wpAnyH_take (i := 23) (oi := { dst := some 100, op := Op.indexAddr 23 (Operand.tmp 98) (Operand.tmp 99), type := 0, pos := "parts.go:85", after := #[{ on := 21, ground := Ground.data }, { on := 22, ground := Ground.data }], guard := none }) (v := ?_) rfl (by kernel_rfl) (by kernel_rfl) (by kernel_rfl) (fun _ _ _ h => h) (Or.inl ⟨by rfl, ?_⟩) (by assumption) ?_
                rotate_left
                · intro w hSw; obtain ⟨k5, kf, k4, kr⟩ := hSw; go_simp; (try with_reducible rfl)
                try simp only [Act.put, List.setIfInBounds_toArray, List.set_cons_zero, List.set_cons_succ]
                refine wpAnyH_take (i := 24) (oi := { dst := some 101, op := Op.load 3 (Operand.tmp 100), type := 3, pos := "parts.go:85", after := #[{ on := 23, ground := Ground.data }], guard := none }) (v := ?_) rfl (by kernel_rfl) (by kernel_rfl) (by kernel_rfl) (fun _ _ _ h => h) (Or.inl ⟨by rfl, ?_⟩) (by assumption) ?_
                rotate_left
                · intro w hSw; obtain ⟨k5, kf, k4, kr⟩ := hSw; go_simp; (try with_reducible rfl)
                try simp only [Act.put, List.setIfInBounds_toArray, List.set_cons_zero, List.set_cons_succ]
                refine wpAnyH_ready (rs := [17]) (by kernel_rfl) (by simp) ?_
                refine AllReadyH.cons (o := { dst := some 94, op := Op.load 3 (Operand.tmp 93), type := 3, pos := "parts.go:85", after := #[{ on := 16, ground := Ground.data }], guard := none }) rfl (fun K hK => ?_) AllReadyH.nil
                go_simp
                refine hK.out _ _ hHeld (fun _ => ?_)
                clear hK K
                try simp only [Act.put, List.setIfInBounds_toArray, List.set_cons_zero, List.set_cons_succ]
                refine wpAnyH_take (i := 25) (oi := { dst := some 102, op := Op.call { callee := Callee.builtin Builtin.min, args := #[Operand.tmp 94, Operand.tmp 101], argTypes := #[3, 3] }, type := 3, pos := "parts.go:85", after := #[{ on := 17, ground := Ground.data }, { on := 24, ground := Ground.data }], guard := none }) (v := ?_) rfl (by kernel_rfl) (by kernel_rfl) (by kernel_rfl) (fun _ _ _ h => h) (Or.inl ⟨by rfl, ?_⟩) (by assumption) ?_
                rotate_left
                · intro w hSw; obtain ⟨k5, kf, k4, kr⟩ := hSw; go_simp; (try with_reducible rfl)
                try simp only [Act.put, List.setIfInBounds_toArray, List.set_cons_zero, List.set_cons_succ]
                refine wpAnyH_take (i := 26) (oi := { dst := some 103, op := Op.indexAddr 23 (Operand.tmp 80) (Operand.tmp 84), type := 0, pos := "parts.go:85", after := #[{ on := 3, ground := Ground.data }, { on := 7, ground := Ground.data }, { on := 0, ground := Ground.phase }, { on := 1, ground := Ground.phase }, { on := 2, ground := Ground.phase }, { on := 3, ground := Ground.phase }, { on := 4, ground := Ground.phase }, { on := 5, ground := Ground.phase }, { on := 6, ground := Ground.phase }, { on := 7, ground := Ground.phase }, { on := 8, ground := Ground.phase }, { on := 9, ground := Ground.phase }, { on := 10, ground := Ground.phase }, { on := 11, ground := Ground.phase }, { on := 12, ground := Ground.phase }, { on := 13, ground := Ground.phase }, { on := 14, ground := Ground.phase }, { on := 15, ground := Ground.phase }, { on := 16, ground := Ground.phase }, { on := 17, ground := Ground.phase }, { on := 18, ground := Ground.phase }, { on := 19, ground := Ground.phase }, { on := 20, ground := Ground.phase }, { on := 21, ground := Ground.phase }, { on := 22, ground := Ground.phase }, { on := 23, ground := Ground.phase }, { on := 24, ground := Ground.phase }, { on := 25, ground := Ground.phase }], guard := none }) (v := ?_) rfl (by kernel_rfl) (by kernel_rfl) (by kernel_rfl) (fun _ _ _ h => h) (Or.inl ⟨by rfl, ?_⟩) (by assumption) ?_
                rotate_left
                · intro w hSw; obtain ⟨k5, kf, k4, kr⟩ := hSw; go_simp; (try with_reducible rfl)
                try simp only [Act.put, List.setIfInBounds_toArray, List.set_cons_zero, List.set_cons_succ]
                refine wpAnyH_ready (rs := [27]) (by kernel_rfl) (by simp) ?_
                refine AllReadyH.cons (o := { dst := none, op := Op.store 3 (Operand.tmp 103) (Operand.tmp 102), type := 0, pos := "parts.go:85", after := #[{ on := 26, ground := Ground.data }, { on := 25, ground := Ground.data }, { on := 0, ground := Ground.phase }, { on := 1, ground := Ground.phase }, { on := 2, ground := Ground.phase }, { on := 3, ground := Ground.phase }, { on := 4, ground := Ground.phase }, { on := 5, ground := Ground.phase }, { on := 6, ground := Ground.phase }, { on := 7, ground := Ground.phase }, { on := 8, ground := Ground.phase }, { on := 9, ground := Ground.phase }, { on := 10, ground := Ground.phase }, { on := 11, ground := Ground.phase }, { on := 12, ground := Ground.phase }, { on := 13, ground := Ground.phase }, { on := 14, ground := Ground.phase }, { on := 15, ground := Ground.phase }, { on := 16, ground := Ground.phase }, { on := 17, ground := Ground.phase }, { on := 18, ground := Ground.phase }, { on := 19, ground := Ground.phase }, { on := 20, ground := Ground.phase }, { on := 21, ground := Ground.phase }, { on := 22, ground := Ground.phase }, { on := 23, ground := Ground.phase }, { on := 24, ground := Ground.phase }, { on := 25, ground := Ground.phase }], guard := none }) rfl (fun K hK => ?_) AllReadyH.nil
                go_simp
                refine hK.out _ _ (unhide HKS _ _ _ (unhide HS4)) (fun _ => ?_)
                clear hK K
                try simp only [Act.put, List.setIfInBounds_toArray, List.set_cons_zero, List.set_cons_succ]
                refine wpAnyH_done (by kernel_rfl) ?_ _
                generalize Wd.setCell ⟨lb, v, none⟩ (.int .i64 (lx : Int)) = W4 at *
                clear HKS HBd hHeld cld fld
                go_wp2
                go_roundg (ln v - (nx + 1))
                case measure => have := unhide HG2; omega
                case rel => exact ⟨nx + 1, _, hide (Nat.le_refl _), HS4, T5⟩
              · rw [show min lp lx = lp by omega] at HS4 T5
                refine wp_region_held_drew (S := fun w' => w'.cell? ⟨sb, 5, none⟩ = some (.slice (some ⟨lb, 0, none⟩) N N) ∧ w'.cell? ⟨fb, rl * 2, none⟩ = some (.int .i64 (v : Int)) ∧ w'.cell? ⟨sb, 4, none⟩ = some (.slice (some ⟨rb, 0, none⟩) N N) ∧ w'.cell? ⟨rb, x, none⟩ = some (.int .i64 (lx : Int))) (by kernel_rfl) (unhide HKS _ _ _ (unhide HBd)) (fun hHeld => ?_)
                have cld : W3.drew.cell? ⟨lb, v, none⟩ = some (.int .i64 (lp : Int)) := cl2
                have fld : W3.drew.frozen? ⟨lb, v, none⟩ = false := fl
                clear cl2 fl d4 d5 d6 cr2 ch2
                generalize W3.drew = Wd at *
                refine wpAnyH_take (i := 0) (oi := { dst := some 77, op := Op.move (Operand.tmp 0), type := 96, pos := "parts.go:85", after := #[], guard := none }) (v := ?_) rfl (by kernel_rfl) (by kernel_rfl) (by kernel_rfl) (fun _ _ _ h => h) (Or.inl ⟨by rfl, ?_⟩) (by assumption) ?_
                rotate_left
                · intro w hSw; obtain ⟨k5, kf, k4, kr⟩ := hSw; go_simp; (try with_reducible rfl)
                try simp only [Act.put, List.setIfInBounds_toArray, List.set_cons_zero, List.set_cons_succ]
                refine wpAnyH_take (i := 1) (oi := { dst := some 78, op := Op.nilCheck (Operand.tmp 77), type := 0, pos := "parts.go:85", after := #[{ on := 0, ground := Ground.data }], guard := none }) (v := ?_) rfl (by kernel_rfl) (by kernel_rfl) (by kernel_rfl) (fun _ _ _ h => h) (Or.inl ⟨by rfl, ?_⟩) (by assumption) ?_
                rotate_left
                · intro w hSw; obtain ⟨k5, kf, k4, kr⟩ := hSw; go_simp; (try with_reducible rfl)
                try simp only [Act.put, List.setIfInBounds_toArray, List.set_cons_zero, List.set_cons_succ]
                refine wpAnyH_take (i := 2) (oi := { dst := some 79, op := Op.fieldAddr 87 (Operand.tmp 78) 5, type := 0, pos := "parts.go:85", after := #[{ on := 1, ground := Ground.data }], guard := none }) (v := ?_) rfl (by kernel_rfl) (by kernel_rfl) (by kernel_rfl) (fun _ _ _ h => h) (Or.inl ⟨by rfl, ?_⟩) (by assumption) ?_
                rotate_left
                · intro w hSw; obtain ⟨k5, kf, k4, kr⟩ := hSw; go_simp; (try with_reducible rfl)
                try simp only [Act.put, List.setIfInBounds_toArray, List.set_cons_zero, List.set_cons_succ]
                refine wpAnyH_take (i := 3) (oi := { dst := some 80, op := Op.load 23 (Operand.tmp 79), type := 23, pos := "parts.go:85", after := #[{ on := 2, ground := Ground.data }], guard := none }) (v := ?_) rfl (by kernel_rfl) (by kernel_rfl) (by kernel_rfl) (fun _ _ _ h => h) (Or.inl ⟨by rfl, ?_⟩) (by assumption) ?_
                rotate_left
                · intro w hSw; obtain ⟨k5, kf, k4, kr⟩ := hSw; go_simp; (try with_reducible rfl)
                try simp only [Act.put, List.setIfInBounds_toArray, List.set_cons_zero, List.set_cons_succ]
                refine wpAnyH_take (i := 4) (oi := { dst := some 81, op := Op.move (Operand.tmp 4), type := 97, pos := "parts.go:85", after := #[], guard := none }) (v := ?_) rfl (by kernel_rfl) (by kernel_rfl) (by kernel_rfl) (fun _ _ _ h => h) (Or.inl ⟨by rfl, ?_⟩) (by assumption) ?_
                rotate_left
                · intro w hSw; obtain ⟨k5, kf, k4, kr⟩ := hSw; go_simp; (try with_reducible rfl)
                try simp only [Act.put, List.setIfInBounds_toArray, List.set_cons_zero, List.set_cons_succ]
                refine wpAnyH_take (i := 5) (oi := { dst := some 82, op := Op.nilCheck (Operand.tmp 81), type := 0, pos := "parts.go:85", after := #[{ on := 4, ground := Ground.data }], guard := none }) (v := ?_) rfl (by kernel_rfl) (by kernel_rfl) (by kernel_rfl) (fun _ _ _ h => h) (Or.inl ⟨by rfl, ?_⟩) (by assumption) ?_
                rotate_left
                · intro w hSw; obtain ⟨k5, kf, k4, kr⟩ := hSw; go_simp; (try with_reducible rfl)
                try simp only [Act.put, List.setIfInBounds_toArray, List.set_cons_zero, List.set_cons_succ]
                refine wpAnyH_take (i := 6) (oi := { dst := some 83, op := Op.fieldAddr 99 (Operand.tmp 82) 0, type := 0, pos := "parts.go:85", after := #[{ on := 5, ground := Ground.data }], guard := none }) (v := ?_) rfl (by kernel_rfl) (by kernel_rfl) (by kernel_rfl) (fun _ _ _ h => h) (Or.inl ⟨by rfl, ?_⟩) (by assumption) ?_
                rotate_left
                · intro w hSw; obtain ⟨k5, kf, k4, kr⟩ := hSw; go_simp; (try with_reducible rfl)
                try simp only [Act.put, List.setIfInBounds_toArray, List.set_cons_zero, List.set_cons_succ]
                refine wpAnyH_take (i := 7) (oi := { dst := some 84, op := Op.load 3 (Operand.tmp 83), type := 3, pos := "parts.go:85", after := #[{ on := 6, ground := Ground.data }], guard := none }) (v := ?_) rfl (by kernel_rfl) (by kernel_rfl) (by kernel_rfl) (fun _ _ _ h => h) (Or.inl ⟨by rfl, ?_⟩) (by assumption) ?_
                rotate_left
                · intro w hSw; obtain ⟨k5, kf, k4, kr⟩ := hSw; go_simp; (try with_reducible rfl)
                try simp only [Act.put, List.setIfInBounds_toArray, List.set_cons_zero, List.set_cons_succ]
                refine wpAnyH_take (i := 8) (oi := { dst := some 85, op := Op.move (Operand.tmp 0), type := 96, pos := "parts.go:85", after := #[], guard := none }) (v := ?_) rfl (by kernel_rfl) (by kernel_rfl) (by kernel_rfl) (fun _ _ _ h => h) (Or.inl ⟨by rfl, ?_⟩) (by assumption) ?_
                rotate_left
                · intro w hSw; obtain ⟨k5, kf, k4, kr⟩ := hSw; go_simp; (try with_reducible rfl)
                try simp only [Act.put, List.setIfInBounds_toArray, List.set_cons_zero, List.set_cons_succ]
                refine wpAnyH_take (i := 9) (oi := { dst := some 86, op := Op.nilCheck (Operand.tmp 85), type := 0, pos := "parts.go:85", after := #[{ on := 8, ground := Ground.data }], guard := none }) (v := ?_) rfl (by kernel_rfl) (by kernel_rfl) (by kernel_rfl) (fun _ _ _ h => h) (Or.inl ⟨by rfl, ?_⟩) (by assumption) ?_
                rotate_left
                · intro w hSw; obtain ⟨k5, kf, k4, kr⟩ := hSw; go_simp; (try with_reducible rfl)
                try simp only [Act.put, List.setIfInBounds_toArray, List.set_cons_zero, List.set_cons_succ]
                refine wpAnyH_take (i := 10) (oi := { dst := some 87, op := Op.fieldAddr 87 (Operand.tmp 86) 5, type := 0, pos := "parts.go:85", after := #[{ on := 9, ground := Ground.data }], guard := none }) (v := ?_) rfl (by kernel_rfl) (by kernel_rfl) (by kernel_rfl) (fun _ _ _ h => h) (Or.inl ⟨by rfl, ?_⟩) (by assumption) ?_
                rotate_left
                · intro w hSw; obtain ⟨k5, kf, k4, kr⟩ := hSw; go_simp; (try with_reducible rfl)
                try simp only [Act.put, List.setIfInBounds_toArray, List.set_cons_zero, List.set_cons_succ]
                refine wpAnyH_take (i := 11) (oi := { dst := some 88, op := Op.load 23 (Operand.tmp 87), type := 23, pos := "parts.go:85", after := #[{ on := 10, ground := Ground.data }], guard := none }) (v := ?_) rfl (by kernel_rfl) (by kernel_rfl) (by kernel_rfl) (fun _ _ _ h => h) (Or.inl ⟨by rfl, ?_⟩) (by assumption) ?_
                rotate_left
                · intro w hSw; obtain ⟨k5, kf, k4, kr⟩ := hSw; go_simp; (try with_reducible rfl)
                try simp only [Act.put, List.setIfInBounds_toArray, List.set_cons_zero, List.set_cons_succ]
                refine wpAnyH_take (i := 12) (oi := { dst := some 89, op := Op.move (Operand.tmp 4), type := 97, pos := "parts.go:85", after := #[], guard := none }) (v := ?_) rfl (by kernel_rfl) (by kernel_rfl) (by kernel_rfl) (fun _ _ _ h => h) (Or.inl ⟨by rfl, ?_⟩) (by assumption) ?_
                rotate_left
                · intro w hSw; obtain ⟨k5, kf, k4, kr⟩ := hSw; go_simp; (try with_reducible rfl)
                try simp only [Act.put, List.setIfInBounds_toArray, List.set_cons_zero, List.set_cons_succ]
                refine wpAnyH_take (i := 13) (oi := { dst := some 90, op := Op.nilCheck (Operand.tmp 89), type := 0, pos := "parts.go:85", after := #[{ on := 12, ground := Ground.data }], guard := none }) (v := ?_) rfl (by kernel_rfl) (by kernel_rfl) (by kernel_rfl) (fun _ _ _ h => h) (Or.inl ⟨by rfl, ?_⟩) (by assumption) ?_
                rotate_left
                · intro w hSw; obtain ⟨k5, kf, k4, kr⟩ := hSw; go_simp; (try with_reducible rfl)
                try simp only [Act.put, List.setIfInBounds_toArray, List.set_cons_zero, List.set_cons_succ]
                refine wpAnyH_take (i := 14) (oi := { dst := some 91, op := Op.fieldAddr 99 (Operand.tmp 90) 0, type := 0, pos := "parts.go:85", after := #[{ on := 13, ground := Ground.data }], guard := none }) (v := ?_) rfl (by kernel_rfl) (by kernel_rfl) (by kernel_rfl) (fun _ _ _ h => h) (Or.inl ⟨by rfl, ?_⟩) (by assumption) ?_
                rotate_left
                · intro w hSw; obtain ⟨k5, kf, k4, kr⟩ := hSw; go_simp; (try with_reducible rfl)
                try simp only [Act.put, List.setIfInBounds_toArray, List.set_cons_zero, List.set_cons_succ]
                refine wpAnyH_take (i := 15) (oi := { dst := some 92, op := Op.load 3 (Operand.tmp 91), type := 3, pos := "parts.go:85", after := #[{ on := 14, ground := Ground.data }], guard := none }) (v := ?_) rfl (by kernel_rfl) (by kernel_rfl) (by kernel_rfl) (fun _ _ _ h => h) (Or.inl ⟨by rfl, ?_⟩) (by assumption) ?_
                rotate_left
                · intro w hSw; obtain ⟨k5, kf, k4, kr⟩ := hSw; go_simp; (try with_reducible rfl)
                try simp only [Act.put, List.setIfInBounds_toArray, List.set_cons_zero, List.set_cons_succ]
                refine wpAnyH_take (i := 16) (oi := { dst := some 93, op := Op.indexAddr 23 (Operand.tmp 88) (Operand.tmp 92), type := 0, pos := "parts.go:85", after := #[{ on := 11, ground := Ground.data }, { on := 15, ground := Ground.data }], guard := none }) (v := ?_) rfl (by kernel_rfl) (by kernel_rfl) (by kernel_rfl) (fun _ _ _ h => h) (Or.inl ⟨by rfl, ?_⟩) (by assumption) ?_
                rotate_left
                · intro w hSw; obtain ⟨k5, kf, k4, kr⟩ := hSw; go_simp; (try with_reducible rfl)
                try simp only [Act.put, List.setIfInBounds_toArray, List.set_cons_zero, List.set_cons_succ]
                refine wpAnyH_take (i := 18) (oi := { dst := some 95, op := Op.move (Operand.tmp 0), type := 96, pos := "parts.go:85", after := #[], guard := none }) (v := ?_) rfl (by kernel_rfl) (by kernel_rfl) (by kernel_rfl) (fun _ _ _ h => h) (Or.inl ⟨by rfl, ?_⟩) (by assumption) ?_
                rotate_left
                · intro w hSw; obtain ⟨k5, kf, k4, kr⟩ := hSw; go_simp; (try with_reducible rfl)
                try simp only [Act.put, List.setIfInBounds_toArray, List.set_cons_zero, List.set_cons_succ]
                refine wpAnyH_take (i := 19) (oi := { dst := some 96, op := Op.nilCheck (Operand.tmp 95), type := 0, pos := "parts.go:85", after := #[{ on := 18, ground := Ground.data }], guard := none }) (v := ?_) rfl (by kernel_rfl) (by kernel_rfl) (by kernel_rfl) (fun _ _ _ h => h) (Or.inl ⟨by rfl, ?_⟩) (by assumption) ?_
                rotate_left
                · intro w hSw; obtain ⟨k5, kf, k4, kr⟩ := hSw; go_simp; (try with_reducible rfl)
                try simp only [Act.put, List.setIfInBounds_toArray, List.set_cons_zero, List.set_cons_succ]
                refine wpAnyH_take (i := 20) (oi := { dst := some 97, op := Op.fieldAddr 87 (Operand.tmp 96) 4, type := 0, pos := "parts.go:85", after := #[{ on := 19, ground := Ground.data }], guard := none }) (v := ?_) rfl (by kernel_rfl) (by kernel_rfl) (by kernel_rfl) (fun _ _ _ h => h) (Or.inl ⟨by rfl, ?_⟩) (by assumption) ?_
                rotate_left
                · intro w hSw; obtain ⟨k5, kf, k4, kr⟩ := hSw; go_simp; (try with_reducible rfl)
                try simp only [Act.put, List.setIfInBounds_toArray, List.set_cons_zero, List.set_cons_succ]
                refine wpAnyH_take (i := 21) (oi := { dst := some 98, op := Op.load 23 (Operand.tmp 97), type := 23, pos := "parts.go:85", after := #[{ on := 20, ground := Ground.data }], guard := none }) (v := ?_) rfl (by kernel_rfl) (by kernel_rfl) (by kernel_rfl) (fun _ _ _ h => h) (Or.inl ⟨by rfl, ?_⟩) (by assumption) ?_
                rotate_left
                · intro w hSw; obtain ⟨k5, kf, k4, kr⟩ := hSw; go_simp; (try with_reducible rfl)
                try simp only [Act.put, List.setIfInBounds_toArray, List.set_cons_zero, List.set_cons_succ]
                refine wpAnyH_take (i := 22) (oi := { dst := some 99, op := Op.move (Operand.tmp 6), type := 3, pos := "parts.go:85", after := #[], guard := none }) (v := ?_) rfl (by kernel_rfl) (by kernel_rfl) (by kernel_rfl) (fun _ _ _ h => h) (Or.inl ⟨by rfl, ?_⟩) (by assumption) ?_
                rotate_left
                · intro w hSw; obtain ⟨k5, kf, k4, kr⟩ := hSw; go_simp; (try with_reducible rfl)
                try simp only [Act.put, List.setIfInBounds_toArray, List.set_cons_zero, List.set_cons_succ]
                refine wpAnyH_take (i := 23) (oi := { dst := some 100, op := Op.indexAddr 23 (Operand.tmp 98) (Operand.tmp 99), type := 0, pos := "parts.go:85", after := #[{ on := 21, ground := Ground.data }, { on := 22, ground := Ground.data }], guard := none }) (v := ?_) rfl (by kernel_rfl) (by kernel_rfl) (by kernel_rfl) (fun _ _ _ h => h) (Or.inl ⟨by rfl, ?_⟩) (by assumption) ?_
                rotate_left
                · intro w hSw; obtain ⟨k5, kf, k4, kr⟩ := hSw; go_simp; (try with_reducible rfl)
                try simp only [Act.put, List.setIfInBounds_toArray, List.set_cons_zero, List.set_cons_succ]
                refine wpAnyH_take (i := 24) (oi := { dst := some 101, op := Op.load 3 (Operand.tmp 100), type := 3, pos := "parts.go:85", after := #[{ on := 23, ground := Ground.data }], guard := none }) (v := ?_) rfl (by kernel_rfl) (by kernel_rfl) (by kernel_rfl) (fun _ _ _ h => h) (Or.inl ⟨by rfl, ?_⟩) (by assumption) ?_
                rotate_left
                · intro w hSw; obtain ⟨k5, kf, k4, kr⟩ := hSw; go_simp; (try with_reducible rfl)
                try simp only [Act.put, List.setIfInBounds_toArray, List.set_cons_zero, List.set_cons_succ]
                refine wpAnyH_ready (rs := [17]) (by kernel_rfl) (by simp) ?_
                refine AllReadyH.cons (o := { dst := some 94, op := Op.load 3 (Operand.tmp 93), type := 3, pos := "parts.go:85", after := #[{ on := 16, ground := Ground.data }], guard := none }) rfl (fun K hK => ?_) AllReadyH.nil
                go_simp
                refine hK.out _ _ hHeld (fun _ => ?_)
                clear hK K
                try simp only [Act.put, List.setIfInBounds_toArray, List.set_cons_zero, List.set_cons_succ]
                refine wpAnyH_take (i := 25) (oi := { dst := some 102, op := Op.call { callee := Callee.builtin Builtin.min, args := #[Operand.tmp 94, Operand.tmp 101], argTypes := #[3, 3] }, type := 3, pos := "parts.go:85", after := #[{ on := 17, ground := Ground.data }, { on := 24, ground := Ground.data }], guard := none }) (v := ?_) rfl (by kernel_rfl) (by kernel_rfl) (by kernel_rfl) (fun _ _ _ h => h) (Or.inl ⟨by rfl, ?_⟩) (by assumption) ?_
                rotate_left
                · intro w hSw; obtain ⟨k5, kf, k4, kr⟩ := hSw; go_simp; (try with_reducible rfl)
                try simp only [Act.put, List.setIfInBounds_toArray, List.set_cons_zero, List.set_cons_succ]
                refine wpAnyH_take (i := 26) (oi := { dst := some 103, op := Op.indexAddr 23 (Operand.tmp 80) (Operand.tmp 84), type := 0, pos := "parts.go:85", after := #[{ on := 3, ground := Ground.data }, { on := 7, ground := Ground.data }, { on := 0, ground := Ground.phase }, { on := 1, ground := Ground.phase }, { on := 2, ground := Ground.phase }, { on := 3, ground := Ground.phase }, { on := 4, ground := Ground.phase }, { on := 5, ground := Ground.phase }, { on := 6, ground := Ground.phase }, { on := 7, ground := Ground.phase }, { on := 8, ground := Ground.phase }, { on := 9, ground := Ground.phase }, { on := 10, ground := Ground.phase }, { on := 11, ground := Ground.phase }, { on := 12, ground := Ground.phase }, { on := 13, ground := Ground.phase }, { on := 14, ground := Ground.phase }, { on := 15, ground := Ground.phase }, { on := 16, ground := Ground.phase }, { on := 17, ground := Ground.phase }, { on := 18, ground := Ground.phase }, { on := 19, ground := Ground.phase }, { on := 20, ground := Ground.phase }, { on := 21, ground := Ground.phase }, { on := 22, ground := Ground.phase }, { on := 23, ground := Ground.phase }, { on := 24, ground := Ground.phase }, { on := 25, ground := Ground.phase }], guard := none }) (v := ?_) rfl (by kernel_rfl) (by kernel_rfl) (by kernel_rfl) (fun _ _ _ h => h) (Or.inl ⟨by rfl, ?_⟩) (by assumption) ?_
                rotate_left
                · intro w hSw; obtain ⟨k5, kf, k4, kr⟩ := hSw; go_simp; (try with_reducible rfl)
                try simp only [Act.put, List.setIfInBounds_toArray, List.set_cons_zero, List.set_cons_succ]
                refine wpAnyH_ready (rs := [27]) (by kernel_rfl) (by simp) ?_
                refine AllReadyH.cons (o := { dst := none, op := Op.store 3 (Operand.tmp 103) (Operand.tmp 102), type := 0, pos := "parts.go:85", after := #[{ on := 26, ground := Ground.data }, { on := 25, ground := Ground.data }, { on := 0, ground := Ground.phase }, { on := 1, ground := Ground.phase }, { on := 2, ground := Ground.phase }, { on := 3, ground := Ground.phase }, { on := 4, ground := Ground.phase }, { on := 5, ground := Ground.phase }, { on := 6, ground := Ground.phase }, { on := 7, ground := Ground.phase }, { on := 8, ground := Ground.phase }, { on := 9, ground := Ground.phase }, { on := 10, ground := Ground.phase }, { on := 11, ground := Ground.phase }, { on := 12, ground := Ground.phase }, { on := 13, ground := Ground.phase }, { on := 14, ground := Ground.phase }, { on := 15, ground := Ground.phase }, { on := 16, ground := Ground.phase }, { on := 17, ground := Ground.phase }, { on := 18, ground := Ground.phase }, { on := 19, ground := Ground.phase }, { on := 20, ground := Ground.phase }, { on := 21, ground := Ground.phase }, { on := 22, ground := Ground.phase }, { on := 23, ground := Ground.phase }, { on := 24, ground := Ground.phase }, { on := 25, ground := Ground.phase }], guard := none }) rfl (fun K hK => ?_) AllReadyH.nil
                go_simp
                refine hK.out _ _ (unhide HKS _ _ _ (unhide HS4)) (fun _ => ?_)
                clear hK K
                try simp only [Act.put, List.setIfInBounds_toArray, List.set_cons_zero, List.set_cons_succ]
                refine wpAnyH_done (by kernel_rfl) ?_ _
                generalize Wd.setCell ⟨lb, v, none⟩ (.int .i64 (lp : Int)) = W4 at *
                clear HKS HBd hHeld cld fld
                go_wp2
                go_roundg (ln v - (nx + 1))
                case measure => have := unhide HG2; omega
                case rel => exact ⟨nx + 1, _, hide (Nat.le_refl _), HS4, T5⟩
            · have T5 := hide (show Tj N ln L ⟨rk, lw, hd, op, (v, nx + 1) :: r, sn⟩ from by
                have := (unhide HT).look (v := v) (nx := nx) (r := r) rfl hlt (unhide HEX) hv (.inl ⟨hh, rfl⟩)
                dsimp only at this
                rw [up_self] at this
                exact this)
              have hz2 : (hd x == -1) = false := by simpa using hh
              have cr2 : W3.cell? ⟨rb, x, none⟩ = some (.int .i64 (rk x : Int)) := cr
              have ch2 : W3.cell? ⟨hb, x, none⟩ = some (.int .i64 (hd x)) := ch
              clear cr ch hh HT hx0
              generalize hd x = hx9 at ch2 hz2
              generalize rk x = rx9 at cr2 hz
              go_wp2
              go_roundg (ln v - (nx + 1))
              case measure => have := unhide HG2; omega
              case rel => exact ⟨nx + 1, _, hide (Nat.le_refl _), HB, T5⟩
        · obtain ⟨_, hle, _, _⟩ := (unhide HT).top (v := v) (nx := nx) (r := r) rfl
          obtain rfl : nx = ln v := by omega
          obtain ⟨_, t2, _⟩ := unhide HTC _ _ _ (unhide HS)
          have hge : ¬ ((ln v : Int) < (ln v : Int)) := by omega
          by_cases he : lw v = rk v
          · obtain ⟨A, C, ho, hvC, hltC⟩ := (unhide HT).split (unhide HVO)
            have cL := hide (fun (W : World) (h : Sg N (some ⟨nb, no, none⟩) nc w0 sb rb lb hb lo ⟨rk, lw, hd, op, (v, ln v) :: r, sn⟩ (.slice (some ⟨fb, 0, none⟩) (rl + 1) fc) ov W) => leave_shut h hN (show op.length ≤ N by have := unhide HL3; have := unhide HSN; omega) (v := v) (nx := ln v) (r := r) rfl (by have := unhide HL2; have := unhide HRL; have := unhide HSN; omega) hv he ho hvC hltC)
            have T5 := hide ((unhide HT).shut (v := v) (r := r) rfl he ho)
            clear HT ho hvC hltC he
            go_wp2_with (go_at_call 77; refine (unhide cL _ (unhide HS)).mono ?_; rintro x5 w5 ⟨rfl, fv5, ov5, hs5⟩; have HS5 := hide hs5; clear hs5)
            go_roundg (2 * wh rk N + rl)
            case measure => have := unhide HMS2; omega
            case rel => exact ⟨_, fv5, ov5, hide (by show _ + r.length ≤ _; rw [unhide HRL]; exact Nat.le_refl _), HS5, T5, HK⟩
          · obtain ⟨p, np, t, ht⟩ := (unhide HT).below (v := v) (nx := ln v) (r := r) rfl he
            subst ht
            have hpN : p < N := by
              have hf : FO ln L ⟨rk, lw, hd, op, (v, ln v) :: (p, np) :: t, sn⟩ none ((v, ln v) :: (p, np) :: t) := (unhide HT).fo
              exact ((unhide HT).o1 p hf.2.1.mem).1
            have cL := hide (fun (W : World) (h : Sg N (some ⟨nb, no, none⟩) nc w0 sb rb lb hb lo ⟨rk, lw, hd, op, (v, ln v) :: (p, np) :: t, sn⟩ (.slice (some ⟨fb, 0, none⟩) (rl + 1) fc) ov W) => leave_pass h hN (v := v) (nx := ln v) (p := p) (np := np) (t := t) rfl (by have := unhide HL2; have h9 : t.length + 1 = rl := unhide HRL; have := unhide HSN; omega) hv hpN he)
            have T5 := hide ((unhide HT).pass (v := v) (p := p) (np := np) (t := t) rfl he)
            clear HT he
            go_wp2_with (go_at_call 77; refine (unhide cL _ (unhide HS)).mono ?_; rintro x5 w5 ⟨rfl, fv5, ov5, hs5⟩; have HS5 := hide hs5; clear hs5)
            go_roundg (2 * wh rk N + rl)
            case measure => have := unhide HMS2; omega
            case rel => exact ⟨_, fv5, ov5, hide (by show _ + (t.length + 1) ≤ _; rw [show t.length + 1 = rl from unhide HRL]; exact Nat.le_refl _), HS5, T5, HK⟩
end Go.Proofs.Ytjflnpcpnoccjaa
