import Derived.Test.YtabjbppekijfiaaDsC
namespace Go.Proofs.Ytabjbppekijfiaa
open Go.RowKit

/-- THE DEFINITION'S SEARCH AS IT LIES. -/
structure Sd (P : Pb) (w0 : World) (sb vb B c : Nat) (out : Bool) (ca qa : Option Addr) (cc qc : Nat) (tr : List Int) (W : World) : Prop where
  str : W.heap[sb]? = some (.cells #[.slice ca P.N cc, .slice qa P.m qc, .int .i64 B, .int .i64 c, .bool out] 74 (0, 0))
  val : Va W vb P.n tr
  bel : Below w0.heap.size w0 W
  ord : w0.heap.size ≤ sb
theorem Sd.ne {P : Pb} {w0 : World} {sb vb B c : Nat} {out : Bool} {ca qa : Option Addr} {cc qc : Nat} {tr : List Int} {W : World} (h : Sd P w0 sb vb B c out ca qa cc qc tr W) : vb ≠ sb := by
  obtain ⟨cur, h1, _⟩ := h.val
  exact blk_ne (by decide) h.str h1
theorem Sd.later {P : Pb} {w0 : World} {sb vb B c : Nat} {out : Bool} {ca qa : Option Addr} {cc qc : Nat} {tr : List Int} {W W2 : World} (h : Sd P w0 sb vb B c out ca qa cc qc tr W) (hb : Below W.heap.size W W2) : Sd P w0 sb vb B c out ca qa cc qc tr W2 :=
  ⟨(hb.block _ (blk_lt h.str)).trans h.str, h.val.later hb, bl_t h.bel hb, h.ord⟩
theorem Sd.cells {P : Pb} {w0 : World} {sb vb B c : Nat} {out : Bool} {ca qa : Option Addr} {cc qc : Nat} {tr : List Int} {W : World} (h : Sd P w0 sb vb B c out ca qa cc qc tr W) :
    W.cell? ⟨sb, 0, none⟩ = some (.slice ca P.N cc) ∧ W.cell? ⟨sb, 1, none⟩ = some (.slice qa P.m qc) ∧ W.cell? ⟨sb, 2, none⟩ = some (.int .i64 B) ∧ W.cell? ⟨sb, 3, none⟩ = some (.int .i64 c) ∧ W.cell? ⟨sb, 4, none⟩ = some (.bool out) ∧ ∀ k, W.frozen? ⟨sb, k, none⟩ = false :=
  ⟨(cell_blk h.str 0).1, (cell_blk h.str 1).1, (cell_blk h.str 2).1, (cell_blk h.str 3).1, (cell_blk h.str 4).1, fun k => (cell_blk h.str k).2⟩
theorem Sd.setC {P : Pb} {w0 : World} {sb vb B c : Nat} {out : Bool} {ca qa : Option Addr} {cc qc : Nat} {tr : List Int} {W : World} (h : Sd P w0 sb vb B c out ca qa cc qc tr W) (c2 : Nat) : Sd P w0 sb vb B c2 out ca qa cc qc tr (W.setCell ⟨sb, 3, none⟩ (.int .i64 c2)) :=
  ⟨set_blk h.str 3 _, h.val.same (set_other _ _ _ _ _ h.ne), h.bel.setCell (p := ⟨sb, 3, none⟩) h.ord _, h.ord⟩
theorem Sd.setO {P : Pb} {w0 : World} {sb vb B c : Nat} {out : Bool} {ca qa : Option Addr} {cc qc : Nat} {tr : List Int} {W : World} (h : Sd P w0 sb vb B c out ca qa cc qc tr W) (o2 : Bool) : Sd P w0 sb vb B c o2 ca qa cc qc tr (W.setCell ⟨sb, 4, none⟩ (.bool o2)) :=
  ⟨set_blk h.str 4 _, h.val.same (set_other _ _ _ _ _ h.ne), h.bel.setCell (p := ⟨sb, 4, none⟩) h.ord _, h.ord⟩
/-- Another trail's values, the search as it is. -/
theorem Sd.with_ {P : Pb} {w0 : World} {sb vb B c : Nat} {out : Bool} {ca qa : Option Addr} {cc qc : Nat} {tr : List Int} {W : World} (h : Sd P w0 sb vb B c out ca qa cc qc tr W) {g : Nat} {tr2 : List Int} (hv : Va W g P.n tr2) : Sd P w0 sb g B c out ca qa cc qc tr2 W := ⟨h.str, hv, h.bel, h.ord⟩
theorem bl_drew (w : World) (n : Nat) : Below w.heap.size w (w.drewN n) := bl_drewN w n
/-- What a scan leaves. -/
def Rc (P : Pb) (w0 : World) (sb vb B c : Nat) (ca qa : Option Addr) (cc qc : Nat) (tr : List Int) (w : World) (x : Ending) (w' : World) : Prop := Bt sb w w' ∧
  ((B < c + P.cost tr ∧ x = .returned (.tuple #[.bool false, .int .i64 0]) ∧ Sd P w0 sb vb B B true ca qa cc qc tr w') ∨
   (c + P.cost tr ≤ B ∧ P.ff tr ≠ -1 ∧ x = .returned (.tuple #[.bool false, .int .i64 0]) ∧ Sd P w0 sb vb B (c + P.cost tr) false ca qa cc qc tr w') ∨
   (c + P.cost tr ≤ B ∧ P.ff tr = -1 ∧ x = .returned (.tuple #[.bool true, .int .i64 (P.sc tr P.N).1]) ∧ Sd P w0 sb vb B (c + P.cost tr) false ca qa cc qc tr w'))
set_option maxRecDepth 100000 in
set_option maxHeartbeats 4000000 in
theorem rscan_any {P : Pb} (hP : P.Ok) {w0 : World} {sb vb vc B c : Nat} {ca qa : Option Addr} {cc qc : Nat} {tr : List Int} {w : World} (hB : B ≤ 1152921504606846976) (hc : c ≤ B) (hN : P.N ≤ 140737488355328) (hln : ∀ k, k < P.N → P.ln k ≤ 140737488355328) (hR : Rr w0 ca P.N P.ln P.L) (h : Sd P w0 sb vb B c false ca qa cc qc tr w) :
    Calls Try.prog 53 #[.pointer (some ⟨sb, 0, none⟩), .slice (some ⟨vb, 0, none⟩) P.n vc] w fun x w' => Rc P w0 sb vb B c ca qa cc qc tr w x w' := by
  have HR := hide hR
  have HS := hide h
  have HOK := hide hP
  have HLN := hide hln
  have HB0 := hide (Bt.refl sb w)
  clear hR h hP hln
  go_enter Try.func53, Try.ntmps53
  go_wp2_with fail
  go_loopg [6, 7] P.N (fun g1 vu vi wr => ∃ i : Nat, vi = .int .i64 i ∧ i ≤ P.N ∧ P.N - i ≤ g1 ∧ c + i ≤ B ∧ vu = .int .i64 (P.sc tr i).1 ∧ Hid (∀ j, j < i → P.fF tr j = false) ∧ Hid (Sd P w0 sb vb B (c + i) false ca qa cc qc tr wr) ∧ Hid (Bt sb w wr))
  case atStart => exact ⟨0, by go_num, by omega, by omega, by omega, rfl, hide (fun j hj => absurd hj (Nat.not_lt_zero _)), HS, HB0⟩
  case round =>
    clear HS HB0
    obtain ⟨i, rfl, hi, hg, hci, rfl, HA, HS, HB⟩ := hrel
    obtain ⟨c0, c1, c2, c3, c4, fr⟩ := (unhide HS).cells
    by_cases hlt : i < P.N
    · obtain ⟨b, o, xa, xc, rfl, hx, hri⟩ := ((unhide HR).later (unhide HS).bel).at hlt
      have HX := hide (And.intro hx hri)
      clear hx hri
      have HD := hide (show c + i = c + i from rfl)
      generalize hd : c + i = d at *
      by_cases hdB : d = B
      · subst hdB
        go_wp2_with fail
        go_quiet (fail)
        have HS2 := hide ((unhide HS).later (bl_drewN wr nq))
        have HB2 := hide ((unhide HB).trans (Bt.of (bl_drewN wr nq)))
        clear c0 c1 c2 c3 c4 fr HS HB HX
        generalize wr.drewN nq = W2 at *
        obtain ⟨c0, c1, c2, c3, c4, fr⟩ := (unhide HS2).cells
        have f4 := fr 4
        have HS3 := hide ((unhide HS2).setO true)
        have HB3 := hide ((unhide HB2).trans (Bt.set sb 4 (.bool true) W2))
        have HC := hide (cost_gt hlt (unhide HA))
        clear fr
        go_wp2
        go_ret2
        exact ⟨unhide HB3, .inl ⟨by have := unhide HC; omega, rfl, unhide HS3⟩⟩
      · go_wp2_with fail
        go_quiet (fail)
        have HS2 := hide ((unhide HS).later (bl_drewN wr nq))
        have HB2 := hide ((unhide HB).trans (Bt.of (bl_drewN wr nq)))
        clear c0 c1 c2 c3 c4 fr HS HB HX
        generalize wr.drewN nq = W2 at *
        obtain ⟨c0, c1, c2, c3, c4, fr⟩ := (unhide HS2).cells
        have f3 := fr 3
        have e1 : ((d + 1 : Nat) : Int) = (d : Int) + 1 := by omega
        have HS3 := hide ((unhide HS2).setC (d + 1))
        have HB3 := hide ((unhide HB2).trans (Bt.set sb 3 (.int .i64 ((d + 1 : Nat) : Int)) W2))
        rw [e1] at HS3 HB3
        clear fr e1
        go_upto_region 9 with fail
        clear c0 c1 c2 c3 c4 f3 HS2 HB2
        generalize W2.setCell ⟨sb, 3, none⟩ (.int .i64 ((d : Int) + 1)) = W3 at *
        obtain ⟨c0, c1, c2, c3, c4, fr⟩ := (unhide HS3).cells
        obtain ⟨b', o', xa, xc, e', hx, hri⟩ := ((unhide HR).later (unhide HS3).bel).at hlt
        cases e'
        have HRI := hide hri
        have cK := hide (fun vc => Kind_any (vc := vc) (c := xc) (unhide HOK).n (unhide HS3).val (unhide HLN i hlt) (unhide HRI) (fun j hj => (unhide HOK).cl i hlt j hj))
        have HKF := hide (kd_false (P := P) (tr := tr) (i := i))
        have HKU := hide (fun (hf : P.fF tr i = false) => sc_kd (P := P) hf)
        clear hri HRI fr
        obtain ⟨k1, hk1⟩ : ∃ k1, k1 = (kd tr (P.ln i) (P.L i)).1 := ⟨_, rfl⟩
        obtain ⟨k2, hk2⟩ : ∃ k2, k2 = (kd tr (P.ln i) (P.L i)).2 := ⟨_, rfl⟩
        rw [← hk1] at cK HKF HKU
        rw [← hk2] at cK HKU
        clear hk1 hk2
        by_cases hf : P.fF tr i = true
        · obtain rfl : k1 = 2 := (unhide HKF).2 hf
          have HFF := hide (ff_at hlt (unhide HA) hf)
          clear HKF HKU
          go_wp2_with (go_at_call 65; refine (unhide cK _).mono ?_; rintro x1 w1 ⟨rfl, hb1⟩; have HS4 := hide ((unhide HS3).later hb1); have HB4 := hide ((unhide HB3).trans (Bt.of hb1)); clear hb1)
          go_ret2
          obtain ⟨q1, q2⟩ := unhide HFF
          exact ⟨unhide HB4, .inr (.inl ⟨by omega, q1, rfl, by rw [q2, ← Nat.add_assoc, hd]; exact unhide HS4⟩)⟩
        · have hf2 : P.fF tr i = false := by simpa using hf
          have HU := hide (unhide HKU hf2)
          have hk12 : k1 ≠ 2 := fun q => hf ((unhide HKF).1 q)
          have HA2 := hide (show ∀ j, j < i + 1 → P.fF tr j = false from fun j hj => by
            by_cases e : j = i
            · subst e; exact hf2
            · exact unhide HA j (by omega))
          clear HKF HKU hf hf2
          generalize (P.sc tr i).1 = su at *
          by_cases hk3 : k1 = 3
          · by_cases hsu : su = 0
            · rw [if_pos ⟨hk3, hsu⟩] at HU
              subst hk3
              subst hsu
              clear hk12
              go_wp2_with (go_at_call 65; refine (unhide cK _).mono ?_; rintro x1 w1 ⟨rfl, hb1⟩; have HS4 := hide ((unhide HS3).later hb1); have HB4 := hide ((unhide HB3).trans (Bt.of hb1)); clear hb1)
              go_roundg (P.N - (i + 1))
              case measure => omega
              case rel => exact ⟨i + 1, by go_num, by omega, by omega, by omega, by rw [unhide HU], HA2, by rw [← Nat.add_assoc, hd]; exact HS4, HB4⟩
            · rw [if_neg (fun q => hsu q.2)] at HU
              subst hk3
              clear hk12
              go_wp2_with (go_at_call 65; refine (unhide cK _).mono ?_; rintro x1 w1 ⟨rfl, hb1⟩; have HS4 := hide ((unhide HS3).later hb1); have HB4 := hide ((unhide HB3).trans (Bt.of hb1)); clear hb1)
              go_roundg (P.N - (i + 1))
              case measure => omega
              case rel => exact ⟨i + 1, by go_num, by omega, by omega, by omega, by rw [unhide HU], HA2, by rw [← Nat.add_assoc, hd]; exact HS4, HB4⟩
          · rw [if_neg (fun q => hk3 q.1)] at HU
            go_wp2_with (go_at_call 65; refine (unhide cK _).mono ?_; rintro x1 w1 ⟨rfl, hb1⟩; have HS4 := hide ((unhide HS3).later hb1); have HB4 := hide ((unhide HB3).trans (Bt.of hb1)); clear hb1)
            go_roundg (P.N - (i + 1))
            case measure => omega
            case rel => exact ⟨i + 1, by go_num, by omega, by omega, by omega, by rw [unhide HU], HA2, by rw [← Nat.add_assoc, hd]; exact HS4, HB4⟩
    · go_wp2_with fail
      obtain rfl : i = P.N := by omega
      obtain ⟨q1, q2⟩ := ff_none (unhide HA)
      go_ret2
      exact ⟨unhide HB, .inr (.inr ⟨by omega, q1, rfl, by rw [q2]; exact unhide HS⟩)⟩
end Go.Proofs.Ytabjbppekijfiaa
