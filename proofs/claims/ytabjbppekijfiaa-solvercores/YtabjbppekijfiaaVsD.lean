import Derived.Test.YtabjbppekijfiaaVsN
import Derived.WalkMore
import Derived.Deep.LoopGhost
namespace Go.Proofs.Ytabjbppekijfiaa
open Go.RowKit

theorem Sm.look {P : Pb} {w0 : World} {bb kb sb vb lo B c : Nat} {ca qa : Option Addr} {cc qc : Nat} {vr : List Int} {s : Sx} {tv uv : Value} {W : World} (h : Sm P w0 bb kb sb vb lo B c ca qa cc qc vr s tv uv W) (d : Nat) :
    Sm P w0 bb kb sb vb lo B d ca qa cc qc vr s tv uv (W.setCell ⟨kb, 0, none⟩ (.int .i64 d)) := by
  obtain ⟨cur, v1, v2⟩ := h.val
  obtain ⟨o1, o2, o3, o4, o5⟩ := h.ord
  have hb : ∀ q, q ≠ kb → (W.setCell ⟨kb, 0, none⟩ (.int .i64 d)).heap[q]? = W.heap[q]? := fun q hq => set_other _ _ _ _ _ hq
  have ho : ∀ {e size u n xs}, W.ownsRow lo e size u n xs → (W.setCell ⟨kb, 0, none⟩ (.int .i64 d)).ownsRow lo e size u n xs := fun {e size u n xs} h => by
    refine ⟨h.1, ?_⟩
    rcases h.2 with h' | ⟨g, cap, cr, h1, h2, h3, h4⟩
    · exact .inl h'
    · exact .inr ⟨g, cap, cr, h1, h2, (hb g (by omega)).trans h3, h4⟩
  refine ⟨(hb _ (by omega)).trans h.bud, ?_, (hb _ (blk_ne (by decide) h.lks h.str)).trans h.str, ⟨cur, (hb _ (blk_ne (by decide) h.lks v1)).trans v1, v2⟩, ho h.trl, ho h.trn, h.ord, h.bel.setCell (p := ⟨kb, 0, none⟩) (by show w0.heap.size ≤ kb; omega) _⟩
  have := set_blk h.lks 0 (.int .i64 d)
  simpa using this
theorem look_no {P : Pb} {w0 : World} {bb kb sb vb lo B : Nat} {ca qa : Option Addr} {cc qc : Nat} {vr : List Int} {s : Sx} {tv uv : Value} {w : World} (h : Sm P w0 bb kb sb vb lo B B ca qa cc qc vr s tv uv w) :
    Calls Try.prog 58 #[.pointer (some ⟨kb, 0, none⟩), .pointer (some ⟨bb, 0, none⟩)] w fun x w' => x = .returned (.bool false) ∧ w' = w := by
  have h1 := (cell_blk h.lks 0).1
  have h2 := (cell_blk h.bud 0).1
  simp at h1 h2
  have hz : ((B : Int) == (B : Int)) = true := by simp
  clear h
  go_enter Try.func58, Try.ntmps58
  go_wp2
  go_ret
  exact ⟨rfl, rfl⟩
theorem look_yes {P : Pb} {w0 : World} {bb kb sb vb lo B c : Nat} {ca qa : Option Addr} {cc qc : Nat} {vr : List Int} {s : Sx} {tv uv : Value} {w : World} (hB : B ≤ 1152921504606846976) (hc : c < B) (h : Sm P w0 bb kb sb vb lo B c ca qa cc qc vr s tv uv w) :
    Calls Try.prog 58 #[.pointer (some ⟨kb, 0, none⟩), .pointer (some ⟨bb, 0, none⟩)] w fun x w' => x = .returned (.bool true) ∧ w' = w.setCell ⟨kb, 0, none⟩ (.int .i64 ((c : Int) + 1)) := by
  have h1 := (cell_blk h.lks 0).1
  have f1 := (cell_blk h.lks 0).2
  have h2 := (cell_blk h.bud 0).1
  simp at h1 h2
  have hz : ((c : Int) == (B : Int)) = false := by simp; omega
  clear h
  go_enter Try.func58, Try.ntmps58
  go_wp2
  go_ret
  exact ⟨rfl, rfl⟩
/-- The search, and what has been seen. -/
structure Sq (P : Pb) (w0 : World) (bb kb sb vb lo B c : Nat) (ca qa : Option Addr) (cc qc : Nat) (s : Sx) (tv uv : Value) (zb : Nat) (u p : Int) (W : World) : Prop where
  sm : Sm P w0 bb kb sb vb lo B c ca qa cc qc s.tr s tv uv W
  see : W.heap[zb]? = some (.cells #[.bool false, .int .i64 u, .int .i64 p] 97 (0, 0))
  low : lo ≤ W.heap.size
theorem Sq.later {P : Pb} {w0 : World} {bb kb sb vb lo B c : Nat} {ca qa : Option Addr} {cc qc : Nat} {s : Sx} {tv uv : Value} {zb : Nat} {u p : Int} {W W2 : World} (h : Sq P w0 bb kb sb vb lo B c ca qa cc qc s tv uv zb u p W) (hb : Below W.heap.size W W2) : Sq P w0 bb kb sb vb lo B c ca qa cc qc s tv uv zb u p W2 :=
  ⟨h.sm.later hb, (hb.block _ (blk_lt h.see)).trans h.see, Nat.le_trans h.low hb.size⟩
theorem Sq.look {P : Pb} {w0 : World} {bb kb sb vb lo B c : Nat} {ca qa : Option Addr} {cc qc : Nat} {s : Sx} {tv uv : Value} {zb : Nat} {u p : Int} {W : World} (h : Sq P w0 bb kb sb vb lo B c ca qa cc qc s tv uv zb u p W) : Sq P w0 bb kb sb vb lo B (c + 1) ca qa cc qc s tv uv zb u p (W.setCell ⟨kb, 0, none⟩ (.int .i64 ((c : Int) + 1))) :=
  ⟨h.sm.look (c + 1), (set_other _ _ _ _ _ (blk_ne (by decide) h.sm.lks h.see)).trans h.see, by rw [set_size]; exact h.low⟩
theorem Sq.cells {P : Pb} {w0 : World} {bb kb sb vb lo B c : Nat} {ca qa : Option Addr} {cc qc : Nat} {s : Sx} {tv uv : Value} {zb : Nat} {u p : Int} {W : World} (h : Sq P w0 bb kb sb vb lo B c ca qa cc qc s tv uv zb u p W) : W.cell? ⟨zb, 0, none⟩ = some (.bool false) ∧ W.cell? ⟨zb, 1, none⟩ = some (.int .i64 u) ∧ W.cell? ⟨zb, 2, none⟩ = some (.int .i64 p) ∧ ∀ k, W.frozen? ⟨zb, k, none⟩ = false :=
  ⟨(cell_blk h.see 0).1, (cell_blk h.see 1).1, (cell_blk h.see 2).1, fun k => (cell_blk h.see k).2⟩
theorem sm_seen {P : Pb} {w0 : World} {bb kb sb vb lo B c : Nat} {ca qa : Option Addr} {cc qc : Nat} {vr : List Int} {s : Sx} {tv uv : Value} {W : World} (h : Sm P w0 bb kb sb vb lo B c ca qa cc qc vr s tv uv W) {zb j : Nat} {cz : Array Value} (hz : W.heap[zb]? = some (.cells cz 97 (0, 0))) (hzw : w0.heap.size ≤ zb) (x : Value) : Sm P w0 bb kb sb vb lo B c ca qa cc qc vr s tv uv (W.setCell ⟨zb, j, none⟩ x) := by
  obtain ⟨cur, v1, v2⟩ := h.val
  have hb : ∀ q, q ≠ zb → (W.setCell ⟨zb, j, none⟩ x).heap[q]? = W.heap[q]? := fun q hq => set_other _ _ _ _ _ hq
  exact ⟨(hb _ (blk_ne (by decide) hz h.bud)).trans h.bud, (hb _ (blk_ne (by decide) hz h.lks)).trans h.lks, (hb _ (blk_ne (by decide) hz h.str)).trans h.str, ⟨cur, (hb _ (blk_ne (by decide) hz v1)).trans v1, v2⟩, own_set (by decide) hz h.trl, own_set (by decide) hz h.trn, h.ord, h.bel.setCell (p := ⟨zb, j, none⟩) hzw _⟩
theorem Sq.setU {P : Pb} {w0 : World} {bb kb sb vb lo B c : Nat} {ca qa : Option Addr} {cc qc : Nat} {s : Sx} {tv uv : Value} {zb : Nat} {u p : Int} {W : World} (h : Sq P w0 bb kb sb vb lo B c ca qa cc qc s tv uv zb u p W) (hz : w0.heap.size ≤ zb) (x : Int) : Sq P w0 bb kb sb vb lo B c ca qa cc qc s tv uv zb x p (W.setCell ⟨zb, 1, none⟩ (.int .i64 x)) :=
  ⟨sm_seen h.sm h.see hz _, by have := set_blk h.see 1 (.int .i64 x); simpa using this, by rw [set_size]; exact h.low⟩
theorem Sq.setP {P : Pb} {w0 : World} {bb kb sb vb lo B c : Nat} {ca qa : Option Addr} {cc qc : Nat} {s : Sx} {tv uv : Value} {zb : Nat} {u p : Int} {W : World} (h : Sq P w0 bb kb sb vb lo B c ca qa cc qc s tv uv zb u p W) (hz : w0.heap.size ≤ zb) (x : Int) : Sq P w0 bb kb sb vb lo B c ca qa cc qc s tv uv zb u x (W.setCell ⟨zb, 2, none⟩ (.int .i64 x)) :=
  ⟨sm_seen h.sm h.see hz _, by have := set_blk h.see 2 (.int .i64 x); simpa using this, by rw [set_size]; exact h.low⟩
theorem cost_gt {P : Pb} {tr : List Int} {i : Nat} (hi : i < P.N) (h : ∀ j, j < i → P.fF tr j = false) : i < P.cost tr := by
  unfold Pb.cost
  split
  · exact hi
  · rename_i q
    rcases firstN_cases P.N (fun i => !P.fF tr i) with ⟨e, _⟩ | ⟨k, hk, e, e2⟩
    · exact absurd e q
    · unfold Pb.ff
      rw [e]
      by_cases z : k < i
      · rw [h k z] at e2; cases e2
      · omega
theorem ff_at {P : Pb} {tr : List Int} {i : Nat} (hi : i < P.N) (h : ∀ j, j < i → P.fF tr j = false) (hf : P.fF tr i = true) : P.ff tr ≠ -1 ∧ P.cost tr = i + 1 := by
  have e : P.ff tr = (i : Int) := firstN_at hi (by simp [hf]) (fun j hj => by simp [h j hj])
  refine ⟨by omega, ?_⟩
  unfold Pb.cost
  rw [e, if_neg (by omega)]
  omega
theorem ff_none {P : Pb} {tr : List Int} (h : ∀ j, j < P.N → P.fF tr j = false) : P.ff tr = -1 ∧ P.cost tr = P.N := by
  have e : P.ff tr = -1 := firstN_all fun j hj => by simp [h j hj]
  exact ⟨e, by unfold Pb.cost; rw [if_pos e]⟩
theorem acN_open {tr : List Int} {o : Int} {al pr : Bool} {l : Int} (h : stn tr l = 0) : acN tr ⟨o, al, pr⟩ l = ⟨if o = 0 then l else o, al && (l == if o = 0 then l else o), pr && decide (0 < l)⟩ := if_pos h
theorem acN_shut {tr : List Int} {a : Ac} {l : Int} (h : stn tr l ≠ 0) : acN tr a l = a := if_neg h
theorem Sq.store {P : Pb} {w0 : World} {bb kb sb vb lo B c : Nat} {ca qa : Option Addr} {cc qc : Nat} {s : Sx} {tv uv : Value} {zb : Nat} {u p : Int} {W : World} (h : Sq P w0 bb kb sb vb lo B c ca qa cc qc s tv uv zb u p W) (hz : w0.heap.size ≤ zb) (x0 x1 x2 : Value) :
    Sm P w0 bb kb sb vb lo B c ca qa cc qc s.tr s tv uv (((W.setCell ⟨zb, 0, none⟩ x0).setCell ⟨zb, 1, none⟩ x1).setCell ⟨zb, 2, none⟩ x2) ∧ (((W.setCell ⟨zb, 0, none⟩ x0).setCell ⟨zb, 1, none⟩ x1).setCell ⟨zb, 2, none⟩ x2).heap[zb]? = some (.cells #[x0, x1, x2] 97 (0, 0)) ∧ lo ≤ (((W.setCell ⟨zb, 0, none⟩ x0).setCell ⟨zb, 1, none⟩ x1).setCell ⟨zb, 2, none⟩ x2).heap.size := by
  have b0 := set_blk h.see 0 x0
  have s0 := sm_seen h.sm h.see hz (j := 0) x0
  have b1 := set_blk b0 1 x1
  have s1 := sm_seen s0 b0 hz (j := 1) x1
  have b2 := set_blk b1 2 x2
  have s2 := sm_seen s1 b1 hz (j := 2) x2
  refine ⟨s2, ?_, by rw [set_size, set_size, set_size]; exact h.low⟩
  rw [b2]
  simp
/-- What a scan leaves. -/
def Sc (P : Pb) (w0 : World) (bb kb sb vb lo B c : Nat) (ca qa : Option Addr) (cc qc : Nat) (s : Sx) (tv uv : Value) (x : Ending) (w' : World) : Prop := lo ≤ w'.heap.size ∧
  ((c + P.cost s.tr ≤ B ∧ Sm P w0 bb kb sb vb lo B (c + P.cost s.tr) ca qa cc qc s.tr s tv uv w' ∧ ((P.ff s.tr ≠ -1 ∧ x = .returned (.tuple #[.agg #[.bool true, .int .i64 0, .int .i64 0], .bool true])) ∨ (P.ff s.tr = -1 ∧ x = .returned (.tuple #[.agg #[.bool false, .int .i64 (P.sc s.tr P.N).1, .int .i64 (P.sc s.tr P.N).2], .bool true])))) ∨
   (B < c + P.cost s.tr ∧ Sm P w0 bb kb sb vb lo B B ca qa cc qc s.tr s tv uv w' ∧ x = .returned (.tuple #[.agg #[.bool false, .int .i64 0, .int .i64 0], .bool false])))
set_option maxRecDepth 100000 in
set_option maxHeartbeats 8000000 in
theorem scan_any {P : Pb} (hP : P.Ok) {w0 : World} {bb kb sb vb lo B c : Nat} {ca qa : Option Addr} {cc qc : Nat} {s : Sx} {tv uv : Value} {w : World} (hB : B ≤ 1152921504606846976) (hc : c ≤ B) (hN : P.N ≤ 140737488355328) (hln : ∀ k, k < P.N → P.ln k ≤ 140737488355328) (hR : Rr w0 ca P.N P.ln P.L) (h : Sm P w0 bb kb sb vb lo B c ca qa cc qc s.tr s tv uv w) (hlo : lo ≤ w.heap.size) :
    Calls Try.prog 60 #[.pointer (some ⟨sb, 0, none⟩), .func (.func 58) #[] #[.pointer (some ⟨kb, 0, none⟩), .pointer (some ⟨bb, 0, none⟩)]] w fun x w' => Sc P w0 bb kb sb vb lo B c ca qa cc qc s tv uv x w' := by
  have HR := hide hR
  have HS := hide h
  have HLO := hide hlo
  have HOK := hide hP
  have HLN := hide hln
  have HQ := hide (show Sq P w0 bb kb sb vb lo B c ca qa cc qc s tv uv w.heap.size 0 0 (w.alloc (.cells #[.bool false, .int .i64 0, .int .i64 0] 97)) from ⟨h.later ((Below.refl w.heap.size w).alloc (Nat.le_refl _) _), heap_new _ _, Nat.le_trans hlo (by simp)⟩)
  have HZW := hide (show w0.heap.size ≤ w.heap.size from h.bel.size)
  clear hR h hlo hP hln HS HLO
  go_enter Try.func60, Try.ntmps60
  go_wp2
  generalize w.heap.size = zb at *
  generalize w.alloc (.cells #[.bool false, .int .i64 0, .int .i64 0] 97) = W1 at *
  obtain ⟨c0, _⟩ := (unhide HQ).sm.cells
  go_step3
  go_wp2
  go_step3
  go_wp2_with fail
  go_loopg [7, 8, 9, 10, 12, 18] P.N (fun g1 _ _ _ _ _ vi wr => ∃ i : Nat, vi = .int .i64 i ∧ i ≤ P.N ∧ P.N - i ≤ g1 ∧ c + i ≤ B ∧ Hid (∀ j, j < i → P.fF s.tr j = false) ∧ Hid (Sq P w0 bb kb sb vb lo B (c + i) ca qa cc qc s tv uv zb (P.sc s.tr i).1 (P.sc s.tr i).2 wr))
  case atStart => exact ⟨0, by go_num, by omega, by omega, by omega, hide fun j h => absurd h (Nat.not_lt_zero _), HQ⟩
  case round =>
    clear HQ c0
    obtain ⟨i, rfl, hi, hg, hci, HF, HQ⟩ := hrel
    by_cases hlt : i < P.N
    · obtain ⟨b, o, la, lc, hca, hcl, hri⟩ := ((unhide HR).later (unhide HQ).sm.bel).at hlt
      subst hca
      by_cases hcb : c + i = B
      · have cL := hide (look_no (by have := (unhide HQ).sm; rw [hcb] at this; exact this))
        have HBC := hide (show B < c + P.cost s.tr from by
          have := cost_gt (P := P) (tr := s.tr) hlt (unhide HF)
          omega)
        have HSM := hide (by have := (unhide HQ).sm; rw [hcb] at this; exact this)
        obtain ⟨z0, z1, z2, zf⟩ := (unhide HQ).cells
        have y0 := zf 0
        have y1 := zf 1
        have y2 := zf 2
        have HST := hide (by have q := (unhide HQ); rw [hcb] at q; exact q.store (unhide HZW) (.bool false) (.int .i64 0) (.int .i64 0))
        go_wp2_with (go_at_call 58; refine (unhide cL).mono ?_; rintro x w2 ⟨rfl, hw2⟩; rw [hw2]; clear hw2 w2)
        generalize ((wr.setCell ⟨zb, 0, none⟩ (.bool false)).setCell ⟨zb, 1, none⟩ (.int .i64 0)).setCell ⟨zb, 2, none⟩ (.int .i64 0) = W2 at HST ⊢
        rw [Exit.noGoto_ret]
        have q0 := (cell_blk (unhide HST).2.1 0).1
        have q1 := (cell_blk (unhide HST).2.1 1).1
        have q2 := (cell_blk (unhide HST).2.1 2).1
        simp at q0 q1 q2
        exact bodyPost_ret (v := .tuple #[.agg #[.bool false, .int .i64 0, .int .i64 0], .bool false]) (by simp [results, Try.results60, go_sem, q0, q1, q2]) rfl ⟨(unhide HST).2.2, .inr ⟨unhide HBC, (unhide HST).1, rfl⟩⟩
      · have hci2 : c + i < B := by omega
        have cL := hide (look_yes hB hci2 (unhide HQ).sm)
        have HQ2 := hide (show Sq P w0 bb kb sb vb lo B (c + (i + 1)) (some ⟨b, o, none⟩) qa cc qc s tv uv zb (P.sc s.tr i).1 (P.sc s.tr i).2 (wr.setCell ⟨kb, 0, none⟩ (.int .i64 ((c : Int) + (i : Int) + 1))) from by have q := (unhide HQ).look; rw [Int.natCast_add] at q; exact q)
        have HRI := hide hri
        have HRB := hide (fun (W : World) (h : Below wr.heap.size wr W) => Ri.later hri h)
        have hml := unhide HLN i hlt
        have hok := (unhide HOK).cl i hlt
        have HOKL := hide hok
        have HTT := hide (show P.tT s.tr i = isT s.tr (P.ln i) (P.L i) from rfl)
        have HAC := hide (show P.ac s.tr i = acc s.tr (P.L i) (P.ln i) from rfl)
        have HSN := hide (show P.sc s.tr (i + 1) = P.sN s.tr i (P.sc s.tr i) from rfl)
        have HW := hide (show ∀ (W : World), Sq P w0 bb kb sb vb lo B (c + (i + 1)) (some ⟨b, o, none⟩) qa cc qc s tv uv zb (P.sc s.tr i).1 (P.sc s.tr i).2 W → Ri W la (P.ln i) (P.L i) from fun W hW => by
          obtain ⟨b2, o2, la2, lc2, e2, hcl2, hri2⟩ := ((unhide HR).later hW.sm.bel).at hlt
          cases e2
          obtain ⟨ca3, cc3, r3, r4⟩ := unhide HR
          obtain ⟨b4, o4, e4, hl4, hc4⟩ := r3.at hlt
          cases e4
          have q1 := ((unhide HQ).sm.bel.cell (p := ⟨b, o + i, none⟩) hl4).trans hc4
          rw [hcl] at q1
          injection q1 with q1
          injection q1 with q1 _ q2
          subst q1
          exact (r4 i hlt).later hW.sm.bel)
        clear hri hok
        generalize hf : P.L i = f at *
        generalize hm : P.ln i = m at *
        generalize hsu : (P.sc s.tr i).1 = su at *
        generalize hsp : (P.sc s.tr i).2 = sp at *
        go_wp2_with (go_at_call 58; refine (unhide cL).mono ?_; rintro x w2 ⟨rfl, hw2⟩; rw [hw2]; clear hw2 w2)
        clear cL HRB HRI
        generalize wr.setCell ⟨kb, 0, none⟩ (.int .i64 ((c : Int) + (i : Int) + 1)) = W2 at HQ2 ⊢
        go_loopg [8, 9, 10, 12, 28] m (fun g2 vo va vp _ vi wr => ∃ (j : Nat) (a : Ac), vi = .int .i64 j ∧ j ≤ m ∧ m - j ≤ g2 ∧ Hid (acc s.tr f j = a) ∧ vo = .int .i64 a.o ∧ va = .bool a.al ∧ vp = .bool a.pr ∧ Hid (∀ k, k < j → stn s.tr (f k) ≠ 1) ∧ Hid (Sq P w0 bb kb sb vb lo B (c + (i + 1)) (some ⟨b, o, none⟩) qa cc qc s tv uv zb su sp wr))
        case atStart => exact ⟨0, ⟨0, true, true⟩, by go_num, by omega, by omega, hide rfl, rfl, rfl, rfl, hide fun j h => absurd h (Nat.not_lt_zero _), HQ2⟩
        case round =>
          clear HQ2
          obtain ⟨j, ⟨ao, aa, ap⟩, rfl, hj, hg2, HA, rfl, rfl, rfl, HNT, HQ2⟩ := hrel
          by_cases hlj : j < m
          · obtain ⟨b3, o3, hla, hb3, hcj⟩ := (unhide HW _ (unhide HQ2)).at hlj
            subst hla
            unfold iv at hcj
            have cS := hide (stands_any (unhide HOK) (unhide HQ2).sm (f j) (unhide HOKL j hlj))
            have HACC := hide (show acc s.tr f (j + 1) = acN s.tr ⟨ao, aa, ap⟩ (f j) from by rw [← unhide HA]; rfl)
            have HT1 := hide (fun (h : stn s.tr (f j) = 1) => isT_yes (f := f) hlj h)
            have HNT1 := hide (fun (h : stn s.tr (f j) ≠ 1) => show ∀ k, k < j + 1 → stn s.tr (f k) ≠ 1 from fun k hk => by
              by_cases e : k = j
              · subst e; exact h
              · exact unhide HNT k (by omega))
            have hrg := stn_range s.tr (f j)
            clear HNT
            generalize hlit : f j = l at *
            rcases hrg with hst | hst | hst
            · rw [hst] at cS
              have HNT := hide (unhide HNT1 (by rw [hst]; decide))
              have HN := hide (show acc s.tr f (j + 1) = ⟨ao, aa, ap⟩ from by rw [unhide HACC, acN_shut (by rw [hst]; decide)])
              clear HT1 HNT1 HACC HA
              go_wp2_with (go_at_call 67; refine (unhide cS).mono ?_; rintro x w2 ⟨rfl, d, hw2⟩; rw [hw2]; clear hw2 w2)
              have HQ3 := hide ((unhide HQ2).later (bl_drewN wr d))
              go_roundg (m - (j + 1))
              case measure => omega
              case rel => exact ⟨j + 1, _, by go_num, by omega, by omega, HN, rfl, rfl, rfl, HNT, HQ3⟩
            · rw [hst] at cS
              have HST := hide hst
              have HNT := hide (unhide HNT1 (by rw [hst]; decide))
              clear HT1 HNT1 HA hst
              by_cases hao : ao = 0
              · have e0 : (ao == 0) = true := by simpa using hao
                have e0' : ao = 0 := hao
                cases aa
                · cases ap
                  · have HN := hide (show acc s.tr f (j + 1) = ⟨l, false, false⟩ from by rw [unhide HACC, acN_open (unhide HST)]; simp [e0'])
                    go_wp2_with (go_at_call 67; refine (unhide cS).mono ?_; rintro x w2 ⟨rfl, d, hw2⟩; rw [hw2]; clear hw2 w2)
                    have HQ3 := hide ((unhide HQ2).later (bl_drewN wr d))
                    generalize wr.drewN d = W3 at HQ3 ⊢
                    go_wp2_with fail
                    go_roundg (m - (j + 1))
                    case measure => omega
                    case rel => exact ⟨j + 1, _, by go_num, by omega, by omega, HN, rfl, rfl, rfl, HNT, HQ3⟩
                  · have HN := hide (show acc s.tr f (j + 1) = ⟨l, false, decide (0 < l)⟩ from by rw [unhide HACC, acN_open (unhide HST)]; simp [e0'])
                    go_wp2_with (go_at_call 67; refine (unhide cS).mono ?_; rintro x w2 ⟨rfl, d, hw2⟩; rw [hw2]; clear hw2 w2)
                    have HQ3 := hide ((unhide HQ2).later (bl_drewN wr d))
                    generalize wr.drewN d = W3 at HQ3 ⊢
                    go_wp2_with fail
                    go_roundg (m - (j + 1))
                    case measure => omega
                    case rel => exact ⟨j + 1, _, by go_num, by omega, by omega, HN, rfl, rfl, rfl, HNT, HQ3⟩
                · cases ap
                  · have HN := hide (show acc s.tr f (j + 1) = ⟨l, true, false⟩ from by rw [unhide HACC, acN_open (unhide HST)]; simp [e0'])
                    go_wp2_with (go_at_call 67; refine (unhide cS).mono ?_; rintro x w2 ⟨rfl, d, hw2⟩; rw [hw2]; clear hw2 w2)
                    have HQ3 := hide ((unhide HQ2).later (bl_drewN wr d))
                    generalize wr.drewN d = W3 at HQ3 ⊢
                    go_wp2_with fail
                    go_roundg (m - (j + 1))
                    case measure => omega
                    case rel => exact ⟨j + 1, _, by go_num, by omega, by omega, HN, rfl, rfl, rfl, HNT, HQ3⟩
                  · have HN := hide (show acc s.tr f (j + 1) = ⟨l, true, decide (0 < l)⟩ from by rw [unhide HACC, acN_open (unhide HST)]; simp [e0'])
                    go_wp2_with (go_at_call 67; refine (unhide cS).mono ?_; rintro x w2 ⟨rfl, d, hw2⟩; rw [hw2]; clear hw2 w2)
                    have HQ3 := hide ((unhide HQ2).later (bl_drewN wr d))
                    generalize wr.drewN d = W3 at HQ3 ⊢
                    go_wp2_with fail
                    go_roundg (m - (j + 1))
                    case measure => omega
                    case rel => exact ⟨j + 1, _, by go_num, by omega, by omega, HN, rfl, rfl, rfl, HNT, HQ3⟩
              · have e0 : (ao == 0) = false := by simpa using hao
                have e0' : ¬ ao = 0 := hao
                cases aa
                · cases ap
                  · have HN := hide (show acc s.tr f (j + 1) = ⟨ao, false, false⟩ from by rw [unhide HACC, acN_open (unhide HST)]; simp [e0'])
                    go_wp2_with (go_at_call 67; refine (unhide cS).mono ?_; rintro x w2 ⟨rfl, d, hw2⟩; rw [hw2]; clear hw2 w2)
                    have HQ3 := hide ((unhide HQ2).later (bl_drewN wr d))
                    generalize wr.drewN d = W3 at HQ3 ⊢
                    go_wp2_with fail
                    go_roundg (m - (j + 1))
                    case measure => omega
                    case rel => exact ⟨j + 1, _, by go_num, by omega, by omega, HN, rfl, rfl, rfl, HNT, HQ3⟩
                  · have HN := hide (show acc s.tr f (j + 1) = ⟨ao, false, decide (0 < l)⟩ from by rw [unhide HACC, acN_open (unhide HST)]; simp [e0'])
                    go_wp2_with (go_at_call 67; refine (unhide cS).mono ?_; rintro x w2 ⟨rfl, d, hw2⟩; rw [hw2]; clear hw2 w2)
                    have HQ3 := hide ((unhide HQ2).later (bl_drewN wr d))
                    generalize wr.drewN d = W3 at HQ3 ⊢
                    go_wp2_with fail
                    go_roundg (m - (j + 1))
                    case measure => omega
                    case rel => exact ⟨j + 1, _, by go_num, by omega, by omega, HN, rfl, rfl, rfl, HNT, HQ3⟩
                · cases ap
                  · have HN := hide (show acc s.tr f (j + 1) = ⟨ao, (l == ao), false⟩ from by rw [unhide HACC, acN_open (unhide HST)]; simp [e0'])
                    go_wp2_with (go_at_call 67; refine (unhide cS).mono ?_; rintro x w2 ⟨rfl, d, hw2⟩; rw [hw2]; clear hw2 w2)
                    have HQ3 := hide ((unhide HQ2).later (bl_drewN wr d))
                    generalize wr.drewN d = W3 at HQ3 ⊢
                    go_wp2_with fail
                    go_roundg (m - (j + 1))
                    case measure => omega
                    case rel => exact ⟨j + 1, _, by go_num, by omega, by omega, HN, rfl, rfl, rfl, HNT, HQ3⟩
                  · have HN := hide (show acc s.tr f (j + 1) = ⟨ao, (l == ao), decide (0 < l)⟩ from by rw [unhide HACC, acN_open (unhide HST)]; simp [e0'])
                    go_wp2_with (go_at_call 67; refine (unhide cS).mono ?_; rintro x w2 ⟨rfl, d, hw2⟩; rw [hw2]; clear hw2 w2)
                    have HQ3 := hide ((unhide HQ2).later (bl_drewN wr d))
                    generalize wr.drewN d = W3 at HQ3 ⊢
                    go_wp2_with fail
                    go_roundg (m - (j + 1))
                    case measure => omega
                    case rel => exact ⟨j + 1, _, by go_num, by omega, by omega, HN, rfl, rfl, rfl, HNT, HQ3⟩
            · rw [hst] at cS
              have HTT2 := hide (show P.tT s.tr i = true from by rw [unhide HTT]; exact unhide HT1 hst)
              have HQ3 := hide (fun d => show Sq P w0 bb kb sb vb lo B (c + (i + 1)) (some ⟨b, o, none⟩) qa cc qc s tv uv zb (P.sc s.tr (i + 1)).1 (P.sc s.tr (i + 1)).2 (wr.drewN d) from by
                rw [unhide HSN]
                unfold Pb.sN
                rw [if_pos (unhide HTT2), hsu, hsp]
                exact (unhide HQ2).later (bl_drewN wr d))
              have HF2 := hide (show ∀ k, k < i + 1 → P.fF s.tr k = false from fun k hk => by
                by_cases e : k = i
                · subst e
                  unfold Pb.fF
                  rw [unhide HTT2]
                  rfl
                · exact unhide HF k (by omega))
              clear HT1 HNT1 HACC HA
              go_wp2_with (go_at_call 67; refine (unhide cS).mono ?_; rintro x w2 ⟨rfl, d, hw2⟩; rw [hw2]; clear hw2 w2)
              go_roundg (P.N - (i + 1))
              case measure => omega
              case rel => exact ⟨i + 1, by go_num, by omega, by omega, by omega, HF2, unhide HQ3 _⟩
          · have hjm : j = m := by omega
            have HTT2 := hide (show P.tT s.tr i = false from by rw [unhide HTT]; exact isT_no fun k hk => unhide HNT k (by omega))
            have HAC2 := hide (show P.ac s.tr i = ⟨ao, aa, ap⟩ from by rw [unhide HAC, ← hjm]; exact unhide HA)
            have HFI := hide (show P.fF s.tr i = (ao == 0) from by unfold Pb.fF; rw [unhide HTT2, unhide HAC2]; rfl)
            have HSN2 := hide (show P.sc s.tr (i + 1) = (if (aa && (su == 0)) = true then ao else su, if (ap && (sp == 0)) = true then ao else sp) from by
              rw [unhide HSN]
              unfold Pb.sN
              rw [if_neg (by rw [unhide HTT2]; simp), unhide HAC2, hsu, hsp])
            obtain ⟨z0, z1, z2, zf⟩ := (unhide HQ2).cells
            have y0 := zf 0
            have y1 := zf 1
            have y2 := zf 2
            clear zf HNT HA
            by_cases hao : ao = 0
            · have e0 : (ao == 0) = true := by simpa using hao
              have HFF := hide (ff_at (P := P) (tr := s.tr) hlt (unhide HF) (by rw [unhide HFI]; exact e0))
              have HST := hide ((unhide HQ2).store (unhide HZW) (.bool true) (.int .i64 0) (.int .i64 0))
              clear hao
              go_wp2_with fail
              generalize ((wr.setCell ⟨zb, 0, none⟩ (.bool true)).setCell ⟨zb, 1, none⟩ (.int .i64 0)).setCell ⟨zb, 2, none⟩ (.int .i64 0) = W3 at HST ⊢
              rw [Exit.noGoto_ret]
              have q0 := (cell_blk (unhide HST).2.1 0).1
              have q1 := (cell_blk (unhide HST).2.1 1).1
              have q2 := (cell_blk (unhide HST).2.1 2).1
              simp at q0 q1 q2
              exact bodyPost_ret (v := .tuple #[.agg #[.bool true, .int .i64 0, .int .i64 0], .bool true]) (by simp [results, Try.results60, go_sem, q0, q1, q2]) rfl ⟨(unhide HST).2.2, .inl ⟨by rw [(unhide HFF).2]; omega, by rw [(unhide HFF).2]; exact (unhide HST).1, .inl ⟨(unhide HFF).1, rfl⟩⟩⟩
            · have e0 : (ao == 0) = false := by simpa using hao
              have HF2 := hide (show ∀ k, k < i + 1 → P.fF s.tr k = false from fun k hk => by
                by_cases e : k = i
                · subst e
                  rw [unhide HFI]
                  exact e0
                · exact unhide HF k (by omega))
              clear hao
              by_cases hu0 : su = 0
              · have hu1 : (su == 0) = true := by simpa using hu0
                by_cases hp0 : sp = 0
                · have hp1 : (sp == 0) = true := by simpa using hp0
                  cases aa
                  · cases ap
                    · have HQ3 := HQ2
                      have HPP := hide (show P.sc s.tr (i + 1) = (su, sp) from by rw [unhide HSN2]; simp [*])
                      clear HSN2
                      go_wp2_with fail
                      go_roundg (P.N - (i + 1))
                      case measure => omega
                      case rel => exact ⟨i + 1, by go_num, by omega, by omega, by omega, HF2, by rw [unhide HPP]; exact HQ3⟩
                    · have HQ3 := hide ((unhide HQ2).setP (unhide HZW) ao)
                      have HPP := hide (show P.sc s.tr (i + 1) = (su, ao) from by rw [unhide HSN2]; simp [*])
                      clear HSN2
                      go_wp2_with fail
                      generalize wr.setCell ⟨zb, 2, none⟩ (.int .i64 ao) = W3 at HQ3 ⊢
                      go_wp2_with fail
                      go_roundg (P.N - (i + 1))
                      case measure => omega
                      case rel => exact ⟨i + 1, by go_num, by omega, by omega, by omega, HF2, by rw [unhide HPP]; exact HQ3⟩
                  · cases ap
                    · have HQ3 := hide ((unhide HQ2).setU (unhide HZW) ao)
                      have p2 := ((unhide HQ2).setU (unhide HZW) ao).cells.2.2.1
                      have HPP := hide (show P.sc s.tr (i + 1) = (ao, sp) from by rw [unhide HSN2]; simp [*])
                      clear HSN2
                      go_wp2_with fail
                      generalize wr.setCell ⟨zb, 1, none⟩ (.int .i64 ao) = W3 at HQ3 ⊢
                      go_wp2_with fail
                      go_roundg (P.N - (i + 1))
                      case measure => omega
                      case rel => exact ⟨i + 1, by go_num, by omega, by omega, by omega, HF2, by rw [unhide HPP]; exact HQ3⟩
                    · have HQ3 := hide (((unhide HQ2).setU (unhide HZW) ao).setP (unhide HZW) ao)
                      have p2 := ((unhide HQ2).setU (unhide HZW) ao).cells.2.2.1
                      have x2 := ((unhide HQ2).setU (unhide HZW) ao).cells.2.2.2 2
                      have HPP := hide (show P.sc s.tr (i + 1) = (ao, ao) from by rw [unhide HSN2]; simp [*])
                      clear HSN2
                      go_wp2_with fail
                      generalize (wr.setCell ⟨zb, 1, none⟩ (.int .i64 ao)).setCell ⟨zb, 2, none⟩ (.int .i64 ao) = W3 at HQ3 ⊢
                      go_wp2_with fail
                      go_roundg (P.N - (i + 1))
                      case measure => omega
                      case rel => exact ⟨i + 1, by go_num, by omega, by omega, by omega, HF2, by rw [unhide HPP]; exact HQ3⟩
                · have hp1 : (sp == 0) = false := by simpa using hp0
                  cases aa
                  · cases ap
                    · have HQ3 := HQ2
                      have HPP := hide (show P.sc s.tr (i + 1) = (su, sp) from by rw [unhide HSN2]; simp [*])
                      clear HSN2
                      go_wp2_with fail
                      go_roundg (P.N - (i + 1))
                      case measure => omega
                      case rel => exact ⟨i + 1, by go_num, by omega, by omega, by omega, HF2, by rw [unhide HPP]; exact HQ3⟩
                    · have HQ3 := HQ2
                      have HPP := hide (show P.sc s.tr (i + 1) = (su, sp) from by rw [unhide HSN2]; simp [*])
                      clear HSN2
                      go_wp2_with fail
                      go_roundg (P.N - (i + 1))
                      case measure => omega
                      case rel => exact ⟨i + 1, by go_num, by omega, by omega, by omega, HF2, by rw [unhide HPP]; exact HQ3⟩
                  · cases ap
                    · have HQ3 := hide ((unhide HQ2).setU (unhide HZW) ao)
                      have p2 := ((unhide HQ2).setU (unhide HZW) ao).cells.2.2.1
                      have HPP := hide (show P.sc s.tr (i + 1) = (ao, sp) from by rw [unhide HSN2]; simp [*])
                      clear HSN2
                      go_wp2_with fail
                      generalize wr.setCell ⟨zb, 1, none⟩ (.int .i64 ao) = W3 at HQ3 ⊢
                      go_wp2_with fail
                      go_roundg (P.N - (i + 1))
                      case measure => omega
                      case rel => exact ⟨i + 1, by go_num, by omega, by omega, by omega, HF2, by rw [unhide HPP]; exact HQ3⟩
                    · have HQ3 := hide ((unhide HQ2).setU (unhide HZW) ao)
                      have p2 := ((unhide HQ2).setU (unhide HZW) ao).cells.2.2.1
                      have HPP := hide (show P.sc s.tr (i + 1) = (ao, sp) from by rw [unhide HSN2]; simp [*])
                      clear HSN2
                      go_wp2_with fail
                      generalize wr.setCell ⟨zb, 1, none⟩ (.int .i64 ao) = W3 at HQ3 ⊢
                      go_wp2_with fail
                      go_roundg (P.N - (i + 1))
                      case measure => omega
                      case rel => exact ⟨i + 1, by go_num, by omega, by omega, by omega, HF2, by rw [unhide HPP]; exact HQ3⟩
              · have hu1 : (su == 0) = false := by simpa using hu0
                by_cases hp0 : sp = 0
                · have hp1 : (sp == 0) = true := by simpa using hp0
                  cases aa
                  · cases ap
                    · have HQ3 := HQ2
                      have HPP := hide (show P.sc s.tr (i + 1) = (su, sp) from by rw [unhide HSN2]; simp [*])
                      clear HSN2
                      go_wp2_with fail
                      go_roundg (P.N - (i + 1))
                      case measure => omega
                      case rel => exact ⟨i + 1, by go_num, by omega, by omega, by omega, HF2, by rw [unhide HPP]; exact HQ3⟩
                    · have HQ3 := hide ((unhide HQ2).setP (unhide HZW) ao)
                      have HPP := hide (show P.sc s.tr (i + 1) = (su, ao) from by rw [unhide HSN2]; simp [*])
                      clear HSN2
                      go_wp2_with fail
                      generalize wr.setCell ⟨zb, 2, none⟩ (.int .i64 ao) = W3 at HQ3 ⊢
                      go_wp2_with fail
                      go_roundg (P.N - (i + 1))
                      case measure => omega
                      case rel => exact ⟨i + 1, by go_num, by omega, by omega, by omega, HF2, by rw [unhide HPP]; exact HQ3⟩
                  · cases ap
                    · have HQ3 := HQ2
                      have HPP := hide (show P.sc s.tr (i + 1) = (su, sp) from by rw [unhide HSN2]; simp [*])
                      clear HSN2
                      go_wp2_with fail
                      go_roundg (P.N - (i + 1))
                      case measure => omega
                      case rel => exact ⟨i + 1, by go_num, by omega, by omega, by omega, HF2, by rw [unhide HPP]; exact HQ3⟩
                    · have HQ3 := hide ((unhide HQ2).setP (unhide HZW) ao)
                      have HPP := hide (show P.sc s.tr (i + 1) = (su, ao) from by rw [unhide HSN2]; simp [*])
                      clear HSN2
                      go_wp2_with fail
                      generalize wr.setCell ⟨zb, 2, none⟩ (.int .i64 ao) = W3 at HQ3 ⊢
                      go_wp2_with fail
                      go_roundg (P.N - (i + 1))
                      case measure => omega
                      case rel => exact ⟨i + 1, by go_num, by omega, by omega, by omega, HF2, by rw [unhide HPP]; exact HQ3⟩
                · have hp1 : (sp == 0) = false := by simpa using hp0
                  cases aa
                  · cases ap
                    · have HQ3 := HQ2
                      have HPP := hide (show P.sc s.tr (i + 1) = (su, sp) from by rw [unhide HSN2]; simp [*])
                      clear HSN2
                      go_wp2_with fail
                      go_roundg (P.N - (i + 1))
                      case measure => omega
                      case rel => exact ⟨i + 1, by go_num, by omega, by omega, by omega, HF2, by rw [unhide HPP]; exact HQ3⟩
                    · have HQ3 := HQ2
                      have HPP := hide (show P.sc s.tr (i + 1) = (su, sp) from by rw [unhide HSN2]; simp [*])
                      clear HSN2
                      go_wp2_with fail
                      go_roundg (P.N - (i + 1))
                      case measure => omega
                      case rel => exact ⟨i + 1, by go_num, by omega, by omega, by omega, HF2, by rw [unhide HPP]; exact HQ3⟩
                  · cases ap
                    · have HQ3 := HQ2
                      have HPP := hide (show P.sc s.tr (i + 1) = (su, sp) from by rw [unhide HSN2]; simp [*])
                      clear HSN2
                      go_wp2_with fail
                      go_roundg (P.N - (i + 1))
                      case measure => omega
                      case rel => exact ⟨i + 1, by go_num, by omega, by omega, by omega, HF2, by rw [unhide HPP]; exact HQ3⟩
                    · have HQ3 := HQ2
                      have HPP := hide (show P.sc s.tr (i + 1) = (su, sp) from by rw [unhide HSN2]; simp [*])
                      clear HSN2
                      go_wp2_with fail
                      go_roundg (P.N - (i + 1))
                      case measure => omega
                      case rel => exact ⟨i + 1, by go_num, by omega, by omega, by omega, HF2, by rw [unhide HPP]; exact HQ3⟩
    · have HFN := hide (ff_none (P := P) (tr := s.tr) fun j hj => unhide HF j (by omega))
      have hiN : i = P.N := by omega
      subst hiN
      obtain ⟨z0, z1, z2, zf⟩ := (unhide HQ).cells
      have y0 := zf 0
      have y1 := zf 1
      have y2 := zf 2
      have HST := hide ((unhide HQ).store (unhide HZW) (.bool false) (.int .i64 (P.sc s.tr P.N).1) (.int .i64 (P.sc s.tr P.N).2))
      go_wp2
      generalize ((wr.setCell ⟨zb, 0, none⟩ (.bool false)).setCell ⟨zb, 1, none⟩ (.int .i64 (P.sc s.tr P.N).1)).setCell ⟨zb, 2, none⟩ (.int .i64 (P.sc s.tr P.N).2) = W2 at HST ⊢
      rw [Exit.noGoto_ret]
      have q0 := (cell_blk (unhide HST).2.1 0).1
      have q1 := (cell_blk (unhide HST).2.1 1).1
      have q2 := (cell_blk (unhide HST).2.1 2).1
      simp at q0 q1 q2
      exact bodyPost_ret (v := .tuple #[.agg #[.bool false, .int .i64 (P.sc s.tr P.N).1, .int .i64 (P.sc s.tr P.N).2], .bool true]) (by simp [results, Try.results60, go_sem, q0, q1, q2]) rfl ⟨(unhide HST).2.2, .inl ⟨by rw [(unhide HFN).2]; exact hci, by rw [(unhide HFN).2]; exact (unhide HST).1, .inr ⟨(unhide HFN).1, rfl⟩⟩⟩
end Go.Proofs.Ytabjbppekijfiaa
