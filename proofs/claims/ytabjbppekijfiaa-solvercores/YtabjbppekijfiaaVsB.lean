import Derived.Test.YtabjbppekijfiaaVsN
namespace Go.Proofs.Ytabjbppekijfiaa
open Go.RowKit

theorem infoD : (Try.prog.info? 107).map (fun i => (i.zero, i.size, i.bytes)) = some (some (.agg #[.int .i64 0, .int .i64 0]), 2, 16) := by kernel_rfl
theorem Sm.appU {P : Pb} {w0 : World} {bb kb sb vb lo B c : Nat} {ca qa : Option Addr} {cc qc : Nat} {vr : List Int} {s : Sx} {tv uv uv2 : Value} {W W2 : World} {t : Nat × Nat} {o : Obj} (h : Sm P w0 bb kb sb vb lo B c ca qa cc qc vr s tv uv W) (hg : (W.alloc o).grownBy W2 uv.ownBlock) (ho : W2.ownsRow lo 107 2 uv2 (s.tu.length + 1) (uV s.tu ++ [.int .i64 t.1, .int .i64 t.2])) :
    Sm P w0 bb kb sb vb lo B c ca qa cc qc vr ⟨s.tr, s.tu ++ [t], s.lk⟩ tv uv2 (W2.setCell ⟨sb, 5, none⟩ uv2) := by
  have h2 := h.later ((Below.refl W.heap.size W).alloc (Nat.le_refl _) o)
  exact h2.app hg (.inr rfl) (s2 := ⟨s.tr, s.tu ++ [t], s.lk⟩) (by simp) (h2.trl.kept hg (owns_two (by decide) h2.trl h2.trn)) (by rw [uV_snoc]; simpa using ho)
theorem cells2_new (W : World) (a b : Value) (t : TypeId) : ∀ j u, ([a, b] : List Value)[j]? = some u → (W.alloc (.cells #[a, b] t)).cell? ((⟨W.heap.size, 0, none⟩ : Addr).add j) = some u := fun j u hj => by
  rw [Addr.add_mid, Nat.zero_add, World.cell?_alloc_new]
  simpa using hj
/-- What a decision leaves. -/
def Dc (P : Pb) (w0 : World) (bb kb sb vb lo B c : Nat) (ca qa : Option Addr) (cc qc : Nat) (s : Sx) (K : Nat) (l : Int) (x : Ending) (w' : World) : Prop := lo ≤ w'.heap.size ∧ ∃ tv' uv',
      ((l = 0 ∧ x = .returned (.bool false) ∧ Sm P w0 bb kb sb vb lo B c ca qa cc qc s.tr ⟨s.tr, s.tu, K⟩ tv' uv' w') ∨ (l ≠ 0 ∧ x = .returned (.bool true) ∧ Sm P w0 bb kb sb vb lo B c ca qa cc qc (s.tr ++ [l]) ⟨s.tr ++ [l], s.tu ++ [(s.tr.length, K)], K⟩ tv' uv' w'))
set_option maxRecDepth 100000 in
set_option maxHeartbeats 4000000 in
theorem decide_any {P : Pb} (hP : P.Ok) {w0 : World} {bb kb sb vb lo B c : Nat} {ca qa : Option Addr} {cc qc : Nat} {s : Sx} {tv uv : Value} {w : World} (hm : P.m ≤ 140737488355328) (hR : Ri w0 qa P.m P.f) (h : Sm P w0 bb kb sb vb lo B c ca qa cc qc s.tr s tv uv w) (hI : Iv P s) (hlo : lo ≤ w.heap.size) (p : Int) (hp : p ≠ 0 → okL P.n p = true ∧ stn s.tr p = 0) (D : Int) (hD : D = if P.lk s.tr s.lk < P.m then P.f (P.lk s.tr s.lk) else p) :
    Calls Try.prog 63 #[.pointer (some ⟨sb, 0, none⟩), .int .i64 p] w fun x w' => Dc P w0 bb kb sb vb lo B c ca qa cc qc s (P.lk s.tr s.lk) D x w' := by
  have HDD := hide hD
  clear hD
  have HR := hide hR
  have HP := hide hp
  have HI := hide hI
  have HOK := hide hP
  have HS := hide h
  have HLO := hide hlo
  have hlk := hI.lk
  obtain ⟨ta, tc, htv⟩ := owns_form h.trl
  obtain ⟨ua, uc, huv⟩ := owns_form h.trn
  subst htv huv
  obtain ⟨tl, htl⟩ : ∃ x, x = s.tr.length := ⟨_, rfl⟩
  obtain ⟨ul, hul⟩ : ∃ x, x = s.tu.length := ⟨_, rfl⟩
  have htn : tl ≤ 131071 := by have := trail_le hI.nd hI.ok; have := hP.n; omega
  have hun : ul ≤ 131071 := by
    have := turns_le hI
    omega
  have HTL := hide htl
  have HUL := hide hul.symm
  rw [← htl] at HS
  rw [← hul] at HS
  obtain ⟨i7, hi7, hz0, hz1, hz2⟩ := info_parts infoD
  clear hR hp h hI hlo hP htl hul
  go_enter Try.func63, Try.ntmps63
  go_wp2_with fail
  go_loopg [6] P.m (fun g1 _ wr => ∃ (k : Nat), k ≤ P.m ∧ P.m - k ≤ g1 ∧ Hid (P.lk s.tr k = P.lk s.tr s.lk) ∧ Hid (Sm P w0 bb kb sb vb lo B c ca qa cc qc s.tr ⟨s.tr, s.tu, k⟩ (.slice ta tl tc) (.slice ua ul uc) wr) ∧ Hid (lo ≤ wr.heap.size))
  case atStart => exact ⟨s.lk, hlk, by omega, hide rfl, HS, HLO⟩
  case round =>
    clear HS HLO
    obtain ⟨k, hk, hg, HE, HS, HLO⟩ := hrel
    obtain ⟨_, c1, c2, c3, _, _, fr⟩ := (unhide HS).cells
    have f2 := fr 2
    by_cases hlt : k < P.m
    · obtain ⟨b, o, hq, hbw, hcf⟩ := ((unhide HR).later (unhide HS).bel).at hlt
      subst hq
      unfold iv at hcf
      have cS := hide (fun d => show Calls Try.prog 67 #[.pointer (some ⟨sb, 0, none⟩), .int .i64 (P.f k)] (wr.drewN d) (fun x w' => x = .returned (.int .i8 (stn s.tr (P.f k))) ∧ ∃ m, w' = wr.drewN m) from (stands_any (unhide HOK) (s := ⟨s.tr, s.tu, k⟩) ((unhide HS).later (bl_drewN wr d)) (P.f k) ((unhide HOK).pf k hlt)).mono fun x w' hx => ⟨hx.1, by obtain ⟨e, he⟩ := hx.2; exact ⟨d + e, he.trans (drewN_two wr d e)⟩⟩)
      by_cases hz : stn s.tr (P.f k) = 0
      · rw [hz] at cS
        have HK := hide ((P.lk_here s.tr k hlt hz).symm.trans (unhide HE))
        generalize hff : P.f k = fk at *
        generalize hmm : P.m = mm at *
        go_wp2_with fail
        go_quiet (first | (go_at_call 67; exact unhide cS _))
        have HS1 := hide ((unhide HS).later (bl_drewN wr nq))
        have HL1 := hide (show lo ≤ (wr.drewN nq).heap.size from unhide HLO)
        have hcf1 : (wr.drewN nq).cell? ⟨b, o + k, none⟩ = some (.int .i64 fk) := hcf
        clear c1 c2 c3 fr f2 hcf HS HLO
        generalize wr.drewN nq = W1 at HS1 HL1 hcf1 ⊢
        obtain ⟨_, c1, c2, c3, c4, c5, fr⟩ := (unhide HS1).cells
        rw [hmm] at c1
        have hok := (unhide HOK).pf k (by omega)
        rw [hff] at hok
        have hfz : (fk == 0) = false := by simpa using okL_ne hok
        have HLT := hide (show okL P.n fk = true ∧ stn s.tr fk = 0 from ⟨hok, hz⟩)
        have HNE := hide (okL_ne hok)
        have HLE := hide (show fk = D from by rw [unhide HDD, ← unhide HK, if_pos hlt, hff])
        clear hok
        go_wp2_with fail
        go_quiet (fail)
        have HS5 := hide ((unhide HS1).later (bl_drewN W1 nq))
        have HL5 := hide (show lo ≤ (W1.drewN nq).heap.size from unhide HL1)
        have hcf5 : (W1.drewN nq).cell? ⟨b, o + k, none⟩ = some (.int .i64 fk) := hcf1
        clear c1 c2 c3 c4 c5 fr HS1 HL1 hcf1
        generalize W1.drewN nq = W5 at HS5 HL5 hcf5 ⊢
        obtain ⟨_, c1, c2, c3, c4, c5, fr⟩ := (unhide HS5).cells
        rw [hmm] at c1
        go_wp2_with fail
        go_quiet (fail)
        have HS6 := hide ((unhide HS5).later (bl_drewN W5 nq))
        have HL6 := hide (show lo ≤ (W5.drewN nq).heap.size from unhide HL5)
        have hcf6 : (W5.drewN nq).cell? ⟨b, o + k, none⟩ = some (.int .i64 fk) := hcf5
        clear c1 c2 c3 c4 c5 fr HS5 HL5 hcf5
        generalize W5.drewN nq = W6 at HS6 HL6 hcf6 ⊢
        obtain ⟨_, c1, c2, c3, c4, c5, fr⟩ := (unhide HS6).cells
        rw [hmm] at c1
        go_wp2_with fail
        have HS3 := HS6
        have HL3 : lo ≤ W6.heap.size := unhide HL6
        clear c1 c2 c3 c4 c5 fr HS6 HL6
        generalize W6 = W3 at HS3 HL3 ⊢
        obtain ⟨_, _, c2, _, c4, c5, fr⟩ := (unhide HS3).cells
        have f5 := fr 5
        clear fr
        have hsb : sb < W3.heap.size := blk_lt (unhide HS3).str
        have HD3 := hide ((unhide HS3).later ((Below.refl W3.heap.size W3).drew))
        apply merge
        case h =>
          intro KEY
          go_region_law (refine step_append_lies _ (by rfl) _ _ 84 (by rfl) lo 107 i7 (.agg #[.int .i64 0, .int .i64 0]) 2 16 Try.underlying84 hi7 hz0 hz1 hz2 rfl (by decide) (.slice ua ul uc) ul (uV s.tu) (by rfl) (by have q := (unhide HD3).trn.alloc (.cells #[.int .i64 tl, .int .i64 k] 107); rw [show (⟨s.tr, s.tu, k⟩ : Sx).tu.length = ul from unhide HUL] at q; exact q) ⟨_, 0, none⟩ 1 1 [.int .i64 tl, .int .i64 k] (by rfl) rfl (cells2_new _ _ _ _) (by simp [Value.oneCell']) (by decide) (by unfold maxLen; omega) (by omega) (by simp; omega) (W3.heap.size + 1) (by simp) ?_; intro gg c9 w9 hown hgrow hat hgl; have HX := hide (show Sm P w0 bb kb sb vb lo B c ca _ cc qc s.tr ⟨s.tr, s.tu ++ [(tl, k)], k⟩ (.slice ta tl tc) (.slice (some ⟨gg, 0, none⟩) (ul + 1) c9) (w9.setCell ⟨sb, 5, none⟩ (.slice (some ⟨gg, 0, none⟩) (ul + 1) c9)) ∧ lo ≤ w9.heap.size from ⟨(unhide HD3).appU (t := (tl, k)) hgrow (by rw [show (⟨s.tr, s.tu, k⟩ : Sx).tu.length = ul from unhide HUL]; exact hown), Nat.le_trans HL3 (by have := hgrow.size; simp at this; omega)⟩); have k5 := (cell_blk ((unhide HD3).later ((Below.refl _ _).alloc (Nat.le_refl _) (.cells #[.int .i64 tl, .int .i64 k] 107)) |>.grown hgrow (.inr rfl)).2.2.1 5).1; have g5 := (cell_blk ((unhide HD3).later ((Below.refl _ _).alloc (Nat.le_refl _) (.cells #[.int .i64 tl, .int .i64 k] 107)) |>.grown hgrow (.inr rfl)).2.2.1 5).2; clear hown hgrow hat hgl)
          all_goals (clear k5 g5; revert gg c9 w9; exact KEY.out)
        intro gg c9 w9 HX
        have HX1 := hide (unhide HX).1
        have HX2 : lo ≤ (w9.setCell ⟨sb, 5, none⟩ (.slice (some ⟨gg, 0, none⟩) (ul + 1) c9)).heap.size := by rw [set_size]; exact (unhide HX).2
        clear HX HS3 HD3 HL3 c2 c4 c5 f5
        generalize w9.setCell ⟨sb, 5, none⟩ (.slice (some ⟨gg, 0, none⟩) (ul + 1) c9) = W4 at HX1 HX2 ⊢
        have cT := hide (set_any (unhide HOK) (s := ⟨s.tr, s.tu ++ [(tl, k)], k⟩) (unhide HX1) (len_snoc (s := s) (unhide HI) (unhide HLT).1 (unhide HLT).2) HX2 fk (unhide HLT).1 (unhide HLT).2)
        go_wp2_with (go_at_call 62; refine (unhide cT).mono ?_; rintro x5 w5 ⟨rfl, tv5, hs5, hl5⟩; have HZ := hide hs5; have HZ2 := hide hl5; clear hs5 hl5)
        go_ret
        refine ⟨unhide HZ2, tv5, .slice (some ⟨gg, 0, none⟩) (ul + 1) c9, .inr ?_⟩
        rw [← unhide HLE, ← unhide HK, ← unhide HTL]
        exact ⟨unhide HNE, rfl, unhide HZ⟩
      · have hz1 : (stn s.tr (P.f k) != 0) = true := by simpa using hz
        have HK := hide ((P.lk_more s.tr k hlt hz).symm.trans (unhide HE))
        generalize hff : P.f k = fk at *
        generalize hst : stn s.tr fk = sv at *
        have HHM := hide (show k + 1 ≤ P.m from hlt)
        generalize hmm : P.m = mm at *
        go_wp2_with fail
        go_quiet (first | (go_at_call 67; exact unhide cS _))
        have HS1 := hide ((unhide HS).later (bl_drewN wr nq))
        have HL1 : lo ≤ (wr.drewN nq).heap.size := unhide HLO
        clear c1 c2 c3 fr f2 hcf HS HLO
        generalize wr.drewN nq = W1 at HS1 HL1 ⊢
        obtain ⟨_, c1, c2, c3, c4, c5, fr⟩ := (unhide HS1).cells
        have f2 := fr 2
        have HS2 := hide ((unhide HS1).setL (k + 1))
        have HL2 : lo ≤ (W1.setCell ⟨sb, 2, none⟩ (.int .i64 ((k + 1 : Nat) : Int))).heap.size := by rw [set_size]; exact HL1
        rw [show ((k + 1 : Nat) : Int) = (k : Int) + 1 from rfl] at HS2 HL2
        go_wp2_with fail
        generalize W1.setCell ⟨sb, 2, none⟩ (.int .i64 ((k : Int) + 1)) = W2 at HS2 HL2 ⊢
        go_roundg (mm - (k + 1))
        case measure => omega
        case rel => exact ⟨k + 1, by omega, by omega, HK, HS2, HL2⟩
    · have HK := hide ((P.lk_end s.tr k (by omega)).symm.trans (unhide HE))
      have HLE := hide (show p = D from by rw [unhide HDD, ← unhide HK, if_neg hlt])
      generalize hmm : P.m = mm at *
      go_wp2_with fail
      go_quiet (fail)
      have HS1 := hide ((unhide HS).later (bl_drewN wr nq))
      have HL1 := hide (show lo ≤ (wr.drewN nq).heap.size from unhide HLO)
      clear c1 c2 c3 fr f2 HS HLO
      generalize wr.drewN nq = W1 at HS1 HL1 ⊢
      obtain ⟨_, c1, c2, c3, c4, c5, fr⟩ := (unhide HS1).cells
      rw [hmm] at c1
      go_wp2_with fail
      go_quiet (fail)
      have HS5 := hide ((unhide HS1).later (bl_drewN W1 nq))
      have HL5 := hide (show lo ≤ (W1.drewN nq).heap.size from unhide HL1)
      clear c1 c2 c3 c4 c5 fr HS1 HL1
      generalize W1.drewN nq = W5 at HS5 HL5 ⊢
      obtain ⟨_, c1, c2, c3, c4, c5, fr⟩ := (unhide HS5).cells
      rw [hmm] at c1
      by_cases hp0 : p = 0
      · have hpz : (p == 0) = true := by simpa using hp0
        have HPZ := hide hp0
        clear hp0
        go_wp2_with fail
        go_ret
        refine ⟨unhide HL5, .slice ta tl tc, .slice ua ul uc, .inl ?_⟩
        rw [← unhide HLE, ← unhide HK]
        exact ⟨unhide HPZ, rfl, unhide HS5⟩
      · have hpz : (p == 0) = false := by simpa using hp0
        have HLT := hide (unhide HP hp0)
        have HNE := hide hp0
        clear hp0
        go_wp2_with fail
        have HS3 := HS5
        have HL3 : lo ≤ W5.heap.size := unhide HL5
        clear c1 c2 c3 c4 c5 fr HS5 HL5
        generalize W5 = W3 at HS3 HL3 ⊢
        obtain ⟨_, _, c2, _, c4, c5, fr⟩ := (unhide HS3).cells
        have f5 := fr 5
        clear fr
        have hsb : sb < W3.heap.size := blk_lt (unhide HS3).str
        have HD3 := hide ((unhide HS3).later ((Below.refl W3.heap.size W3).drew))
        apply merge
        case h =>
          intro KEY
          go_region_law (refine step_append_lies _ (by rfl) _ _ 84 (by rfl) lo 107 i7 (.agg #[.int .i64 0, .int .i64 0]) 2 16 Try.underlying84 hi7 hz0 hz1 hz2 rfl (by decide) (.slice ua ul uc) ul (uV s.tu) (by rfl) (by have q := (unhide HD3).trn.alloc (.cells #[.int .i64 tl, .int .i64 k] 107); rw [show (⟨s.tr, s.tu, k⟩ : Sx).tu.length = ul from unhide HUL] at q; exact q) ⟨_, 0, none⟩ 1 1 [.int .i64 tl, .int .i64 k] (by rfl) rfl (cells2_new _ _ _ _) (by simp [Value.oneCell']) (by decide) (by unfold maxLen; omega) (by omega) (by simp; omega) (W3.heap.size + 1) (by simp) ?_; intro gg c9 w9 hown hgrow hat hgl; have HX := hide (show Sm P w0 bb kb sb vb lo B c ca _ cc qc s.tr ⟨s.tr, s.tu ++ [(tl, k)], k⟩ (.slice ta tl tc) (.slice (some ⟨gg, 0, none⟩) (ul + 1) c9) (w9.setCell ⟨sb, 5, none⟩ (.slice (some ⟨gg, 0, none⟩) (ul + 1) c9)) ∧ lo ≤ w9.heap.size from ⟨(unhide HD3).appU (t := (tl, k)) hgrow (by rw [show (⟨s.tr, s.tu, k⟩ : Sx).tu.length = ul from unhide HUL]; exact hown), Nat.le_trans HL3 (by have := hgrow.size; simp at this; omega)⟩); have k5 := (cell_blk ((unhide HD3).later ((Below.refl _ _).alloc (Nat.le_refl _) (.cells #[.int .i64 tl, .int .i64 k] 107)) |>.grown hgrow (.inr rfl)).2.2.1 5).1; have g5 := (cell_blk ((unhide HD3).later ((Below.refl _ _).alloc (Nat.le_refl _) (.cells #[.int .i64 tl, .int .i64 k] 107)) |>.grown hgrow (.inr rfl)).2.2.1 5).2; clear hown hgrow hat hgl)
          all_goals (clear k5 g5; revert gg c9 w9; exact KEY.out)
        intro gg c9 w9 HX
        have HX1 := hide (unhide HX).1
        have HX2 : lo ≤ (w9.setCell ⟨sb, 5, none⟩ (.slice (some ⟨gg, 0, none⟩) (ul + 1) c9)).heap.size := by rw [set_size]; exact (unhide HX).2
        clear HX HS3 HD3 HL3 c2 c4 c5 f5
        generalize w9.setCell ⟨sb, 5, none⟩ (.slice (some ⟨gg, 0, none⟩) (ul + 1) c9) = W4 at HX1 HX2 ⊢
        have cT := hide (set_any (unhide HOK) (s := ⟨s.tr, s.tu ++ [(tl, k)], k⟩) (unhide HX1) (len_snoc (s := s) (unhide HI) (unhide HLT).1 (unhide HLT).2) HX2 p (unhide HLT).1 (unhide HLT).2)
        go_wp2_with (go_at_call 62; refine (unhide cT).mono ?_; rintro x5 w5 ⟨rfl, tv5, hs5, hl5⟩; have HZ := hide hs5; have HZ2 := hide hl5; clear hs5 hl5)
        go_ret
        refine ⟨unhide HZ2, tv5, .slice (some ⟨gg, 0, none⟩) (ul + 1) c9, .inr ?_⟩
        rw [← unhide HLE, ← unhide HK, ← unhide HTL]
        exact ⟨unhide HNE, rfl, unhide HZ⟩
end Go.Proofs.Ytabjbppekijfiaa
