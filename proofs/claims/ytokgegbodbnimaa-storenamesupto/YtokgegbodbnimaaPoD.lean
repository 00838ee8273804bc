import Derived.Test.YtokgegbodbnimaaPoC
namespace Go.Proofs.Ytokgegbodbnimaa
open Go.RowKit Go.Maps

set_option maxRecDepth 100000 in
set_option maxHeartbeats 8000000 in
theorem Crash_none {O : Nat → Prop} {B : Nat} {M : Mm} {m0 m1 : Cn} {K : Nat} {W : World} (h : Sto O B M m0 m1 K W) (hK : 4 * K ≤ 1099511627776) (hp : M.ps = []) (hpv : M.pv = .slice none 0 0) {ka : Option Addr} {kn kc : Nat} (hkn : kn ≤ 1099511627776) :
    Calls Try.prog 14 #[.pointer (some ⟨B, 0, none⟩), .agg #[.slice ka kn kc]] W fun v W' => v = .returned (.int .i64 0) ∧ (∃ M2 : Mm, Sto O B M2 m1 m1 (4 * K) W' ∧ M2.ps = [] ∧ M2.cap = M.cap) ∧ Fx O W W' := by
  obtain ⟨Wb, hWb⟩ : ∃ w, w = W.alloc (.cells #[.slice ka kn kc] 34) := ⟨_, rfl⟩
  have bb : Below W.heap.size W Wb := by rw [hWb]; exact (Below.refl _ W).alloc (Nat.le_refl _) _
  have hbox : Wb.cell? ⟨W.heap.size, 0, none⟩ = some (.slice ka kn kc) := by rw [hWb]; go_simp
  have hb := h.later bb
  have em := h.still hp
  have fin : ∀ t, (∃ M2 : Mm, Sto O B M2 m1 m1 (4 * K) ((((Wb.drewN t).setCell ⟨B, 4, none⟩ (.slice none 0 0)).setCell ⟨B, 7, none⟩ (.bool false)).setCell ⟨B, 8, none⟩ (.bool false)) ∧ M2.ps = [] ∧ M2.cap = M.cap) ∧ Fx O W ((((Wb.drewN t).setCell ⟨B, 4, none⟩ (.slice none 0 0)).setCell ⟨B, 7, none⟩ (.bool false)).setCell ⟨B, 8, none⟩ (.bool false)) := fun t => by
    have hd := hb.later (bl_drewN Wb t)
    obtain ⟨W4, hW4⟩ : ∃ w, w = ((((Wb.drewN t).setCell ⟨B, 4, none⟩ (.slice none 0 0)).setCell ⟨B, 7, none⟩ (.bool false)).setCell ⟨B, 8, none⟩ (.bool false)) := ⟨_, rfl⟩
    rw [← hW4]
    have f : Fx (fun b => b = B) (Wb.drewN t) W4 := by
      rw [hW4]
      exact Fx.set (P := fun b => b = B) (Fx.set (P := fun b => b = B) (Fx.set (P := fun b => b = B) (Fx.refl _ _) rfl _ _) rfl _ _) rfl _ _
    have b4 : W4.heap[B]? = some (.cells ({ M with pv := .slice none 0 0 } : Mm).cur 75 (0, 0)) := by
      rw [hW4, set_blk (set_blk (set_blk hd.blk _ _) _ _)]
      rfl
    obtain ⟨k1, s1, hk1⟩ := hd.s1
    have kp : ∀ g bs, Bt (Wb.drewN t) g bs → Bt W4 g bs := fun g bs b => b.fx f fun z e q => by subst q; exact b.neC e (by decide) hd.blk
    have dk : ∀ d H k, Dm (Wb.drewN t) d H k → Dm W4 d H k := fun d H k dm => dm.fx f fun z e q => by subst q; exact dm.ne hd.blk e
    rw [em] at hd
    refine ⟨⟨{ M with pv := .slice none 0 0 }, ⟨b4, ⟨(dk _ _ _ hd.s0.dm).mono (by omega), hd.s0.sc.same fun _ g bs _ b => kp g bs b⟩, ⟨k1, ⟨dk _ _ _ s1.dm, s1.sc.same fun _ g bs _ b => kp g bs b⟩, by show k1 + 2 * M.ps.length ≤ 4 * K; omega⟩, hd.mne, ?_, fun o ho => (hd.pok o ho).same fun g bs _ b => kp g bs b, hd.hs, hd.sam, fun x bs e => Nat.le_trans (hd.l0 x bs e) (by omega), fun x bs e => Nat.le_trans (hd.l1 x bs e) (by omega), Nat.le_trans hd.lp (by omega), hK, hd.oB, hd.o0, hd.o1, fun b e => (by cases e), hd.oh0, hd.oh1, hd.ohp⟩, hp, rfl⟩, ?_⟩
    · show W4.ownsRow 0 84 1 (.slice none 0 0) M.ps.length (vals M.ps)
      rw [hp]
      exact ⟨rfl, .inl ⟨rfl, rfl⟩⟩
    · exact (Fx.of (bl_t bb (bl_drewN Wb t))).next f fun b _ e => by subst e; exact h.oB
  have HF := hide fin
  have c4 := hb.cells 4 M.pv rfl
  have f4 := (cell_blk hb.blk 4).2
  have c7 := hb.cells 7 (.bool false) rfl
  have f7 := (cell_blk hb.blk 7).2
  have c8 := hb.cells 8 (.bool false) rfl
  have f8 := (cell_blk hb.blk 8).2
  clear fin h hb bb em
  have hkn0 : ¬ ((kn : Int) < 0) := by omega
  rw [hpv] at c4
  by_cases hk0 : (0 : Int) < (kn : Int)
  · have hk1 : ¬ ((kn : Int) ≤ 0) := by omega
    go_enter Try.func14, Try.ntmps14
    go_upto_region 3 with fail
    rw [← hWb]
    clear hWb
    go_region_with (first | (go_at_call 44; refine level_nil.mono ?_; rintro x1 w1 ⟨rfl, rfl⟩))
    go_upto_region 4 with fail
    go_big_region
    go_wp2_with fail
    go_loopg [5, 6, 7, 36] 0 (fun _ _ _ _ vi wr => vi = .int .i64 0 ∧ ∃ t, wr = Wb.drewN t)
    case atStart => exact ⟨rfl, 2, rfl⟩
    case round =>
      obtain ⟨rfl, t, rfl⟩ := hrel
      go_upto_region 11 with fail
      go_region_with (first | (go_at_call 44; refine level_nil.mono ?_; rintro x2 w2 ⟨rfl, rfl⟩))
      go_wp2_with fail
      go_ret
      exact ⟨rfl, unhide HF (t + 1)⟩
  · obtain rfl : kn = 0 := by omega
    go_enter Try.func14, Try.ntmps14
    go_upto_region 3 with fail
    rw [← hWb]
    clear hWb
    go_region_with (first | (go_at_call 44; refine level_nil.mono ?_; rintro x1 w1 ⟨rfl, rfl⟩))
    go_upto_region 4 with fail
    go_big_region
    go_wp2_with fail
    go_loopg [5, 6, 7, 36] 0 (fun _ _ _ _ vi wr => vi = .int .i64 0 ∧ ∃ t, wr = Wb.drewN t)
    case atStart => exact ⟨rfl, 2, rfl⟩
    case round =>
      obtain ⟨rfl, t, rfl⟩ := hrel
      go_upto_region 11 with fail
      go_region_with (first | (go_at_call 44; refine level_nil.mono ?_; rintro x2 w2 ⟨rfl, rfl⟩))
      go_wp2_with fail
      go_ret
      exact ⟨rfl, unhide HF (t + 1)⟩
end Go.Proofs.Ytokgegbodbnimaa
