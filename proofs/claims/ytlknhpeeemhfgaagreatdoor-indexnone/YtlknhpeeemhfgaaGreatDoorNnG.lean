import Derived.Test.YtlknhpeeemhfgaaGreatDoorNnF
import Derived.RangeFuncNested
import Derived.RangeFuncBound
import Derived.RangeFuncCalls
import Derived.RangeFuncLeaves
import Derived.Shelf.Abstract
import Derived.Shelf.RegionOpen
import Derived.OwnWalkIn
import Derived.TacticsInMore
import Derived.LoopNIn
import Derived.LoopIn
import Derived.Sort.QuietIn
namespace Go.Proofs.YtlknhpeeemhfgaaGreatDoor
open Go.RowKit Go.Shelf
attribute [local go_sem] Oper.semAt_some

theorem wide_fn (f : FuncId) : Fence.wide.fn f = True := rfl
attribute [local simp] wide_fn
attribute [local go_sem] wide_fn

set_option maxRecDepth 100000 in
set_option maxHeartbeats 1000000 in
theorem Names1_stops (n : Nat) (B : Nat) (w : World) (hB : B < w.heap.size) (hc : w.cell? ⟨B, 0, none⟩ = some (.slice none 0 0)) :
    SeqStopsK Fence.wide n Tryz.prog 14 #[.pointer (some ⟨B, 0, none⟩)] (fun (_ : Empty) => #[.int .i64 0]) (fun _ _ => True) (fun xs => xs = []) (fun _ => False) 0 w := by
  intro l J Jx W hW hJ _ hY h0
  have hc1 : W.cell? ⟨B, 0, none⟩ = some (.slice none 0 0) := (hW.cell (p := ⟨B, 0, none⟩) hB).trans hc
  have HJ := hide h0
  clear hY h0 hJ hc
  refine callsIn_of_wp Tryz.func14 rfl trivial ?_ rfl
  simp only [Tryz.ntmps14, List.size_toArray, List.length_cons, List.length_nil, Nat.reduceAdd, Nat.reduceSub, Array.replicate_succ, Array.replicate_zero, List.push_toArray, List.append_toArray, List.nil_append, List.cons_append]
  gi_wp2
  gi_loop [7] (fun i => i = .int .i64 0) (fun _ => 0)
  case atStart => rfl
  case round =>
    obtain rfl := hrel
    gi_wp2
    go_end0
    exact ⟨⟨_, rfl⟩, unhide HJ⟩

theorem store43 (zs cs : List Value) (hz : zs.length = 43) (h43 : cs.length = 43) (h1 : ∀ v ∈ cs, v.oneCell' = true) (w : World) :
    (storeCells ⟨w.heap.size, 0, none⟩ cs).run Tryz.prog (w.alloc (.cells zs.toArray 29)) = .ok () ((w.alloc (.cells zs.toArray 29)).setCells w.heap.size 0 cs) ∧ ((w.alloc (.cells zs.toArray 29)).setCells w.heap.size 0 cs).rangeAt w.heap.size 0 cs ∧ Below w.heap.size w ((w.alloc (.cells zs.toArray 29)).setCells w.heap.size 0 cs) ∧ w.heap.size < ((w.alloc (.cells zs.toArray 29)).setCells w.heap.size 0 cs).heap.size := by
  have ht : (w.alloc (.cells zs.toArray 29)).there w.heap.size 0 cs.length := there43 _ zs.toArray 29 _ (World.alloc_heap_new w _) _ (by simp; omega)
  have := run_storeCells_cells (P := Tryz.prog) w.heap.size 0 cs 0 (w.alloc (.cells zs.toArray 29)) (fun j hj => by simpa using (ht j hj).1) (fun j hj => (ht j hj).2) h1
  have hb : Below w.heap.size w ((w.alloc (.cells zs.toArray 29)).setCells w.heap.size 0 cs) := below_setCells (Nat.le_refl _) cs 0 w _ ((Below.refl _ w).alloc (Nat.le_refl _) _)
  refine ⟨by simpa using this, World.rangeAt_setCells_same _ _ _ _ ht, hb, ?_⟩
  have h2 := (World.rangeAt_setCells_same (w.alloc (.cells zs.toArray 29)) w.heap.size 0 cs ht).isSome 0 (by omega)
  have h3 : ((w.alloc (.cells zs.toArray 29)).setCells w.heap.size 0 cs).heap[w.heap.size]? ≠ none := by
    intro e
    simp [World.cell?, e] at h2
  by_cases hlt : w.heap.size < ((w.alloc (.cells zs.toArray 29)).setCells w.heap.size 0 cs).heap.size
  · exact hlt
  · exact absurd (Array.getElem?_eq_none (by omega)) h3

theorem eqf (lb : Array Value) (w : World) : (binOp .eql 37 (.func (.func 14) #[] lb) .nilFunc).run Tryz.prog w = .ok (.bool false) w := by
  have h : (Op.equalIn (9999 + 1) 37 (.func (.func 14) #[] lb) .nilFunc).run Tryz.prog w = .ok false w := by
    unfold Op.equalIn
    simp [run_underlying Tryz.underlying37]
  simp only [binOp]
  simp [Op.equal, Op.maxDepth, h]

/-- WHAT THE LAW'S OWN CELLS HOLD: its answer, and the name of what At answered. -/
structure Kn (b0 bp : Nat) (W : World) : Prop where
  c0 : W.cell? ⟨b0, 0, none⟩ = some (.bool false)
  f0 : W.frozen? ⟨b0, 0, none⟩ = false
  cp : W.cell? ⟨bp, 0, none⟩ = some (.string ⟨#[]⟩)
  l0 : b0 < W.heap.size
  lp : bp < W.heap.size
theorem Kn.later {b0 bp : Nat} {W W' : World} (h : Kn b0 bp W) (hb : Below W.heap.size W W') : Kn b0 bp W' :=
  ⟨(hb.cell (p := ⟨b0, 0, none⟩) h.l0).trans h.c0, (hb.frozen (p := ⟨b0, 0, none⟩) h.l0).trans h.f0, (hb.cell (p := ⟨bp, 0, none⟩) h.lp).trans h.cp, Nat.lt_of_lt_of_le h.l0 hb.size, Nat.lt_of_lt_of_le h.lp hb.size⟩
theorem Kn.d {b0 bp D : Nat} {W W' : World} (h : Kn b0 bp W ∧ W.heap[D]? = some (.deferred (some []))) (hb : Below W.heap.size W W') : Kn b0 bp W' ∧ W'.heap[D]? = some (.deferred (some [])) :=
  ⟨h.1.later hb, (hb.block D (Array.getElem?_eq_some_iff.1 h.2).1).trans h.2⟩
theorem results_cell1 {fn : Func} {a : Tmp} {t : TypeId} (h : fn.results = #[.cell a t]) (tmps : Array Value) (P : Program) (w : World) (ad : Addr) (v : Value) (ha : tmps.getD a undef = .pointer (some ad)) (hl : (loadVar t ad).run P w = .ok v w) :
    (results fn tmps).run P w = .ok v w := by
  have ha2 : tmps[a]?.getD undef = .pointer (some ad) := by simpa using ha
  simp [results, h, asAddr, ha2, hl]
theorem Kn.own {β : Type} (b0 bp B : Nat) : OwnFrom B (fun (_ : β) W => Kn b0 bp W) := fun _ _ _ _ h hg hr =>
  ⟨cell_kept h.c0 hg (fun r e => (hr r e).2), (frozen_kept h.c0 hg (fun r e => (hr r e).2)).trans h.f0, cell_kept h.cp hg (fun r e => (hr r e).2), Nat.lt_of_lt_of_le h.l0 hg.size, Nat.lt_of_lt_of_le h.lp hg.size⟩

set_option maxRecDepth 100000 in
set_option maxHeartbeats 2000000 in
theorem IndexNone_in (n : Nat) (hn : 3 ≤ n) (w : World) :
    CallsIn Fence.wide n Tryz.prog 3 #[] w fun e W' => e = .returned (.bool true) ∧ Below w.heap.size w W' := by
  have h1 : 1 ≤ n := by omega
  have hz : ∀ w, (zeroValue 29).run Tryz.prog w = .ok (.agg z43.toArray) w := Tryz.zeroValue29
  generalize hzs : z43 = zs at hz
  have hz43 : zs.length = 43 := by rw [← hzs]; rfl
  clear hzs
  have hfn := eqf
  refine callsIn_of_wp_marks Tryz.func3 rfl trivial ?_ rfl
  simp only [Tryz.ntmps3, List.size_toArray, List.length_nil, Nat.reduceSub, Array.replicate_succ, Array.replicate_zero, List.push_toArray, List.append_toArray, List.nil_append, List.cons_append]
  gi_wp2_with (first | (gi_at_call 4; refine (callsIn_wide.2 (At_nil _)).mono ?_; rintro e w1 ⟨⟨cs, rfl, h43, hcs0, hone⟩, hb1⟩; obtain ⟨hst, hrg, hbs, hsz⟩ := store43 zs cs hz43 h43 hone w1; have HB1 := hide hb1; have HB2 := hide hbs; have HRG := hide hrg; have HS := hide hsz; clear hb1 hbs hrg hsz; generalize (w1.alloc (.cells zs.toArray 29)).setCells w1.heap.size 0 cs = W2 at *) | (gi_at_call 5; refine (callsIn_wide.2 (Find_nil _)).mono ?_; rintro e w3 ⟨rfl, hb3⟩; have HB3 := hide hb3; clear hb3) | (gi_at_call 6; refine (callsIn_wide.2 (Names_nil _)).mono ?_; rintro e w4 ⟨rfl, rfl⟩))
  have b0 : Below w.heap.size w (w.alloc (.cells #[.bool false] 4)) := (Below.refl _ _).alloc (Nat.le_refl _) _
  have k1 : (w.alloc (.cells #[.bool false] 4)).cell? ⟨w.heap.size, 0, none⟩ = some (.bool false) ∧ (w.alloc (.cells #[.bool false] 4)).frozen? ⟨w.heap.size, 0, none⟩ = false := by
    constructor <;> go_simp
  have hb1 := unhide HB1
  have hb2 := unhide HB2
  have hb3 := unhide HB3
  have hz1 := hb1.size
  simp only [World.size_alloc] at hz1
  have k2 : Kn w.heap.size w1.heap.size W2 := by
    refine ⟨?_, ?_, ?_, ?_, unhide HS⟩
    · exact (hb2.cell (p := ⟨w.heap.size, 0, none⟩) (by show w.heap.size < w1.heap.size; omega)).trans ((hb1.cell (p := ⟨w.heap.size, 0, none⟩) (by simp)).trans k1.1)
    · exact (hb2.frozen (p := ⟨w.heap.size, 0, none⟩) (by show w.heap.size < w1.heap.size; omega)).trans ((hb1.frozen (p := ⟨w.heap.size, 0, none⟩) (by simp)).trans k1.2)
    · exact unhide HRG 0 _ hcs0
    · have := unhide HS; omega
  have k3 := k2.later hb3
  have bb : Below w3.heap.size w3 ((w3.alloc tab0).alloc (.cells #[.slice none 0 0] 48)) := ((Below.refl _ _).alloc (Nat.le_refl _) _).alloc (by simp) _
  have k4 := k3.later bb
  have B4 : Below w.heap.size w ((w3.alloc tab0).alloc (.cells #[.slice none 0 0] 48)) := bl_t (bl_t (bl_t b0 hb1) hb2) (bl_t hb3 bb)
  have cn : ((w3.alloc tab0).alloc (.cells #[.slice none 0 0] 48)).cell? ⟨w3.heap.size + 1, 0, none⟩ = some (.slice none 0 0) := by go_simp
  have szn : w3.heap.size + 1 < ((w3.alloc tab0).alloc (.cells #[.slice none 0 0] 48)).heap.size := by simp
  generalize (w3.alloc tab0).alloc (.cells #[.slice none 0 0] 48) = W4 at *
  clear HB1 HB2 HB3 HRG HS hst hfn bb k2 k3 k1 hb1 hb2 hb3 b0
  have hz4 := B4.size
  refine wpIn_rangeFunc_ownF rfl h1 (gf := 14) (lb := #[.pointer (some ⟨w3.heap.size + 1, 0, none⟩)]) rfl trivial (enters_of Tryz.func14 (by kernel_rfl) rfl)
    (Names1_stops (n - 1) (w3.heap.size + 1) W4 szn cn) (fun _ _ => trivial) (fun _ _ _ _ _ _ _ _ => trivial) (Below.refl _ _) (fun x => x.elim)
    (fun _ W => Kn w.heap.size w1.heap.size W ∧ Below w.heap.size w W) (fun _ _ _ => False)
    (OwnFrom.and (Kn.own _ _ _) (ownFrom_below (Nat.le_refl _) hz4)) (fun _ _ _ _ _ hs _ _ => hs) ⟨k4, B4⟩ (fun x => x.elim) ?assign ?body ?done ?stop
  case assign => exact fun _ x => x.elim
  case body => exact fun _ _ x => x.elim
  case stop =>
    rintro D c pre W _ _ h _
    exact h.elim
  case done =>
    rintro D ys W hD _ ⟨kk, BB⟩ hK
    have HK := hide (And.intro kk hK)
    have HBB := hide BB
    clear kk hK BB k4 B4 cn szn
    gi_wp2_with (first
      | (gi_at_call 7; refine (callsIn_wide.2 (Len_nil _)).mono ?_; rintro e wl ⟨rfl, rfl⟩; have HK1 := hide (Kn.d (unhide HK) ((Below.refl _ _).alloc (Nat.le_refl _) tab0)); have HB1 := hide (bl_t (unhide HBB) ((Below.refl _ _).alloc (Nat.le_refl _) tab0)); have c1 := (unhide HK1).1.cp)
      | (gi_at_call 8; refine (callsIn_wide.2 (Versions_nil _)).mono ?_; rintro e wv ⟨⟨q, k, rfl⟩, hbv⟩; have HK2 := hide (Kn.d (unhide HK1) hbv); have HB2 := hide (bl_t (unhide HB1) hbv); clear hbv)
      | (gi_at_call 9; refine (callsIn_wide.2 (Providers_nil _)).mono ?_; rintro e wp ⟨rfl, hbp⟩; have HK3 := hide (Kn.d (unhide HK2) hbp); have HB3 := hide (bl_t (unhide HB2) hbp); clear hbp)
      | (gi_at_call 10; refine (callsIn_wide.2 (Satisfiers_nil _)).mono ?_; rintro e ws ⟨rfl, hbs⟩; have HK4 := hide (Kn.d (unhide HK3) hbs); have HB4 := hide (bl_t (unhide HB3) hbs); clear hbs)
      | (gi_at_call 11; refine (callsIn_wide.2 (Users_nil _)).mono ?_; rintro e wu ⟨rfl, hbu⟩; have HK5 := hide (Kn.d (unhide HK4) hbu); have HB5 := hide (bl_t (unhide HB4) hbu); clear hbu; have c5 := (unhide HK5).1.c0; have f5 := (unhide HK5).1.f0))
    obtain ⟨kf, hKf⟩ := unhide HK5
    have B5 := unhide HB5
    have l0 := kf.l0
    have hDl : D < wu.heap.size := (Array.getElem?_eq_some_iff.1 hKf).1
    have hK6 : (wu.setCell ⟨w.heap.size, 0, none⟩ (.bool true)).heap[D]? = some (.deferred (some [])) := (KeepsOthers.setCell wu ⟨w.heap.size, 0, none⟩ (.bool true)).same D _ hKf rfl
    have c6 : (wu.setCell ⟨w.heap.size, 0, none⟩ (.bool true)).cell? ⟨w.heap.size, 0, none⟩ = some (.bool true) := World.cell?_setCell_same' _ _ _ (by rw [c5]; rfl)
    have B6 : Below w.heap.size w (wu.setCell ⟨w.heap.size, 0, none⟩ (.bool true)) := B5.setCell (p := ⟨w.heap.size, 0, none⟩) (Nat.le_refl _) _
    refine ⟨by simp, .inl ⟨_, _, rfl, run_takeDeferred hK6, ?_⟩⟩
    have c7 := cell_kept c6 (grownBy_putObj' (wu.setCell ⟨w.heap.size, 0, none⟩ (.bool true)) D (.deferred none)) (fun r e => by cases e; exact ⟨_, hK6, rfl⟩)
    have hl : (loadVar 4 ⟨w.heap.size, 0, none⟩).run Tryz.prog ((wu.setCell ⟨w.heap.size, 0, none⟩ (.bool true)).putObj D (.deferred none)) = .ok (.bool true) ((wu.setCell ⟨w.heap.size, 0, none⟩ (.bool true)).putObj D (.deferred none)) := by
      go_simp
    exact ⟨_, results_cell1 (show Tryz.f3.results = #[.cell 0 4] from Tryz.results3) _ _ _ _ _ rfl hl, rfl, B6.trans (belowK_b (w := w) (Nat.le_refl _) _ D _ _ (by omega) hK6 rfl rfl)⟩

theorem indexNone_walk (w : World) :
    Calls Tryz.prog 3 #[] w fun e W' => e = .returned (.bool true) ∧ Below w.heap.size w W' :=
  (callsIn_wide (n := 3)).1 (IndexNone_in 3 (Nat.le_refl _) w)

end Go.Proofs.YtlknhpeeemhfgaaGreatDoor
