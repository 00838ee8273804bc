import Derived.Test.YtjnbnndocinicaaGreatDoorWvR5
import Derived.Deep.RegionHeld3
import Derived.Deep.RegionLaw
import Derived.Deep.QuietTactic
import Derived.BigQuiet
import Derived.BigRegion
import Derived.Test.YtjnbnndocinicaaGreatDoorRows
import Derived.Deep.Strs
import Derived.MapViews
import Derived.DeepKeys2
import Derived.ProofKit
import Derived.OpenShut
import Derived.ShutString
import Derived.ChangeOld
import Derived.SizedLaws
import Derived.ChangeSlices
import Derived.WideShapes
import Derived.Test.YtjnbnndocinicaaGreatDoorCards
import Derived.Test.YtjnbnndocinicaaGreatDoorTie
import Derived.Deep.DeepHandedRow
import Derived.Lib.LaidTab
import Derived.WalkKit
import GoSem.PinnedTables
namespace Go.Proofs.YtjnbnndocinicaaGreatDoor
open Go.RowKit Go.Maps

theorem kw_cells {W X : World} {s : Value} {l : List (Nm × Nm)} (h : Kw W X s l) : ∃ f : Hd, s = .slice f.a f.n f.c := by
  obtain ⟨f, e, _⟩ := slice_hd h.row
  exact ⟨f, e⟩
/-- WHAT WAS FOUND AHEAD OF A PLACE. -/
def Fd (rs : List Pk) (k : Nat) (x : Nm × Nm) (fb : Bool) : Prop := (∃ k2, k2 < k ∧ ∃ q, rs[k2]? = some q ∧ kyP q = x) → fb = true
/-- WHAT THE LAW HAS TO FIND. -/
structure Bq (ps : List Pk) (fl : List Bool) (L : List (Nm × Nm)) (b : Bool) : Prop where
  len : L.length ≤ 1048576
  nil : L.length = 0 ↔ b = true
  pw : L.Pairwise lx
  of : ∀ x ∈ L, ∃ k, k < ((flP ps.length (kpF ps.length fl)).map (pAt ps)).length ∧ ∃ q, ((flP ps.length (kpF ps.length fl)).map (pAt ps))[k]? = some q ∧ kyP q = x
theorem bq_of {ps : List Pk} {fl : List Bool} {L : List (Nm × Nm)} {b : Bool} {sel : Nat → Bool} (hc : Cld ps) (hn : Nm1 ps) (hsel : ∀ (p : Nat) (q : Pk), ps[p]? = some q → (sel p = true ↔ Lo ps (fun i => decide (i < ps.length)) (fun i => decide (i < ps.length) && lef ps (ouK ps fl) i) p q)) (hl : L.length ≤ 1048576) (hp : L.Perm (((plL (fun i => decide (i < ps.length) && lef ps (ouK ps fl) i) ps.length).filter sel).map fun p => kyP (pAt ps p))) (hw : L.Pairwise lx) (hb : b = true ↔ Clo ps (fun i => (kpF ps.length fl).getD i false)) : Bq ps fl L b := by
  rw [lef_eq hn] at hp hsel
  refine ⟨hl, ?_, hw, fun x hx => ?_⟩
  · rw [hp.length_eq, List.length_map, List.length_eq_zero_iff, sel_nil hc _ sel hsel]
    exact hb.symm
  · obtain ⟨p, hpm, rfl⟩ := List.mem_map.1 (hp.mem_iff.1 hx)
    have hm : p ∈ flP ps.length (kpF ps.length fl) := (List.mem_filter.1 hpm).1
    obtain ⟨k, hk⟩ := List.getElem?_of_mem hm
    have hk2 : ((flP ps.length (kpF ps.length fl)).map (pAt ps))[k]? = some (pAt ps p) := by rw [List.getElem?_map, hk]; rfl
    exact ⟨k, (List.getElem?_eq_some_iff.1 hk2).1, _, hk2, rfl⟩
set_option maxRecDepth 100000 in
set_option maxHeartbeats 16000000 in
theorem breaks_walk {w : World} {v u : Value} {ps : List Pk} {fl : List Bool} (sm : SmP ps) (hfl : fl.length ≤ 1048576) (pk : Pkl w v ps) (hb : Bfl w u fl) :
    Calls Tryz.prog 4 #[v, u] w fun e w' => e = .returned (.bool true) ∧ RowKit.Below w.heap.size w w' := by
  obtain ⟨va, vc, rfl⟩ : ∃ a c, v = .slice a ps.length c := let ⟨a, c, e, _⟩ := pk; ⟨a, c, e⟩
  obtain ⟨ua, uc, rfl⟩ : ∃ a c, u = .slice a fl.length c := let ⟨a, c, e, _⟩ := hb; ⟨a, c, e⟩
  have hl := sm.l
  obtain ⟨BV, hBV⟩ : ∃ b : Bool, b = true ↔ (Cld ps ∧ Apt ps) := by
    by_cases h : Cld ps ∧ Apt ps
    · exact ⟨true, fun _ => h, fun _ => rfl⟩
    · exact ⟨false, fun e => (by cases e), fun e => absurd e h⟩
  have C1 := hide (show Calls Tryz.prog 10 #[.slice va ps.length vc] w fun e w' => e = .returned (.bool BV) ∧ RowKit.Below w.heap.size w w' from (Valid_any sm pk).mono fun e w' ⟨b, he, hb, hB⟩ => ⟨by rw [he, show b = BV from by rw [Bool.eq_iff_iff]; exact (hb.trans (words ps)).trans hBV.symm], hB⟩)
  have HS1 := hide (show ∀ X (r : Value) (gl : List Bool), gl.length ≤ 1048576 → RowKit.Below w.heap.size w X → Bfl X r gl → Calls Tryz.prog 6 #[.slice va ps.length vc, r] X fun e w' => ∃ r, e = .returned r ∧ Pkl w' r ((flP ps.length gl).map (pAt ps)) ∧ RowKit.Below X.heap.size X w' from fun X r gl hg hX hB => some_any sm hg (pk.later hX) hB)
  have HCL := hide (show ∀ X r gl, Pkl X r ((flP ps.length gl).map (pAt ps)) → Calls Tryz.prog 7 #[r] X fun e w' => ∃ b : Bool, e = .returned (.bool b) ∧ (b = true ↔ Clo ps (fun i => gl.getD i false)) ∧ RowKit.Below X.heap.size X w' from fun X r gl hp => (closed_any (sm.part gl) hp).mono fun e w' ⟨b, he, hb, hB⟩ => ⟨b, he, hb.trans (cld_part ps gl), hB⟩)
  have HBR := hide (show BV = true → ∀ X r, RowKit.Below w.heap.size w X → Kyl X r (ouK ps fl) → Calls Tryz.prog 11 #[.slice va ps.length vc, r] X fun e w' => ∃ r L, e = .returned r ∧ Kyl w' r L ∧ (∀ b : Bool, (b = true ↔ Clo ps (fun i => (kpF ps.length fl).getD i false)) → Bq ps fl L b) ∧ RowKit.Below X.heap.size X w' from fun hv X r hX hK => by
    obtain ⟨hc, ha⟩ := hBV.1 hv
    have hn := Nm1.of ha
    obtain ⟨sel, hsel⟩ : ∃ sel : Nat → Bool, ∀ (p : Nat) (q : Pk), ps[p]? = some q → (sel p = true ↔ Lo ps (fun i => decide (i < ps.length)) (fun i => decide (i < ps.length) && lef ps (ouK ps fl) i) p q) := by
      have h : ∀ p : Nat, ∃ b : Bool, ∀ q, ps[p]? = some q → (b = true ↔ Lo ps (fun i => decide (i < ps.length)) (fun i => decide (i < ps.length) && lef ps (ouK ps fl) i) p q) := fun p => by
        cases e : ps[p]? with
        | none => exact ⟨true, fun q hq => by cases hq⟩
        | some q =>
          by_cases hL : Lo ps (fun i => decide (i < ps.length)) (fun i => decide (i < ps.length) && lef ps (ouK ps fl) i) p q
          · exact ⟨true, fun q2 hq => by cases hq; exact ⟨fun _ => hL, fun _ => rfl⟩⟩
          · exact ⟨false, fun q2 hq => by cases hq; exact ⟨fun e => (by cases e), fun e => absurd e hL⟩⟩
      obtain ⟨f, hf⟩ := Classical.axiomOfChoice h
      exact ⟨f, hf⟩
    have hkl : (ouK ps fl).length ≤ 1048576 := by
      unfold ouK flP
      rw [List.length_map]
      refine Nat.le_trans (List.length_filter_le _ _) ?_
      rw [List.length_range]; omega
    refine (Breaks_any sm (pk.later hX) hK hkl (fun x hx => ?_) (fun i j q r hq hr hne e => hn i j q r hq hr hne (congrArg Prod.fst e)) sel hsel).mono ?_
    · obtain ⟨p, hp, rfl⟩ := List.mem_map.1 hx
      have hz := sm.z _ (List.mem_of_getElem? (pAt_at (flP_lt hp)))
      exact ⟨hz.1, hz.2.1⟩
    · rintro e w' ⟨r, L, rfl, h1, h2, h3, h4, h5⟩
      exact ⟨r, L, rfl, h1, fun b hb => bq_of hc hn hsel h2 h3 h4 hb, h5⟩)
  have HGL := hide (show ((flP ps.length fl).map (pAt ps)).length ≤ 262144 ∧ ((flP ps.length (kpF ps.length fl)).map (pAt ps)).length ≤ 262144 from ⟨(sm.part fl).l, (sm.part (kpF ps.length fl)).l⟩)
  have HOU := hide (show ouK ps fl = ((flP ps.length fl).map (pAt ps)).map kyP from by unfold ouK; rw [List.map_map]; rfl)
  have HFB := hide hb
  have HFL := hide (show ∀ X, RowKit.Below w.heap.size w X → ∀ i (hi : i < fl.length), ∃ b o, ua = some ⟨b, o, none⟩ ∧ X.cell? ⟨b, o + i, none⟩ = some (.bool fl[i]) from fun X hX i hi => by
    obtain ⟨a, c, e, h2⟩ := hb.lat hX
    injection e with e
    obtain ⟨b, o, h3, _, h5⟩ := h2 (by omega)
    exact ⟨b, o, e.trans h3, h5 i _ (List.getElem?_eq_getElem hi)⟩)
  clear sm pk hb hBV
  cases BV with
  | false =>
    clear HBR HS1 HCL
    go_enter Tryz.func4, Tryz.ntmps4
    go_wp2_with (first
      | (go_at_call 10; refine (unhide C1).mono ?_; rintro e w1 ⟨rfl, hb1⟩; have X1 := hide hb1; clear hb1 C1)
      | (go_at_call 9; refine little_any.mono ?_; rintro e w9 ⟨rfl, hb9⟩; have X9 := hide (bl_t (unhide X1) hb9); clear hb9))
    go_ret
    exact ⟨rfl, unhide X9⟩
  | true =>
    have HB2 := hide (unhide HBR rfl)
    clear HBR
    go_enter Tryz.func4, Tryz.ntmps4
    go_wp2_with (first
      | (go_at_call 10; refine (unhide C1).mono ?_; rintro e w1 ⟨rfl, hb1⟩; have X1 := hide hb1; have CS1 := hide (unhide HS1 w1 _ fl hfl hb1 ((unhide HFB).lat hb1)); clear hb1 C1)
      | (go_at_call 6; refine (unhide CS1).mono ?_; rintro e w2 ⟨r2, rfl, hp2, hb2⟩; obtain ⟨ga, M, gc, hM, rfl⟩ : ∃ a n c, n = ((flP ps.length fl).map (pAt ps)).length ∧ r2 = .slice a n c := (let ⟨a, c, e, _⟩ := hp2; ⟨a, _, c, rfl, e⟩); have HM0 := hide hM; clear hM; have P2 := hide hp2; have X2 := hide (bl_t (unhide X1) hb2); clear hp2 hb2 CS1))
    have hgl := (unhide HGL).1
    have HK0 := hide (Kw.start w2)
    generalize hGe : (flP ps.length fl).map (pAt ps) = gs at *
    have HGE := hide hGe
    clear hGe
    have HM := hide (show M = gs.length from unhide HM0)
    clear HM0
    rw [← unhide HM] at hgl
    go_loopg [7, 8] M (fun gq sv iv wr => ∃ i : Nat, iv = .int .i64 i ∧ i ≤ M ∧ M - i ≤ gq ∧ Hid (Kw w2 wr sv ((gs.take i).map kyP)))
    case atStart => exact ⟨0, by go_num, by omega, by omega, HK0⟩
    case round =>
      clear HK0
      obtain ⟨i, rfl, hi, hgi, HW⟩ := hrel
      by_cases hlt : i < M
      · have hin : (i : Int) < (M : Int) := by omega
        have hil : i < gs.length := by have := unhide HM; omega
        obtain ⟨q, hq⟩ : ∃ q, gs[i]? = some q := ⟨_, List.getElem?_eq_getElem hil⟩
        have pk2 := unhide P2
        obtain ⟨vb, vo, vc2, cs, dd, rr, cc, pv, ff, e, hvb, hr, hpc, _⟩ := pk2.at2 hq
        injection e with e1 e2 e3
        subst e1 e3
        clear e2
        have HTK := hide (show (gs.take (i + 1)).map kyP = (gs.take i).map kyP ++ [(q.nm, q.vr)] from by rw [List.take_add_one, hq, List.map_append]; rfl)
        have hkw := (unhide HW).later (Below.refl wr.heap.size wr).drew
        have hln : ((gs.take i).map kyP).length ≤ 1048576 := by rw [List.length_map, List.length_take]; omega
        obtain ⟨f', W2, r1, hkw2⟩ := hkw.add hln (q.nm, q.vr) 31
        have cb : ∀ Z : World, RowKit.Below w2.heap.size w2 Z → Z.cell? ⟨vb, vo + i * 43, none⟩ = some (.string q.nm) ∧ Z.cell? ⟨vb, vo + i * 43 + 1, none⟩ = some (.string q.vr) := fun Z hZ => ⟨(hZ.cell (p := ⟨vb, vo + i * 43, none⟩) hvb).trans (hr 0 _ hpc.c0), (hZ.cell (p := ⟨vb, vo + i * 43 + 1, none⟩) hvb).trans (hr 1 _ hpc.c1)⟩
        have HSX := hide (cb wr.drew hkw.bw)
        have HSA := hide (cb (wr.drew.alloc (.cells #[.string q.nm, .string q.vr] 40)) (bl_t hkw.bw ((Below.refl _ wr.drew).alloc (Nat.le_refl _) _)))
        have HS2 := hide (cb W2 hkw2.bw)
        have R1 := hide r1
        have HK2 := hide hkw2
        clear hkw hkw2 cb r1 hr hpc pk2 hq hln
        go_upto_region 9 with fail
        refine wp_region_held_drew (S := fun w' => w'.cell? ⟨vb, vo + i * 43, none⟩ = some (.string q.nm) ∧ w'.cell? ⟨vb, vo + i * 43 + 1, none⟩ = some (.string q.vr)) (by kernel_rfl) ?_ (fun hHeld => ?_)
        · exact unhide HSX
        refine wpAnyH_take (i := 0) (oi := { dst := some 30, op := Op.move (Operand.tmp 7), type := 31, pos := "whole.go:167", after := #[], guard := none }) (v := ?_) rfl (by kernel_rfl) (by kernel_rfl) (by kernel_rfl) (fun _ _ _ h => h) (Or.inl ⟨by rfl, ?_⟩) (by assumption) ?_
        rotate_left
        · intro w hSw; (try dsimp only at hSw); go_simp; (try with_reducible rfl)
        try simp only [Act.put, List.setIfInBounds_toArray, List.set_cons_zero, List.set_cons_succ]
        refine wpAnyH_take (i := 1) (oi := { dst := some 31, op := Op.move (Operand.tmp 6), type := 22, pos := "whole.go:167", after := #[], guard := none }) (v := ?_) rfl (by kernel_rfl) (by kernel_rfl) (by kernel_rfl) (fun _ _ _ h => h) (Or.inl ⟨by rfl, ?_⟩) (by assumption) ?_
        rotate_left
        · intro w hSw; (try dsimp only at hSw); go_simp; (try with_reducible rfl)
        try simp only [Act.put, List.setIfInBounds_toArray, List.set_cons_zero, List.set_cons_succ]
        refine wpAnyH_take (i := 2) (oi := { dst := some 32, op := Op.move (Operand.tmp 8), type := 3, pos := "whole.go:167", after := #[], guard := none }) (v := ?_) rfl (by kernel_rfl) (by kernel_rfl) (by kernel_rfl) (fun _ _ _ h => h) (Or.inl ⟨by rfl, ?_⟩) (by assumption) ?_
        rotate_left
        · intro w hSw; (try dsimp only at hSw); go_simp; (try with_reducible rfl)
        try simp only [Act.put, List.setIfInBounds_toArray, List.set_cons_zero, List.set_cons_succ]
        refine wpAnyH_take (i := 3) (oi := { dst := some 33, op := Op.indexAddr 22 (Operand.tmp 31) (Operand.tmp 32), type := 0, pos := "whole.go:167", after := #[{ on := 1, ground := Ground.data }, { on := 2, ground := Ground.data }], guard := none }) (v := ?_) rfl (by kernel_rfl) (by kernel_rfl) (by kernel_rfl) (fun _ _ _ h => h) (Or.inl ⟨by rfl, ?_⟩) (by assumption) ?_
        rotate_left
        · intro w hSw; (try dsimp only at hSw); go_simp; (try with_reducible rfl)
        try simp only [Act.put, List.setIfInBounds_toArray, List.set_cons_zero, List.set_cons_succ]
        refine wpAnyH_take (i := 4) (oi := { dst := some 34, op := Op.fieldAddr 38 (Operand.tmp 33) 0, type := 0, pos := "whole.go:167", after := #[{ on := 3, ground := Ground.data }], guard := none }) (v := ?_) rfl (by kernel_rfl) (by kernel_rfl) (by kernel_rfl) (fun _ _ _ h => h) (Or.inl ⟨by rfl, ?_⟩) (by assumption) ?_
        rotate_left
        · intro w hSw; (try dsimp only at hSw); go_simp; (try with_reducible rfl)
        try simp only [Act.put, List.setIfInBounds_toArray, List.set_cons_zero, List.set_cons_succ]
        refine wpAnyH_take (i := 5) (oi := { dst := some 35, op := Op.load 9 (Operand.tmp 34), type := 9, pos := "whole.go:167", after := #[{ on := 4, ground := Ground.data }], guard := none }) (v := ?_) rfl (by kernel_rfl) (by kernel_rfl) (by kernel_rfl) (fun _ _ _ h => h) (Or.inl ⟨by rfl, ?_⟩) (by assumption) ?_
        rotate_left
        · intro w hSw; (try dsimp only at hSw); go_simp; (try with_reducible rfl)
        try simp only [Act.put, List.setIfInBounds_toArray, List.set_cons_zero, List.set_cons_succ]
        refine wpAnyH_take (i := 6) (oi := { dst := some 36, op := Op.move (Operand.tmp 6), type := 22, pos := "whole.go:167", after := #[], guard := none }) (v := ?_) rfl (by kernel_rfl) (by kernel_rfl) (by kernel_rfl) (fun _ _ _ h => h) (Or.inl ⟨by rfl, ?_⟩) (by assumption) ?_
        rotate_left
        · intro w hSw; (try dsimp only at hSw); go_simp; (try with_reducible rfl)
        try simp only [Act.put, List.setIfInBounds_toArray, List.set_cons_zero, List.set_cons_succ]
        refine wpAnyH_take (i := 7) (oi := { dst := some 37, op := Op.move (Operand.tmp 8), type := 3, pos := "whole.go:167", after := #[], guard := none }) (v := ?_) rfl (by kernel_rfl) (by kernel_rfl) (by kernel_rfl) (fun _ _ _ h => h) (Or.inl ⟨by rfl, ?_⟩) (by assumption) ?_
        rotate_left
        · intro w hSw; (try dsimp only at hSw); go_simp; (try with_reducible rfl)
        try simp only [Act.put, List.setIfInBounds_toArray, List.set_cons_zero, List.set_cons_succ]
        refine wpAnyH_take (i := 8) (oi := { dst := some 38, op := Op.indexAddr 22 (Operand.tmp 36) (Operand.tmp 37), type := 0, pos := "whole.go:167", after := #[{ on := 6, ground := Ground.data }, { on := 7, ground := Ground.data }], guard := none }) (v := ?_) rfl (by kernel_rfl) (by kernel_rfl) (by kernel_rfl) (fun _ _ _ h => h) (Or.inl ⟨by rfl, ?_⟩) (by assumption) ?_
        rotate_left
        · intro w hSw; (try dsimp only at hSw); go_simp; (try with_reducible rfl)
        try simp only [Act.put, List.setIfInBounds_toArray, List.set_cons_zero, List.set_cons_succ]
        refine wpAnyH_take (i := 9) (oi := { dst := some 39, op := Op.fieldAddr 38 (Operand.tmp 38) 1, type := 0, pos := "whole.go:167", after := #[{ on := 8, ground := Ground.data }], guard := none }) (v := ?_) rfl (by kernel_rfl) (by kernel_rfl) (by kernel_rfl) (fun _ _ _ h => h) (Or.inl ⟨by rfl, ?_⟩) (by assumption) ?_
        rotate_left
        · intro w hSw; (try dsimp only at hSw); go_simp; (try with_reducible rfl)
        try simp only [Act.put, List.setIfInBounds_toArray, List.set_cons_zero, List.set_cons_succ]
        refine wpAnyH_take (i := 10) (oi := { dst := some 40, op := Op.load 9 (Operand.tmp 39), type := 9, pos := "whole.go:167", after := #[{ on := 9, ground := Ground.data }], guard := none }) (v := ?_) rfl (by kernel_rfl) (by kernel_rfl) (by kernel_rfl) (fun _ _ _ h => h) (Or.inl ⟨by rfl, ?_⟩) (by assumption) ?_
        rotate_left
        · intro w hSw; (try dsimp only at hSw); go_simp; (try with_reducible rfl)
        try simp only [Act.put, List.setIfInBounds_toArray, List.set_cons_zero, List.set_cons_succ]
        refine wpAnyH_take (i := 11) (oi := { dst := some 41, op := Op.build 40 #[(0, Operand.tmp 35), (1, Operand.tmp 40)], type := 40, pos := "whole.go:167", after := #[{ on := 5, ground := Ground.data }, { on := 10, ground := Ground.data }], guard := none }) (v := ?_) rfl (by kernel_rfl) (by kernel_rfl) (by kernel_rfl) (fun _ _ _ h => h) (Or.inl ⟨by rfl, ?_⟩) (by assumption) ?_
        rotate_left
        · intro w hSw; (try dsimp only at hSw); go_simp; (try with_reducible rfl)
        try simp only [Act.put, List.setIfInBounds_toArray, List.set_cons_zero, List.set_cons_succ]
        refine wpAnyH_ready (rs := [12]) (by kernel_rfl) (by simp) ?_
        refine AllReadyH.cons (o := { dst := some 42, op := Op.buildSlice 31 1 #[(0, Operand.tmp 41)], type := 31, pos := "whole.go:167", after := #[{ on := 11, ground := Ground.data }], guard := none }) rfl (fun K hK => ?_) AllReadyH.nil
        go_simp
        refine hK.out _ _ ?_ (fun hHeld => ?_)
        · exact unhide HSA
        clear hK K
        try simp only [Act.put, List.setIfInBounds_toArray, List.set_cons_zero, List.set_cons_succ]
        refine wpAnyH_ready (rs := [13]) (by kernel_rfl) (by simp) ?_
        refine AllReadyH.cons (o := { dst := some 43, op := Op.call { callee := Callee.builtin Builtin.append, args := #[Operand.tmp 30, Operand.tmp 42], argTypes := #[31, 31] }, type := 31, pos := "whole.go:167", after := #[{ on := 0, ground := Ground.data }, { on := 12, ground := Ground.data }], guard := none }) rfl (fun K hK => ?_) AllReadyH.nil
        refine wp_append_run _ _ 31 rfl _ _ rfl rfl (unhide R1) ?_
        refine hK.out _ _ ?_ (fun hHeld => ?_)
        · exact unhide HS2
        clear hK K
        try simp only [Act.put, List.setIfInBounds_toArray, List.set_cons_zero, List.set_cons_succ]
        refine wpAnyH_take (i := 14) (oi := { dst := some 7, op := Op.assign (Operand.tmp 43), type := 31, pos := "whole.go:167", after := #[{ on := 13, ground := Ground.data }, { on := 13, ground := Ground.chain }, { on := 0, ground := Ground.phase }, { on := 1, ground := Ground.phase }, { on := 2, ground := Ground.phase }, { on := 3, ground := Ground.phase }, { on := 4, ground := Ground.phase }, { on := 5, ground := Ground.phase }, { on := 6, ground := Ground.phase }, { on := 7, ground := Ground.phase }, { on := 8, ground := Ground.phase }, { on := 9, ground := Ground.phase }, { on := 10, ground := Ground.phase }, { on := 11, ground := Ground.phase }, { on := 12, ground := Ground.phase }, { on := 13, ground := Ground.phase }], guard := none }) (v := ?_) rfl (by kernel_rfl) (by kernel_rfl) (by kernel_rfl) (fun _ _ _ h => h) (Or.inl ⟨by rfl, ?_⟩) (by assumption) ?_
        rotate_left
        · intro w hSw; (try dsimp only at hSw); go_simp; (try with_reducible rfl)
        try simp only [Act.put, List.setIfInBounds_toArray, List.set_cons_zero, List.set_cons_succ]
        refine wpAnyH_done (by kernel_rfl) ?_ _
        clear HSX HSA HS2 R1
        go_wp2_with fail
        go_roundg (M - (i + 1))
        case measure => omega
        case rel => exact ⟨i + 1, by go_num, by omega, by omega, by rw [unhide HTK]; exact HK2⟩
      · obtain rfl : i = M := by omega
        rename World => W3
        have hkw := unhide HW
        rw [unhide HM, List.take_length, ← unhide HOU] at hkw
        have bw3 := bl_t (unhide X2) hkw.bw
        have CB := hide (unhide HB2 W3 _ bw3 (row_kyl hkw.row))
        have HW3 := hide bw3
        clear hkw bw3 HW P2 HM HGE HB2
        go_upto_region 13 with (go_at_call 11; refine (unhide CB).mono ?_; rintro e w4 ⟨r4, L, rfl, hk4, hq4, hb4⟩; obtain ⟨la, K, lc, hK, rfl⟩ : ∃ a n c, n = L.length ∧ r4 = .slice a n c := (let ⟨a, c, e, _⟩ := hk4; ⟨a, _, c, rfl, e⟩); have HK := hide hK; have H4 := hide (And.intro hk4 (And.intro hq4 (bl_t (unhide HW3) hb4))); clear hK hk4 hq4 hb4 CB)
        have HF0 := hide (Fw.start w4)
        obtain ⟨N, hN⟩ : ∃ N, N = ps.length := ⟨_, rfl⟩
        have HN := hide hN
        rw [← hN] at hl ⊢
        have HKT := hide (show ∀ j, j < N → (kpF ps.length fl).take (j + 1) = (kpF ps.length fl).take j ++ [!(fl.getD j false)] from fun j hj => by
          rw [List.take_add_one]
          congr 1
          unfold kpF
          rw [List.getElem?_map, List.getElem?_range (by omega)]
          rfl)
        clear hN
        obtain ⟨i0, hi0, hz0, hz1, hz2⟩ := info_parts2 infoBo
        go_wp2_with fail
        go_loopg [10, 11] N (fun gq sv iv wr => ∃ j : Nat, iv = .int .i64 j ∧ j ≤ N ∧ N - j ≤ gq ∧ Hid (Fw w4 wr sv ((kpF ps.length fl).take j)))
        case atStart => exact ⟨0, by go_num, by omega, by omega, by rw [List.take_zero]; exact HF0⟩
        case round =>
          clear HF0
          obtain ⟨j, rfl, hj, hgj, HW⟩ := hrel
          by_cases hlt2 : j < N
          · have hjn : (j : Int) < (N : Int) := by omega
            have HT := hide (unhide HKT j hlt2)
            have hln : ((kpF ps.length fl).take j).length ≤ 262144 := by rw [List.length_take]; omega
            have hzw := (unhide HW).bw.size
            generalize (kpF ps.length fl).take j = lb at *
            by_cases hf : fl.length ≤ j
            · have hd : decide (fl.length ≤ j) = true := decide_eq_true hf
              have HV := hide (show (!(fl.getD j false)) = true from by rw [List.getD_eq_getElem?_getD, List.getElem?_eq_none hf]; rfl)
              clear hf
              go_wp2_with (at_builtin; go_must (refine wpList_append_own _ rfl _ _ 23 rfl w4.heap.size 4 i0 (.bool false) 1 1 Tryz.underlying23 hi0 hz0 hz1 hz2 rfl (by decide) _ _ _ rfl (own_same (unhide HW).row fun b e => Below.heap_alloc _ _ _ (World.ownsRow.lt (unhide HW).row b e).2) ⟨wr.heap.size, 0, none⟩ 1 1 [.bool true] rfl rfl (fun k u hk => by rw [Addr.add_mid, Nat.zero_add, World.cell?_alloc_new]; simpa using hk) (fun u hu => by simp at hu; subst hu; rfl) (by unfold maxLen; omega) (by omega) (by rw [World.size_alloc]; omega) ?_); intro v' w9 hown hgrow _; have HF9 := hide ((unhide HW).grow (x := true) hown hgrow); clear hown hgrow)
              go_roundg (N - (j + 1))
              case measure => omega
              case rel => exact ⟨j + 1, by go_num, by omega, by omega, by rw [unhide HT, unhide HV]; exact HF9⟩
            · have hd : decide (fl.length ≤ j) = false := decide_eq_false hf
              have hjf : j < fl.length := by omega
              have hjfi : (j : Int) < (fl.length : Int) := by omega
              obtain ⟨fb, fo2, rfl, f0⟩ := unhide HFL wr (bl_t (unhide H4).2.2 (unhide HW).bw) j hjf
              have HV := hide (show (!(fl.getD j false)) = !fl[j] from by rw [List.getD_eq_getElem?_getD, List.getElem?_eq_getElem hjf]; rfl)
              generalize fl[j] = fv at *
              clear hf
              go_wp2_with (at_builtin; go_must (refine wpList_append_own _ rfl _ _ 23 rfl w4.heap.size 4 i0 (.bool false) 1 1 Tryz.underlying23 hi0 hz0 hz1 hz2 rfl (by decide) _ _ _ rfl (own_same (unhide HW).row fun b e => Below.heap_alloc _ _ _ (World.ownsRow.lt (unhide HW).row b e).2) ⟨wr.heap.size, 0, none⟩ 1 1 [.bool (!fv)] rfl rfl (fun k u hk => by rw [Addr.add_mid, Nat.zero_add, World.cell?_alloc_new]; simpa using hk) (fun u hu => by simp at hu; subst hu; rfl) (by unfold maxLen; omega) (by omega) (by rw [World.size_alloc]; omega) ?_); intro v' w9 hown hgrow _; have HF9 := hide ((unhide HW).grow (x := !fv) hown hgrow); clear hown hgrow)
              go_roundg (N - (j + 1))
              case measure => omega
              case rel => exact ⟨j + 1, by go_num, by omega, by omega, by rw [unhide HT, unhide HV]; exact HF9⟩
          · obtain rfl : j = N := by omega
            rename World => W5
            have hfw := unhide HW
            have hkp : (kpF ps.length fl).length = j := by unfold kpF; rw [List.length_map, List.length_range]; exact (unhide HN).symm
            rw [← hkp, List.take_length] at hfw
            have b5 := bl_t (unhide H4).2.2 hfw.bw
            have CS2 := hide (unhide HS1 W5 _ (kpF ps.length fl) (by omega) b5 hfw.bfl)
            have H5 := hide (And.intro ((unhide H4).1.later hfw.bw) (And.intro (unhide H4).2.1 b5))
            clear hfw b5 HW H4 HS1 hkp
            have hNe := unhide HN
            clear HN
            subst hNe
            by_cases h0 : K = 0
            · have hz : ((K : Int) == 0) = true := by rw [h0]; rfl
              have hK0 : ¬ (0 : Int) < (K : Int) := by omega
              have HK2 := hide (show L.length = 0 from by rw [← unhide HK]; exact h0)
              clear h0
              go_wp2_with (first
                | (go_at_call 6; refine (unhide CS2).mono ?_; rintro e w6 ⟨r6, rfl, hp6, hb6⟩; have CC := hide (unhide HCL _ _ _ hp6); have B6 := hide (bl_t (unhide H5).2.2 hb6); clear hp6 hb6 CS2)
                | (go_at_call 7; refine (unhide CC).mono ?_; rintro e w7 ⟨b7, rfl, hb7, hB7⟩; obtain rfl : b7 = true := ((unhide H5).2.1 b7 hb7).nil.1 (unhide HK2); have B7 := hide (bl_t (unhide B6) hB7); clear hb7 hB7 CC))
              refine wp_loop_rounds 1 ?_
              rw [rounds_succ]
              go_wp2_with (go_at_call 9; refine little_any.mono ?_; rintro e w9 ⟨rfl, hb9⟩; have X9 := hide (bl_t (unhide B7) hb9); clear hb9)
              go_ret
              exact ⟨rfl, unhide X9⟩
            · have hz : ((K : Int) == 0) = false := by simpa using h0
              have HK2 := hide (show ¬ L.length = 0 from by rw [← unhide HK]; exact h0)
              clear h0
              go_wp2_with (first
                | (go_at_call 6; refine (unhide CS2).mono ?_; rintro e w6 ⟨r6, rfl, hp6, hb6⟩; obtain ⟨ra, R, rc, hR, rfl⟩ : ∃ a n c, n = ((flP ps.length (kpF ps.length fl)).map (pAt ps)).length ∧ r6 = .slice a n c := (let ⟨a, c, e, _⟩ := hp6; ⟨a, _, c, rfl, e⟩); have HR := hide hR; have CC := hide (unhide HCL _ _ _ hp6); have P6 := hide hp6; have Q6 := hide hb6; have B6 := hide (bl_t (unhide H5).2.2 hb6); clear hp6 hb6 hR CS2)
                | (go_at_call 7; refine (unhide CC).mono ?_; rintro e w7 ⟨b7, rfl, hb7, hB7⟩; have hbq := (unhide H5).2.1 b7 hb7; obtain rfl : b7 = false := (by cases b7 with | false => rfl | true => exact absurd (hbq.nil.2 rfl) (unhide HK2)); have HBQ := hide hbq; have P7 := hide ((unhide P6).later hB7); have K7 := hide ((unhide H5).1.later (bl_t (unhide Q6) hB7)); have B7 := hide (bl_t (unhide B6) hB7); clear hb7 hB7 hbq CC))
              have HRL := hide (unhide HGL).2
              clear H5 P6 Q6 B6 HK2 HGL HOU HFB HFL HCL hz HKT
              generalize hrs : (flP ps.length (kpF ps.length fl)).map (pAt ps) = rs at *
              have HBL := hide (show L.length ≤ 1048576 from (unhide HBQ).len)
              have HBP := hide (unhide HBQ).pw
              have HOF := hide (show ∀ x ∈ L, ∃ k, k < rs.length ∧ ∃ q, rs[k]? = some q ∧ kyP q = x from by rw [← hrs]; exact (unhide HBQ).of)
              clear hrs HBQ
              have hKl : K ≤ 1048576 := by rw [unhide HK]; exact unhide HBL
              have hRl : R ≤ 262144 := by rw [unhide HR]; exact unhide HRL
              go_loopg [13, 14, 15] K (fun gq iv _ _ wr => ∃ i n : Nat, iv = .int .i64 i ∧ i ≤ K ∧ K - i ≤ gq ∧ wr = w7.drewN n)
              case atStart => exact ⟨0, 0, by go_num, by omega, by omega, rfl⟩
              case round =>
                obtain ⟨m, nd, rfl, hm, hgm, rfl⟩ := hrel
                by_cases hmt : m < K
                · have hmi : (m : Int) < (K : Int) := by omega
                  have hml : m < L.length := by have := unhide HK; omega
                  obtain ⟨lb, lo, rfl, x0, x1⟩ : ∃ b o, la = some ⟨b, o, none⟩ ∧ w7.cell? ⟨b, o + m * 2, none⟩ = some (.string L[m].1) ∧ w7.cell? ⟨b, o + m * 2 + 1, none⟩ = some (.string L[m].2) := by
                    obtain ⟨a, c, e, h2⟩ := unhide K7
                    injection e with e
                    obtain ⟨b, o, q1, _, q3, q4⟩ := h2 m L[m] (List.getElem?_eq_getElem hml)
                    exact ⟨b, o, e.trans q1, q3, q4⟩
                  have HFO := hide (unhide HOF L[m] (List.getElem_mem hml))
                  have HLX := hide (show ∀ k, m = k + 1 → ∃ y : Nm × Nm, w7.cell? ⟨lb, lo + k * 2, none⟩ = some (.string y.1) ∧ w7.cell? ⟨lb, lo + k * 2 + 1, none⟩ = some (.string y.2) ∧ lx y L[m] from fun k hk => by
                    have hkl : k < L.length := by omega
                    obtain ⟨a, c, e, h2⟩ := unhide K7
                    injection e with e
                    obtain ⟨b, o, q1, _, q3, q4⟩ := h2 k L[k] (List.getElem?_eq_getElem hkl)
                    rw [q1] at e
                    cases e
                    exact ⟨L[k], q3, q4, List.pairwise_iff_getElem.1 (unhide HBP) k m hkl hml (by omega)⟩)
                  generalize L[m] = x at *
                  obtain ⟨xn, xv⟩ := x
                  simp only at x0 x1
                  go_wp2_with fail
                  go_loopg [14, 15] R (fun gq fv kv wx => ∃ (k n : Nat) (fb : Bool), fv = .bool fb ∧ kv = .int .i64 k ∧ k ≤ R ∧ R - k ≤ gq ∧ wx = w7.drewN n ∧ Hid (Fd rs k (xn, xv) fb))
                  case atStart => exact ⟨0, nd, false, rfl, by go_num, by omega, by omega, rfl, hide (fun ⟨k2, h, _⟩ => absurd h (Nat.not_lt_zero _))⟩
                  case round =>
                    obtain ⟨k, n2, fb, rfl, rfl, hk, hgk, rfl, HFD⟩ := hrel
                    by_cases hkt : k < R
                    · have hki : (k : Int) < (R : Int) := by omega
                      have hkr : k < rs.length := by have := unhide HR; omega
                      obtain ⟨q, hq⟩ : ∃ q, rs[k]? = some q := ⟨_, List.getElem?_eq_getElem hkr⟩
                      obtain ⟨vb, vo, vc2, cs, dd, rr, cc, pv, ff, e, hvb, hr, hpc, _⟩ := (unhide P7).at2 hq
                      injection e with e1 e2 e3
                      subst e1 e3
                      clear e2
                      have y0 : w7.cell? ⟨vb, vo + k * 43, none⟩ = some (.string q.nm) := hr 0 _ hpc.c0
                      have y1 : w7.cell? ⟨vb, vo + k * 43 + 1, none⟩ = some (.string q.vr) := hr 1 _ hpc.c1
                      have HNX := hide (show ∀ fb2 : Bool, (fb = true → fb2 = true) → (kyP q = (xn, xv) → fb2 = true) → Fd rs (k + 1) (xn, xv) fb2 from fun fb2 h1 h2 ⟨k2, hk2, q2, hq2, he2⟩ => by
                        by_cases e : k2 = k
                        · subst e; rw [hq] at hq2; cases hq2; exact h2 he2
                        · exact h1 (unhide HFD ⟨k2, by omega, q2, hq2, he2⟩))
                      clear hr hpc hq HFD
                      cases fb with
                      | true =>
                        have HG := hide (unhide HNX true (fun h => h) (fun _ => rfl))
                        clear HNX
                        go_wp2_with fail
                        go_quiet (fail)
                        go_wp2_with fail
                        go_roundg (R - (k + 1))
                        case measure => omega
                        case rel => exact ⟨k + 1, _, true, rfl, by go_num, by omega, by omega, by first | rfl | exact drewN_two w7 _ _, HG⟩
                      | false =>
                        by_cases h1 : q.nm = xn
                        · have he1 : (q.nm.toList == xn.toList) = true := toList_eq.2 h1
                          by_cases h2 : q.vr = xv
                          · have he2 : (q.vr.toList == xv.toList) = true := toList_eq.2 h2
                            have HG := hide (unhide HNX true (fun h => (by cases h)) (fun _ => rfl))
                            clear HNX h1 h2
                            generalize q.nm = qn at *
                            generalize q.vr = qv at *
                            go_wp2_with fail
                            go_quiet (fail)
                            go_wp2_with fail
                            go_roundg (R - (k + 1))
                            case measure => omega
                            case rel => exact ⟨k + 1, _, true, rfl, by go_num, by omega, by omega, by first | rfl | exact drewN_two w7 _ _, HG⟩
                          · have he2 : (q.vr.toList == xv.toList) = false := by
                              cases h : (q.vr.toList == xv.toList) with
                              | false => rfl
                              | true => exact absurd (toList_eq.1 h) h2
                            have HG := hide (unhide HNX false (fun h => h) (fun h => absurd (congrArg Prod.snd h) h2))
                            clear HNX h1 h2
                            generalize q.nm = qn at *
                            generalize q.vr = qv at *
                            go_wp2_with fail
                            go_quiet (fail)
                            go_wp2_with fail
                            go_roundg (R - (k + 1))
                            case measure => omega
                            case rel => exact ⟨k + 1, _, false, rfl, by go_num, by omega, by omega, by first | rfl | exact drewN_two w7 _ _, HG⟩
                        · have he1 : (q.nm.toList == xn.toList) = false := by
                            cases h : (q.nm.toList == xn.toList) with
                            | false => rfl
                            | true => exact absurd (toList_eq.1 h) h1
                          have HG := hide (unhide HNX false (fun h => h) (fun h => absurd (congrArg Prod.fst h) h1))
                          clear HNX h1
                          generalize q.nm = qn at *
                          generalize q.vr = qv at *
                          go_wp2_with fail
                          go_quiet (fail)
                          go_wp2_with fail
                          go_roundg (R - (k + 1))
                          case measure => omega
                          case rel => exact ⟨k + 1, _, false, rfl, by go_num, by omega, by omega, by first | rfl | exact drewN_two w7 _ _, HG⟩
                    · obtain rfl : k = R := by omega
                      obtain rfl : fb = true := unhide HFD (by
                        obtain ⟨k2, hk2, q, hq, he⟩ := unhide HFO
                        exact ⟨k2, by rw [unhide HR]; exact hk2, q, hq, he⟩)
                      clear HFD HFO
                      by_cases hm0 : 0 < m
                      · obtain ⟨m1, hm1⟩ : ∃ m1, m = m1 + 1 := ⟨m - 1, by omega⟩
                        obtain ⟨⟨yn, yv⟩, y0, y1, hlx⟩ := unhide HLX m1 hm1
                        simp only at y0 y1
                        have d4 : decide (0 < m) = true := decide_eq_true hm0
                        have e1 : ((m : Int) - 1) = (m1 : Int) := by omega
                        have hwk : IntKind.i64.wrap (m1 : Int) = (m1 : Int) := by rw [IntKind.wrap_i64]; omega
                        have hm1i : (m1 : Int) < (K : Int) := by omega
                        rcases hlx with hlx | ⟨hlx1, hlx2⟩
                        · simp only at hlx
                          have hb1 : Op.bytesLess yn.toList xn.toList = true := by rw [bytesLess_eq]; exact decide_eq_true hlx
                          have he1 : (yn.toList == xn.toList) = false := by
                            cases h : (yn.toList == xn.toList) with
                            | false => rfl
                            | true => rw [toList_eq.1 h] at hlx; exact absurd hlx (List.lt_irrefl _)
                          clear hlx hm1 hm0 HLX
                          go_wp2_with fail
                          go_quiet (fail)
                          go_wp2_with fail
                          go_roundg (K - (m + 1))
                          case measure => omega
                          case rel => exact ⟨m + 1, _, by go_num, by omega, by omega, by first | rfl | exact drewN_two w7 _ _⟩
                        · simp only at hlx1 hlx2
                          have he1 : (yn.toList == xn.toList) = true := by rw [hlx1]; exact beq_self_eq_true _
                          have hb1 : Op.bytesLess yn.toList xn.toList = false := by rw [hlx1]; exact bytesLess_irrefl _
                          have hb2 : Op.bytesLess yv.toList xv.toList = true := by rw [bytesLess_eq]; exact decide_eq_true hlx2
                          clear hlx1 hlx2 hm1 hm0 HLX
                          go_wp2_with fail
                          go_quiet (fail)
                          go_wp2_with fail
                          go_roundg (K - (m + 1))
                          case measure => omega
                          case rel => exact ⟨m + 1, _, by go_num, by omega, by omega, by first | rfl | exact drewN_two w7 _ _⟩
                      · have d4 : decide (0 < m) = false := decide_eq_false hm0
                        clear hm0 HLX
                        go_wp2_with fail
                        go_quiet (fail)
                        go_wp2_with fail
                        go_roundg (K - (m + 1))
                        case measure => omega
                        case rel => exact ⟨m + 1, _, by go_num, by omega, by omega, by first | rfl | exact drewN_two w7 _ _⟩
                · obtain rfl : m = K := by omega
                  go_wp2_with (go_at_call 9; refine little_any.mono ?_; rintro e w9 ⟨rfl, hb9⟩; have X9 := hide (bl_t (bl_t (unhide B7) (bl_drewN w7 nd)) hb9); clear hb9)
                  go_ret
                  exact ⟨rfl, unhide X9⟩
end Go.Proofs.YtjnbnndocinicaaGreatDoor
namespace Go.Proofs.YtjnbnndocinicaaGreatDoor
open Go.ChangeShapes Go.WideShapes Go.ChangeAt Go.RowKit

theorem plain_a {w : World} {a : Addr} {v : Value} (h : w.cell? a = some v) : a = ⟨a.block, a.off, none⟩ ∧ a.block < w.heap.size := by
  have hs := World.cell?_spot h
  have hb := World.block_lt_of_cell? _ _ h
  obtain ⟨b, o, sp⟩ := a
  have e : sp = none := hs
  subst e
  exact ⟨rfl, hb⟩
theorem add_zero' (a : Addr) : a.add 0 = a := by unfold Addr.add; simp
theorem add_plain' (b o i : Nat) : (⟨b, o, none⟩ : Addr).add i = ⟨b, o + i, none⟩ := by unfold Addr.add; split <;> simp_all
theorem plain_i {w : World} {a : Addr} {i : Nat} {v : Value} (ha : a = ⟨a.block, a.off, none⟩) (h : w.cell? (a.add i) = some v) : w.cell? ⟨a.block, a.off + i, none⟩ = some v := by
  rw [ha, add_plain'] at h
  exact h
theorem maxLen_eq : maxLen = 9223372036854775807 := by decide
theorem cell_oneCell {P : Program} {w : World} {r : Reach} {b : Nat} {t : TypeId} {v : Value} (h : Cell.okWide P w r b t v) : v.oneCell' = true := by
  cases v with
  | agg a =>
    rcases hu : P.underlying t with _ | u
    · simp [Cell.okWide, Cell.ok, hu] at h
    · cases u <;> simp [Cell.okWide, Cell.ok, hu] at h
  | tuple a =>
    rcases hu : P.underlying t with _ | u
    · simp [Cell.okWide, Cell.ok, hu] at h
    · cases u <;> simp [Cell.okWide, Cell.ok, hu] at h
  | _ => rfl
theorem row_one {P : Program} {w : World} {r : Reach} {b : Nat} {t : TypeId} {cs : Array Value} (h : Row.okWide P w r b t cs) : ∀ v ∈ cs.toList, v.oneCell' = true := by
  obtain ⟨ts, _, _, h3⟩ := h
  intro v hv
  obtain ⟨i, hi, rfl⟩ := List.getElem_of_mem hv
  obtain ⟨u, _, h4⟩ := h3 i (cs.toList[i]) (by rw [← Array.getElem?_toList]; exact List.getElem?_eq_getElem hi)
  exact cell_oneCell h4

/-- WEIGHTS. -/
theorem bulkAll {H : Type} : ∀ L : List (DataW H), Rows.uptoBulkAll L = (L.map Rows.uptoBulk).sum
  | [] => by simp [Rows.uptoBulkAll]
  | d :: r => by rw [Rows.uptoBulkAll, bulkAll r, List.map_cons, List.sum_cons]
theorem leSum {f : Nat → Nat} : ∀ n i, i < n → f i ≤ ((List.range n).map f).sum
  | 0, i, h => by omega
  | n + 1, i, h => by
    simp only [List.range_succ, List.map_append, List.map_cons, List.map_nil, List.sum_append, List.sum_cons, List.sum_nil]
    by_cases e : i < n
    · have := leSum (f := f) n i e; omega
    · obtain rfl : i = n := by omega
      omega
theorem len_sum {f : Nat → Nat} : ∀ n, (∀ i, 1 ≤ f i) → n ≤ ((List.range n).map f).sum
  | 0, _ => by simp
  | n + 1, h => by
    have := len_sum (f := f) n h
    have h1 := h n
    simp only [List.range_succ, List.map_append, List.map_cons, List.map_nil, List.sum_append, List.sum_cons, List.sum_nil]
    omega
theorem bulk_pos {H : Type} (d : DataW H) : 1 ≤ Rows.uptoBulk d := by
  cases d with
  | lit l => cases l <;> simp [Rows.uptoBulk]
  | _ => simp [Rows.uptoBulk]
theorem bulk_slice {H : Type} (D : Nat → DataW H) (n : Nat) (r : List (DataW H)) : n ≤ Rows.uptoBulk (.slice ((List.range n).map D) r) ∧ ∀ i, i < n → Rows.uptoBulk (D i) ≤ Rows.uptoBulk (.slice ((List.range n).map D) r) := by
  rw [Rows.uptoBulk, bulkAll, List.map_map]
  have h1 := len_sum (f := fun i => Rows.uptoBulk (D i)) n (fun i => bulk_pos _)
  refine ⟨Nat.le_trans h1 (Nat.le_trans (Nat.le_add_right _ _) (Nat.le_add_right _ _)), fun i hi => ?_⟩
  have h2 := leSum (f := fun i => Rows.uptoBulk (D i)) n i hi
  exact Nat.le_trans h2 (Nat.le_trans (Nat.le_add_right _ _) (Nat.le_add_right _ _))
theorem mem_bulk {H : Type} : ∀ (L : List (DataW H)) (d : DataW H), d ∈ L → Rows.uptoBulk d ≤ Rows.uptoBulkAll L
  | [], _, h => by cases h
  | b :: r, a, h => by
    rw [Rows.uptoBulkAll]
    rcases List.mem_cons.1 h with rfl | h
    · omega
    · have := mem_bulk r a h; omega

/-- LITERALS OF TEXTS AND NUMBERS. -/
def flatL : Lit → Bool
  | .string _ => true
  | .int _ _ => true
  | _ => false
/-- A TYPE OF TEXTS AND NUMBERS ALONE. -/
def nbT (P : Program) : Nat → TypeId → Bool
  | 0, _ => false
  | d + 1, t => match P.underlying t with
    | some (.int _) => true
    | some .string => true
    | some (.array _ e) => nbT P d e
    | some (.struct fs) => fs.toList.all fun f => nbT P d f.type
    | _ => false
theorem mapM_mem {α β : Type} (f : α → Option β) : ∀ (L : List α) (ys : List β), L.mapM f = some ys → ∀ y ∈ ys, ∃ x ∈ L, f x = some y
  | [], ys, h, y, hy => by simp at h; subst h; cases hy
  | a :: L, ys, h, y, hy => by
    rw [List.mapM_cons] at h
    simp only [bind, Option.bind_eq_some_iff, pure, Option.some.injEq] at h
    obtain ⟨b, hb, bs, hbs, rfl⟩ := h
    rcases List.mem_cons.1 hy with rfl | hy
    · exact ⟨a, List.mem_cons_self, hb⟩
    · obtain ⟨x, hx, hfx⟩ := mapM_mem f L bs hbs y hy
      exact ⟨x, List.mem_cons_of_mem _ hx, hfx⟩
theorem nb_flat {P : Program} : ∀ (d : Nat) (t : TypeId) (cs : List Value) (l : List Lit), nbT P d t = true → P.keyLits d t cs = some l → ∀ c ∈ l, flatL c = true
  | 0, _, _, _, h, _ => by simp [nbT] at h
  | d + 1, t, cs, l, hn, h => by
    unfold nbT at hn
    intro c hc
    cases hu : P.underlying t with
    | none => rw [hu] at hn; cases hn
    | some u =>
      rw [hu] at hn
      cases u with
      | int q =>
        obtain ⟨n, hl⟩ := keyLits_int hu h
        rcases hl with rfl | ⟨rfl, _⟩
        all_goals (simp at hc; subst hc; rfl)
      | string =>
        obtain ⟨n, hl⟩ := keyLits_string hu h
        rcases hl with rfl | ⟨rfl, _⟩
        all_goals (simp at hc; subst hc; rfl)
      | array n e =>
        unfold Program.keyLits at h
        rw [hu] at h
        simp only at hn h
        split at h
        · obtain ⟨ls, h1, rfl⟩ := Option.map_eq_some_iff.1 h
          obtain ⟨m, hm, hcm⟩ := List.mem_flatten.1 hc
          obtain ⟨i, _, hi⟩ := mapM_mem _ _ _ h1 m hm
          exact nb_flat d e _ _ hn hi c hcm
        · cases h
      | struct fs =>
        unfold Program.keyLits at h
        rw [hu] at h
        simp only at hn h
        split at h
        · obtain ⟨ls, h1, rfl⟩ := Option.map_eq_some_iff.1 h
          obtain ⟨m, hm, hcm⟩ := List.mem_flatten.1 hc
          obtain ⟨f, hf, hi⟩ := mapM_mem _ _ _ h1 m hm
          exact nb_flat d f.type _ _ (List.all_eq_true.1 hn f hf) hi c hcm
        · cases h
      | _ => simp at hn

section
variable {H : Type} {enc : TypeId × Value → H} {w : World} {base : Nat} {spare : Nat → Bool} {held : Bool} {fuel : Nat} {v : Value} {x : DataW H × List MemPlace}

theorem open_texts (h : DataW.trod enc Tryz.prog w base spare held fuel 34 [v] = some x) : ∃ pl : List ByteArray, Strs w v pl ∧ pl.length ≤ Rows.uptoBulk x.1 ∧ ∀ n ∈ pl, n.size ≤ maxLen := by
  rcases Go.Deep.open_strs Tryz.underlying34 Tryz.underlying9 (by kernel_rfl) h with ⟨h1, rfl⟩ | ⟨a, len, cap, m, Sx, h1, hb, hl, hm, hmm, rfl, hx⟩
  · obtain rfl : v = .slice none 0 0 := by simpa using h1
    exact ⟨[], ⟨none, 0, rfl, by simp, fun i hi => absurd hi (Nat.not_lt_zero _)⟩, by simp, fun n hn => by cases hn⟩
  · obtain rfl : v = .slice (some a) len cap := by simpa using h1
    have hlm : len ≤ m := by rw [hmm]; split <;> omega
    have hmx := maxLen_eq
    refine ⟨(List.range len).map Sx, ⟨some a, cap, by simp, by simp; omega, fun i hi => ?_⟩, ?_, fun n hn => ?_⟩
    · have hi' : i < len := by simpa using hi
      have h4 := (hx 0 (by omega)).1
      rw [add_zero'] at h4
      obtain ⟨e1, e2⟩ := plain_a h4
      refine ⟨a.block, a.off, by rw [← e1], e2, ?_⟩
      rw [plain_i e1 (hx i (by omega)).1]
      simp
    · have := (bulk_slice (H := H) (fun i => .lit (.string (Sx i).data.toList)) len ((List.range (m - len)).map fun j => .lit (.string (Sx (len + j)).data.toList))).1
      simpa using this
    · obtain ⟨i, hi, rfl⟩ := List.mem_map.1 hn
      exact (hx i (by have : i < len := by simpa using hi
                      omega)).2

set_option maxRecDepth 100000 in
theorem open_atoms {t : TypeId} (ht : Tryz.prog.underlying t = some (.slice 55)) (h : DataW.trod enc Tryz.prog w base spare held fuel t [v] = some x) (hB : Rows.uptoBulk x.1 ≤ 1048576) : ∃ al : List At, Ats w v al ∧ al.length ≤ Rows.uptoBulk x.1 ∧ ∀ i (h : i < al.length), al[i].n.size ≤ maxLen ∧ al[i].v.size ≤ maxLen := by
  rcases Go.Deep.open_slice ht h with ⟨h1, rfl⟩ | ⟨a, len, cap, m, n, D, Pl, h1, hb, hl, hm, hmm, rfl, hx⟩
  · obtain rfl : v = .slice none 0 0 := by simpa using h1
    exact ⟨[], ⟨none, 0, rfl, by simp, fun i hi => absurd hi (Nat.not_lt_zero _)⟩, by simp, fun i hi => absurd hi (Nat.not_lt_zero _)⟩
  · obtain rfl : v = .slice (some a) len cap := by simpa using h1
    have hlm : len ≤ m := by rw [hmm]; split <;> omega
    have hmx := maxLen_eq
    have cA : Tryz.prog.cellsOf 55 = 3 := by kernel_rfl
    have each0 : 0 < len → a = ⟨a.block, a.off, none⟩ ∧ a.block < w.heap.size := fun hi => by
      obtain ⟨cs', h2, h3⟩ := hx 0 (by omega)
      rw [cA] at h2
      obtain ⟨_, hlen, hcell⟩ := World.cells?_some h2
      have k0 := hcell 0 (by omega)
      rw [Nat.zero_mul, add_zero', add_zero', List.getElem?_eq_getElem (by omega)] at k0
      exact plain_a k0
    have each : ∀ i, i < len → ∃ q : At, w.cell? ⟨a.block, a.off + i * 3, none⟩ = some (.string q.n) ∧ w.cell? ⟨a.block, a.off + i * 3 + 1, none⟩ = some (.int .i64 q.op) ∧ w.cell? ⟨a.block, a.off + i * 3 + 2, none⟩ = some (.string q.v) ∧ q.n.size ≤ maxLen ∧ q.v.size ≤ maxLen := fun i hi => by
      obtain ⟨cs', h2, h3⟩ := hx i (by omega)
      rw [cA] at h2
      obtain ⟨_, hlen, hcell⟩ := World.cells?_some h2
      match cs', hlen with
      | [c0, c1, c2], _ =>
        obtain ⟨xs, n', _, hx', hl', hlen', hfs⟩ := DataW.trod_struct Tryz.underlying55 h3
        match xs, hlen' with
        | [y0, y1, y2], _ =>
          have g0 := hfs 0 _ rfl
          have g1 := hfs 1 _ rfl
          have g2 := hfs 2 _ rfl
          simp [show Tryz.prog.cellsOf 9 = 1 by kernel_rfl, show Tryz.prog.cellsOf 3 = 1 by kernel_rfl] at g0 g1 g2
          obtain ⟨e, e0, rfl, z0⟩ := DataW.trod_string Tryz.underlying9 g0
          obtain ⟨o, e1, rfl, z1⟩ := DataW.trod_int Tryz.underlying3 g1
          obtain ⟨r, e2, rfl, z2⟩ := DataW.trod_string Tryz.underlying9 g2
          simp at e0 e1 e2
          subst e0 e1 e2
          have k0 := hcell 0 (by omega)
          have k1 := hcell 1 (by omega)
          have k2 := hcell 2 (by omega)
          rw [Go.Deep.add_add] at k0 k1 k2
          simp only [List.getElem?_cons_zero, List.getElem?_cons_succ] at k0 k1 k2
          obtain ⟨p1, p2⟩ := each0 (by omega)
          exact ⟨⟨e, o, r⟩, plain_i p1 k0, plain_i p1 k1, plain_i p1 k2, z0, z2⟩
    have : Inhabited At := ⟨⟨.empty, 0, .empty⟩⟩
    obtain ⟨q, hq⟩ := Go.Deep.choose_lt each
    have hbk := (bulk_slice (H := H) D len ((List.range (m - len)).map fun j => D (len + j))).1
    have hbl : len ≤ 1048576 := by
      have h9 : len ≤ Rows.uptoBulk (DataW.slice ((List.range len).map D) ((List.range (m - len)).map fun j => D (len + j))) := hbk
      exact Nat.le_trans h9 hB
    refine ⟨(List.range len).map q, ⟨some a, cap, by simp, by simp; omega, fun i hi => ?_⟩, by simpa using hbk, fun i hi => ?_⟩
    · have hi' : i < len := by simpa using hi
      obtain ⟨p1, p2⟩ := each0 (by omega)
      obtain ⟨p3, p4, p5, _⟩ := hq i hi'
      refine ⟨a.block, a.off, by rw [← p1], p2, ?_, ?_, ?_⟩
      · rw [p3]; simp
      · rw [p4]; simp
      · rw [p5]; simp
    · have hi' : i < len := by simpa using hi
      have := (hq i hi').2.2.2
      simpa using this

theorem open_clauses (h : DataW.trod enc Tryz.prog w base spare held fuel 32 [v] = some x) (hB : Rows.uptoBulk x.1 ≤ 1048576) : ∃ cl : List (List At), Cls w v cl ∧ cl.length ≤ Rows.uptoBulk x.1 ∧ (∀ al ∈ cl, al.length ≤ 1048576 ∧ ∀ a ∈ al, a.n.size ≤ maxLen ∧ a.v.size ≤ maxLen) ∧ (clN cl).length ≤ Rows.uptoBulk x.1 := by
  rcases Go.Deep.open_slice1 Tryz.underlying32 (by kernel_rfl) h with ⟨h1, rfl⟩ | ⟨a, len, cap, m, n, V, D, Pl, h1, hb, hl, hm, hmm, rfl, hx⟩
  · obtain rfl : v = .slice none 0 0 := by simpa using h1
    exact ⟨[], ⟨none, 0, rfl, fun h => absurd h (Nat.not_lt_zero _)⟩, by simp, (fun al h => by cases h), Nat.zero_le _⟩
  · obtain rfl : v = .slice (some a) len cap := by simpa using h1
    have hlm : len ≤ m := by rw [hmm]; split <;> omega
    have hS := bulk_slice (H := H) D len ((List.range (m - len)).map fun j => D (len + j))
    have hB' : Rows.uptoBulk (DataW.slice ((List.range len).map D) ((List.range (m - len)).map fun j => D (len + j))) ≤ 1048576 := hB
    have each : ∀ i, i < len → ∃ al : List At, Ats w (V i) al ∧ al.length ≤ Rows.uptoBulk (D i) ∧ ∀ k (h : k < al.length), al[k].n.size ≤ maxLen ∧ al[k].v.size ≤ maxLen := fun i hi => open_atoms Tryz.underlying53 (hx i (by omega)).2 (Nat.le_trans (hS.2 i hi) hB')
    obtain ⟨q, hq⟩ := Go.Deep.choose_lt each
    refine ⟨(List.range len).map q, ⟨some a, cap, by simp, fun h0 => ?_⟩, by simpa using hS.1, fun al ha => ?_, ?_⟩
    · have h0' : 0 < len := by simpa using h0
      have h4 := (hx 0 (by omega)).1
      rw [add_zero'] at h4
      obtain ⟨e1, e2⟩ := plain_a h4
      refine ⟨a.block, a.off, by rw [← e1], e2, fun i al hi => ?_⟩
      rw [List.getElem?_map] at hi
      obtain ⟨k, hk, rfl⟩ := Option.map_eq_some_iff.1 hi
      obtain ⟨hk', hk2⟩ := List.getElem?_eq_some_iff.1 hk
      have hi' : i < len := by simpa using hk'
      obtain rfl : i = k := by simpa using hk2
      have := (hq i hi').1
      obtain ⟨xa, xc, e, z⟩ := this
      refine ⟨xa, xc, ?_, ⟨xa, xc, rfl, z⟩⟩
      rw [← e]
      exact plain_i e1 (hx i (by omega)).1
    · obtain ⟨i, hi, rfl⟩ := List.mem_map.1 ha
      have hi' : i < len := by simpa using hi
      refine ⟨Nat.le_trans (hq i hi').2.1 (Nat.le_trans (hS.2 i hi') hB'), fun a haa => ?_⟩
      obtain ⟨k, hk, rfl⟩ := List.getElem_of_mem haa
      exact (hq i hi').2.2 k hk
    · have step : ∀ k, k ≤ len → (clN ((List.range k).map q)).length ≤ ((List.range k).map fun i => Rows.uptoBulk (D i)).sum := fun k => by
        induction k with
        | zero => intro _; simp [clN]
        | succ k ih =>
          intro hk
          have h1 := ih (by omega)
          have h2 := (hq k (by omega)).2.1
          have e : clN ((List.range (k + 1)).map q) = clN ((List.range k).map q) ++ (q k).map (·.n) := by
            unfold clN
            rw [List.range_succ, List.map_append, List.map_append, List.flatten_append]
            simp
          rw [e, List.length_append, List.length_map, List.range_succ, List.map_append, List.sum_append]
          simp only [List.map_cons, List.map_nil, List.sum_cons, List.sum_nil]
          omega
      refine Nat.le_trans (step len (Nat.le_refl _)) ?_
      show _ ≤ Rows.uptoBulk (DataW.slice ((List.range len).map D) ((List.range (m - len)).map fun j => D (len + j)))
      rw [Rows.uptoBulk, bulkAll, List.map_map]
      exact Nat.le_trans (Nat.le_add_right _ _) (Nat.le_add_right _ _)

set_option maxRecDepth 100000 in
theorem open_files (h : DataW.trod enc Tryz.prog w base spare held fuel 35 [v] = some x) : ∃ fl : List (List Value), Fls w v fl ∧ fl.length ≤ Rows.uptoBulk x.1 ∧ ∀ f ∈ fl, ∃ s : Nm, f[0]? = some (Value.string s) ∧ s.size ≤ maxLen := by
  rcases Go.Deep.open_slice Tryz.underlying35 h with ⟨h1, rfl⟩ | ⟨a, len, cap, m, n, D, Pl, h1, hb, hl, hm, hmm, rfl, hx⟩
  · obtain rfl : v = .slice none 0 0 := by simpa using h1
    exact ⟨[], ⟨none, 0, rfl, by simp, fun i hi => absurd hi (Nat.not_lt_zero _)⟩, by simp, fun f hf => by cases hf⟩
  · obtain rfl : v = .slice (some a) len cap := by simpa using h1
    have hlm : len ≤ m := by rw [hmm]; split <;> omega
    have hmx := maxLen_eq
    have cF : Tryz.prog.cellsOf 79 = 34 := by kernel_rfl
    have each0 : 0 < len → a = ⟨a.block, a.off, none⟩ ∧ a.block < w.heap.size := fun hi => by
      obtain ⟨cs', h2, h3⟩ := hx 0 (by omega)
      rw [cF] at h2
      obtain ⟨_, hlen, hcell⟩ := World.cells?_some h2
      have k0 := hcell 0 (by omega)
      rw [Nat.zero_mul, add_zero', add_zero', List.getElem?_eq_getElem (by omega)] at k0
      exact plain_a k0
    have each : ∀ i, i < len → ∃ q : List Value, isF q ∧ w.rangeAt a.block (a.off + i * 34) q ∧ ∃ s : Nm, q[0]? = some (Value.string s) ∧ s.size ≤ maxLen := fun i hi => by
      obtain ⟨cs', h2, h3⟩ := hx i (by omega)
      rw [cF] at h2
      obtain ⟨_, hlen, hcell⟩ := World.cells?_some h2
      obtain ⟨k1, _⟩ := keyLits_of_trod 6 79 (by kernel_rfl) _ _ _ h3
      obtain ⟨p1, p2⟩ := each0 (by omega)
      have hpath : ∃ s : Nm, cs'[0]? = some (Value.string s) ∧ s.size ≤ maxLen := by
        obtain ⟨xs, n2, _, hx2, hl2, hlen2, hfs⟩ := DataW.trod_struct Tryz.underlying79 h3
        have g0 := hfs 0 _ rfl
        change DataW.trod enc Tryz.prog w base spare held n2 9 ((cs'.drop 0).take (Tryz.prog.cellsOf 9)) = xs[0]? at g0
        rw [show Tryz.prog.cellsOf 9 = 1 by kernel_rfl, List.drop_eq_getElem_cons (show 0 < cs'.length by omega), List.getElem?_eq_getElem (show 0 < xs.length by rw [show xs.length = _ from hlen2]; decide)] at g0
        obtain ⟨s, e0, _, zs⟩ := DataW.trod_string Tryz.underlying9 g0
        refine ⟨s, ?_, zs⟩
        rw [List.getElem?_eq_getElem (show 0 < cs'.length by omega)]
        simpa using e0
      refine ⟨cs', ⟨hlen, ⟨_, k1⟩, fun u hu => ?_⟩, fun j u hj => ?_, hpath⟩
      rotate_left
      · have hj' : j < 34 := by have h := (List.getElem?_eq_some_iff.1 hj).1; rw [← hlen]; exact h
        have k0 := hcell j (by omega)
        rw [Go.Deep.add_add, hj] at k0
        have := plain_i p1 k0
        rw [show a.off + i * 34 + j = a.off + (i * 34 + j) by omega]
        exact this
      · have e := cells_of_lits 6 79 (by kernel_rfl) 6 _ _ k1
        have hu' : u ∈ (D i).flat.map Lit.toCell := by rw [← e]; exact hu
        obtain ⟨l, hl2, rfl⟩ := List.mem_map.1 hu'
        have hf := nb_flat 6 79 _ _ (by kernel_rfl) k1 l hl2
        cases l <;> first | rfl | cases hf
    obtain ⟨q, hq⟩ := Go.Deep.choose_lt each
    refine ⟨(List.range len).map q, ⟨some a, cap, by simp, by simp; omega, fun i hi => ?_⟩, ?_, fun f hf => ?_⟩
    · have hi' : i < len := by simpa using hi
      obtain ⟨p1, p2⟩ := each0 (by omega)
      obtain ⟨p3, p4, _⟩ := hq i hi'
      refine ⟨by simpa using p3, a.block, a.off, by rw [← p1], p2, ?_⟩
      simpa using p4
    · have := (bulk_slice (H := H) D len ((List.range (m - len)).map fun j => D (len + j))).1
      simpa using this
    · obtain ⟨i, hi, rfl⟩ := List.mem_map.1 hf
      exact (hq i (by simpa using hi)).2.2

/-- WHAT IS KNOWN OF A PACKAGE'S SIZES. -/
structure SmD (p : Pk) (B : Nat) : Prop where
  n4 : 4 ≤ B
  k : (akN p).length ≤ B
  t : p.pv.length ≤ B
  sd : p.dp.length ≤ B
  sr : p.pr.length ≤ B
  sc : p.cf.length ≤ B
  sf : p.fs.length ≤ B
  z : p.nm.size ≤ maxLen ∧ p.vr.size ≤ maxLen ∧ ∀ n ∈ p.pv, n.size ≤ maxLen
  d : ∀ al ∈ p.dp, al.length ≤ 1048576 ∧ ∀ a ∈ al, a.n.size ≤ maxLen ∧ a.v.size ≤ maxLen
  r : ∀ al ∈ p.pr, al.length ≤ 1048576 ∧ ∀ a ∈ al, a.n.size ≤ maxLen ∧ a.v.size ≤ maxLen
  c : ∀ a ∈ p.cf, a.n.size ≤ maxLen ∧ a.v.size ≤ maxLen
  f : ∀ x ∈ p.fs, ∃ s : Nm, x[0]? = some (Value.string s) ∧ s.size ≤ maxLen
theorem two_bulk {H : Type} : ∀ (L : List (DataW H)) (i j : Nat) (x y : DataW H), i < j → L[i]? = some x → L[j]? = some y → Rows.uptoBulk x + Rows.uptoBulk y ≤ Rows.uptoBulkAll L
  | [], i, j, x, y, _, h, _ => by simp at h
  | d :: r, 0, j + 1, x, y, _, h1, h2 => by
    simp at h1 h2
    subst h1
    have := mem_bulk r y (List.mem_of_getElem? h2)
    rw [Rows.uptoBulkAll]
    omega
  | d :: r, i + 1, j + 1, x, y, h, h1, h2 => by
    simp at h1 h2
    have := two_bulk r i j x y (by omega) h1 h2
    rw [Rows.uptoBulkAll]
    omega
theorem bulk_len {H : Type} : ∀ L : List (DataW H), L.length ≤ Rows.uptoBulkAll L
  | [] => Nat.zero_le _
  | d :: r => by
    have := bulk_len r
    have := bulk_pos d
    rw [Rows.uptoBulkAll, List.length_cons]
    omega
theorem sum4 (L : List Pk) : (L.map fun _ => 4).sum = L.length * 4 := by
  induction L with
  | nil => rfl
  | cons a L ih => rw [List.map_cons, List.sum_cons, ih, List.length_cons]; omega
theorem cellsPkg : Tryz.prog.cellsOf 38 = 43 := by kernel_rfl

set_option maxRecDepth 100000 in
theorem open_pkg {cs : List Value} {d : DataW H} {pl : List MemPlace} (hlen0 : cs.length = 43) (hf : DataW.trod enc Tryz.prog w base spare held fuel 38 cs = some (d, pl)) (hB : Rows.uptoBulk d ≤ 1048576) :
    ∃ (p : Pk) (v3 v4 v5 v6 v7 : Value), PkC cs p v3 v4 v5 v6 v7 ∧ PkL w p v3 v4 v5 v6 v7 ∧ SmD p (Rows.uptoBulk d) := by
  obtain ⟨xs, n, _, hx, hl, hlen, hfs⟩ := DataW.trod_struct Tryz.underlying38 hf
  have hxl : xs.length = 12 := hlen
  have hd : d = .agg (xs.map (·.1)) := (Prod.mk.inj hx).1
  have hbt : ∀ i (hi : i < xs.length), Rows.uptoBulk xs[i].1 ≤ Rows.uptoBulk d := fun i hi => by
    have := mem_bulk (xs.map (·.1)) xs[i].1 (List.mem_map.2 ⟨_, List.getElem_mem hi, rfl⟩)
    rw [hd, Rows.uptoBulk]
    omega
  have hn4 : 4 ≤ Rows.uptoBulk d := by
    have := bulk_len (xs.map (·.1))
    rw [List.length_map, hxl] at this
    rw [hd, Rows.uptoBulk]
    omega
  have hbk : ∀ i (hi : i < xs.length), Rows.uptoBulk xs[i].1 ≤ 1048576 := fun i hi => by
    have := mem_bulk (xs.map (·.1)) xs[i].1 (List.mem_map.2 ⟨_, List.getElem_mem hi, rfl⟩)
    rw [hd, Rows.uptoBulk] at hB
    omega
  have t0 : ∀ k, k < 43 → (cs.drop k).take 1 = [cs.getD k (.bool false)] := fun k hk => by
    rw [List.drop_eq_getElem_cons (show k < cs.length by omega), List.getD_eq_getElem?_getD, List.getElem?_eq_getElem (show k < cs.length by omega)]
    rfl
  have gk : ∀ k, k < 43 → cs[k]? = some (cs.getD k (.bool false)) := fun k hk => by
    simp only [List.getD, List.getElem?_eq_getElem (show k < cs.length by omega)]
    rfl
  have g0 := hfs 0 _ rfl
  have g1 := hfs 1 _ rfl
  have g2 := hfs 2 _ rfl
  have g3 := hfs 3 _ rfl
  have g4 := hfs 4 _ rfl
  have g5 := hfs 5 _ rfl
  have g6 := hfs 6 _ rfl
  have g7 := hfs 7 _ rfl
  have g8 := hfs 8 _ rfl
  have g9 := hfs 9 _ rfl
  have ga := hfs 10 _ rfl
  have gb := hfs 11 _ rfl
  change DataW.trod enc Tryz.prog w base spare held n 9 ((cs.drop 0).take (Tryz.prog.cellsOf 9)) = xs[0]? at g0
  change DataW.trod enc Tryz.prog w base spare held n 9 ((cs.drop 1).take (Tryz.prog.cellsOf 9)) = xs[1]? at g1
  change DataW.trod enc Tryz.prog w base spare held n 4 ((cs.drop 2).take (Tryz.prog.cellsOf 4)) = xs[2]? at g2
  change DataW.trod enc Tryz.prog w base spare held n 32 ((cs.drop 3).take (Tryz.prog.cellsOf 32)) = xs[3]? at g3
  change DataW.trod enc Tryz.prog w base spare held n 32 ((cs.drop 4).take (Tryz.prog.cellsOf 32)) = xs[4]? at g4
  change DataW.trod enc Tryz.prog w base spare held n 33 ((cs.drop 5).take (Tryz.prog.cellsOf 33)) = xs[5]? at g5
  change DataW.trod enc Tryz.prog w base spare held n 34 ((cs.drop 6).take (Tryz.prog.cellsOf 34)) = xs[6]? at g6
  change DataW.trod enc Tryz.prog w base spare held n 35 ((cs.drop 7).take (Tryz.prog.cellsOf 35)) = xs[7]? at g7
  change DataW.trod enc Tryz.prog w base spare held n 9 ((cs.drop 8).take (Tryz.prog.cellsOf 9)) = xs[8]? at g8
  change DataW.trod enc Tryz.prog w base spare held n 3 ((cs.drop 9).take (Tryz.prog.cellsOf 3)) = xs[9]? at g9
  change DataW.trod enc Tryz.prog w base spare held n 36 ((cs.drop 10).take (Tryz.prog.cellsOf 36)) = xs[10]? at ga
  change DataW.trod enc Tryz.prog w base spare held n 9 ((cs.drop 42).take (Tryz.prog.cellsOf 9)) = xs[11]? at gb
  rw [show Tryz.prog.cellsOf 9 = 1 by kernel_rfl] at g0 g1 g8 gb
  rw [show Tryz.prog.cellsOf 4 = 1 by kernel_rfl] at g2
  rw [show Tryz.prog.cellsOf 32 = 1 by kernel_rfl] at g3 g4
  rw [show Tryz.prog.cellsOf 33 = 1 by kernel_rfl] at g5
  rw [show Tryz.prog.cellsOf 34 = 1 by kernel_rfl] at g6
  rw [show Tryz.prog.cellsOf 35 = 1 by kernel_rfl] at g7
  rw [show Tryz.prog.cellsOf 3 = 1 by kernel_rfl] at g9
  rw [show Tryz.prog.cellsOf 36 = 32 by kernel_rfl] at ga
  rw [t0 0 (by omega), List.getElem?_eq_getElem (show 0 < xs.length by omega)] at g0
  rw [t0 1 (by omega), List.getElem?_eq_getElem (show 1 < xs.length by omega)] at g1
  rw [t0 2 (by omega), List.getElem?_eq_getElem (show 2 < xs.length by omega)] at g2
  rw [t0 3 (by omega), List.getElem?_eq_getElem (show 3 < xs.length by omega)] at g3
  rw [t0 4 (by omega), List.getElem?_eq_getElem (show 4 < xs.length by omega)] at g4
  rw [t0 5 (by omega), List.getElem?_eq_getElem (show 5 < xs.length by omega)] at g5
  rw [t0 6 (by omega), List.getElem?_eq_getElem (show 6 < xs.length by omega)] at g6
  rw [t0 7 (by omega), List.getElem?_eq_getElem (show 7 < xs.length by omega)] at g7
  rw [t0 8 (by omega), List.getElem?_eq_getElem (show 8 < xs.length by omega)] at g8
  rw [t0 9 (by omega), List.getElem?_eq_getElem (show 9 < xs.length by omega)] at g9
  rw [List.getElem?_eq_getElem (show 10 < xs.length by omega)] at ga
  rw [t0 42 (by omega), List.getElem?_eq_getElem (show 11 < xs.length by omega)] at gb
  obtain ⟨nm, e0, _, zn⟩ := DataW.trod_string Tryz.underlying9 g0
  obtain ⟨vr, e1, _, zv⟩ := DataW.trod_string Tryz.underlying9 g1
  obtain ⟨es, e2, _⟩ := DataW.trod_bool Tryz.underlying4 g2
  have b3 := hbk 3 (by omega)
  have b4 := hbk 4 (by omega)
  have b5 := hbk 5 (by omega)
  have b6 := hbk 6 (by omega)
  have b7 := hbk 7 (by omega)
  obtain ⟨dp, L3, z3, y3, k3⟩ := open_clauses g3 b3
  obtain ⟨pr, L4, z4, y4, k4⟩ := open_clauses g4 b4
  have hk34 : (clN dp).length + (clN pr).length ≤ Rows.uptoBulk d := by
    have := two_bulk (xs.map (·.1)) 3 4 xs[3].1 xs[4].1 (by omega) (by rw [List.getElem?_map, List.getElem?_eq_getElem (show 3 < xs.length by omega)]; rfl) (by rw [List.getElem?_map, List.getElem?_eq_getElem (show 4 < xs.length by omega)]; rfl)
    rw [hd, Rows.uptoBulk]
    (try simp only at k3 k4)
    omega
  obtain ⟨cf, L5, z5, s5⟩ := open_atoms Tryz.underlying33 g5 b5
  obtain ⟨pv, L6, z6, s6⟩ := open_texts g6
  obtain ⟨fs, L7, z7, s7⟩ := open_files g7
  obtain ⟨ar, e8, _, _⟩ := DataW.trod_string Tryz.underlying9 g8
  obtain ⟨sz, e9, _, _⟩ := DataW.trod_int Tryz.underlying3 g9
  obtain ⟨ka, _⟩ := keyLits_of_trod 6 36 (by kernel_rfl) _ _ _ ga
  obtain ⟨sy, eb, _, _⟩ := DataW.trod_string Tryz.underlying9 gb
  have hl32 : ((cs.drop 10).take 32).length = 32 := by simp only [List.length_take, List.length_drop]; omega
  have ho : ∀ u ∈ (cs.drop 10).take 32, u.oneCell' = true := fun u hu => by
    have e := cells_of_lits 6 36 (by kernel_rfl) 6 _ _ ka
    have hu' : u ∈ xs[10].1.flat.map Lit.toCell := by rw [← e]; exact hu
    obtain ⟨l, hl2, rfl⟩ := List.mem_map.1 hu'
    have hf := nb_flat 6 36 _ _ (by kernel_rfl) ka l hl2
    cases l <;> first | rfl | cases hf
  have c0 : cs[0]? = some (.string nm) := by rw [gk 0 (by omega)]; simpa using e0
  have c1 : cs[1]? = some (.string vr) := by rw [gk 1 (by omega)]; simpa using e1
  have c2 : cs[2]? = some (.bool es) := by rw [gk 2 (by omega)]; simpa using e2
  have c8 : cs[8]? = some (.string ar) := by rw [gk 8 (by omega)]; simpa using e8
  have c9 : cs[9]? = some (.int .i64 sz) := by rw [gk 9 (by omega)]; simpa using e9
  have c42 : cs[42]? = some (.string sy) := by rw [gk 42 (by omega)]; simpa using eb
  have cm : ∀ j x, ((cs.drop 10).take 32)[j]? = some x → cs[10 + j]? = some x := fun j x hj => by
    have hj' : j < 32 := by have h := (List.getElem?_eq_some_iff.1 hj).1; rw [← hl32]; exact h
    rw [List.getElem?_take_of_lt hj', List.getElem?_drop] at hj
    exact hj
  have o3 : (cs.getD 3 (.bool false)).oneCell' = true := by obtain ⟨_, _, e, _⟩ := L3; rw [e]; rfl
  have o4 : (cs.getD 4 (.bool false)).oneCell' = true := by obtain ⟨_, _, e, _⟩ := L4; rw [e]; rfl
  have o5 : (cs.getD 5 (.bool false)).oneCell' = true := by obtain ⟨_, _, e, _⟩ := L5; rw [e]; rfl
  have o6 : (cs.getD 6 (.bool false)).oneCell' = true := by obtain ⟨_, _, e, _⟩ := L6; rw [e]; rfl
  have o7 : (cs.getD 7 (.bool false)).oneCell' = true := by obtain ⟨_, _, e, _⟩ := L7; rw [e]; rfl
  have one : ∀ x ∈ cs, x.oneCell' = true := fun x hx => by
    obtain ⟨j, hj, rfl⟩ := List.mem_iff_getElem.1 hx
    have hg := List.getElem?_eq_getElem hj
    by_cases h10 : 10 ≤ j ∧ j < 42
    · refine ho _ ?_
      refine List.mem_of_getElem? (i := j - 10) ?_
      rw [List.getElem?_take_of_lt (by omega), List.getElem?_drop, show 10 + (j - 10) = j by omega]
      exact hg
    · have hjs : j = 0 ∨ j = 1 ∨ j = 2 ∨ j = 3 ∨ j = 4 ∨ j = 5 ∨ j = 6 ∨ j = 7 ∨ j = 8 ∨ j = 9 ∨ j = 42 := by omega
      rcases hjs with rfl | rfl | rfl | rfl | rfl | rfl | rfl | rfl | rfl | rfl | rfl
      · rw [c0] at hg; rw [← Option.some.inj hg]; rfl
      · rw [c1] at hg; rw [← Option.some.inj hg]; rfl
      · rw [c2] at hg; rw [← Option.some.inj hg]; rfl
      · rw [gk 3 (by omega)] at hg; rw [← Option.some.inj hg]; exact o3
      · rw [gk 4 (by omega)] at hg; rw [← Option.some.inj hg]; exact o4
      · rw [gk 5 (by omega)] at hg; rw [← Option.some.inj hg]; exact o5
      · rw [gk 6 (by omega)] at hg; rw [← Option.some.inj hg]; exact o6
      · rw [gk 7 (by omega)] at hg; rw [← Option.some.inj hg]; exact o7
      · rw [c8] at hg; rw [← Option.some.inj hg]; rfl
      · rw [c9] at hg; rw [← Option.some.inj hg]; rfl
      · rw [c42] at hg; rw [← Option.some.inj hg]; rfl
  refine ⟨⟨nm, vr, es, dp, pr, cf, pv, fs, ar, sz, (cs.drop 10).take 32, sy⟩, _, _, _, _, _, ⟨hlen0, one, c0, c1, c2, gk 3 (by omega), gk 4 (by omega), gk 5 (by omega), gk 6 (by omega), gk 7 (by omega), c8, c9, cm, c42⟩, ⟨L3, L4, L5, L6, L7⟩, ⟨hn4, by unfold akN; rw [List.length_append]; exact hk34, Nat.le_trans z6 (hbt 6 (by omega)), Nat.le_trans z3 (hbt 3 (by omega)), Nat.le_trans z4 (hbt 4 (by omega)), Nat.le_trans z5 (hbt 5 (by omega)), Nat.le_trans z7 (hbt 7 (by omega)), ⟨zn, zv, s6⟩, y3, y4, fun a haa => ?_, s7⟩⟩
  obtain ⟨k, hk, rfl⟩ := List.getElem_of_mem haa
  exact s5 k hk

set_option maxRecDepth 100000 in
theorem open_pkgs (h : DataW.trod enc Tryz.prog w base spare held fuel 22 [v] = some x) (hB : Rows.uptoBulk x.1 ≤ 1048576) : ∃ ps : List Pk, Pkl w v ps ∧ SmP ps ∧ akK ps ps.length ≤ 1048576 := by
  rcases Go.Deep.open_slice Tryz.underlying22 h with ⟨h1, rfl⟩ | ⟨a, len, cap, m, n, D, Pl, h1, hb, hl, hm, hmm, rfl, hx⟩
  · obtain rfl : v = .slice none 0 0 := by simpa using h1
    exact ⟨[], ⟨none, 0, rfl, fun h => absurd h (Nat.not_lt_zero _)⟩, ⟨by simp, by simp, by simp, by simp, by simp, by simp, fun p hp => (by cases hp), fun p hp => (by cases hp), fun p hp => (by cases hp), fun p hp => (by cases hp), fun p hp => (by cases hp)⟩, Nat.zero_le _⟩
  · obtain rfl : v = .slice (some a) len cap := by simpa using h1
    have hlm : len ≤ m := by rw [hmm]; split <;> omega
    have hS := bulk_slice (H := H) D len ((List.range (m - len)).map fun j => D (len + j))
    have hB' : Rows.uptoBulk (DataW.slice ((List.range len).map D) ((List.range (m - len)).map fun j => D (len + j))) ≤ 1048576 := hB
    have each0 : 0 < len → a = ⟨a.block, a.off, none⟩ ∧ a.block < w.heap.size := fun hi => by
      obtain ⟨cs', h2, h3⟩ := hx 0 (by omega)
      rw [cellsPkg] at h2
      obtain ⟨_, hlen, hcell⟩ := World.cells?_some h2
      have k0 := hcell 0 (by omega)
      rw [Nat.zero_mul, add_zero', add_zero', List.getElem?_eq_getElem (by omega)] at k0
      exact plain_a k0
    have each : ∀ i, i < len → ∃ p : Pk, (∃ cs d r c v f, w.rangeAt a.block (a.off + i * 43) cs ∧ PkC cs p d r c v f ∧ PkL w p d r c v f) ∧ SmD p (Rows.uptoBulk (D i)) := fun i hi => by
      obtain ⟨cs', h2, h3⟩ := hx i (by omega)
      rw [cellsPkg] at h2
      obtain ⟨_, hlen, hcell⟩ := World.cells?_some h2
      obtain ⟨p1, p2⟩ := each0 (by omega)
      obtain ⟨p, v3, v4, v5, v6, v7, q1, q2, q3⟩ := open_pkg hlen h3 (Nat.le_trans (hS.2 i hi) hB')
      refine ⟨p, ⟨cs', _, _, _, _, _, fun j u hj => ?_, q1, q2⟩, q3⟩
      have hj' : j < 43 := by have h := (List.getElem?_eq_some_iff.1 hj).1; rw [← hlen]; exact h
      have k0 := hcell j (by omega)
      rw [Go.Deep.add_add, hj] at k0
      have := plain_i p1 k0
      rw [show a.off + i * 43 + j = a.off + (i * 43 + j) by omega]
      exact this
    have : Inhabited Pk := ⟨⟨.empty, .empty, false, [], [], [], [], [], .empty, 0, [], .empty⟩⟩
    obtain ⟨q, hq⟩ := Go.Deep.choose_lt each
    have hsum : ∀ g : Pk → Nat, (∀ i, i < len → g (q i) ≤ Rows.uptoBulk (D i)) → (((List.range len).map q).map g).sum ≤ 1048576 := fun g hg => by
      have step : ∀ k, k ≤ len → (((List.range k).map q).map g).sum ≤ ((List.range k).map fun i => Rows.uptoBulk (D i)).sum := fun k => by
        induction k with
        | zero => intro _; simp
        | succ k ih =>
          intro hk
          have h1 := ih (by omega)
          have h2 := hg k (by omega)
          rw [List.range_succ, List.map_append, List.map_append, List.sum_append, List.map_append, List.sum_append]
          simp only [List.map_cons, List.map_nil, List.sum_cons, List.sum_nil]
          omega
      have h1 := step len (Nat.le_refl _)
      have h2 : ((List.range len).map fun i => Rows.uptoBulk (D i)).sum ≤ Rows.uptoBulk (DataW.slice ((List.range len).map D) ((List.range (m - len)).map fun j => D (len + j))) := by
        rw [Rows.uptoBulk, bulkAll, List.map_map]
        exact Nat.le_trans (Nat.le_add_right _ _) (Nat.le_add_right _ _)
      omega
    have hlen4 : len * 4 ≤ 1048576 := by
      have h1 := hsum (fun _ => 4) fun i hi => (hq i hi).2.n4
      rw [sum4] at h1
      simpa using h1
    have mem : ∀ p ∈ (List.range len).map q, ∃ B, SmD p B := fun p hp => by
      obtain ⟨i, hi, rfl⟩ := List.mem_map.1 hp
      exact ⟨_, (hq i (by simpa using hi)).2⟩
    refine ⟨(List.range len).map q, ⟨some a, cap, by simp, fun h0 => ?_⟩, ⟨by simp; omega, hsum _ fun i hi => (hq i hi).2.t, hsum _ fun i hi => (hq i hi).2.sd, hsum _ fun i hi => (hq i hi).2.sr, hsum _ fun i hi => (hq i hi).2.sc, hsum _ fun i hi => (hq i hi).2.sf, fun p hp => let ⟨_, h⟩ := mem p hp; h.z, fun p hp => let ⟨_, h⟩ := mem p hp; h.d, fun p hp => let ⟨_, h⟩ := mem p hp; h.r, fun p hp => let ⟨_, h⟩ := mem p hp; h.c, fun p hp => let ⟨_, h⟩ := mem p hp; h.f⟩, by unfold akK; rw [List.take_length]; exact hsum _ fun i hi => (hq i hi).2.k⟩
    · have h0' : 0 < len := by simpa using h0
      obtain ⟨p1, p2⟩ := each0 h0'
      refine ⟨a.block, a.off, by rw [← p1], p2, fun i p hi => ?_⟩
      rw [List.getElem?_map] at hi
      obtain ⟨k, hk, rfl⟩ := Option.map_eq_some_iff.1 hi
      obtain ⟨hk', hk2⟩ := List.getElem?_eq_some_iff.1 hk
      have hi' : i < len := by simpa using hk'
      obtain rfl : i = k := by simpa using hk2
      exact (hq i hi').1

/-- FLAGS. -/
theorem open_flags (h : DataW.trod enc Tryz.prog w base spare held fuel 23 [v] = some x) : ∃ fl : List Bool, Bfl w v fl ∧ fl.length ≤ Rows.uptoBulk x.1 := by
  rcases Go.Deep.open_slice1 Tryz.underlying23 (by kernel_rfl) h with ⟨h1, rfl⟩ | ⟨a, len, cap, m, n, V, D, Pl, h1, hb, hl, hm, hmm, rfl, hx⟩
  · obtain rfl : v = .slice none 0 0 := by simpa using h1
    exact ⟨[], ⟨none, 0, rfl, fun h => absurd h (Nat.not_lt_zero _)⟩, by simp⟩
  · obtain rfl : v = .slice (some a) len cap := by simpa using h1
    have hlm : len ≤ m := by rw [hmm]; split <;> omega
    have hS := bulk_slice (H := H) D len ((List.range (m - len)).map fun j => D (len + j))
    have each : ∀ i, i < len → ∃ b : Bool, V i = .bool b := fun i hi => by
      obtain ⟨b, e, _⟩ := DataW.trod_bool Tryz.underlying4 (hx i (by omega)).2
      exact ⟨b, by simpa using e⟩
    obtain ⟨q, hq⟩ := Go.Deep.choose_lt each
    refine ⟨(List.range len).map q, ⟨some a, cap, by simp, fun h0 => ?_⟩, by simpa using hS.1⟩
    have h0' : 0 < len := by simpa using h0
    have h4 := (hx 0 (by omega)).1
    rw [add_zero'] at h4
    obtain ⟨e1, e2⟩ := plain_a h4
    refine ⟨a.block, a.off, by rw [← e1], e2, fun i b hi => ?_⟩
    rw [List.getElem?_map] at hi
    obtain ⟨k, hk, rfl⟩ := Option.map_eq_some_iff.1 hi
    obtain ⟨hk', hk2⟩ := List.getElem?_eq_some_iff.1 hk
    have hi' : i < len := by simpa using hk'
    obtain rfl : i = k := by simpa using hk2
    rw [← hq i hi']
    exact plain_i e1 (hx i (by omega)).1
end
end Go.Proofs.YtjnbnndocinicaaGreatDoor
namespace Go.Proofs.YtjnbnndocinicaaGreatDoor
theorem own : ownKnob Tryz.prog.godebug = none := by kernel_rfl
theorem laidOut : laidOutB Tryz.prog = true := by kernel_rfl
end Go.Proofs.YtjnbnndocinicaaGreatDoor
namespace Go.Proofs.YtjnbnndocinicaaGreatDoor.validBreaks
open Go.ChangeShapes Go.WideShapes Go.ChangeAt Go.RowKit
open Go.ChangeMaps (open_string shut_string)

set_option maxRecDepth 100000 in
set_option maxHeartbeats 2000000 in
theorem lifted (os : Os) (started : os.Started) (H : Type) (enc : TypeId × Value → H) (F : Stop.Interp) :
    ReturnsInHanded {} Tryz.checked os 4 .any ((Rows.OpenSpec.upto Rows.validBreaksSpec).preRow enc Tryz.prog Tryz.f4 Rows.validBreaksUptoRow.domain false Rows.validBreaksUptoRow.laid) (((Rows.OpenSpec.upto Rows.validBreaksSpec).at F).post enc Tryz.prog Tryz.f4 false true false false) := by
  refine returnsInHanded_of_row (C := Tryz.checked) (s := Rows.OpenSpec.upto Rows.validBreaksSpec) own started (by kernel_rfl) Tryz.func4
    (witness_row_at (enc := enc) (C := Tryz.checked) false
      { World.holding Tryz.prog os ⟨#[], #[], []⟩ with heap := Array.modify (Array.modify (World.holding Tryz.prog os ⟨#[], #[], []⟩).heap 1 (fun o => match o with | .cells _ t frozen => .cells (Go.Pinned.utf8FirstZ.map (fun (n : Nat) => Value.int .u8 (n : Int))).toArray t frozen | o => o)) 2 (fun o => match o with | .cells _ t frozen => .cells (([128, 191, 160, 191, 128, 159, 144, 191, 128, 143] ++ List.replicate 22 0).map (fun (n : Nat) => Value.int .u8 (n : Int))).toArray t frozen | o => o) }
      #[.slice none 0 0, .slice none 0 0] rfl (by kernel_rfl) (by kernel_rfl) (by kernel_rfl)
      (OpenSpec.preRow_of_cond (x := ([.nil, .nil], [], [])) 8 (by kernel_rfl) (by kernel_rfl) (fun k hk => by cases hk; kernel_rfl) (by kernel_rfl) (laidMet_of_run' 8 (by kernel_rfl) (by kernel_rfl)))) ?_
  intro W base args ds gs before hval0 hW _ hcond _ _ _ _
  have hval : ∀ (j : Nat) t v, Tryz.f4.params[j]? = some t → args[j]? = some v → Value.okWide Tryz.prog W .any base t v := hval0
  have hW' := hW
  obtain ⟨p, q, hA0, hV, rfl, hfz, hnd⟩ := hW
  have hA : DataW.TrodAll enc Tryz.prog W 0 (fun _ => true) true Tryz.f4.params.toList args.toList ds p := hA0
  rw [Tryz.params4] at hA hval
  obtain ⟨v0, vs0, d0, ds0, p0, q0, hargs, rfl, rfl, h0, r0⟩ := trodAll_cons hA
  obtain ⟨v1, vs1, d1, ds1, p1, q1, rfl, rfl, rfl, h1, r1⟩ := trodAll_cons r0
  obtain ⟨rfl, rfl, rfl⟩ := trodAll_nil r1
  obtain rfl : args = #[v0, v1] := by cases args; simp_all
  obtain ⟨rfl, rfl⟩ := trodVars_none hV
  have k0 := h0
  have k1 := h1
  have lt1 : ∀ x ∈ p1, x.block < W.heap.size := by obtain ⟨m, hm⟩ := k1; exact DataW.trod_lt m _ _ _ hm
  have lt0 : ∀ x ∈ p0, x.block < W.heap.size := by obtain ⟨m, hm⟩ := k0; exact DataW.trod_lt m _ _ _ hm
  have hk := of_decide_eq_true (hcond _ rfl)
  simp only [List.append_nil, Rows.uptoBulkAll] at hk
  obtain ⟨sa, sl, sc, rfl⟩ := okWide_slice Tryz.underlying22 (hval 0 22 v0 rfl rfl)
  obtain ⟨sa1, sl1, sc1, rfl⟩ := okWide_slice Tryz.underlying23 (hval 1 23 v1 rfl rfl)
  obtain ⟨m0, hm0⟩ := h0
  obtain ⟨m1, hm1⟩ := h1
  obtain ⟨ps, hL, sm, _⟩ := open_pkgs hm0 (show Rows.uptoBulk d0 ≤ 1048576 by omega)
  obtain ⟨fl, hF, hfl⟩ := open_flags hm1
  have hfb : fl.length ≤ 1048576 := by simp only at hfl; omega
  clear hA0 hval0
  refine (breaks_walk sm hfb hL hF).mono fun x W' ⟨he, bel⟩ => ?_
  subst he
  exact ⟨_, rfl, _, _, _, [], _, [], hW', trodAll_mk1 (shut_bool Tryz.underlying4 _), (trodAll_cons_mk (Below.trod laidOut (by kernel_rfl) (of_decide_eq_true (by kernel_rfl)) k0 bel lt0) (trodAll_cons_mk (Below.trod laidOut (by kernel_rfl) (of_decide_eq_true (by kernel_rfl)) k1 bel lt1) trodAll_mk0)), rfl, bel.frame _, fun h => by cases h⟩

theorem said : Rows.ValidBreaksUptoSaid :=
  OpenClaim.holds_of_cond 4 Tryz.f4 rfl rfl rfl rfl rfl rfl rfl ⟨rfl, rfl, rfl, rfl, rfl⟩ rfl rfl rfl rfl rfl (by kernel_rfl) Tryz.func4 (by kernel_rfl)
    (of_decide_eq_true (by kernel_rfl)) (by unfold Func.isWrapper; first | (rw [if_pos (by decide +kernel)]; kernel_rfl) | (rw [if_neg (by decide +kernel)]; exact ⟨rfl, rfl⟩))
    (fun os started H enc _ F => by rw [OpenClaim.pre_eq_preRow]; exact lifted os started H enc F)

theorem plain (f : FuncId) (fn : Func) (hf : Tryz.pinned.checked.prog.funcNamed "larder/larderlaw11.ValidBreaks" = some f) (hfn : Tryz.pinned.checked.prog.funcs[f]? = some fn) :
    false = Tryz.pinned.checked.prog.looks [] ∧ ∀ (j : Nat) t, fn.params[j]? = some t → Tryz.pinned.checked.prog.wantsStandIn t = false := by
  obtain rfl : f = 4 := Option.some.inj ((show Tryz.prog.funcNamed "larder/larderlaw11.ValidBreaks" = some 4 by kernel_rfl).symm.trans hf) |>.symm
  obtain rfl : fn = Tryz.f4 := (Option.some.inj (Tryz.func4.symm.trans hfn)).symm
  refine ⟨by kernel_rfl, fun j t ht => ?_⟩
  rw [Tryz.params4] at ht
  have hm := Array.mem_of_getElem? ht
  have hall : (([22, 23] : List TypeId).all fun t => !Tryz.prog.wantsStandIn t) = true := by kernel_rfl
  have hm2 : t ∈ ([22, 23] : List TypeId) := by simpa using hm
  have h3 := List.all_eq_true.1 hall t hm2
  exact (Bool.not_eq_true' _).mp h3

end Go.Proofs.YtjnbnndocinicaaGreatDoor.validBreaks

namespace Go.Proofs.YtjnbnndocinicaaGreatDoor
theorem validBreaksUpto_card : Rows.ValidBreaksUptoCardSaid :=
  Claim7.holds_tied_plain_at .later [] _ _ _ _ validBreaks.said (fun _ h => by cases h) (by kernel_rfl) (fun _ h => by cases h) validBreaksUpto_row_tie rfl ⟨rfl, rfl⟩ (by kernel_rfl) rfl validBreaks.plain (by kernel_rfl)
end Go.Proofs.YtjnbnndocinicaaGreatDoor
