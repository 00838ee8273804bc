import Derived.Test.YtjnbnndocinicaaGreatDoorWvR5
import Derived.Deep.RegionHeld3
import Derived.Deep.RegionLaw
import Derived.Deep.QuietTactic
import Derived.BigQuiet
import Derived.BigRegion
namespace Go.Proofs.YtjnbnndocinicaaGreatDoor
open Go.RowKit Go.Maps

theorem kw_cells {W X : World} {s : Value} {l : List (Nm × Nm)} (h : Kw W X s l) : ∃ f : Hd, s = .slice f.a f.n f.c := by
  obtain ⟨f, e, _⟩ := slice_hd h.row
  exact ⟨f, e⟩
/-- WHAT WAS FOUND AHEAD OF A PLACE. -/
def Fd (rs : List Pk) (k : Nat) (x : Nm × Nm) (fb : Bool) : Prop := (∃ k2, k2 < k ∧ ∃ q, rs[k2]? = some q ∧ kyP q = x) → fb = true
/-- WHAT THE LAW HAS TO FIND. -/
structure Bq (ps : List Pk) (fl : List Bool) (L : List (Nm × Nm)) (b : Bool) : Prop where
  len : L.length ≤ 1048576
  nil : L.length = 0 ↔ b = true
  pw : L.Pairwise lx
  of : ∀ x ∈ L, ∃ k, k < ((flP ps.length (kpF ps.length fl)).map (pAt ps)).length ∧ ∃ q, ((flP ps.length (kpF ps.length fl)).map (pAt ps))[k]? = some q ∧ kyP q = x
theorem bq_of {ps : List Pk} {fl : List Bool} {L : List (Nm × Nm)} {b : Bool} {sel : Nat → Bool} (hc : Cld ps) (hn : Nm1 ps) (hsel : ∀ (p : Nat) (q : Pk), ps[p]? = some q → (sel p = true ↔ Lo ps (fun i => decide (i < ps.length)) (fun i => decide (i < ps.length) && lef ps (ouK ps fl) i) p q)) (hl : L.length ≤ 1048576) (hp : L.Perm (((plL (fun i => decide (i < ps.length) && lef ps (ouK ps fl) i) ps.length).filter sel).map fun p => kyP (pAt ps p))) (hw : L.Pairwise lx) (hb : b = true ↔ Clo ps (fun i => (kpF ps.length fl).getD i false)) : Bq ps fl L b := by
  rw [lef_eq hn] at hp hsel
  refine ⟨hl, ?_, hw, fun x hx => ?_⟩
  · rw [hp.length_eq, List.length_map, List.length_eq_zero_iff, sel_nil hc _ sel hsel]
    exact hb.symm
  · obtain ⟨p, hpm, rfl⟩ := List.mem_map.1 (hp.mem_iff.1 hx)
    have hm : p ∈ flP ps.length (kpF ps.length fl) := (List.mem_filter.1 hpm).1
    obtain ⟨k, hk⟩ := List.getElem?_of_mem hm
    have hk2 : ((flP ps.length (kpF ps.length fl)).map (pAt ps))[k]? = some (pAt ps p) := by rw [List.getElem?_map, hk]; rfl
    exact ⟨k, (List.getElem?_eq_some_iff.1 hk2).1, _, hk2, rfl⟩
set_option maxRecDepth 100000 in
set_option maxHeartbeats 16000000 in
theorem breaks_walk {w : World} {v u : Value} {ps : List Pk} {fl : List Bool} (sm : SmP ps) (hfl : fl.length ≤ 1048576) (pk : Pkl w v ps) (hb : Bfl w u fl) :
    Calls Tryz.prog 4 #[v, u] w fun e w' => e = .returned (.bool true) ∧ RowKit.Below w.heap.size w w' := by
  obtain ⟨va, vc, rfl⟩ : ∃ a c, v = .slice a ps.length c := let ⟨a, c, e, _⟩ := pk; ⟨a, c, e⟩
  obtain ⟨ua, uc, rfl⟩ : ∃ a c, u = .slice a fl.length c := let ⟨a, c, e, _⟩ := hb; ⟨a, c, e⟩
  have hl := sm.l
  obtain ⟨BV, hBV⟩ : ∃ b : Bool, b = true ↔ (Cld ps ∧ Apt ps) := by
    by_cases h : Cld ps ∧ Apt ps
    · exact ⟨true, fun _ => h, fun _ => rfl⟩
    · exact ⟨false, fun e => (by cases e), fun e => absurd e h⟩
  have C1 := hide (show Calls Tryz.prog 10 #[.slice va ps.length vc] w fun e w' => e = .returned (.bool BV) ∧ RowKit.Below w.heap.size w w' from (Valid_any sm pk).mono fun e w' ⟨b, he, hb, hB⟩ => ⟨by rw [he, show b = BV from by rw [Bool.eq_iff_iff]; exact (hb.trans (words ps)).trans hBV.symm], hB⟩)
  have HS1 := hide (show ∀ X (r : Value) (gl : List Bool), gl.length ≤ 1048576 → RowKit.Below w.heap.size w X → Bfl X r gl → Calls Tryz.prog 6 #[.slice va ps.length vc, r] X fun e w' => ∃ r, e = .returned r ∧ Pkl w' r ((flP ps.length gl).map (pAt ps)) ∧ RowKit.Below X.heap.size X w' from fun X r gl hg hX hB => some_any sm hg (pk.later hX) hB)
  have HCL := hide (show ∀ X r gl, Pkl X r ((flP ps.length gl).map (pAt ps)) → Calls Tryz.prog 7 #[r] X fun e w' => ∃ b : Bool, e = .returned (.bool b) ∧ (b = true ↔ Clo ps (fun i => gl.getD i false)) ∧ RowKit.Below X.heap.size X w' from fun X r gl hp => (closed_any (sm.part gl) hp).mono fun e w' ⟨b, he, hb, hB⟩ => ⟨b, he, hb.trans (cld_part ps gl), hB⟩)
  have HBR := hide (show BV = true → ∀ X r, RowKit.Below w.heap.size w X → Kyl X r (ouK ps fl) → Calls Tryz.prog 11 #[.slice va ps.length vc, r] X fun e w' => ∃ r L, e = .returned r ∧ Kyl w' r L ∧ (∀ b : Bool, (b = true ↔ Clo ps (fun i => (kpF ps.length fl).getD i false)) → Bq ps fl L b) ∧ RowKit.Below X.heap.size X w' from fun hv X r hX hK => by
    obtain ⟨hc, ha⟩ := hBV.1 hv
    have hn := Nm1.of ha
    obtain ⟨sel, hsel⟩ : ∃ sel : Nat → Bool, ∀ (p : Nat) (q : Pk), ps[p]? = some q → (sel p = true ↔ Lo ps (fun i => decide (i < ps.length)) (fun i => decide (i < ps.length) && lef ps (ouK ps fl) i) p q) := by
      have h : ∀ p : Nat, ∃ b : Bool, ∀ q, ps[p]? = some q → (b = true ↔ Lo ps (fun i => decide (i < ps.length)) (fun i => decide (i < ps.length) && lef ps (ouK ps fl) i) p q) := fun p => by
        cases e : ps[p]? with
        | none => exact ⟨true, fun q hq => by cases hq⟩
        | some q =>
          by_cases hL : Lo ps (fun i => decide (i < ps.length)) (fun i => decide (i < ps.length) && lef ps (ouK ps fl) i) p q
          · exact ⟨true, fun q2 hq => by cases hq; exact ⟨fun _ => hL, fun _ => rfl⟩⟩
          · exact ⟨false, fun q2 hq => by cases hq; exact ⟨fun e => (by cases e), fun e => absurd e hL⟩⟩
      obtain ⟨f, hf⟩ := Classical.axiomOfChoice h
      exact ⟨f, hf⟩
    have hkl : (ouK ps fl).length ≤ 1048576 := by
      unfold ouK flP
      rw [List.length_map]
      refine Nat.le_trans (List.length_filter_le _ _) ?_
      rw [List.length_range]; omega
    refine (Breaks_any sm (pk.later hX) hK hkl (fun x hx => ?_) (fun i j q r hq hr hne e => hn i j q r hq hr hne (congrArg Prod.fst e)) sel hsel).mono ?_
    · obtain ⟨p, hp, rfl⟩ := List.mem_map.1 hx
      have hz := sm.z _ (List.mem_of_getElem? (pAt_at (flP_lt hp)))
      exact ⟨hz.1, hz.2.1⟩
    · rintro e w' ⟨r, L, rfl, h1, h2, h3, h4, h5⟩
      exact ⟨r, L, rfl, h1, fun b hb => bq_of hc hn hsel h2 h3 h4 hb, h5⟩)
  have HGL := hide (show ((flP ps.length fl).map (pAt ps)).length ≤ 262144 ∧ ((flP ps.length (kpF ps.length fl)).map (pAt ps)).length ≤ 262144 from ⟨(sm.part fl).l, (sm.part (kpF ps.length fl)).l⟩)
  have HOU := hide (show ouK ps fl = ((flP ps.length fl).map (pAt ps)).map kyP from by unfold ouK; rw [List.map_map]; rfl)
  have HFB := hide hb
  have HFL := hide (show ∀ X, RowKit.Below w.heap.size w X → ∀ i (hi : i < fl.length), ∃ b o, ua = some ⟨b, o, none⟩ ∧ X.cell? ⟨b, o + i, none⟩ = some (.bool fl[i]) from fun X hX i hi => by
    obtain ⟨a, c, e, h2⟩ := hb.lat hX
    injection e with e
    obtain ⟨b, o, h3, _, h5⟩ := h2 (by omega)
    exact ⟨b, o, e.trans h3, h5 i _ (List.getElem?_eq_getElem hi)⟩)
  clear sm pk hb hBV
  cases BV with
  | false =>
    clear HBR HS1 HCL
    go_enter Tryz.func4, Tryz.ntmps4
    go_wp2_with (first
      | (go_at_call 10; refine (unhide C1).mono ?_; rintro e w1 ⟨rfl, hb1⟩; have X1 := hide hb1; clear hb1 C1)
      | (go_at_call 9; refine little_any.mono ?_; rintro e w9 ⟨rfl, hb9⟩; have X9 := hide (bl_t (unhide X1) hb9); clear hb9))
    go_ret
    exact ⟨rfl, unhide X9⟩
  | true =>
    have HB2 := hide (unhide HBR rfl)
    clear HBR
    go_enter Tryz.func4, Tryz.ntmps4
    go_wp2_with (first
      | (go_at_call 10; refine (unhide C1).mono ?_; rintro e w1 ⟨rfl, hb1⟩; have X1 := hide hb1; have CS1 := hide (unhide HS1 w1 _ fl hfl hb1 ((unhide HFB).lat hb1)); clear hb1 C1)
      | (go_at_call 6; refine (unhide CS1).mono ?_; rintro e w2 ⟨r2, rfl, hp2, hb2⟩; obtain ⟨ga, M, gc, hM, rfl⟩ : ∃ a n c, n = ((flP ps.length fl).map (pAt ps)).length ∧ r2 = .slice a n c := (let ⟨a, c, e, _⟩ := hp2; ⟨a, _, c, rfl, e⟩); have HM0 := hide hM; clear hM; have P2 := hide hp2; have X2 := hide (bl_t (unhide X1) hb2); clear hp2 hb2 CS1))
    have hgl := (unhide HGL).1
    have HK0 := hide (Kw.start w2)
    generalize hGe : (flP ps.length fl).map (pAt ps) = gs at *
    have HGE := hide hGe
    clear hGe
    have HM := hide (show M = gs.length from unhide HM0)
    clear HM0
    rw [← unhide HM] at hgl
    go_loopg [7, 8] M (fun gq sv iv wr => ∃ i : Nat, iv = .int .i64 i ∧ i ≤ M ∧ M - i ≤ gq ∧ Hid (Kw w2 wr sv ((gs.take i).map kyP)))
    case atStart => exact ⟨0, by go_num, by omega, by omega, HK0⟩
    case round =>
      clear HK0
      obtain ⟨i, rfl, hi, hgi, HW⟩ := hrel
      by_cases hlt : i < M
      · have hin : (i : Int) < (M : Int) := by omega
        have hil : i < gs.length := by have := unhide HM; omega
        obtain ⟨q, hq⟩ : ∃ q, gs[i]? = some q := ⟨_, List.getElem?_eq_getElem hil⟩
        have pk2 := unhide P2
        obtain ⟨vb, vo, vc2, cs, dd, rr, cc, pv, ff, e, hvb, hr, hpc, _⟩ := pk2.at2 hq
        injection e with e1 e2 e3
        subst e1 e3
        clear e2
        have HTK := hide (show (gs.take (i + 1)).map kyP = (gs.take i).map kyP ++ [(q.nm, q.vr)] from by rw [List.take_add_one, hq, List.map_append]; rfl)
        have hkw := (unhide HW).later (Below.refl wr.heap.size wr).drew
        have hln : ((gs.take i).map kyP).length ≤ 1048576 := by rw [List.length_map, List.length_take]; omega
        obtain ⟨f', W2, r1, hkw2⟩ := hkw.add hln (q.nm, q.vr) 31
        have cb : ∀ Z : World, RowKit.Below w2.heap.size w2 Z → Z.cell? ⟨vb, vo + i * 43, none⟩ = some (.string q.nm) ∧ Z.cell? ⟨vb, vo + i * 43 + 1, none⟩ = some (.string q.vr) := fun Z hZ => ⟨(hZ.cell (p := ⟨vb, vo + i * 43, none⟩) hvb).trans (hr 0 _ hpc.c0), (hZ.cell (p := ⟨vb, vo + i * 43 + 1, none⟩) hvb).trans (hr 1 _ hpc.c1)⟩
        have HSX := hide (cb wr.drew hkw.bw)
        have HSA := hide (cb (wr.drew.alloc (.cells #[.string q.nm, .string q.vr] 40)) (bl_t hkw.bw ((Below.refl _ wr.drew).alloc (Nat.le_refl _) _)))
        have HS2 := hide (cb W2 hkw2.bw)
        have R1 := hide r1
        have HK2 := hide hkw2
        clear hkw hkw2 cb r1 hr hpc pk2 hq hln
        go_upto_region 9 with fail
        refine wp_region_held_drew (S := fun w' => w'.cell? ⟨vb, vo + i * 43, none⟩ = some (.string q.nm) ∧ w'.cell? ⟨vb, vo + i * 43 + 1, none⟩ = some (.string q.vr)) (by kernel_rfl) ?_ (fun hHeld => ?_)
        · exact unhide HSX
        refine wpAnyH_take (i := 0) (oi := { dst := some 30, op := Op.move (Operand.tmp 7), type := 31, pos := "whole.go:167", after := #[], guard := none }) (v := ?_) rfl (by kernel_rfl) (by kernel_rfl) (by kernel_rfl) (fun _ _ _ h => h) (Or.inl ⟨by rfl, ?_⟩) (by assumption) ?_
        rotate_left
        · intro w hSw; (try dsimp only at hSw); go_simp; (try with_reducible rfl)
        try simp only [Act.put, List.setIfInBounds_toArray, List.set_cons_zero, List.set_cons_succ]
        refine wpAnyH_take (i := 1) (oi := { dst := some 31, op := Op.move (Operand.tmp 6), type := 22, pos := "whole.go:167", after := #[], guard := none }) (v := ?_) rfl (by kernel_rfl) (by kernel_rfl) (by kernel_rfl) (fun _ _ _ h => h) (Or.inl ⟨by rfl, ?_⟩) (by assumption) ?_
        rotate_left
        · intro w hSw; (try dsimp only at hSw); go_simp; (try with_reducible rfl)
        try simp only [Act.put, List.setIfInBounds_toArray, List.set_cons_zero, List.set_cons_succ]
        refine wpAnyH_take (i := 2) (oi := { dst := some 32, op := Op.move (Operand.tmp 8), type := 3, pos := "whole.go:167", after := #[], guard := none }) (v := ?_) rfl (by kernel_rfl) (by kernel_rfl) (by kernel_rfl) (fun _ _ _ h => h) (Or.inl ⟨by rfl, ?_⟩) (by assumption) ?_
        rotate_left
        · intro w hSw; (try dsimp only at hSw); go_simp; (try with_reducible rfl)
        try simp only [Act.put, List.setIfInBounds_toArray, List.set_cons_zero, List.set_cons_succ]
        refine wpAnyH_take (i := 3) (oi := { dst := some 33, op := Op.indexAddr 22 (Operand.tmp 31) (Operand.tmp 32), type := 0, pos := "whole.go:167", after := #[{ on := 1, ground := Ground.data }, { on := 2, ground := Ground.data }], guard := none }) (v := ?_) rfl (by kernel_rfl) (by kernel_rfl) (by kernel_rfl) (fun _ _ _ h => h) (Or.inl ⟨by rfl, ?_⟩) (by assumption) ?_
        rotate_left
        · intro w hSw; (try dsimp only at hSw); go_simp; (try with_reducible rfl)
        try simp only [Act.put, List.setIfInBounds_toArray, List.set_cons_zero, List.set_cons_succ]
        refine wpAnyH_take (i := 4) (oi := { dst := some 34, op := Op.fieldAddr 38 (Operand.tmp 33) 0, type := 0, pos := "whole.go:167", after := #[{ on := 3, ground := Ground.data }], guard := none }) (v := ?_) rfl (by kernel_rfl) (by kernel_rfl) (by kernel_rfl) (fun _ _ _ h => h) (Or.inl ⟨by rfl, ?_⟩) (by assumption) ?_
        rotate_left
        · intro w hSw; (try dsimp only at hSw); go_simp; (try with_reducible rfl)
        try simp only [Act.put, List.setIfInBounds_toArray, List.set_cons_zero, List.set_cons_succ]
        refine wpAnyH_take (i := 5) (oi := { dst := some 35, op := Op.load 9 (Operand.tmp 34), type := 9, pos := "whole.go:167", after := #[{ on := 4, ground := Ground.data }], guard := none }) (v := ?_) rfl (by kernel_rfl) (by kernel_rfl) (by kernel_rfl) (fun _ _ _ h => h) (Or.inl ⟨by rfl, ?_⟩) (by assumption) ?_
        rotate_left
        · intro w hSw; (try dsimp only at hSw); go_simp; (try with_reducible rfl)
        try simp only [Act.put, List.setIfInBounds_toArray, List.set_cons_zero, List.set_cons_succ]
        refine wpAnyH_take (i := 6) (oi := { dst := some 36, op := Op.move (Operand.tmp 6), type := 22, pos := "whole.go:167", after := #[], guard := none }) (v := ?_) rfl (by kernel_rfl) (by kernel_rfl) (by kernel_rfl) (fun _ _ _ h => h) (Or.inl ⟨by rfl, ?_⟩) (by assumption) ?_
        rotate_left
        · intro w hSw; (try dsimp only at hSw); go_simp; (try with_reducible rfl)
        try simp only [Act.put, List.setIfInBounds_toArray, List.set_cons_zero, List.set_cons_succ]
        refine wpAnyH_take (i := 7) (oi := { dst := some 37, op := Op.move (Operand.tmp 8), type := 3, pos := "whole.go:167", after := #[], guard := none }) (v := ?_) rfl (by kernel_rfl) (by kernel_rfl) (by kernel_rfl) (fun _ _ _ h => h) (Or.inl ⟨by rfl, ?_⟩) (by assumption) ?_
        rotate_left
        · intro w hSw; (try dsimp only at hSw); go_simp; (try with_reducible rfl)
        try simp only [Act.put, List.setIfInBounds_toArray, List.set_cons_zero, List.set_cons_succ]
        refine wpAnyH_take (i := 8) (oi := { dst := some 38, op := Op.indexAddr 22 (Operand.tmp 36) (Operand.tmp 37), type := 0, pos := "whole.go:167", after := #[{ on := 6, ground := Ground.data }, { on := 7, ground := Ground.data }], guard := none }) (v := ?_) rfl (by kernel_rfl) (by kernel_rfl) (by kernel_rfl) (fun _ _ _ h => h) (Or.inl ⟨by rfl, ?_⟩) (by assumption) ?_
        rotate_left
        · intro w hSw; (try dsimp only at hSw); go_simp; (try with_reducible rfl)
        try simp only [Act.put, List.setIfInBounds_toArray, List.set_cons_zero, List.set_cons_succ]
        refine wpAnyH_take (i := 9) (oi := { dst := some 39, op := Op.fieldAddr 38 (Operand.tmp 38) 1, type := 0, pos := "whole.go:167", after := #[{ on := 8, ground := Ground.data }], guard := none }) (v := ?_) rfl (by kernel_rfl) (by kernel_rfl) (by kernel_rfl) (fun _ _ _ h => h) (Or.inl ⟨by rfl, ?_⟩) (by assumption) ?_
        rotate_left
        · intro w hSw; (try dsimp only at hSw); go_simp; (try with_reducible rfl)
        try simp only [Act.put, List.setIfInBounds_toArray, List.set_cons_zero, List.set_cons_succ]
        refine wpAnyH_take (i := 10) (oi := { dst := some 40, op := Op.load 9 (Operand.tmp 39), type := 9, pos := "whole.go:167", after := #[{ on := 9, ground := Ground.data }], guard := none }) (v := ?_) rfl (by kernel_rfl) (by kernel_rfl) (by kernel_rfl) (fun _ _ _ h => h) (Or.inl ⟨by rfl, ?_⟩) (by assumption) ?_
        rotate_left
        · intro w hSw; (try dsimp only at hSw); go_simp; (try with_reducible rfl)
        try simp only [Act.put, List.setIfInBounds_toArray, List.set_cons_zero, List.set_cons_succ]
        refine wpAnyH_take (i := 11) (oi := { dst := some 41, op := Op.build 40 #[(0, Operand.tmp 35), (1, Operand.tmp 40)], type := 40, pos := "whole.go:167", after := #[{ on := 5, ground := Ground.data }, { on := 10, ground := Ground.data }], guard := none }) (v := ?_) rfl (by kernel_rfl) (by kernel_rfl) (by kernel_rfl) (fun _ _ _ h => h) (Or.inl ⟨by rfl, ?_⟩) (by assumption) ?_
        rotate_left
        · intro w hSw; (try dsimp only at hSw); go_simp; (try with_reducible rfl)
        try simp only [Act.put, List.setIfInBounds_toArray, List.set_cons_zero, List.set_cons_succ]
        refine wpAnyH_ready (rs := [12]) (by kernel_rfl) (by simp) ?_
        refine AllReadyH.cons (o := { dst := some 42, op := Op.buildSlice 31 1 #[(0, Operand.tmp 41)], type := 31, pos := "whole.go:167", after := #[{ on := 11, ground := Ground.data }], guard := none }) rfl (fun K hK => ?_) AllReadyH.nil
        go_simp
        refine hK.out _ _ ?_ (fun hHeld => ?_)
        · exact unhide HSA
        clear hK K
        try simp only [Act.put, List.setIfInBounds_toArray, List.set_cons_zero, List.set_cons_succ]
        refine wpAnyH_ready (rs := [13]) (by kernel_rfl) (by simp) ?_
        refine AllReadyH.cons (o := { dst := some 43, op := Op.call { callee := Callee.builtin Builtin.append, args := #[Operand.tmp 30, Operand.tmp 42], argTypes := #[31, 31] }, type := 31, pos := "whole.go:167", after := #[{ on := 0, ground := Ground.data }, { on := 12, ground := Ground.data }], guard := none }) rfl (fun K hK => ?_) AllReadyH.nil
        refine wp_append_run _ _ 31 rfl _ _ rfl rfl (unhide R1) ?_
        refine hK.out _ _ ?_ (fun hHeld => ?_)
        · exact unhide HS2
        clear hK K
        try simp only [Act.put, List.setIfInBounds_toArray, List.set_cons_zero, List.set_cons_succ]
        refine wpAnyH_take (i := 14) (oi := { dst := some 7, op := Op.assign (Operand.tmp 43), type := 31, pos := "whole.go:167", after := #[{ on := 13, ground := Ground.data }, { on := 13, ground := Ground.chain }, { on := 0, ground := Ground.phase }, { on := 1, ground := Ground.phase }, { on := 2, ground := Ground.phase }, { on := 3, ground := Ground.phase }, { on := 4, ground := Ground.phase }, { on := 5, ground := Ground.phase }, { on := 6, ground := Ground.phase }, { on := 7, ground := Ground.phase }, { on := 8, ground := Ground.phase }, { on := 9, ground := Ground.phase }, { on := 10, ground := Ground.phase }, { on := 11, ground := Ground.phase }, { on := 12, ground := Ground.phase }, { on := 13, ground := Ground.phase }], guard := none }) (v := ?_) rfl (by kernel_rfl) (by kernel_rfl) (by kernel_rfl) (fun _ _ _ h => h) (Or.inl ⟨by rfl, ?_⟩) (by assumption) ?_
        rotate_left
        · intro w hSw; (try dsimp only at hSw); go_simp; (try with_reducible rfl)
        try simp only [Act.put, List.setIfInBounds_toArray, List.set_cons_zero, List.set_cons_succ]
        refine wpAnyH_done (by kernel_rfl) ?_ _
        clear HSX HSA HS2 R1
        go_wp2_with fail
        go_roundg (M - (i + 1))
        case measure => omega
        case rel => exact ⟨i + 1, by go_num, by omega, by omega, by rw [unhide HTK]; exact HK2⟩
      · obtain rfl : i = M := by omega
        rename World => W3
        have hkw := unhide HW
        rw [unhide HM, List.take_length, ← unhide HOU] at hkw
        have bw3 := bl_t (unhide X2) hkw.bw
        have CB := hide (unhide HB2 W3 _ bw3 (row_kyl hkw.row))
        have HW3 := hide bw3
        clear hkw bw3 HW P2 HM HGE HB2
        go_upto_region 13 with (go_at_call 11; refine (unhide CB).mono ?_; rintro e w4 ⟨r4, L, rfl, hk4, hq4, hb4⟩; obtain ⟨la, K, lc, hK, rfl⟩ : ∃ a n c, n = L.length ∧ r4 = .slice a n c := (let ⟨a, c, e, _⟩ := hk4; ⟨a, _, c, rfl, e⟩); have HK := hide hK; have H4 := hide (And.intro hk4 (And.intro hq4 (bl_t (unhide HW3) hb4))); clear hK hk4 hq4 hb4 CB)
        have HF0 := hide (Fw.start w4)
        obtain ⟨N, hN⟩ : ∃ N, N = ps.length := ⟨_, rfl⟩
        have HN := hide hN
        rw [← hN] at hl ⊢
        have HKT := hide (show ∀ j, j < N → (kpF ps.length fl).take (j + 1) = (kpF ps.length fl).take j ++ [!(fl.getD j false)] from fun j hj => by
          rw [List.take_add_one]
          congr 1
          unfold kpF
          rw [List.getElem?_map, List.getElem?_range (by omega)]
          rfl)
        clear hN
        obtain ⟨i0, hi0, hz0, hz1, hz2⟩ := info_parts2 infoBo
        go_wp2_with fail
        go_loopg [10, 11] N (fun gq sv iv wr => ∃ j : Nat, iv = .int .i64 j ∧ j ≤ N ∧ N - j ≤ gq ∧ Hid (Fw w4 wr sv ((kpF ps.length fl).take j)))
        case atStart => exact ⟨0, by go_num, by omega, by omega, by rw [List.take_zero]; exact HF0⟩
        case round =>
          clear HF0
          obtain ⟨j, rfl, hj, hgj, HW⟩ := hrel
          by_cases hlt2 : j < N
          · have hjn : (j : Int) < (N : Int) := by omega
            have HT := hide (unhide HKT j hlt2)
            have hln : ((kpF ps.length fl).take j).length ≤ 262144 := by rw [List.length_take]; omega
            have hzw := (unhide HW).bw.size
            generalize (kpF ps.length fl).take j = lb at *
            by_cases hf : fl.length ≤ j
            · have hd : decide (fl.length ≤ j) = true := decide_eq_true hf
              have HV := hide (show (!(fl.getD j false)) = true from by rw [List.getD_eq_getElem?_getD, List.getElem?_eq_none hf]; rfl)
              clear hf
              go_wp2_with (at_builtin; go_must (refine wpList_append_own _ rfl _ _ 23 rfl w4.heap.size 4 i0 (.bool false) 1 1 Tryz.underlying23 hi0 hz0 hz1 hz2 rfl (by decide) _ _ _ rfl (own_same (unhide HW).row fun b e => Below.heap_alloc _ _ _ (World.ownsRow.lt (unhide HW).row b e).2) ⟨wr.heap.size, 0, none⟩ 1 1 [.bool true] rfl rfl (fun k u hk => by rw [Addr.add_mid, Nat.zero_add, World.cell?_alloc_new]; simpa using hk) (fun u hu => by simp at hu; subst hu; rfl) (by unfold maxLen; omega) (by omega) (by rw [World.size_alloc]; omega) ?_); intro v' w9 hown hgrow _; have HF9 := hide ((unhide HW).grow (x := true) hown hgrow); clear hown hgrow)
              go_roundg (N - (j + 1))
              case measure => omega
              case rel => exact ⟨j + 1, by go_num, by omega, by omega, by rw [unhide HT, unhide HV]; exact HF9⟩
            · have hd : decide (fl.length ≤ j) = false := decide_eq_false hf
              have hjf : j < fl.length := by omega
              have hjfi : (j : Int) < (fl.length : Int) := by omega
              obtain ⟨fb, fo2, rfl, f0⟩ := unhide HFL wr (bl_t (unhide H4).2.2 (unhide HW).bw) j hjf
              have HV := hide (show (!(fl.getD j false)) = !fl[j] from by rw [List.getD_eq_getElem?_getD, List.getElem?_eq_getElem hjf]; rfl)
              generalize fl[j] = fv at *
              clear hf
              go_wp2_with (at_builtin; go_must (refine wpList_append_own _ rfl _ _ 23 rfl w4.heap.size 4 i0 (.bool false) 1 1 Tryz.underlying23 hi0 hz0 hz1 hz2 rfl (by decide) _ _ _ rfl (own_same (unhide HW).row fun b e => Below.heap_alloc _ _ _ (World.ownsRow.lt (unhide HW).row b e).2) ⟨wr.heap.size, 0, none⟩ 1 1 [.bool (!fv)] rfl rfl (fun k u hk => by rw [Addr.add_mid, Nat.zero_add, World.cell?_alloc_new]; simpa using hk) (fun u hu => by simp at hu; subst hu; rfl) (by unfold maxLen; omega) (by omega) (by rw [World.size_alloc]; omega) ?_); intro v' w9 hown hgrow _; have HF9 := hide ((unhide HW).grow (x := !fv) hown hgrow); clear hown hgrow)
              go_roundg (N - (j + 1))
              case measure => omega
              case rel => exact ⟨j + 1, by go_num, by omega, by omega, by rw [unhide HT, unhide HV]; exact HF9⟩
          · obtain rfl : j = N := by omega
            rename World => W5
            have hfw := unhide HW
            have hkp : (kpF ps.length fl).length = j := by unfold kpF; rw [List.length_map, List.length_range]; exact (unhide HN).symm
            rw [← hkp, List.take_length] at hfw
            have b5 := bl_t (unhide H4).2.2 hfw.bw
            have CS2 := hide (unhide HS1 W5 _ (kpF ps.length fl) (by omega) b5 hfw.bfl)
            have H5 := hide (And.intro ((unhide H4).1.later hfw.bw) (And.intro (unhide H4).2.1 b5))
            clear hfw b5 HW H4 HS1 hkp
            have hNe := unhide HN
            clear HN
            subst hNe
            by_cases h0 : K = 0
            · have hz : ((K : Int) == 0) = true := by rw [h0]; rfl
              have hK0 : ¬ (0 : Int) < (K : Int) := by omega
              have HK2 := hide (show L.length = 0 from by rw [← unhide HK]; exact h0)
              clear h0
              go_wp2_with (first
                | (go_at_call 6; refine (unhide CS2).mono ?_; rintro e w6 ⟨r6, rfl, hp6, hb6⟩; have CC := hide (unhide HCL _ _ _ hp6); have B6 := hide (bl_t (unhide H5).2.2 hb6); clear hp6 hb6 CS2)
                | (go_at_call 7; refine (unhide CC).mono ?_; rintro e w7 ⟨b7, rfl, hb7, hB7⟩; obtain rfl : b7 = true := ((unhide H5).2.1 b7 hb7).nil.1 (unhide HK2); have B7 := hide (bl_t (unhide B6) hB7); clear hb7 hB7 CC))
              refine wp_loop_rounds 1 ?_
              rw [rounds_succ]
              go_wp2_with (go_at_call 9; refine little_any.mono ?_; rintro e w9 ⟨rfl, hb9⟩; have X9 := hide (bl_t (unhide B7) hb9); clear hb9)
              go_ret
              exact ⟨rfl, unhide X9⟩
            · have hz : ((K : Int) == 0) = false := by simpa using h0
              have HK2 := hide (show ¬ L.length = 0 from by rw [← unhide HK]; exact h0)
              clear h0
              go_wp2_with (first
                | (go_at_call 6; refine (unhide CS2).mono ?_; rintro e w6 ⟨r6, rfl, hp6, hb6⟩; obtain ⟨ra, R, rc, hR, rfl⟩ : ∃ a n c, n = ((flP ps.length (kpF ps.length fl)).map (pAt ps)).length ∧ r6 = .slice a n c := (let ⟨a, c, e, _⟩ := hp6; ⟨a, _, c, rfl, e⟩); have HR := hide hR; have CC := hide (unhide HCL _ _ _ hp6); have P6 := hide hp6; have Q6 := hide hb6; have B6 := hide (bl_t (unhide H5).2.2 hb6); clear hp6 hb6 hR CS2)
                | (go_at_call 7; refine (unhide CC).mono ?_; rintro e w7 ⟨b7, rfl, hb7, hB7⟩; have hbq := (unhide H5).2.1 b7 hb7; obtain rfl : b7 = false := (by cases b7 with | false => rfl | true => exact absurd (hbq.nil.2 rfl) (unhide HK2)); have HBQ := hide hbq; have P7 := hide ((unhide P6).later hB7); have K7 := hide ((unhide H5).1.later (bl_t (unhide Q6) hB7)); have B7 := hide (bl_t (unhide B6) hB7); clear hb7 hB7 hbq CC))
              have HRL := hide (unhide HGL).2
              clear H5 P6 Q6 B6 HK2 HGL HOU HFB HFL HCL hz HKT
              generalize hrs : (flP ps.length (kpF ps.length fl)).map (pAt ps) = rs at *
              have HBL := hide (show L.length ≤ 1048576 from (unhide HBQ).len)
              have HBP := hide (unhide HBQ).pw
              have HOF := hide (show ∀ x ∈ L, ∃ k, k < rs.length ∧ ∃ q, rs[k]? = some q ∧ kyP q = x from by rw [← hrs]; exact (unhide HBQ).of)
              clear hrs HBQ
              have hKl : K ≤ 1048576 := by rw [unhide HK]; exact unhide HBL
              have hRl : R ≤ 262144 := by rw [unhide HR]; exact unhide HRL
              go_loopg [13, 14, 15] K (fun gq iv _ _ wr => ∃ i n : Nat, iv = .int .i64 i ∧ i ≤ K ∧ K - i ≤ gq ∧ wr = w7.drewN n)
              case atStart => exact ⟨0, 0, by go_num, by omega, by omega, rfl⟩
              case round =>
                obtain ⟨m, nd, rfl, hm, hgm, rfl⟩ := hrel
                by_cases hmt : m < K
                · have hmi : (m : Int) < (K : Int) := by omega
                  have hml : m < L.length := by have := unhide HK; omega
                  obtain ⟨lb, lo, rfl, x0, x1⟩ : ∃ b o, la = some ⟨b, o, none⟩ ∧ w7.cell? ⟨b, o + m * 2, none⟩ = some (.string L[m].1) ∧ w7.cell? ⟨b, o + m * 2 + 1, none⟩ = some (.string L[m].2) := by
                    obtain ⟨a, c, e, h2⟩ := unhide K7
                    injection e with e
                    obtain ⟨b, o, q1, _, q3, q4⟩ := h2 m L[m] (List.getElem?_eq_getElem hml)
                    exact ⟨b, o, e.trans q1, q3, q4⟩
                  have HFO := hide (unhide HOF L[m] (List.getElem_mem hml))
                  have HLX := hide (show ∀ k, m = k + 1 → ∃ y : Nm × Nm, w7.cell? ⟨lb, lo + k * 2, none⟩ = some (.string y.1) ∧ w7.cell? ⟨lb, lo + k * 2 + 1, none⟩ = some (.string y.2) ∧ lx y L[m] from fun k hk => by
                    have hkl : k < L.length := by omega
                    obtain ⟨a, c, e, h2⟩ := unhide K7
                    injection e with e
                    obtain ⟨b, o, q1, _, q3, q4⟩ := h2 k L[k] (List.getElem?_eq_getElem hkl)
                    rw [q1] at e
                    cases e
                    exact ⟨L[k], q3, q4, List.pairwise_iff_getElem.1 (unhide HBP) k m hkl hml (by omega)⟩)
                  generalize L[m] = x at *
                  obtain ⟨xn, xv⟩ := x
                  simp only at x0 x1
                  go_wp2_with fail
                  go_loopg [14, 15] R (fun gq fv kv wx => ∃ (k n : Nat) (fb : Bool), fv = .bool fb ∧ kv = .int .i64 k ∧ k ≤ R ∧ R - k ≤ gq ∧ wx = w7.drewN n ∧ Hid (Fd rs k (xn, xv) fb))
                  case atStart => exact ⟨0, nd, false, rfl, by go_num, by omega, by omega, rfl, hide (fun ⟨k2, h, _⟩ => absurd h (Nat.not_lt_zero _))⟩
                  case round =>
                    obtain ⟨k, n2, fb, rfl, rfl, hk, hgk, rfl, HFD⟩ := hrel
                    by_cases hkt : k < R
                    · have hki : (k : Int) < (R : Int) := by omega
                      have hkr : k < rs.length := by have := unhide HR; omega
                      obtain ⟨q, hq⟩ : ∃ q, rs[k]? = some q := ⟨_, List.getElem?_eq_getElem hkr⟩
                      obtain ⟨vb, vo, vc2, cs, dd, rr, cc, pv, ff, e, hvb, hr, hpc, _⟩ := (unhide P7).at2 hq
                      injection e with e1 e2 e3
                      subst e1 e3
                      clear e2
                      have y0 : w7.cell? ⟨vb, vo + k * 43, none⟩ = some (.string q.nm) := hr 0 _ hpc.c0
                      have y1 : w7.cell? ⟨vb, vo + k * 43 + 1, none⟩ = some (.string q.vr) := hr 1 _ hpc.c1
                      have HNX := hide (show ∀ fb2 : Bool, (fb = true → fb2 = true) → (kyP q = (xn, xv) → fb2 = true) → Fd rs (k + 1) (xn, xv) fb2 from fun fb2 h1 h2 ⟨k2, hk2, q2, hq2, he2⟩ => by
                        by_cases e : k2 = k
                        · subst e; rw [hq] at hq2; cases hq2; exact h2 he2
                        · exact h1 (unhide HFD ⟨k2, by omega, q2, hq2, he2⟩))
                      clear hr hpc hq HFD
                      cases fb with
                      | true =>
                        have HG := hide (unhide HNX true (fun h => h) (fun _ => rfl))
                        clear HNX
                        go_wp2_with fail
                        go_quiet (fail)
                        go_wp2_with fail
                        go_roundg (R - (k + 1))
                        case measure => omega
                        case rel => exact ⟨k + 1, _, true, rfl, by go_num, by omega, by omega, by first | rfl | exact drewN_two w7 _ _, HG⟩
                      | false =>
                        by_cases h1 : q.nm = xn
                        · have he1 : (q.nm.toList == xn.toList) = true := toList_eq.2 h1
                          by_cases h2 : q.vr = xv
                          · have he2 : (q.vr.toList == xv.toList) = true := toList_eq.2 h2
                            have HG := hide (unhide HNX true (fun h => (by cases h)) (fun _ => rfl))
                            clear HNX h1 h2
                            generalize q.nm = qn at *
                            generalize q.vr = qv at *
                            go_wp2_with fail
                            go_quiet (fail)
                            go_wp2_with fail
                            go_roundg (R - (k + 1))
                            case measure => omega
                            case rel => exact ⟨k + 1, _, true, rfl, by go_num, by omega, by omega, by first | rfl | exact drewN_two w7 _ _, HG⟩
                          · have he2 : (q.vr.toList == xv.toList) = false := by
                              cases h : (q.vr.toList == xv.toList) with
                              | false => rfl
                              | true => exact absurd (toList_eq.1 h) h2
                            have HG := hide (unhide HNX false (fun h => h) (fun h => absurd (congrArg Prod.snd h) h2))
                            clear HNX h1 h2
                            generalize q.nm = qn at *
                            generalize q.vr = qv at *
                            go_wp2_with fail
                            go_quiet (fail)
                            go_wp2_with fail
                            go_roundg (R - (k + 1))
                            case measure => omega
                            case rel => exact ⟨k + 1, _, false, rfl, by go_num, by omega, by omega, by first | rfl | exact drewN_two w7 _ _, HG⟩
                        · have he1 : (q.nm.toList == xn.toList) = false := by
                            cases h : (q.nm.toList == xn.toList) with
                            | false => rfl
                            | true => exact absurd (toList_eq.1 h) h1
                          have HG := hide (unhide HNX false (fun h => h) (fun h => absurd (congrArg Prod.fst h) h1))
                          clear HNX h1
                          generalize q.nm = qn at *
                          generalize q.vr = qv at *
                          go_wp2_with fail
                          go_quiet (fail)
                          go_wp2_with fail
                          go_roundg (R - (k + 1))
                          case measure => omega
                          case rel => exact ⟨k + 1, _, false, rfl, by go_num, by omega, by omega, by first | rfl | exact drewN_two w7 _ _, HG⟩
                    · obtain rfl : k = R := by omega
                      obtain rfl : fb = true := unhide HFD (by
                        obtain ⟨k2, hk2, q, hq, he⟩ := unhide HFO
                        exact ⟨k2, by rw [unhide HR]; exact hk2, q, hq, he⟩)
                      clear HFD HFO
                      by_cases hm0 : 0 < m
                      · obtain ⟨m1, hm1⟩ : ∃ m1, m = m1 + 1 := ⟨m - 1, by omega⟩
                        obtain ⟨⟨yn, yv⟩, y0, y1, hlx⟩ := unhide HLX m1 hm1
                        simp only at y0 y1
                        have d4 : decide (0 < m) = true := decide_eq_true hm0
                        have e1 : ((m : Int) - 1) = (m1 : Int) := by omega
                        have hwk : IntKind.i64.wrap (m1 : Int) = (m1 : Int) := by rw [IntKind.wrap_i64]; omega
                        have hm1i : (m1 : Int) < (K : Int) := by omega
                        rcases hlx with hlx | ⟨hlx1, hlx2⟩
                        · simp only at hlx
                          have hb1 : Op.bytesLess yn.toList xn.toList = true := by rw [bytesLess_eq]; exact decide_eq_true hlx
                          have he1 : (yn.toList == xn.toList) = false := by
                            cases h : (yn.toList == xn.toList) with
                            | false => rfl
                            | true => rw [toList_eq.1 h] at hlx; exact absurd hlx (List.lt_irrefl _)
                          clear hlx hm1 hm0 HLX
                          go_wp2_with fail
                          go_quiet (fail)
                          go_wp2_with fail
                          go_roundg (K - (m + 1))
                          case measure => omega
                          case rel => exact ⟨m + 1, _, by go_num, by omega, by omega, by first | rfl | exact drewN_two w7 _ _⟩
                        · simp only at hlx1 hlx2
                          have he1 : (yn.toList == xn.toList) = true := by rw [hlx1]; exact beq_self_eq_true _
                          have hb1 : Op.bytesLess yn.toList xn.toList = false := by rw [hlx1]; exact bytesLess_irrefl _
                          have hb2 : Op.bytesLess yv.toList xv.toList = true := by rw [bytesLess_eq]; exact decide_eq_true hlx2
                          clear hlx1 hlx2 hm1 hm0 HLX
                          go_wp2_with fail
                          go_quiet (fail)
                          go_wp2_with fail
                          go_roundg (K - (m + 1))
                          case measure => omega
                          case rel => exact ⟨m + 1, _, by go_num, by omega, by omega, by first | rfl | exact drewN_two w7 _ _⟩
                      · have d4 : decide (0 < m) = false := decide_eq_false hm0
                        clear hm0 HLX
                        go_wp2_with fail
                        go_quiet (fail)
                        go_wp2_with fail
                        go_roundg (K - (m + 1))
                        case measure => omega
                        case rel => exact ⟨m + 1, _, by go_num, by omega, by omega, by first | rfl | exact drewN_two w7 _ _⟩
                · obtain rfl : m = K := by omega
                  go_wp2_with (go_at_call 9; refine little_any.mono ?_; rintro e w9 ⟨rfl, hb9⟩; have X9 := hide (bl_t (bl_t (unhide B7) (bl_drewN w7 nd)) hb9); clear hb9)
                  go_ret
                  exact ⟨rfl, unhide X9⟩
end Go.Proofs.YtjnbnndocinicaaGreatDoor
