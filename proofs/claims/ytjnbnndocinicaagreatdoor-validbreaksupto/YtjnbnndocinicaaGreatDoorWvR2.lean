import Derived.Test.YtjnbnndocinicaaGreatDoorWvR1
import Derived.Deep.RegionHeld3
import Derived.Deep.RegionLaw
import Derived.Deep.Cut
import Derived.Deep.QuietTactic
import Derived.BigQuiet
import Derived.BigRegion
import Derived.Deep.CutRange
import Derived.Great.BuildSlice
namespace Go.Proofs.YtjnbnndocinicaaGreatDoor
open Go.RowKit Go.Maps

theorem PkC.pkg {cs : List Value} {q : Pk} {d r c pv f : Value} (h : PkC cs q d r c pv f) : Pkg cs q.nm q.vr pv := ⟨h.len, h.c0, h.c1, h.c6⟩
theorem mP_at {ps : List Pk} {i : Nat} {q : Pk} (h : ps[i]? = some q) (a : At) : mP ps a i = meetsA a.n a.op a.v q.nm q.vr q.pv := by unfold mP; rw [h]
theorem imP_yes {ps : List Pk} {inn : Nat → Bool} {but : Int} {al : List At} {i : Nat} {a : At} (ha : a ∈ al) (hm : mP ps a i = true) (hh : hitP inn but i = true) : imP ps inn but al = true := by
  unfold imP
  rw [List.any_eq_true]
  refine ⟨a, ha, ?_⟩
  rw [List.any_eq_true]
  exact ⟨i, List.mem_range.2 (mP_lt hm), by rw [hm, hh]; rfl⟩
theorem imP_no {ps : List Pk} {inn : Nat → Bool} {but : Int} {al : List At} (h : ∀ i, i < ps.length → ∀ a ∈ al, (mP ps a i && hitP inn but i) = false) : imP ps inn but al = false := by
  unfold imP
  rw [List.any_eq_false]
  intro a ha
  rw [Bool.not_eq_true, List.any_eq_false]
  intro i hi
  rw [h i (List.mem_range.1 hi) a ha]
  decide
set_option maxRecDepth 100000 in
set_option maxHeartbeats 4000000 in
theorem mts_any {w : World} {v u : Value} {ps : List Pk} {al : List At} (but : Int) (sm : SmP ps) (hal : al.length ≤ 1048576) (hsz : ∀ a ∈ al, a.v.size ≤ maxLen) (pk : Pkl w v ps) (ha : Ats w u al) :
    Calls Tryz.prog 18 #[v, u, .int .i64 but] w fun e w' => e = .returned (.bool (imP ps (fun _ => true) but al)) ∧ RowKit.Below w.heap.size w w' := by
  obtain ⟨va, vc, rfl⟩ : ∃ a c, v = .slice a ps.length c := let ⟨a, c, e, _⟩ := pk; ⟨a, c, e⟩
  obtain ⟨ua, uc, rfl⟩ : ∃ a c, u = .slice a al.length c := let ⟨a, c, e, _⟩ := ha; ⟨a, c, e⟩
  have hl := sm.l
  have HP := hide pk
  have HA := hide ha
  have HM := hide (show ∀ (i : Nat) (q : Pk) (X : World) (cs : List Value) (d r c pv f : Value), ps[i]? = some q → PkC cs q d r c pv f → PkL X q d r c pv f → ∀ a ∈ al, Calls Tryz.prog 31 #[.agg #[.string a.n, .int .i64 a.op, .string a.v], .agg cs.toArray] X fun e w' => e = .returned (.bool (mP ps a i)) ∧ RowKit.Below X.heap.size X w' from fun i q X cs d r c pv f hq hc hL a haa => by
    rw [mP_at hq]
    exact Meets_any a.n a.op a.v q.nm q.vr pv q.pv cs (hsz a haa) (sm.z q (List.mem_of_getElem? hq)).2.1 X hc.pkg hL.vl)
  clear sm hsz pk ha
  obtain ⟨N, hN⟩ : ∃ N, ps.length = N := ⟨_, rfl⟩
  obtain ⟨M, hM⟩ : ∃ M, al.length = M := ⟨_, rfl⟩
  rw [hN] at hl HP ⊢
  rw [hM] at hal HA ⊢
  have HN := hide hN
  have HL := hide hM
  clear hN hM
  go_enter Tryz.func18, Tryz.ntmps18
  go_wp2_with fail
  go_loopg [7, 8, 9] N (fun gq vi _ _ wr => ∃ i : Nat, vi = .int .i64 i ∧ i ≤ N ∧ N - i ≤ gq ∧ Hid (RowKit.Below w.heap.size w wr) ∧ Hid (∀ j, j < i → ∀ a ∈ al, (mP ps a j && hitP (fun _ => true) but j) = false))
  case atStart => exact ⟨0, by go_num, by omega, by omega, hide (Below.refl _ _), hide (fun j hj => absurd hj (Nat.not_lt_zero _))⟩
  case round =>
    obtain ⟨i, rfl, hi, hg, HB, HNO⟩ := hrel
    by_cases hlt : i < N
    · have hiz : (i : Int) < (N : Int) := by omega
      obtain ⟨q, hq⟩ : ∃ q, ps[i]? = some q := ⟨_, List.getElem?_eq_getElem (by have := unhide HN; omega)⟩
      obtain ⟨vb, vo, vc2, cs, dd, rr, cc, pv, ff, e0, hvb, hr, hpc, hll⟩ := ((unhide HP).later (unhide HB)).at2 hq
      have e1 : va = some ⟨vb, vo, none⟩ := by injection e0
      subst e1
      have HQ := hide hq
      have HR := hide (And.intro hvb hr)
      have HC := hide hpc
      have HLL := hide hll
      have HI2 := hide (show (Tryz.prog.info? 38).map (·.size) = some cs.length by rw [hpc.len]; kernel_rfl)
      clear e0 hq hvb hr hpc hll
      obtain ⟨W1, rfl⟩ : ∃ W, W = wr := ⟨_, rfl⟩
      have HS0 := hide (Below.refl W1.heap.size W1)
      go_wp2_with fail
      go_loopg [8, 9] M (fun gq vk _ wq => ∃ k : Nat, vk = .int .i64 k ∧ k ≤ M ∧ M - k ≤ gq ∧ Hid (RowKit.Below W1.heap.size W1 wq) ∧ Hid (∀ a ∈ al.take k, (mP ps a i && hitP (fun _ => true) but i) = false))
      case atStart => exact ⟨0, by go_num, by omega, by omega, HS0, hide (fun a h => by simp at h)⟩
      case round =>
        clear HS0
        obtain ⟨k, rfl, hk, hgk, HBK, HNK⟩ := hrel
        by_cases hlk : k < M
        · have hkz : (k : Int) < (M : Int) := by omega
          obtain ⟨x, hx⟩ : ∃ x, al[k]? = some x := ⟨_, List.getElem?_eq_getElem (by have := unhide HL; omega)⟩
          obtain ⟨ub, uo, rfl, hub, c0, c1, c2⟩ := ((unhide HA).later (bl_t (unhide HB) (unhide HBK))).at hx
          have HMX := hide (unhide HM i q wr.drew cs dd rr cc pv ff (unhide HQ) (unhide HC) ((unhide HLL).later ((unhide HBK).trans (Below.refl _ _).drew)) x (List.mem_of_getElem? hx))
          have HRW := hide (range_bel (unhide HR).2 (unhide HR).1 (unhide HBK))
          have HNK2 := hide (show (mP ps x i && hitP (fun _ => true) but i) = false → ∀ a ∈ al.take (k + 1), (mP ps a i && hitP (fun _ => true) but i) = false from fun h a haa => by
            rw [List.take_add_one, hx] at haa
            rcases List.mem_append.1 haa with q | q
            · exact unhide HNK a q
            · simp at q; subst q; exact h)
          have HYES := hide (show mP ps x i = true → hitP (fun _ => true) but i = true → imP ps (fun _ => true) but al = true from fun h1 h2 => imP_yes (List.mem_of_getElem? hx) h1 h2)
          clear hx
          generalize x.n = s0 at *
          generalize x.op = s1 at *
          generalize x.v = s2 at *
          go_wp2_with fail
          refine wp_region_held_drew (S := fun w' => w'.cell? ⟨ub, uo + k * 3, none⟩ = some (.string s0) ∧ w'.cell? ⟨ub, uo + k * 3 + 1, none⟩ = some (.int .i64 s1) ∧ w'.cell? ⟨ub, uo + k * 3 + 2, none⟩ = some (.string s2) ∧ w'.rangeAt vb (vo + i * 43) cs) (by kernel_rfl) ?_ (fun hHeld => ?_)
          · exact ⟨c0, c1, c2, unhide HRW⟩
          refine wpAnyH_take (i := 0) (oi := { dst := some 22, op := Op.move (Operand.tmp 1), type := 53, pos := "whole.go:23", after := #[], guard := none }) (v := ?_) rfl (by kernel_rfl) (by kernel_rfl) (by kernel_rfl) (fun _ _ _ h => h) (Or.inl ⟨by rfl, ?_⟩) (by assumption) ?_
          rotate_left
          · intro w hSw; (try dsimp only at hSw); go_simp; (try with_reducible rfl)
          try simp only [Act.put, List.setIfInBounds_toArray, List.set_cons_zero, List.set_cons_succ]
          refine wpAnyH_take (i := 1) (oi := { dst := some 23, op := Op.move (Operand.tmp 8), type := 3, pos := "whole.go:23", after := #[], guard := none }) (v := ?_) rfl (by kernel_rfl) (by kernel_rfl) (by kernel_rfl) (fun _ _ _ h => h) (Or.inl ⟨by rfl, ?_⟩) (by assumption) ?_
          rotate_left
          · intro w hSw; (try dsimp only at hSw); go_simp; (try with_reducible rfl)
          try simp only [Act.put, List.setIfInBounds_toArray, List.set_cons_zero, List.set_cons_succ]
          refine wpAnyH_take (i := 2) (oi := { dst := some 24, op := Op.indexAddr 53 (Operand.tmp 22) (Operand.tmp 23), type := 0, pos := "whole.go:23", after := #[{ on := 0, ground := Ground.data }, { on := 1, ground := Ground.data }], guard := none }) (v := ?_) rfl (by kernel_rfl) (by kernel_rfl) (by kernel_rfl) (fun _ _ _ h => h) (Or.inl ⟨by rfl, ?_⟩) (by assumption) ?_
          rotate_left
          · intro w hSw; (try dsimp only at hSw); go_simp; (try with_reducible rfl)
          try simp only [Act.put, List.setIfInBounds_toArray, List.set_cons_zero, List.set_cons_succ]
          refine wpAnyH_take (i := 3) (oi := { dst := some 25, op := Op.load 55 (Operand.tmp 24), type := 55, pos := "whole.go:23", after := #[{ on := 2, ground := Ground.data }], guard := none }) (v := ?_) rfl (by kernel_rfl) (by kernel_rfl) (by kernel_rfl) (fun _ _ _ h => h) (Or.inl ⟨by rfl, ?_⟩) (by assumption) ?_
          rotate_left
          · intro w hSw; (try dsimp only at hSw); go_simp; (try with_reducible rfl)
          try simp only [Act.put, List.setIfInBounds_toArray, List.set_cons_zero, List.set_cons_succ]
          refine wpAnyH_take (i := 4) (oi := { dst := some 26, op := Op.move (Operand.tmp 0), type := 22, pos := "whole.go:23", after := #[], guard := none }) (v := ?_) rfl (by kernel_rfl) (by kernel_rfl) (by kernel_rfl) (fun _ _ _ h => h) (Or.inl ⟨by rfl, ?_⟩) (by assumption) ?_
          rotate_left
          · intro w hSw; (try dsimp only at hSw); go_simp; (try with_reducible rfl)
          try simp only [Act.put, List.setIfInBounds_toArray, List.set_cons_zero, List.set_cons_succ]
          refine wpAnyH_take (i := 5) (oi := { dst := some 27, op := Op.move (Operand.tmp 7), type := 3, pos := "whole.go:23", after := #[], guard := none }) (v := ?_) rfl (by kernel_rfl) (by kernel_rfl) (by kernel_rfl) (fun _ _ _ h => h) (Or.inl ⟨by rfl, ?_⟩) (by assumption) ?_
          rotate_left
          · intro w hSw; (try dsimp only at hSw); go_simp; (try with_reducible rfl)
          try simp only [Act.put, List.setIfInBounds_toArray, List.set_cons_zero, List.set_cons_succ]
          refine wpAnyH_take (i := 6) (oi := { dst := some 28, op := Op.indexAddr 22 (Operand.tmp 26) (Operand.tmp 27), type := 0, pos := "whole.go:23", after := #[{ on := 4, ground := Ground.data }, { on := 5, ground := Ground.data }], guard := none }) (v := ?_) rfl (by kernel_rfl) (by kernel_rfl) (by kernel_rfl) (fun _ _ _ h => h) (Or.inl ⟨by rfl, ?_⟩) (by assumption) ?_
          rotate_left
          · intro w hSw; (try dsimp only at hSw); go_simp; (try with_reducible rfl)
          try simp only [Act.put, List.setIfInBounds_toArray, List.set_cons_zero, List.set_cons_succ]
          refine wpAnyH_take (i := 7) (oi := { dst := some 29, op := Op.load 38 (Operand.tmp 28), type := 38, pos := "whole.go:23", after := #[{ on := 6, ground := Ground.data }], guard := none }) (v := .agg cs.toArray) rfl (by kernel_rfl) (by kernel_rfl) (by kernel_rfl) (fun _ _ _ h => h) (yieldsIf_load_mid (by rfl) 38 (.tmp 28) rfl vb (vo + i * 43) (by rfl) cs _ (fun _ h => h.2.2.2) Tryz.underlying38 rfl (unhide HI2)) (by assumption) ?_
          try simp only [Act.put, List.setIfInBounds_toArray, List.set_cons_zero, List.set_cons_succ]
          refine wpAnyH_ready (rs := [8]) (by kernel_rfl) (by simp) ?_
          refine AllReadyH.cons (o := { dst := some 30, op := Op.call { callee := Callee.value (Operand.func 31), args := #[Operand.tmp 25, Operand.tmp 29], argTypes := #[55, 38] }, type := 4, pos := "whole.go:23", after := #[{ on := 3, ground := Ground.data }, { on := 7, ground := Ground.data }], guard := none }) rfl (fun K hK => ?_) AllReadyH.nil
          go_simp
          refine (unhide HMX).mono ?_
          rintro e w5 ⟨rfl, hb5⟩
          have hb6 := (Below.refl wr.heap.size wr).drew.trans (hb5.mono (by simp))
          have HB5 := hide hb6
          have h5 := (And.intro ((hb6.cell (p := ⟨ub, uo + k * 3, none⟩) hub).trans c0) (And.intro ((hb6.cell (p := ⟨ub, uo + k * 3 + 1, none⟩) hub).trans c1) (And.intro ((hb6.cell (p := ⟨ub, uo + k * 3 + 2, none⟩) hub).trans c2) (range_bel (unhide HR).2 (unhide HR).1 (bl_t (unhide HBK) hb6)))))
          refine hK.out _ _ h5 (fun hHeld => ?_)
          clear hb5 hb6
          clear hK K
          try simp only [Act.put, List.setIfInBounds_toArray, List.set_cons_zero, List.set_cons_succ]
          refine wpAnyH_take (i := 9) (oi := { dst := some 9, op := Op.assign (Operand.tmp 30), type := 4, pos := "whole.go:23", after := #[{ on := 8, ground := Ground.data }, { on := 8, ground := Ground.chain }, { on := 0, ground := Ground.phase }, { on := 1, ground := Ground.phase }, { on := 2, ground := Ground.phase }, { on := 3, ground := Ground.phase }, { on := 4, ground := Ground.phase }, { on := 5, ground := Ground.phase }, { on := 6, ground := Ground.phase }, { on := 7, ground := Ground.phase }, { on := 8, ground := Ground.phase }], guard := none }) (v := ?_) rfl (by kernel_rfl) (by kernel_rfl) (by kernel_rfl) (fun _ _ _ h => h) (Or.inl ⟨by rfl, ?_⟩) (by assumption) ?_
          rotate_left
          · intro w hSw; (try dsimp only at hSw); go_simp; (try with_reducible rfl)
          try simp only [Act.put, List.setIfInBounds_toArray, List.set_cons_zero, List.set_cons_succ]
          refine wpAnyH_done (by kernel_rfl) ?_ _
          have HB6 := hide (bl_t (unhide HBK) (unhide HB5))
          clear c0 c1 c2 h5 hHeld HMX HRW HB5
          cases hm : mP ps x i with
          | false =>
            have HN3 := hide (unhide HNK2 (by rw [hm]; rfl))
            clear hm HYES HNK2
            go_wp2_with fail
            go_roundg (M - (k + 1))
            case measure => omega
            case rel => exact ⟨k + 1, by go_num, by omega, by omega, HB6, HN3⟩
          | true =>
            by_cases hb : (i : Int) = but
            · have HN3 := hide (unhide HNK2 (by unfold hitP; rw [hm, decide_eq_true hb]; rfl))
              have hb2 : ((i : Int) != but) = false := by rw [hb]; simp
              clear hm HYES HNK2 hb
              go_wp2_with fail
              go_roundg (M - (k + 1))
              case measure => omega
              case rel => exact ⟨k + 1, by go_num, by omega, by omega, HB6, HN3⟩
            · have HF := hide (unhide HYES hm (by unfold hitP; rw [decide_eq_false hb]; rfl))
              have hb2 : ((i : Int) != but) = true := by simpa using hb
              clear hm HYES HNK2 hb
              go_wp2_with fail
              go_ret
              exact ⟨ret_bb (unhide HF).symm, bl_t (unhide HB) (unhide HB6)⟩
        · have hkz : ¬ (k : Int) < (M : Int) := by omega
          have HNO2 := hide (show ∀ j, j < i + 1 → ∀ a ∈ al, (mP ps a j && hitP (fun _ => true) but j) = false from fun j hj a haa => by
            by_cases e : j = i
            · subst e
              exact unhide HNK a (by rw [List.take_of_length_le (by have := unhide HL; omega)]; exact haa)
            · exact unhide HNO j (by omega) a haa)
          have HB2 := hide (bl_t (unhide HB) (unhide HBK))
          go_wp2_with fail
          go_roundg (N - (i + 1))
          case measure => omega
          case rel => exact ⟨i + 1, by go_num, by omega, by omega, HB2, HNO2⟩
    · have HF := hide (imP_no (ps := ps) (inn := fun _ => true) (but := but) (al := al) fun j hj a haa => unhide HNO j (by have := unhide HN; omega) a haa)
      go_wp2_with fail
      go_ret
      exact ⟨ret_bb (unhide HF).symm, unhide HB⟩
end Go.Proofs.YtjnbnndocinicaaGreatDoor
namespace Go.Proofs.YtjnbnndocinicaaGreatDoor
open Go.RowKit Go.Maps

/-- ALL CLAUSES OF EACH PACKAGE ARE MET. -/
def Cl1 (ps : List Pk) (i : Nat) (q : Pk) : Prop := (∀ al ∈ q.dp, imP ps (fun _ => true) (-1) al = true) ∧ (∀ al ∈ q.pr, imP ps (fun _ => true) (i : Int) al = true)
def Cld (ps : List Pk) : Prop := ∀ (i : Nat) (q : Pk), ps[i]? = some q → Cl1 ps i q
theorem Cls.at3 {w : World} {va : Option Addr} {n vc : Nat} {cl : List (List At)} (h : Cls w (.slice va n vc) cl) {k : Nat} {al : List At} (hx : cl[k]? = some al) : ∃ b o xa xc, va = some ⟨b, o, none⟩ ∧ w.cell? ⟨b, o + k, none⟩ = some (.slice xa al.length xc) ∧ Ats w (.slice xa al.length xc) al := by
  have hk := (List.getElem?_eq_some_iff.1 hx).1
  obtain ⟨a, c, e, h2⟩ := h
  injection e with e1 e2 e3
  subst e1
  obtain ⟨b, o, rfl, _, h5⟩ := h2 (by omega)
  obtain ⟨xa, xc, k1, k2⟩ := h5 k al hx
  exact ⟨b, o, xa, xc, rfl, k1, k2⟩
set_option maxRecDepth 100000 in
set_option maxHeartbeats 4000000 in
theorem closed_any {w : World} {v : Value} {ps : List Pk} (sm : SmP ps) (pk : Pkl w v ps) :
    Calls Tryz.prog 7 #[v] w fun e w' => ∃ b : Bool, e = .returned (.bool b) ∧ (b = true ↔ Cld ps) ∧ RowKit.Below w.heap.size w w' := by
  obtain ⟨va, vc, rfl⟩ : ∃ a c, v = .slice a ps.length c := let ⟨a, c, e, _⟩ := pk; ⟨a, c, e⟩
  have hl := sm.l
  have HP := hide pk
  have HSM := hide sm
  clear sm pk
  obtain ⟨N, hN⟩ : ∃ N, ps.length = N := ⟨_, rfl⟩
  have HN := hide hN
  have HP2 := hide (show Pkl w (.slice va N vc) ps from by rw [← hN]; exact unhide HP)
  clear HP
  rw [hN] at hl ⊢
  clear hN
  go_enter Tryz.func7, Tryz.ntmps7
  go_wp2_with fail
  go_loopg [3, 4, 5, 6, 7] N (fun gq vi _ _ _ _ wr => ∃ i : Nat, vi = .int .i64 i ∧ i ≤ N ∧ N - i ≤ gq ∧ Hid (RowKit.Below w.heap.size w wr) ∧ Hid (∀ j q, j < i → ps[j]? = some q → Cl1 ps j q))
  case atStart => exact ⟨0, by go_num, by omega, by omega, hide (Below.refl _ _), hide (fun j q hj => absurd hj (Nat.not_lt_zero _))⟩
  case round =>
    obtain ⟨i, rfl, hi, hg, HB, HNO⟩ := hrel
    by_cases hlt : i < N
    · have hiz : (i : Int) < (N : Int) := by omega
      obtain ⟨q, hq⟩ : ∃ q, ps[i]? = some q := ⟨_, List.getElem?_eq_getElem (by have := unhide HN; omega)⟩
      have hmem := List.mem_of_getElem? hq
      obtain ⟨vb, vo, vc2, cs, dd, rr, cc, pv, ff, e0, hvb, hr, hpc, hll⟩ := (unhide HP2).at2 hq
      have e1 : va = some ⟨vb, vo, none⟩ := by injection e0
      subst e1
      obtain ⟨da, dc, rfl⟩ : ∃ a c, dd = .slice a q.dp.length c := let ⟨a, c, e, _⟩ := hll.dl; ⟨a, c, e⟩
      obtain ⟨ra, rc, rfl⟩ : ∃ a c, rr = .slice a q.pr.length c := let ⟨a, c, e, _⟩ := hll.rl; ⟨a, c, e⟩
      have hdl : q.dp.length ≤ 1048576 := Nat.le_trans (le_sum (fun p : Pk => p.dp.length) hmem) (unhide HSM).sd
      have hrl : q.pr.length ≤ 1048576 := Nat.le_trans (le_sum (fun p : Pk => p.pr.length) hmem) (unhide HSM).sr
      have HC3 := hide (show ∀ X, RowKit.Below w.heap.size w X → X.cell? ⟨vb, vo + i * 43 + 3, none⟩ = some (.slice da q.dp.length dc) from fun X hX => (hX.cell (p := ⟨vb, _, none⟩) hvb).trans (hr 3 _ hpc.c3))
      have HC4 := hide (show ∀ X, RowKit.Below w.heap.size w X → X.cell? ⟨vb, vo + i * 43 + 4, none⟩ = some (.slice ra q.pr.length rc) from fun X hX => (hX.cell (p := ⟨vb, _, none⟩) hvb).trans (hr 4 _ hpc.c4))
      have HD := hide hll.dl
      have HR := hide hll.rl
      have HQ := hide hq
      have HMM := hide hmem
      have HCD := hide (show ∀ X al u (but : Int), RowKit.Below w.heap.size w X → (al ∈ q.dp ∨ al ∈ q.pr) → Ats X u al → Calls Tryz.prog 18 #[.slice (some ⟨vb, vo, none⟩) N vc, u, .int .i64 but] X fun e w' => e = .returned (.bool (imP ps (fun _ => true) but al)) ∧ RowKit.Below X.heap.size X w' from fun X al u but hX hal ha => by
        have h2 : al.length ≤ 1048576 ∧ ∀ a ∈ al, a.n.size ≤ maxLen ∧ a.v.size ≤ maxLen := by
          rcases hal with h | h
          · exact (unhide HSM).d q hmem al h
          · exact (unhide HSM).r q hmem al h
        exact mts_any but (unhide HSM) h2.1 (fun a haa => (h2.2 a haa).2) ((unhide HP2).later hX) ha)
      clear e0 hq hvb hr hpc hll hmem
      obtain ⟨W1, rfl⟩ : ∃ W, W = wr := ⟨_, rfl⟩
      obtain ⟨D, hD⟩ : ∃ D, q.dp.length = D := ⟨_, rfl⟩
      obtain ⟨R, hR⟩ : ∃ R, q.pr.length = R := ⟨_, rfl⟩
      rw [hD] at hdl HC3 HD
      rw [hR] at hrl HC4 HR
      have HLD := hide hD
      have HLR := hide hR
      clear hD hR
      go_wp2_with fail
      go_loopg [4, 5] D (fun gq vk _ wq => ∃ k : Nat, vk = .int .i64 k ∧ k ≤ D ∧ D - k ≤ gq ∧ Hid (RowKit.Below w.heap.size w wq) ∧ Hid (∀ al ∈ q.dp.take k, imP ps (fun _ => true) (-1) al = true))
      case atStart => exact ⟨0, by go_num, by omega, by omega, HB, hide (fun a h => by simp at h)⟩
      case round =>
        clear HB
        obtain ⟨k, rfl, hk, hgk, HBK, HNK⟩ := hrel
        have c3 := unhide HC3 wr (unhide HBK)
        by_cases hlk : k < D
        · have hkz : (k : Int) < (D : Int) := by omega
          obtain ⟨al, hx⟩ : ∃ x, q.dp[k]? = some x := ⟨_, List.getElem?_eq_getElem (by have := unhide HLD; omega)⟩
          obtain ⟨ub, uo, xa, xc, rfl, u0, hat⟩ := ((unhide HD).later (unhide HBK)).at3 hx
          have CM := hide (unhide HCD wr al _ (-1) (unhide HBK) (.inl (List.mem_of_getElem? hx)) hat)
          have HNK2 := hide (show imP ps (fun _ => true) (-1) al = true → ∀ a ∈ q.dp.take (k + 1), imP ps (fun _ => true) (-1) a = true from fun h a haa => by
            rw [List.take_add_one, hx] at haa
            rcases List.mem_append.1 haa with q | q
            · exact unhide HNK a q
            · simp at q; subst q; exact h)
          have HFL := hide (show imP ps (fun _ => true) (-1) al = false → ¬ Cld ps from fun h hc => by
            rw [(hc i q (unhide HQ)).1 al (List.mem_of_getElem? hx)] at h; cases h)
          clear hx hat
          generalize imP ps (fun _ => true) (-1) al = b at *
          generalize al.length = L at *
          cases b with
          | true =>
            have HN3 := hide (unhide HNK2 rfl)
            clear HFL HNK2
            go_wp2_with (go_at_call 18; refine (unhide CM).mono ?_; rintro e w5 ⟨rfl, hb5⟩; have HB5 := hide (bl_t (unhide HBK) hb5); clear hb5 c3 u0 CM)
            go_roundg (D - (k + 1))
            case measure => omega
            case rel => exact ⟨k + 1, by go_num, by omega, by omega, HB5, HN3⟩
          | false =>
            have HF := hide (unhide HFL rfl)
            clear HFL HNK2
            go_wp2_with (go_at_call 18; refine (unhide CM).mono ?_; rintro e w5 ⟨rfl, hb5⟩; have HB5 := hide (bl_t (unhide HBK) hb5); clear hb5 c3 u0 CM)
            go_ret
            exact ⟨false, rfl, ⟨fun h => (by cases h), fun h => absurd h (unhide HF)⟩, unhide HB5⟩
        · have hkz : ¬ (k : Int) < (D : Int) := by omega
          have HD1 := hide (show ∀ al ∈ q.dp, imP ps (fun _ => true) (-1) al = true from fun a haa => unhide HNK a (by rw [List.take_of_length_le (by have := unhide HLD; omega)]; exact haa))
          go_wp2_with fail
          clear c3
          go_loopg [6, 7] R (fun gq vk _ wq => ∃ k : Nat, vk = .int .i64 k ∧ k ≤ R ∧ R - k ≤ gq ∧ Hid (RowKit.Below w.heap.size w wq) ∧ Hid (∀ al ∈ q.pr.take k, imP ps (fun _ => true) (i : Int) al = true))
          case atStart => exact ⟨0, by go_num, by omega, by omega, HBK, hide (fun a h => by simp at h)⟩
          case round =>
            clear HBK HNK
            obtain ⟨m, rfl, hm, hgm, HBM, HNM⟩ := hrel
            have c4 := unhide HC4 wr (unhide HBM)
            by_cases hlm : m < R
            · have hmz : (m : Int) < (R : Int) := by omega
              obtain ⟨al, hx⟩ : ∃ x, q.pr[m]? = some x := ⟨_, List.getElem?_eq_getElem (by have := unhide HLR; omega)⟩
              obtain ⟨ub, uo, xa, xc, rfl, u0, hat⟩ := ((unhide HR).later (unhide HBM)).at3 hx
              have CM := hide (unhide HCD wr al _ (i : Int) (unhide HBM) (.inr (List.mem_of_getElem? hx)) hat)
              have HNK2 := hide (show imP ps (fun _ => true) (i : Int) al = true → ∀ a ∈ q.pr.take (m + 1), imP ps (fun _ => true) (i : Int) a = true from fun h a haa => by
                rw [List.take_add_one, hx] at haa
                rcases List.mem_append.1 haa with q | q
                · exact unhide HNM a q
                · simp at q; subst q; exact h)
              have HFL := hide (show imP ps (fun _ => true) (i : Int) al = false → ¬ Cld ps from fun h hc => by
                rw [(hc i q (unhide HQ)).2 al (List.mem_of_getElem? hx)] at h; cases h)
              clear hx hat
              generalize imP ps (fun _ => true) (i : Int) al = b at *
              generalize al.length = L at *
              cases b with
              | true =>
                have HN3 := hide (unhide HNK2 rfl)
                clear HFL HNK2
                go_wp2_with (go_at_call 18; refine (unhide CM).mono ?_; rintro e w5 ⟨rfl, hb5⟩; have HB5 := hide (bl_t (unhide HBM) hb5); clear hb5 c4 u0 CM)
                go_roundg (R - (m + 1))
                case measure => omega
                case rel => exact ⟨m + 1, by go_num, by omega, by omega, HB5, HN3⟩
              | false =>
                have HF := hide (unhide HFL rfl)
                clear HFL HNK2
                go_wp2_with (go_at_call 18; refine (unhide CM).mono ?_; rintro e w5 ⟨rfl, hb5⟩; have HB5 := hide (bl_t (unhide HBM) hb5); clear hb5 c4 u0 CM)
                go_ret
                exact ⟨false, rfl, ⟨fun h => (by cases h), fun h => absurd h (unhide HF)⟩, unhide HB5⟩
            · have hmz : ¬ (m : Int) < (R : Int) := by omega
              have HNO2 := hide (show ∀ j p, j < i + 1 → ps[j]? = some p → Cl1 ps j p from fun j p hj hp => by
                by_cases e : j = i
                · subst e
                  rw [unhide HQ] at hp; cases hp
                  exact ⟨unhide HD1, fun a haa => unhide HNM a (by rw [List.take_of_length_le (by have := unhide HLR; omega)]; exact haa)⟩
                · exact unhide HNO j p (by omega) hp)
              go_wp2_with fail
              go_roundg (N - (i + 1))
              case measure => omega
              case rel => exact ⟨i + 1, by go_num, by omega, by omega, HBM, HNO2⟩
    · have HF := hide (show Cld ps from fun j q hq => unhide HNO j q (by have := (List.getElem?_eq_some_iff.1 hq).1; have := unhide HN; omega) hq)
      go_wp2_with fail
      go_ret
      exact ⟨true, rfl, ⟨fun _ => unhide HF, fun _ => rfl⟩, unhide HB⟩
end Go.Proofs.YtjnbnndocinicaaGreatDoor
namespace Go.Proofs.YtjnbnndocinicaaGreatDoor
open Go.RowKit Go.Maps

/-- NO NAME AND NO PATH TWICE, NOBODY CONFLICTS: OF TWO. -/
structure Ap1 (ps : List Pk) (i : Nat) (q : Pk) (k : Nat) (p : Pk) : Prop where
  nm : k < i → p.nm ≠ q.nm
  cf : k ≠ i → ∀ a ∈ q.cf, mP ps a k = false
  fs : ∀ (n m : Nat) (x y : List Value), q.fs[n]? = some x → p.fs[m]? = some y → (k ≠ i ∨ m ≠ n) → pathC y ≠ pathC x
def Apt (ps : List Pk) : Prop := ∀ (i k : Nat) (q p : Pk), ps[i]? = some q → ps[k]? = some p → Ap1 ps i q k p
theorem Fls.path {w : World} {va : Option Addr} {n vc : Nat} {fl : List (List Value)} (h : Fls w (.slice va n vc) fl) {k : Nat} {x : List Value} (hx : fl[k]? = some x) (hs : ∃ s : Nm, x[0]? = some (Value.string s) ∧ s.size ≤ maxLen) : ∃ b o, va = some ⟨b, o, none⟩ ∧ w.cell? ⟨b, o + k * 34, none⟩ = some (.string (pathC x)) := by
  obtain ⟨_, b, o, e, _, hr⟩ := h.at hx
  obtain ⟨s, hs, _⟩ := hs
  refine ⟨b, o, e, ?_⟩
  have := hr 0 _ hs
  rw [Nat.add_zero] at this
  rw [this]
  unfold pathC
  rw [hs]
end Go.Proofs.YtjnbnndocinicaaGreatDoor
namespace Go.Proofs.YtjnbnndocinicaaGreatDoor
open Go.RowKit Go.Maps

theorem twF_nil (ps : List Pk) (p : Nat) (q : Pk) : twF ps p q = [] ↔ ∀ k r, k < p → ps[k]? = some r → r.nm ≠ q.nm := by
  unfold twF
  rw [List.map_eq_nil_iff, List.filter_eq_nil_iff]
  constructor
  · intro h k r hk hr e
    refine h k (List.mem_range.2 hk) ?_
    unfold isN
    rw [hr]
    exact decide_eq_true e
  · intro h k hk
    unfold isN
    cases e : ps[k]? with
    | none => simp
    | some r => simpa using h k r (List.mem_range.1 hk) e
theorem unE_nil (ps : List Pk) (q : Pk) (kd : Int) (ix : Nat) (al : List At) (bt : Int) : unE ps q kd ix al bt = [] ↔ imP ps (fun _ => true) bt al = true := by
  unfold unE
  cases imP ps (fun _ => true) bt al <;> simp
theorem all_getD {P : List At → Prop} (l : List (List At)) : (∀ i, i < l.length → P (l.getD i [])) ↔ ∀ x ∈ l, P x := by
  constructor
  · intro h x hx
    obtain ⟨i, hi, rfl⟩ := List.getElem_of_mem hx
    have := h i hi
    rwa [List.getD_eq_getElem?_getD, List.getElem?_eq_getElem hi] at this
  · intro h i hi
    rw [List.getD_eq_getElem?_getD, List.getElem?_eq_getElem hi]
    exact h _ (List.getElem_mem hi)
theorem unF_nil (ps : List Pk) (p : Nat) (q : Pk) : unF ps p q = [] ↔ Cl1 ps p q := by
  unfold unF Cl1
  rw [List.append_eq_nil_iff, List.flatMap_eq_nil_iff, List.flatMap_eq_nil_iff, ← all_getD (P := fun al => imP ps (fun _ => true) (-1) al = true), ← all_getD (P := fun al => imP ps (fun _ => true) (p : Int) al = true)]
  exact ⟨fun h => ⟨fun i hi => (unE_nil ..).1 (h.1 i (List.mem_range.2 hi)), fun i hi => (unE_nil ..).1 (h.2 i (List.mem_range.2 hi))⟩, fun h => ⟨fun i hi => (unE_nil ..).2 (h.1 i (List.mem_range.1 hi)), fun i hi => (unE_nil ..).2 (h.2 i (List.mem_range.1 hi))⟩⟩
theorem cfJ_nil (ps : List Pk) (p : Nat) (q : Pk) : ∀ n, cfJ ps p q n = [] ↔ ∀ i a, i < n → q.cf[i]? = some a → ∀ k, k ≠ p → mP ps a k = false
  | 0 => by simp [cfJ]
  | n + 1 => by
    have ih := cfJ_nil ps p q n
    unfold cfJ
    rw [List.append_eq_nil_iff, ih]
    constructor
    · rintro ⟨h1, h2⟩ i a hi ha k hk
      by_cases e : i = n
      · subst e
        rw [ha] at h2
        simp only at h2
        unfold cfK at h2
        rw [List.map_eq_nil_iff, List.filter_eq_nil_iff] at h2
        rw [Bool.eq_false_iff]
        intro hm
        exact h2 k ((stP_mem ps a k).2 hm) (by simpa using hk)
      · exact h1 i a (by omega) ha k hk
    · intro h
      refine ⟨fun i a hi => h i a (by omega), ?_⟩
      cases e : q.cf[n]? with
      | none => rfl
      | some a =>
        simp only
        unfold cfK
        rw [List.map_eq_nil_iff, List.filter_eq_nil_iff]
        intro k hk
        have hm := (stP_mem ps a k).1 hk
        by_cases e2 : k = p
        · simp [e2]
        · rw [h n a (by omega) e k e2] at hm; cases hm
theorem paJ_nil (ps : List Pk) (p : Nat) (q : Pk) : ∀ n, paJ ps p q n = [] ↔ ∀ i x, i < n → q.fs[i]? = some x → paO ps p q i x = []
  | 0 => by simp [paJ]
  | n + 1 => by
    have ih := paJ_nil ps p q n
    unfold paJ
    rw [List.append_eq_nil_iff, ih]
    constructor
    · rintro ⟨h1, h2⟩ i x hi hx
      by_cases e : i = n
      · subst e
        rw [hx] at h2
        exact h2
      · exact h1 i x (by omega) hx
    · intro h
      refine ⟨fun i x hi => h i x (by omega), ?_⟩
      cases e : q.fs[n]? with
      | none => rfl
      | some x => exact h n x (by omega) e
/-- THE SPOTS OF ALL. -/
theorem spQ_mem2 (p : Nat) (fs : List (List Value)) (t : Nm × Nat × Nat) : t ∈ spQ p fs ↔ t.2.1 = p ∧ ∃ x, fs[t.2.2]? = some x ∧ pathC x = t.1 := by
  unfold spQ
  rw [List.mem_map]
  constructor
  · rintro ⟨⟨x, i⟩, hx, rfl⟩
    exact ⟨rfl, x, List.mk_mem_zipIdx_iff_getElem?.1 hx, rfl⟩
  · rintro ⟨h1, x, hx, h2⟩
    refine ⟨(x, t.2.2), List.mk_mem_zipIdx_iff_getElem?.2 hx, ?_⟩
    obtain ⟨a, b, c⟩ := t
    simp only at h1 h2 ⊢
    rw [h1, h2]
theorem spL_mem2 (ps : List Pk) : ∀ n (t : Nm × Nat × Nat), t ∈ spL ps n ↔ t.2.1 < n ∧ ∃ q x, ps[t.2.1]? = some q ∧ q.fs[t.2.2]? = some x ∧ pathC x = t.1
  | 0, t => by simp [spL]
  | n + 1, t => by
    have ih := spL_mem2 ps n t
    unfold spL
    rw [List.mem_append, ih]
    constructor
    · rintro (⟨h1, h2⟩ | h)
      · exact ⟨by omega, h2⟩
      · cases e : ps[n]? with
        | none => rw [e] at h; cases h
        | some q =>
          rw [e] at h
          obtain ⟨h1, x, h2, h3⟩ := (spQ_mem2 n q.fs t).1 h
          exact ⟨by omega, q, x, by rw [h1]; exact e, h2, h3⟩
    · rintro ⟨h1, q, x, h2, h3, h4⟩
      by_cases e : t.2.1 = n
      · rw [e] at h2
        refine .inr ?_
        rw [h2]
        exact (spQ_mem2 n q.fs t).2 ⟨e, x, h3, h4⟩
      · exact .inl ⟨by omega, q, x, h2, h3, h4⟩
theorem sp_at {ps : List Pk} {p i : Nat} {q : Pk} {x : List Value} (hq : ps[p]? = some q) (hx : q.fs[i]? = some x) : (pathC x, p, i) ∈ spL ps ps.length := (spL_mem2 ps _ _).2 ⟨(List.getElem?_eq_some_iff.1 hq).1, q, x, hq, hx, rfl⟩
theorem fst1_some2 {L : List (Nm × Nat × Nat)} {x : Nm} {t : Nat × Nat} (h : fst1 L x = some t) : (x, t) ∈ L := by
  unfold fst1 at h
  rw [Option.map_eq_some_iff] at h
  obtain ⟨s, h1, rfl⟩ := h
  have := List.find?_some h1
  have e : s.1 = x := of_decide_eq_true this
  have hm := List.mem_of_find?_eq_some h1
  rw [← e]
  exact hm
theorem fst1_in {L : List (Nm × Nat × Nat)} {x : Nm} {t : Nat × Nat} (h : (x, t) ∈ L) : ∃ s, fst1 L x = some s := by
  unfold fst1
  cases e : L.find? fun t => decide (t.1 = x) with
  | some s => exact ⟨_, rfl⟩
  | none =>
    rw [List.find?_eq_none] at e
    exact absurd (decide_eq_true rfl) (e (x, t) h)
/-- NO PATH TWICE. -/
theorem pa_all (ps : List Pk) : (∀ p q, ps[p]? = some q → paJ ps p q q.fs.length = []) ↔ ∀ (i k : Nat) (q p : Pk), ps[i]? = some q → ps[k]? = some p → ∀ (n m : Nat) (x y : List Value), q.fs[n]? = some x → p.fs[m]? = some y → (k ≠ i ∨ m ≠ n) → pathC y ≠ pathC x := by
  constructor
  · intro h i k q p hq hp n m x y hx hy ho e
    have h1 := (paJ_nil ps i q _).1 (h i q hq) n x (List.getElem?_eq_some_iff.1 hx).1 hx
    have h2 := (paJ_nil ps k p _).1 (h k p hp) m y (List.getElem?_eq_some_iff.1 hy).1 hy
    obtain ⟨s, hs⟩ := fst1_in (sp_at hq hx)
    unfold paO at h1 h2
    rw [e, hs] at h2
    rw [hs] at h1
    simp only at h1 h2
    by_cases e1 : s = (i, n)
    · rw [if_neg (fun e2 => by rw [e1] at e2; injection e2 with a b; omega)] at h2; cases h2
    · rw [if_neg e1] at h1; cases h1
  · intro h p q hq
    rw [paJ_nil]
    intro i x _ hx
    unfold paO
    obtain ⟨s, hs⟩ := fst1_in (sp_at hq hx)
    rw [hs]
    simp only
    have hm := fst1_some2 hs
    obtain ⟨_, r, y, h1, h2, h3⟩ := (spL_mem2 ps _ _).1 hm
    simp only at h1 h2 h3
    by_cases e : s = (p, i)
    · rw [if_pos e]
    · refine absurd h3 (h p s.1 q r hq h1 i s.2 x y hx h2 ?_)
      by_cases e1 : s.1 = p
      · right; intro e2; exact e (by rw [← e1, ← e2])
      · exact .inl e1
/-- VALID SAYS WHAT THE WORDS SAY. -/
theorem words (ps : List Pk) : (∀ i q, ps[i]? = some q → ftA ps i q = []) ↔ Cld ps ∧ Apt ps := by
  have hA : ∀ i q, ftA ps i q = [] ↔ twF ps i q = [] ∧ unF ps i q = [] ∧ cfJ ps i q q.cf.length = [] ∧ paJ ps i q q.fs.length = [] := fun i q => by
    unfold ftA
    rw [List.append_eq_nil_iff, List.append_eq_nil_iff, List.append_eq_nil_iff]
    exact ⟨fun h => ⟨h.1.1.1, h.1.1.2, h.1.2, h.2⟩, fun h => ⟨⟨⟨h.1, h.2.1⟩, h.2.2.1⟩, h.2.2.2⟩⟩
  constructor
  · intro h
    have hp := (pa_all ps).1 fun p q hq => ((hA p q).1 (h p q hq)).2.2.2
    refine ⟨fun i q hq => (unF_nil ps i q).1 ((hA i q).1 (h i q hq)).2.1, fun i k q p hq hp2 => ⟨fun hk => ?_, fun hk a ha => ?_, hp i k q p hq hp2⟩⟩
    · exact (twF_nil ps i q).1 ((hA i q).1 (h i q hq)).1 k p hk hp2
    · obtain ⟨j, hj, rfl⟩ := List.getElem_of_mem ha
      exact (cfJ_nil ps i q _).1 ((hA i q).1 (h i q hq)).2.2.1 j _ hj (List.getElem?_eq_getElem hj) k hk
  · rintro ⟨hc, ha⟩ i q hq
    refine (hA i q).2 ⟨(twF_nil ps i q).2 fun k r hk hr => (ha i k q r hq hr).nm hk, (unF_nil ps i q).2 (hc i q hq), (cfJ_nil ps i q _).2 fun j a _ hj k hk => ?_, (pa_all ps).2 (fun i k q p hq hp => (ha i k q p hq hp).fs) i q hq⟩
    cases e : ps[k]? with
    | none => unfold mP; rw [e]
    | some r => exact (ha i k q r hq e).cf hk a (List.mem_of_getElem? hj)
end Go.Proofs.YtjnbnndocinicaaGreatDoor
namespace Go.Proofs.YtjnbnndocinicaaGreatDoor
open Go.RowKit Go.Maps

def sAA : ByteArray := ⟨#[97, 97]⟩
def sBB : ByteArray := ⟨#[98, 98]⟩
def sOne : ByteArray := ⟨#[49]⟩
/-- THE LITERAL PACKAGES. -/
def litC (n : ByteArray) (d : Value) : List Value := [.string n, .string sOne, .bool false, d, .slice none 0 0, .slice none 0 0, .slice none 0 0, .slice none 0 0, .string ⟨#[]⟩, .int .i64 0] ++ (List.replicate 32 (.int .u8 0) ++ [.string ⟨#[]⟩])
theorem buildA (g : Nat) : Tryz.prog.built 38 [(0, .string ⟨#[97, 97]⟩), (1, .string ⟨#[49]⟩), (3, .slice (some ⟨g, 0, none⟩) 1 1)] = some (litC sAA (.slice (some ⟨g, 0, none⟩) 1 1)).toArray := by kernel_rfl
theorem buildB : Tryz.prog.built 38 [(0, .string ⟨#[98, 98]⟩), (1, .string ⟨#[49]⟩)] = some (litC sBB (.slice none 0 0)).toArray := by kernel_rfl
theorem litC_len (n : ByteArray) (d : Value) : (litC n d).length = 43 := by simp [litC]
theorem litC_one (n : ByteArray) {d : Value} (hd : d.oneCell' = true) : ∀ x ∈ litC n d, x.oneCell' = true := by
  intro x hx
  unfold litC at hx
  simp only [List.mem_append, List.mem_cons, List.mem_replicate, List.not_mem_nil, or_false] at hx
  rcases hx with (rfl | rfl | rfl | rfl | rfl | rfl | rfl | rfl | rfl | rfl) | ⟨_, rfl⟩ | rfl
  all_goals first | rfl | exact hd
section
variable {ops : Array Oper} {rest : List Oper} {o : Oper} {a : Act} {w : World} {Q : Exit → Act → World → Prop}
theorem p_build (parts : Array (Nat × Operand)) (ho : o.op = .build 38 parts) (hg : o.guard = none) (cs : List Value) (hb : Tryz.prog.built 38 (parts.map fun (i, x) => (i, a.eval x)).toList = some cs.toArray)
    (h : wpList Tryz.prog ops Q rest (a.put o.dst (.agg cs.toArray)) w) : wpList Tryz.prog ops Q (o :: rest) a w :=
  wpList_build hg _ parts ho (by rw [hb]; rfl) (by rw [hb]; exact h)
/-- A SLICE OF SOME PACKAGES. -/
theorem p_sl (L : List (List Value)) (hL : ∀ l ∈ L, l.length = 43) (h0 : 0 < L.length) (h1 : L.length ≤ 1000) (parts : Array (Nat × Operand)) (ho : o.op = .buildSlice 22 L.length parts) (hw : Region.wanted o (yielded ops a.tmps) = true)
    (hp : (parts.map fun (i, x) => (i, a.eval x)).toList = ((L.map fun l => Value.agg l.toArray).zipIdx 0).map fun x => (x.2, x.1))
    (h : ∀ w2, (∀ (i : Nat) (l : List Value), L[i]? = some l → w2.rangeAt w.heap.size (i * 43) l) → Below w.heap.size w w2 → w.heap.size < w2.heap.size → wpList Tryz.prog ops Q rest (a.put o.dst (.slice (some ⟨w.heap.size, 0, none⟩) L.length L.length)) w2) : wpList Tryz.prog ops Q (o :: rest) a w := by
  refine BigFrame.wpList_want hw fun K hK => ?_
  obtain ⟨zc, i1, i2, i3⟩ := infoP
  cases hie : Tryz.prog.info? 38 with
  | none => rw [hie] at i1; cases i1
  | some ie =>
    rw [hie] at i1
    simp only [Option.map_some, Option.some.injEq, Prod.mk.injEq] at i1
    obtain ⟨hz, hs⟩ := i1
    obtain ⟨r, hr, hsz, hk⟩ := Great.fill_dense (s := 43) (by decide) (L.map fun l => Value.agg l.toArray) 0 ((Array.range (L.length * 43)).map ((Value.agg zc.toArray).cells[· % (Value.agg zc.toArray).cells.size]!)) (fun v hv => by obtain ⟨l, hl, rfl⟩ := List.mem_map.1 hv; simp [Value.cells, hL l hl]) (by simp)
    refine wp_buildSlice 22 38 L.length parts ho r ie (.agg zc.toArray) Tryz.underlying22 hie hz (by rw [hs]; omega) (by rw [hs]; omega) (by rw [hp, hs]; exact hr) (hK _ _ ?_)
    refine h _ (fun i l hi => ?_) ((Below.refl _ _).alloc (Nat.le_refl _) _) (by simp)
    intro j v hj
    rw [World.cell?_alloc_new, hk]
    have hi2 := (List.getElem?_eq_some_iff.1 hi).1
    have hj2 := (List.getElem?_eq_some_iff.1 hj).1
    rw [hL l (List.mem_of_getElem? hi)] at hj2
    rw [if_pos ⟨by omega, by rw [List.length_map]; omega⟩, show (i * 43 + j) / 43 - 0 = i by omega, show (i * 43 + j) % 43 = j by omega, List.getElem?_map, hi]
    simpa [Value.cells] using hj
end
def pkL (n : ByteArray) (dp : List (List At)) : Pk := ⟨n, sOne, false, dp, [], [], [], [], ⟨#[]⟩, 0, List.replicate 32 (.int .u8 0), ⟨#[]⟩⟩
def atB : At := ⟨sBB, 0, ⟨#[]⟩⟩
theorem litC_pk (n : ByteArray) (dp : List (List At)) {d : Value} (hd : d.oneCell' = true) : PkC (litC n d) (pkL n dp) d (.slice none 0 0) (.slice none 0 0) (.slice none 0 0) (.slice none 0 0) := by
  refine ⟨litC_len n d, litC_one n hd, rfl, rfl, rfl, rfl, rfl, rfl, rfl, rfl, rfl, rfl, fun j x hj => ?_, rfl⟩
  have hl : j < 32 := by have := (List.getElem?_eq_some_iff.1 hj).1; simpa [pkL] using this
  unfold litC
  rw [List.getElem?_append_right (by simp), List.getElem?_append_left (by simp; omega)]
  simpa [pkL] using hj
theorem nil_pk (w : World) {d : Value} {dp : List (List At)} (n : ByteArray) (hd : Cls w d dp) : PkL w (pkL n dp) d (.slice none 0 0) (.slice none 0 0) (.slice none 0 0) (.slice none 0 0) :=
  ⟨hd, ⟨none, 0, rfl, fun h => absurd h (by simp [pkL])⟩, ⟨none, 0, rfl, by simp [pkL], fun i h => absurd h (by simp [pkL])⟩, ⟨none, 0, rfl, by simp [pkL], fun i h => absurd h (by simp [pkL])⟩, ⟨none, 0, rfl, by simp [pkL], fun i h => absurd h (by simp [pkL])⟩⟩
end Go.Proofs.YtjnbnndocinicaaGreatDoor
namespace Go.Proofs.YtjnbnndocinicaaGreatDoor
open Go.RowKit Go.Maps

theorem meets_lit (n : ByteArray) : meetsA sBB 0 ⟨#[]⟩ n sOne [] = decide (n = sBB) := by
  unfold meetsA fitsA
  rw [if_pos rfl, Bool.and_true, show Lib.containsS [] sBB = false from (by rw [Bool.eq_false_iff]; intro h; have := (Lib.containsS_iff _ _).1 h; cases this), Bool.and_false, Bool.or_false]
  by_cases e : n = sBB
  · rw [toList_eq.2 e, decide_eq_true e]
  · rw [Bool.eq_false_iff.2 fun h => e (toList_eq.1 h), decide_eq_false e]
abbrev ps1 : List Pk := [pkL sAA [[atB]]]
abbrev ps2 : List Pk := [pkL sAA [[atB]], pkL sBB []]
theorem ab_ne : sAA ≠ sBB := by unfold sAA sBB; intro h; injection h with h; injection h with h; injection h with h; cases h
theorem sm_of (ps : List Pk) (hl : ps.length ≤ 2) (h : ∀ p ∈ ps, p = pkL sAA [[atB]] ∨ p = pkL sBB []) : SmP ps := by
  have hsum : ∀ g : Pk → Nat, (∀ p ∈ ps, g p ≤ 1) → (ps.map g).sum ≤ 1048576 := fun g hg => by
    have : ∀ qs : List Pk, (∀ p ∈ qs, g p ≤ 1) → (qs.map g).sum ≤ qs.length := fun qs => by
      induction qs with
      | nil => intro _; exact Nat.le_refl _
      | cons q qs ih =>
        intro hq
        rw [List.map_cons, List.sum_cons, List.length_cons]
        have := ih fun p hp => hq p (List.mem_cons_of_mem _ hp)
        have := hq q List.mem_cons_self
        omega
    have := this ps hg
    omega
  refine ⟨by omega, hsum _ fun p hp => ?_, hsum _ fun p hp => ?_, hsum _ fun p hp => ?_, hsum _ fun p hp => ?_, hsum _ fun p hp => ?_, fun p hp => ?_, fun p hp => ?_, fun p hp => ?_, fun p hp => ?_, fun p hp => ?_⟩
  all_goals rcases h p hp with rfl | rfl
  all_goals first
    | (simp [pkL]; done)
    | (refine ⟨by decide, by decide, fun n hn => by cases hn⟩)
    | (intro al hal; simp [pkL] at hal; subst hal; refine ⟨by decide, fun a ha => ?_⟩; simp at ha; subst ha; exact ⟨by decide, by decide⟩)
theorem sm1 : SmP ps1 := sm_of _ (by decide) (fun p hp => by simp at hp; exact .inl hp)
theorem sm2 : SmP ps2 := sm_of _ (by decide) (fun p hp => by simpa using hp)
theorem mP_atB (ps : List Pk) (i : Nat) (n : ByteArray) (dp : List (List At)) (h : ps[i]? = some (pkL n dp)) : mP ps atB i = decide (n = sBB) := by
  rw [mP_at h]
  exact meets_lit n
theorem val2 : ∀ i q, ps2[i]? = some q → ftA ps2 i q = [] := by
  rw [words]
  refine ⟨fun i q hq => ?_, fun i k q p hq hp => ?_⟩
  · match i, hq with
    | 0, hq =>
      cases hq
      refine ⟨fun al hal => ?_, fun al hal => by cases hal⟩
      obtain rfl : al = [atB] := by simpa [pkL] using hal
      exact imP_yes (i := 1) (a := atB) (by simp) (by rw [mP_atB ps2 1 sBB [] rfl]; exact decide_eq_true rfl) rfl
    | 1, hq =>
      cases hq
      exact ⟨fun al hal => (by cases hal), fun al hal => by cases hal⟩
  · have hq2 : q.cf = [] ∧ q.fs = [] := by
      match i, hq with
      | 0, hq => cases hq; exact ⟨rfl, rfl⟩
      | 1, hq => cases hq; exact ⟨rfl, rfl⟩
    refine ⟨fun hk e => ?_, fun _ a ha => (by rw [hq2.1] at ha; cases ha), fun n m x y hx => by rw [hq2.2] at hx; simp at hx⟩
    match i, k, hq, hp, hk with
    | 1, 0, hq, hp, _ => cases hq; cases hp; exact ab_ne e
theorem im1 : imP ps1 (fun _ => true) (-1) [atB] = false := imP_no fun i hi a ha => by
  obtain rfl : i = 0 := by simpa using hi
  obtain rfl : a = atB := by simpa using ha
  rw [mP_atB ps1 0 sAA [[atB]] rfl, decide_eq_false ab_ne]
  rfl
theorem ft1 : ftL ps1 1 = [⟨2, sAA, sOne, 0, ⟨#[]⟩, ⟨#[]⟩⟩] := by
  have h : ftA ps1 0 (pkL sAA [[atB]]) = [⟨2, sAA, sOne, 0, ⟨#[]⟩, ⟨#[]⟩⟩] := by
    unfold ftA twF unF
    show [] ++ (([0].flatMap fun i => unE ps1 (pkL sAA [[atB]]) 2 i ([[atB]].getD i []) (-1)) ++ []) ++ [] ++ [] = _
    have e : unE ps1 (pkL sAA [[atB]]) 2 0 [atB] (-1) = [⟨2, sAA, sOne, 0, ⟨#[]⟩, ⟨#[]⟩⟩] := by unfold unE; rw [im1]; rfl
    simp only [List.flatMap_cons, List.flatMap_nil, List.append_nil, List.nil_append]
    exact e
  show [] ++ ftA ps1 0 (pkL sAA [[atB]]) = _
  rw [h]; rfl
theorem inv1 : ¬ ∀ i q, ps1[i]? = some q → ftA ps1 i q = [] := fun h => by
  have := ft1
  rw [show ftL ps1 1 = [] ++ ftA ps1 0 (pkL sAA [[atB]]) from rfl, h 0 _ rfl] at this
  cases this
end Go.Proofs.YtjnbnndocinicaaGreatDoor
namespace Go.Proofs.YtjnbnndocinicaaGreatDoor
open Go.RowKit Go.Maps

theorem new_bk {wr w2 w3 : World} {cs : List Value} (k2 : Below wr.heap.size wr w2) (b3 : BkP w3 wr.heap.size cs) (k3 : ∀ B, B ≤ wr.heap.size → Below B w2 w3) : Hid (Below wr.heap.size wr w3) ∧ Hid (BkP w3 wr.heap.size cs) :=
  ⟨hide (k2.trans (k3 _ (Nat.le_refl _))), hide b3⟩
section
variable {ops : Array Oper} {rest : List Oper} {o : Oper} {a : Act} {w : World} {Q : Exit → Act → World → Prop}
theorem p_lit (parts : Array (Nat × Operand)) (ho : o.op = .build 38 parts) (hg : o.guard = none) (l : List (Nat × Value)) (hp : (parts.map fun (i, x) => (i, a.eval x)).toList = l) (cs : List Value) (hb : Tryz.prog.built 38 l = some cs.toArray)
    (h : wpList Tryz.prog ops Q rest (a.put o.dst (.agg cs.toArray)) w) : wpList Tryz.prog ops Q (o :: rest) a w := p_build parts ho hg cs (by rw [hp]; exact hb) h
theorem p_sl1 (x : Operand) (ho : o.op = .buildSlice 22 1 #[(0, x)]) (hw : Region.wanted o (yielded ops a.tmps) = true) (c1 : List Value) (hx : a.eval x = .agg c1.toArray) (h1 : c1.length = 43)
    (h : ∀ w2, w2.rangeAt w.heap.size (0 + 0 * 43) c1 → Below w.heap.size w w2 → w.heap.size < w2.heap.size → wpList Tryz.prog ops Q rest (a.put o.dst (.slice (some ⟨w.heap.size, 0, none⟩) 1 1)) w2) : wpList Tryz.prog ops Q (o :: rest) a w :=
  p_sl [c1] (fun l hl => by simp at hl; subst hl; exact h1) (by simp) (by simp) _ ho hw (by simp [hx]) fun w2 hr hb hs => h w2 (by have := hr 0 c1 rfl; rwa [Nat.zero_mul, ← Nat.add_zero 0, ← Nat.zero_mul 43] at this) hb hs
theorem p_sl2 (x y : Operand) (ho : o.op = .buildSlice 22 2 #[(0, x), (1, y)]) (hw : Region.wanted o (yielded ops a.tmps) = true) (c1 c2 : List Value) (hx : a.eval x = .agg c1.toArray) (hy : a.eval y = .agg c2.toArray) (h1 : c1.length = 43) (h2 : c2.length = 43)
    (h : ∀ w2, w2.rangeAt w.heap.size (0 + 0 * 43) c1 → w2.rangeAt w.heap.size (0 + 1 * 43) c2 → Below w.heap.size w w2 → w.heap.size < w2.heap.size → wpList Tryz.prog ops Q rest (a.put o.dst (.slice (some ⟨w.heap.size, 0, none⟩) 2 2)) w2) : wpList Tryz.prog ops Q (o :: rest) a w :=
  p_sl [c1, c2] (fun l hl => by simp at hl; rcases hl with rfl | rfl <;> assumption) (by simp) (by simp) _ ho hw (by simp [hx, hy]) fun w2 hr hb hs => h w2 (by have := hr 0 c1 rfl; simpa using this) (by have := hr 1 c2 rfl; simpa using this) hb hs
end
/-- THE BLOCKS OF THE LITERAL CLAUSE. -/
def LitW (w : World) (g : Nat) : Prop := w.heap[g]? = some (.cells #[.string ⟨#[98, 98]⟩, .int .i64 0, .string ⟨#[]⟩] 55 (0, 0)) ∧ w.heap[g + 1]? = some (.cells #[.slice (some ⟨g, 0, none⟩) 1 1] 53 (0, 0))
theorem LitW.later {w w2 : World} {g : Nat} (h : LitW w g) (hb : Below w.heap.size w w2) : LitW w2 g := ⟨(hb.block _ (blk_lt h.1)).trans h.1, (hb.block _ (blk_lt h.2)).trans h.2⟩
theorem LitW.cls {w : World} {g : Nat} (h : LitW w g) : Cls w (.slice (some ⟨g + 1, 0, none⟩) 1 1) [[atB]] := by
  refine cls_one (cell_blk h.2 0).1 (blk_lt h.2) ⟨some ⟨g, 0, none⟩, 1, rfl, by simp, fun i hi => ?_⟩
  obtain rfl : i = 0 := by simpa using hi
  exact ⟨g, 0, rfl, blk_lt h.1, (cell_blk h.1 0).1, (cell_blk h.1 1).1, (cell_blk h.1 2).1⟩
abbrev cA (g : Nat) : List Value := litC sAA (.slice (some ⟨g + 1, 0, none⟩) 1 1)
abbrev cB : List Value := litC sBB (.slice none 0 0)
theorem pk_one {w : World} {g b : Nat} (h : LitW w g) (hb : b < w.heap.size) (hr : w.rangeAt b (0 + 0 * 43) (cA g)) : Pkl w (.slice (some ⟨b, 0, none⟩) 1 1) ps1 :=
  ⟨_, _, rfl, fun _ => ⟨b, 0, rfl, hb, fun i p hp => by
    match i, hp with
    | 0, hp => cases hp; exact ⟨_, _, _, _, _, _, hr, litC_pk sAA _ rfl, nil_pk w sAA h.cls⟩⟩⟩
theorem pk_two {w : World} {g b : Nat} (h : LitW w g) (hb : b < w.heap.size) (hr : w.rangeAt b (0 + 0 * 43) (cA g)) (hr2 : w.rangeAt b (0 + 1 * 43) cB) : Pkl w (.slice (some ⟨b, 0, none⟩) 2 2) ps2 :=
  ⟨_, _, rfl, fun _ => ⟨b, 0, rfl, hb, fun i p hp => by
    match i, hp with
    | 0, hp => cases hp; exact ⟨_, _, _, _, _, _, hr, litC_pk sAA _ rfl, nil_pk w sAA h.cls⟩
    | 1, hp => cases hp; exact ⟨_, _, _, _, _, _, hr2, litC_pk sBB _ rfl, nil_pk w sBB ⟨none, 0, rfl, fun h => absurd h (by simp)⟩⟩⟩⟩
theorem row1 {W : World} {lo : Nat} {r c0 c1 c2 c3 c4 c5 : Value} (h : W.ownsRow lo 59 6 r 1 [c0, c1, c2, c3, c4, c5]) : ∃ g c, r = .slice (some ⟨g, 0, none⟩) 1 c ∧ W.cell? ⟨g, 0, none⟩ = some c0 ∧ W.cell? ⟨g, 1, none⟩ = some c1 ∧ W.cell? ⟨g, 2, none⟩ = some c2 ∧ W.cell? ⟨g, 3, none⟩ = some c3 ∧ W.cell? ⟨g, 4, none⟩ = some c4 ∧ W.cell? ⟨g, 5, none⟩ = some c5 ∧ g < W.heap.size := by
  rcases h.2 with ⟨_, q2⟩ | ⟨g, cap, cur, q, _, q3, _⟩
  · cases q2
  · have hc := h.cells (g := g) (by rw [q]; rfl)
    refine ⟨g, cap, q, hc 0 _ rfl, hc 1 _ rfl, hc 2 _ rfl, hc 3 _ rfl, hc 4 _ rfl, hc 5 _ rfl, (World.ownsRow.lt h g (by rw [q]; rfl)).2⟩
set_option maxRecDepth 100000 in
set_option maxHeartbeats 4000000 in
theorem little_any {w : World} :
    Calls Tryz.prog 9 #[] w fun e w' => e = .returned (.bool true) ∧ RowKit.Below w.heap.size w w' := by
  obtain ⟨W0, hW0⟩ : ∃ W, W = (w.alloc (.cells #[.string ⟨#[98, 98]⟩, .int .i64 0, .string ⟨#[]⟩] 55)).alloc (.cells #[.slice (some ⟨w.heap.size, 0, none⟩) 1 1] 53) := ⟨_, rfl⟩
  have H0 := hide (show RowKit.Below w.heap.size w W0 ∧ LitW W0 w.heap.size from by
    rw [hW0]
    refine ⟨((Below.refl _ w).alloc (Nat.le_refl _) _).alloc (by simp) _, (Below.heap_alloc _ _ _ (by simp)).trans (World.alloc_heap_new w _), ?_⟩
    have := World.alloc_heap_new (w.alloc (.cells #[.string ⟨#[98, 98]⟩, .int .i64 0, .string ⟨#[]⟩] 55)) (.cells #[.slice (some ⟨w.heap.size, 0, none⟩) 1 1] 53)
    rwa [World.size_alloc] at this)
  go_enter Tryz.func9, Tryz.ntmps9
  go_upto_region 1 with fail
  refine wp_region_lit ?_
  iterate 9 (first | go_values | go_step | go_upon | go_back)
  refine p_lit _ rfl rfl _ ?pba (cA w.heap.size) (buildA (w.heap.size + 1)) ?pbb
  case pba => simp only [List.map_toArray, List.map_cons, List.map_nil]; rfl
  rw [← hW0]
  simp only [Act.put, List.setIfInBounds_toArray, List.set_cons_zero, List.set_cons_succ]
  refine p_alloc rfl rfl ?_
  intro w2 zc b2 k2 z2
  simp only [Act.put, List.setIfInBounds_toArray, List.set_cons_zero, List.set_cons_succ]
  refine p_store _ _ rfl rfl W0.heap.size rfl (cA w.heap.size) rfl (litC_len _ _) (litC_one _ rfl) zc b2 ?_
  intro w3 b3 o3 k3 z3
  obtain ⟨K3, B3⟩ := new_bk k2 b3 k3
  clear b2 k2 b3 o3 k3 z2 z3
  simp only [Act.put]
  generalize hca : cA w.heap.size = ca at *
  go_upto_region 2 with fail
  refine wp_region_lit ?_
  refine p_lit _ rfl rfl _ ?pbc cB buildB ?pbd
  case pbc => simp only [List.map_toArray, List.map_cons, List.map_nil]; rfl
  simp only [Act.put, List.setIfInBounds_toArray, List.set_cons_zero, List.set_cons_succ]
  refine p_alloc rfl rfl ?_
  intro w2 zc b2 k2 z2
  simp only [Act.put, List.setIfInBounds_toArray, List.set_cons_zero, List.set_cons_succ]
  refine p_store _ _ rfl rfl w3.heap.size rfl cB rfl (litC_len _ _) (litC_one _ rfl) zc b2 ?_
  intro w4 b3 o3 k3 z3
  obtain ⟨K4, B4⟩ := new_bk k2 b3 k3
  clear b2 k2 b3 o3 k3 z2 z3
  simp only [Act.put]
  generalize hcb : cB = cb at *
  have hla : ca.length = 43 := by rw [← hca]; exact litC_len _ _
  have hlb : cb.length = 43 := by rw [← hcb]; exact litC_len _ _
  have HA := hide hca
  have HB := hide hcb
  have hb4 := bl_t (unhide H0).1 (bl_t (unhide K3) (unhide K4))
  have X4 := hide (And.intro hb4 (And.intro ((unhide H0).2.later (bl_t (unhide K3) (unhide K4))) (And.intro ((unhide B3).later (unhide K4)) (unhide B4))))
  clear hca hcb hb4 K3 K4 B3 B4 hW0 H0
  go_upto_region 3 with fail
  refine wp_region_lit ?_
  refine p_load _ rfl rfl W0.heap.size rfl ca (unhide X4).2.2.1 ?_
  simp only [Act.put, List.setIfInBounds_toArray, List.set_cons_zero, List.set_cons_succ]
  refine p_sl1 _ rfl rfl ca rfl hla ?_
  intro w5 r5 k5 z5
  simp only [Act.put, List.setIfInBounds_toArray, List.set_cons_zero, List.set_cons_succ]
  have F5 := hide (Faults_any sm1 (pk_one ((unhide X4).2.1.later k5) z5 (by rw [unhide HA]; exact r5)))
  have X5 := hide (show RowKit.Below w.heap.size w w5 ∧ LitW w5 w.heap.size ∧ BkP w5 W0.heap.size ca ∧ BkP w5 w3.heap.size cb from ⟨bl_t (unhide X4).1 k5, (unhide X4).2.1.later k5, (unhide X4).2.2.1.later k5, (unhide X4).2.2.2.later k5⟩)
  clear X4 r5 k5 z5
  generalize Value.slice (some ⟨w4.heap.size, 0, none⟩) 1 1 = v5 at *
  go_upto_region 4 with (go_at_call 19; refine (unhide F5).mono ?_; rintro e w6 ⟨r, rfl, hrow, hb6⟩; have X6 := hide (show RowKit.Below w.heap.size w w6 ∧ LitW w6 w.heap.size ∧ BkP w6 W0.heap.size ca ∧ BkP w6 w3.heap.size cb from ⟨bl_t (unhide X5).1 hb6, (unhide X5).2.1.later hb6, (unhide X5).2.2.1.later hb6, (unhide X5).2.2.2.later hb6⟩); obtain ⟨g, gc, rfl, r0, r1, r2, r3, r4, r5, hg⟩ := row1 (show w6.ownsRow w5.heap.size 59 6 r 1 [.int .i64 2, .string sAA, .string sOne, .int .i64 0, .string ⟨#[]⟩, .string ⟨#[]⟩] from by have h := hrow; rw [show ftL ps1 ps1.length = _ from ft1] at h; exact h); have HR := hide (show ∀ X, RowKit.Below w6.heap.size w6 X → X.cell? ⟨g, 0, none⟩ = some (.int .i64 2) ∧ X.cell? ⟨g, 1, none⟩ = some (.string ⟨#[97, 97]⟩) ∧ X.cell? ⟨g, 2, none⟩ = some (.string ⟨#[49]⟩) ∧ X.cell? ⟨g, 3, none⟩ = some (.int .i64 0) ∧ X.cell? ⟨g, 4, none⟩ = some (.string ⟨#[]⟩) ∧ X.cell? ⟨g, 5, none⟩ = some (.string ⟨#[]⟩) from fun X hX => ⟨(hX.cell (p := ⟨g, 0, none⟩) hg).trans r0, (hX.cell (p := ⟨g, 1, none⟩) hg).trans r1, (hX.cell (p := ⟨g, 2, none⟩) hg).trans r2, (hX.cell (p := ⟨g, 3, none⟩) hg).trans r3, (hX.cell (p := ⟨g, 4, none⟩) hg).trans r4, (hX.cell (p := ⟨g, 5, none⟩) hg).trans r5⟩); clear hb6 hrow X5 F5 r0 r1 r2 r3 r4 r5 hg)
  refine wp_region_lit ?_
  refine p_load _ rfl rfl W0.heap.size rfl ca (unhide X6).2.2.1 ?_
  simp only [Act.put, List.setIfInBounds_toArray, List.set_cons_zero, List.set_cons_succ]
  refine p_load _ rfl rfl w3.heap.size rfl cb (unhide X6).2.2.2 ?_
  simp only [Act.put, List.setIfInBounds_toArray, List.set_cons_zero, List.set_cons_succ]
  refine p_sl2 _ _ rfl rfl ca cb rfl rfl hla hlb ?_
  intro w7 s7 t7 k7 z7
  simp only [Act.put, List.setIfInBounds_toArray, List.set_cons_zero, List.set_cons_succ]
  have F7 := hide (Valid_any sm2 (pk_two ((unhide X6).2.1.later k7) z7 (by rw [unhide HA]; exact s7) (by rw [unhide HB]; exact t7)))
  have X7 := hide (show RowKit.Below w6.heap.size w6 w7 ∧ RowKit.Below w.heap.size w w7 ∧ LitW w7 w.heap.size ∧ BkP w7 W0.heap.size ca from ⟨k7, bl_t (unhide X6).1 k7, (unhide X6).2.1.later k7, (unhide X6).2.2.1.later k7⟩)
  clear X6 s7 t7 k7 z7
  generalize Value.slice (some ⟨w6.heap.size, 0, none⟩) 2 2 = v7 at *
  go_wp2_with (first
    | (go_at_call 10; refine (unhide F7).mono ?_; clear F7; rintro e w8 ⟨b, rfl, hb, hb8⟩; have hbt := hb.2 val2; clear hb; subst hbt; have X8 := hide (show RowKit.Below w6.heap.size w6 w8 ∧ RowKit.Below w.heap.size w w8 ∧ LitW w8 w.heap.size ∧ BkP w8 W0.heap.size ca from ⟨bl_t (unhide X7).1 hb8, bl_t (unhide X7).2.1 hb8, (unhide X7).2.2.1.later hb8, (unhide X7).2.2.2.later hb8⟩); clear hb8 X7)
    | (refine p_load _ rfl rfl W0.heap.size rfl ca (unhide X8).2.2.2 ?_)
    | (refine p_sl1 _ rfl rfl ca rfl hla ?_; intro w9 s9 k9 z9; have F9 := hide (Valid_any sm1 (pk_one ((unhide X8).2.2.1.later k9) z9 (by rw [unhide HA]; exact s9))); have X9 := hide (show RowKit.Below w6.heap.size w6 w9 ∧ RowKit.Below w.heap.size w w9 from ⟨bl_t (unhide X8).1 k9, bl_t (unhide X8).2.1 k9⟩); clear X8 s9 k9 z9)
    | (go_at_call 10; refine (unhide F9).mono ?_; clear F9; rintro e w10 ⟨b, rfl, hb, hb10⟩; have hbf : b = false := (by cases b with | false => rfl | true => exact absurd (hb.1 rfl) inv1); clear hb; subst hbf; obtain ⟨q0, q1, q2, q3, q4, q5⟩ := unhide HR w10 (bl_t (unhide X9).1 hb10); have X10 := hide (bl_t (unhide X9).2 hb10); clear hb10 X9))

  go_ret
  exact ⟨rfl, unhide X10⟩
end Go.Proofs.YtjnbnndocinicaaGreatDoor
