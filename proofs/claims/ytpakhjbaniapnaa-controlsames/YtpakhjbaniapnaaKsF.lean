import Derived.Test.YtpakhjbaniapnaaKsC
import Derived.DeepKeys
import Derived.Deep.MidRow
namespace Go.Proofs.Ytpakhjbaniapnaa
open Go.RowKit

/-- LITERALS OF TEXTS AND NUMBERS. -/
def flatL : Lit → Bool
  | .string _ => true
  | .int _ _ => true
  | _ => false
def eqLit : Lit → Lit → Bool
  | .string a, .string b => a == b
  | .int k n, .int q m => decide (k = q) && n == m
  | _, _ => false
theorem eqLit_iff (a b : Lit) (ha : flatL a = true) (hb : flatL b = true) : eqLit a b = true ↔ a = b := by
  cases a <;> cases b <;> simp_all [flatL, eqLit]
theorem eqLits_iff : ∀ (l m : List Lit), (∀ x ∈ l, flatL x = true) → (∀ x ∈ m, flatL x = true) → (eqL eqLit l m = true ↔ l = m)
  | [], [], _, _ => by simp [eqL]
  | [], _ :: _, _, _ => by simp [eqL]
  | _ :: _, [], _, _ => by simp [eqL]
  | a :: l, b :: m, h1, h2 => by
    show (eqLit a b && eqL eqLit l m) = true ↔ _
    rw [Bool.and_eq_true, eqLit_iff a b (h1 a List.mem_cons_self) (h2 b List.mem_cons_self), eqLits_iff l m (fun x hx => h1 x (List.mem_cons_of_mem _ hx)) (fun x hx => h2 x (List.mem_cons_of_mem _ hx)), List.cons.injEq]
/-- A FILE: its cells, and what they are as literals. -/
structure Fl where
  cs : List Value
  ls : List Lit
def isF (f : Fl) : Prop := f.cs.length = 34 ∧ Try.prog.keyLits 6 35 f.cs = some f.ls ∧ ∀ l ∈ f.ls, flatL l = true
def eqF (a b : Fl) : Bool := eqL eqLit a.ls b.ls
/-- A SLICE OF THESE FILES. -/
def Fls (w : World) (v : Value) (fl : List Fl) : Prop :=
  ∃ a c, v = .slice a fl.length c ∧ fl.length ≤ 9223372036854775807 ∧ ∀ i (h : i < fl.length), isF fl[i] ∧ ∃ b o, a = some ⟨b, o, none⟩ ∧ b < w.heap.size ∧ w.rangeAt b (o + i * 34) fl[i].cs
theorem rangeAt_later {w w' : World} {b o : Nat} {cs : List Value} (h : w.rangeAt b o cs) (hl : b < w.heap.size) (hb : Below w.heap.size w w') : w'.rangeAt b o cs := fun j v hv => (hb.cell (p := ⟨b, o + j, none⟩) hl).trans (h j v hv)
theorem Fls.later {w w' : World} {v : Value} {fl : List Fl} (h : Fls w v fl) (hb : Below w.heap.size w w') : Fls w' v fl := by
  obtain ⟨a, c, h1, h2, h3⟩ := h
  refine ⟨a, c, h1, h2, fun i hi => ?_⟩
  obtain ⟨hf, b, o, e1, e2, e3⟩ := h3 i hi
  exact ⟨hf, b, o, e1, Nat.lt_of_lt_of_le e2 hb.size, rangeAt_later e3 e2 hb⟩
theorem Fls.shape {w : World} {v : Value} {fl : List Fl} (h : Fls w v fl) : ∃ a c, v = .slice a fl.length c := by
  obtain ⟨a, c, e, _⟩ := h
  exact ⟨a, c, e⟩
theorem Fls.bigL {w : World} {v : Value} {fl : List Fl} (h : Fls w v fl) : fl.length ≤ 9223372036854775807 := by
  obtain ⟨a, c, e, h2, _⟩ := h
  exact h2
theorem Fls.elem {w : World} {va : Option Addr} {n vc : Nat} {fl : List Fl} (h : Fls w (.slice va n vc) fl) (k : Nat) (hk : k < fl.length) : isF fl[k] ∧ ∃ b o, va = some ⟨b, o, none⟩ ∧ b < w.heap.size ∧ w.rangeAt b (o + k * 34) fl[k].cs := by
  obtain ⟨a, c, e, _, h3⟩ := h
  cases e
  exact h3 k hk
theorem keyF : Try.prog.keyTypeAt 5 35 = true := by kernel_rfl
theorem cellsF : Try.prog.cellsOf 35 = 34 := by kernel_rfl
theorem formF {x : Fl} (hx : isF x) : (Value.agg x.cs.toArray).formed Try.prog 35 = true := by
  unfold Value.formed
  rw [Try.underlying35, cellsF]
  simp [hx.1]
theorem neqF (x y : Fl) (hx : isF x) (hy : isF y) (w : World) : (binOp .neq 35 (.agg x.cs.toArray) (.agg y.cs.toArray)).run Try.prog w = .ok (.bool (!eqF x y)) w := by
  obtain ⟨r, hr, hiff⟩ := run_equalIn_deep (P := Try.prog) (10000 - 5) 5 35 keyF w 6 6 (.agg x.cs.toArray) (.agg y.cs.toArray) x.ls y.ls (formF hx) (formF hy) (by simpa [Value.cells] using hx.2.1) (by simpa [Value.cells] using hy.2.1)
  have he : eqF x y = r := by
    have h := eqLits_iff x.ls y.ls hx.2.2 hy.2.2
    unfold eqF
    cases r
    · cases e : eqL eqLit x.ls y.ls
      · rfl
      · have := hiff.2 (h.1 e)
        cases this
    · exact h.2 (hiff.1 rfl)
  rw [run_neq_struct, he, show (10000 : Nat) = 10000 - 5 + 5 from rfl, hr]
  rfl

theorem infoF : (Try.prog.info? 35).map (·.size) = some 34 := by kernel_rfl

set_option maxRecDepth 100000 in
set_option maxHeartbeats 4000000 in
theorem eqFiles_any (al bl : List Fl) (v u : Value) (w : World) (h1 : Fls w v al) (h2 : Fls w u bl) :
    Calls Try.prog 18 #[v, u] w fun e w' => e = .returned (.bool (eqL eqF al bl)) ∧ Below w.heap.size w w' := by
  obtain ⟨va, vc, rfl⟩ := h1.shape
  obtain ⟨ua, uc, rfl⟩ := h2.shape
  have b1 := h1.bigL
  have b2 := h2.bigL
  have H1 := hide h1
  have H2 := hide h2
  clear h1 h2
  obtain ⟨N, hN⟩ : ∃ N, al.length = N := ⟨_, rfl⟩
  obtain ⟨L, hL⟩ : ∃ N, bl.length = N := ⟨_, rfl⟩
  rw [hN] at H1 b1 ⊢
  rw [hL] at H2 b2 ⊢
  by_cases hne : N = L
  · subst hne
    have HBad := hide (fun k h1 h2 => eqL_bad eqF al bl k h1 h2)
    have HGood := hide (fun h => eqL_good eqF al bl (by omega) h)
    generalize eqL eqF al bl = r at *
    go_enter Try.func18, Try.ntmps18
    go_wp2_with fail
    go_loopw [13] (fun i wr => ∃ k : Nat, k ≤ N ∧ i = .int .i64 k ∧ Hid (Below w.heap.size w wr) ∧ Hid (∀ j (h1 : j < al.length) (h2 : j < bl.length), j < k → eqF al[j] bl[j] = true)) (fun i _ => N - (intOf i).toNat)
    case atStart => exact ⟨0, Nat.zero_le _, rfl, hide (Below.refl _ _), hide (fun j _ _ h => absurd h (Nat.not_lt_zero _))⟩
    case round =>
      obtain ⟨k, hk, rfl, HB, HZ⟩ := hrel
      by_cases hlt : k < N
      · have hka : k < al.length := by omega
        have hkb : k < bl.length := by omega
        obtain ⟨f1, g, o, rfl, hg, p0⟩ := ((unhide H1).later (unhide HB)).elem k hka
        obtain ⟨f2, g2, o2, rfl, hg2, q0⟩ := ((unhide H2).later (unhide HB)).elem k hkb
        have HBad' := hide (unhide HBad k hka hkb)
        have HN := hide (fun (h : eqF al[k] bl[k] = true) => upto_two (unhide HZ) hka hkb h)
        have HP := hide (fun (w' : World) (hb : Below wr.heap.size wr w') => And.intro (rangeAt_later p0 hg hb) (rangeAt_later q0 hg2 hb))
        have B0 := hide ((Below.refl wr.heap.size wr).drew)
        generalize al[k] = x at *
        generalize bl[k] = y at *
        have ce := neqF x y f1 f2
        have l1 : (Try.prog.info? 35).map (·.size) = some x.cs.length := by rw [f1.1]; exact infoF
        have l2 : (Try.prog.info? 35).map (·.size) = some y.cs.length := by rw [f2.1]; exact infoF
        clear HBad HGood HZ p0 q0
        cases hxy : eqF x y
        · rw [hxy] at ce
          have HF := hide (unhide HBad' hxy)
          clear HBad' HN hxy
          go_wp2_with fail
          refine wp_region_held_drew (S := fun w' => w'.rangeAt g (o + k * 34) x.cs ∧ w'.rangeAt g2 (o2 + k * 34) y.cs) (by kernel_rfl) ?_ (fun hHeld => ?_)
          · exact unhide HP _ (unhide B0)
          refine wpAnyH_take (i := 0) (oi := { dst := some 16, op := Op.move (Operand.tmp 0), type := 25, pos := "slices.go:25", after := #[], guard := none }) (v := ?_) rfl (by kernel_rfl) (by kernel_rfl) (by kernel_rfl) (fun _ _ _ h => h) (Or.inl ⟨by rfl, ?_⟩) (by assumption) ?_
          rotate_left
          · intro w hSw; (try dsimp only at hSw); go_simp; (try with_reducible rfl)
          try simp only [Act.put, List.setIfInBounds_toArray, List.set_cons_zero, List.set_cons_succ]
          refine wpAnyH_take (i := 1) (oi := { dst := some 17, op := Op.move (Operand.tmp 5), type := 3, pos := "slices.go:25", after := #[], guard := none }) (v := ?_) rfl (by kernel_rfl) (by kernel_rfl) (by kernel_rfl) (fun _ _ _ h => h) (Or.inl ⟨by rfl, ?_⟩) (by assumption) ?_
          rotate_left
          · intro w hSw; (try dsimp only at hSw); go_simp; (try with_reducible rfl)
          try simp only [Act.put, List.setIfInBounds_toArray, List.set_cons_zero, List.set_cons_succ]
          refine wpAnyH_take (i := 2) (oi := { dst := some 18, op := Op.indexAddr 25 (Operand.tmp 16) (Operand.tmp 17), type := 0, pos := "slices.go:25", after := #[{ on := 0, ground := Ground.data }, { on := 1, ground := Ground.data }], guard := none }) (v := ?_) rfl (by kernel_rfl) (by kernel_rfl) (by kernel_rfl) (fun _ _ _ h => h) (Or.inl ⟨by rfl, ?_⟩) (by assumption) ?_
          rotate_left
          · intro w hSw; (try dsimp only at hSw); go_simp; (try with_reducible rfl)
          try simp only [Act.put, List.setIfInBounds_toArray, List.set_cons_zero, List.set_cons_succ]
          refine wpAnyH_take (i := 3) (oi := { dst := some 19, op := Op.load 35 (Operand.tmp 18), type := 35, pos := "slices.go:25", after := #[{ on := 2, ground := Ground.data }], guard := none }) (v := .agg x.cs.toArray) rfl (by kernel_rfl) (by kernel_rfl) (by kernel_rfl) (fun _ _ _ h => h) (yieldsIf_load_mid (by rfl) 35 (.tmp 18) rfl g (o + k * 34) (by rfl) x.cs _ (fun _ h => h.1) Try.underlying35 rfl l1) (by assumption) ?_
          try simp only [Act.put, List.setIfInBounds_toArray, List.set_cons_zero, List.set_cons_succ]
          refine wpAnyH_take (i := 4) (oi := { dst := some 20, op := Op.move (Operand.tmp 1), type := 25, pos := "slices.go:25", after := #[], guard := none }) (v := ?_) rfl (by kernel_rfl) (by kernel_rfl) (by kernel_rfl) (fun _ _ _ h => h) (Or.inl ⟨by rfl, ?_⟩) (by assumption) ?_
          rotate_left
          · intro w hSw; (try dsimp only at hSw); go_simp; (try with_reducible rfl)
          try simp only [Act.put, List.setIfInBounds_toArray, List.set_cons_zero, List.set_cons_succ]
          refine wpAnyH_take (i := 5) (oi := { dst := some 21, op := Op.move (Operand.tmp 5), type := 3, pos := "slices.go:25", after := #[], guard := none }) (v := ?_) rfl (by kernel_rfl) (by kernel_rfl) (by kernel_rfl) (fun _ _ _ h => h) (Or.inl ⟨by rfl, ?_⟩) (by assumption) ?_
          rotate_left
          · intro w hSw; (try dsimp only at hSw); go_simp; (try with_reducible rfl)
          try simp only [Act.put, List.setIfInBounds_toArray, List.set_cons_zero, List.set_cons_succ]
          refine wpAnyH_take (i := 6) (oi := { dst := some 22, op := Op.indexAddr 25 (Operand.tmp 20) (Operand.tmp 21), type := 0, pos := "slices.go:25", after := #[{ on := 4, ground := Ground.data }, { on := 5, ground := Ground.data }], guard := none }) (v := ?_) rfl (by kernel_rfl) (by kernel_rfl) (by kernel_rfl) (fun _ _ _ h => h) (Or.inl ⟨by rfl, ?_⟩) (by assumption) ?_
          rotate_left
          · intro w hSw; (try dsimp only at hSw); go_simp; (try with_reducible rfl)
          try simp only [Act.put, List.setIfInBounds_toArray, List.set_cons_zero, List.set_cons_succ]
          refine wpAnyH_take (i := 7) (oi := { dst := some 23, op := Op.load 35 (Operand.tmp 22), type := 35, pos := "slices.go:25", after := #[{ on := 6, ground := Ground.data }], guard := none }) (v := .agg y.cs.toArray) rfl (by kernel_rfl) (by kernel_rfl) (by kernel_rfl) (fun _ _ _ h => h) (yieldsIf_load_mid (by rfl) 35 (.tmp 22) rfl g2 (o2 + k * 34) (by rfl) y.cs _ (fun _ h => h.2) Try.underlying35 rfl l2) (by assumption) ?_
          try simp only [Act.put, List.setIfInBounds_toArray, List.set_cons_zero, List.set_cons_succ]
          refine wpAnyH_take (i := 8) (oi := { dst := some 24, op := Op.binOp BinOp.neq 35 (Operand.tmp 19) (Operand.tmp 23) 35, type := 4, pos := "slices.go:25", after := #[{ on := 3, ground := Ground.data }, { on := 7, ground := Ground.data }], guard := none }) (v := ?_) rfl (by kernel_rfl) (by kernel_rfl) (by kernel_rfl) (fun _ _ _ h => h) (Or.inl ⟨by rfl, ?_⟩) (by assumption) ?_
          rotate_left
          · intro w hSw; (try dsimp only at hSw); go_simp; (try with_reducible rfl)
          try simp only [Act.put, List.setIfInBounds_toArray, List.set_cons_zero, List.set_cons_succ]
          refine wpAnyH_done (by kernel_rfl) ?_ _
          go_wp2_with fail
          go_ret
          exact ⟨ret_bool (unhide HF).symm, bl_t (unhide HB) (unhide B0)⟩
        · rw [hxy] at ce
          have HZ' := hide (unhide HN hxy)
          have HB9 := hide (bl_t (unhide HB) (unhide B0))
          clear HBad' HN hxy
          go_wp2_with fail
          refine wp_region_held_drew (S := fun w' => w'.rangeAt g (o + k * 34) x.cs ∧ w'.rangeAt g2 (o2 + k * 34) y.cs) (by kernel_rfl) ?_ (fun hHeld => ?_)
          · exact unhide HP _ (unhide B0)
          refine wpAnyH_take (i := 0) (oi := { dst := some 16, op := Op.move (Operand.tmp 0), type := 25, pos := "slices.go:25", after := #[], guard := none }) (v := ?_) rfl (by kernel_rfl) (by kernel_rfl) (by kernel_rfl) (fun _ _ _ h => h) (Or.inl ⟨by rfl, ?_⟩) (by assumption) ?_
          rotate_left
          · intro w hSw; (try dsimp only at hSw); go_simp; (try with_reducible rfl)
          try simp only [Act.put, List.setIfInBounds_toArray, List.set_cons_zero, List.set_cons_succ]
          refine wpAnyH_take (i := 1) (oi := { dst := some 17, op := Op.move (Operand.tmp 5), type := 3, pos := "slices.go:25", after := #[], guard := none }) (v := ?_) rfl (by kernel_rfl) (by kernel_rfl) (by kernel_rfl) (fun _ _ _ h => h) (Or.inl ⟨by rfl, ?_⟩) (by assumption) ?_
          rotate_left
          · intro w hSw; (try dsimp only at hSw); go_simp; (try with_reducible rfl)
          try simp only [Act.put, List.setIfInBounds_toArray, List.set_cons_zero, List.set_cons_succ]
          refine wpAnyH_take (i := 2) (oi := { dst := some 18, op := Op.indexAddr 25 (Operand.tmp 16) (Operand.tmp 17), type := 0, pos := "slices.go:25", after := #[{ on := 0, ground := Ground.data }, { on := 1, ground := Ground.data }], guard := none }) (v := ?_) rfl (by kernel_rfl) (by kernel_rfl) (by kernel_rfl) (fun _ _ _ h => h) (Or.inl ⟨by rfl, ?_⟩) (by assumption) ?_
          rotate_left
          · intro w hSw; (try dsimp only at hSw); go_simp; (try with_reducible rfl)
          try simp only [Act.put, List.setIfInBounds_toArray, List.set_cons_zero, List.set_cons_succ]
          refine wpAnyH_take (i := 3) (oi := { dst := some 19, op := Op.load 35 (Operand.tmp 18), type := 35, pos := "slices.go:25", after := #[{ on := 2, ground := Ground.data }], guard := none }) (v := .agg x.cs.toArray) rfl (by kernel_rfl) (by kernel_rfl) (by kernel_rfl) (fun _ _ _ h => h) (yieldsIf_load_mid (by rfl) 35 (.tmp 18) rfl g (o + k * 34) (by rfl) x.cs _ (fun _ h => h.1) Try.underlying35 rfl l1) (by assumption) ?_
          try simp only [Act.put, List.setIfInBounds_toArray, List.set_cons_zero, List.set_cons_succ]
          refine wpAnyH_take (i := 4) (oi := { dst := some 20, op := Op.move (Operand.tmp 1), type := 25, pos := "slices.go:25", after := #[], guard := none }) (v := ?_) rfl (by kernel_rfl) (by kernel_rfl) (by kernel_rfl) (fun _ _ _ h => h) (Or.inl ⟨by rfl, ?_⟩) (by assumption) ?_
          rotate_left
          · intro w hSw; (try dsimp only at hSw); go_simp; (try with_reducible rfl)
          try simp only [Act.put, List.setIfInBounds_toArray, List.set_cons_zero, List.set_cons_succ]
          refine wpAnyH_take (i := 5) (oi := { dst := some 21, op := Op.move (Operand.tmp 5), type := 3, pos := "slices.go:25", after := #[], guard := none }) (v := ?_) rfl (by kernel_rfl) (by kernel_rfl) (by kernel_rfl) (fun _ _ _ h => h) (Or.inl ⟨by rfl, ?_⟩) (by assumption) ?_
          rotate_left
          · intro w hSw; (try dsimp only at hSw); go_simp; (try with_reducible rfl)
          try simp only [Act.put, List.setIfInBounds_toArray, List.set_cons_zero, List.set_cons_succ]
          refine wpAnyH_take (i := 6) (oi := { dst := some 22, op := Op.indexAddr 25 (Operand.tmp 20) (Operand.tmp 21), type := 0, pos := "slices.go:25", after := #[{ on := 4, ground := Ground.data }, { on := 5, ground := Ground.data }], guard := none }) (v := ?_) rfl (by kernel_rfl) (by kernel_rfl) (by kernel_rfl) (fun _ _ _ h => h) (Or.inl ⟨by rfl, ?_⟩) (by assumption) ?_
          rotate_left
          · intro w hSw; (try dsimp only at hSw); go_simp; (try with_reducible rfl)
          try simp only [Act.put, List.setIfInBounds_toArray, List.set_cons_zero, List.set_cons_succ]
          refine wpAnyH_take (i := 7) (oi := { dst := some 23, op := Op.load 35 (Operand.tmp 22), type := 35, pos := "slices.go:25", after := #[{ on := 6, ground := Ground.data }], guard := none }) (v := .agg y.cs.toArray) rfl (by kernel_rfl) (by kernel_rfl) (by kernel_rfl) (fun _ _ _ h => h) (yieldsIf_load_mid (by rfl) 35 (.tmp 22) rfl g2 (o2 + k * 34) (by rfl) y.cs _ (fun _ h => h.2) Try.underlying35 rfl l2) (by assumption) ?_
          try simp only [Act.put, List.setIfInBounds_toArray, List.set_cons_zero, List.set_cons_succ]
          refine wpAnyH_take (i := 8) (oi := { dst := some 24, op := Op.binOp BinOp.neq 35 (Operand.tmp 19) (Operand.tmp 23) 35, type := 4, pos := "slices.go:25", after := #[{ on := 3, ground := Ground.data }, { on := 7, ground := Ground.data }], guard := none }) (v := ?_) rfl (by kernel_rfl) (by kernel_rfl) (by kernel_rfl) (fun _ _ _ h => h) (Or.inl ⟨by rfl, ?_⟩) (by assumption) ?_
          rotate_left
          · intro w hSw; (try dsimp only at hSw); go_simp; (try with_reducible rfl)
          try simp only [Act.put, List.setIfInBounds_toArray, List.set_cons_zero, List.set_cons_succ]
          refine wpAnyH_done (by kernel_rfl) ?_ _
          go_wp2_with fail
          go_roundw
          case rel => exact ⟨k + 1, by omega, by go_num, HB9, HZ'⟩
          case measure => simp [intOf]; omega
      · have HF := hide (unhide HGood (fun j h1 h2 => unhide HZ j h1 h2 (by omega)))
        clear HZ HBad HGood
        go_wp2_with fail
        go_ret
        exact ⟨ret_bool (unhide HF).symm, unhide HB⟩
  · have HF := hide (eqL_len eqF al bl (by omega))
    have hne' : ¬ ((N : Int) = (L : Int)) := by omega
    have hneb : ((N : Int) == (L : Int)) = false := beq_eq_false_iff_ne.2 hne'
    go_enter Try.func18, Try.ntmps18
    go_wp2_with fail
    go_ret
    exact ⟨ret_bool (unhide HF).symm, Below.refl _ _⟩

end Go.Proofs.Ytpakhjbaniapnaa
