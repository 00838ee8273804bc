import Derived.Test.YtiibobjbcgbknaaDoorRpD
import Derived.Test.YtiibobjbcgbknaaDoorSgC
import Derived.Test.YtiibobjbcgbknaaDoorScF
import Derived.OrdersHeld
import Derived.Deep.RegionHeld3
namespace Go.Proofs.YtiibobjbcgbknaaDoor
open Go.RowKit Go.Shelf

theorem okP_bad {p : List Fd} {k : Nat} (hk : k < p.length) (h : okF p[k] = false ∨ hasN (p.take k) p[k].nm = true) : okP p = false := by
  cases e : okP p
  · rfl
  · exfalso
    unfold okP at e
    simp only [Bool.and_eq_true, List.all_eq_true] at e
    rcases h with h | h
    · rw [e.1 _ (List.getElem_mem hk)] at h
      cases h
    · unfold hasN at h
      rw [List.any_eq_true] at h
      obtain ⟨f, hf, h2⟩ := h
      obtain ⟨j, hj, e2⟩ := List.getElem_of_mem hf
      rw [List.length_take] at hj
      rw [List.getElem_take] at e2
      have h3 := apartN_get p e.2.2 j k p[j] p[k] (by omega) (List.getElem?_eq_getElem _) (List.getElem?_eq_getElem hk)
      rw [e2] at h3
      exact h3 (of_decide_eq_true h2)
theorem okP_good {p : List Fd} (hne : p ≠ []) (h : ∀ k (hk : k < p.length), okF p[k] = true ∧ hasN (p.take k) p[k].nm = false) : okP p = true := by
  unfold okP
  simp only [Bool.and_eq_true, List.all_eq_true, decide_eq_true_eq]
  refine ⟨fun f hf => ?_, hne, apartN_of p fun i j f f2 hij hi hj e => ?_⟩
  · obtain ⟨k, hk, rfl⟩ := List.getElem_of_mem hf
    exact (h k hk).1
  · have hjl := (List.getElem?_eq_some_iff.1 hj).1
    have hil := (List.getElem?_eq_some_iff.1 hi).1
    have h2 := (h j hjl).2
    unfold hasN at h2
    rw [List.any_eq_false] at h2
    have e1 : p[i] = f := by rw [List.getElem?_eq_getElem hil] at hi; exact Option.some.inj hi
    have e3 : p[j] = f2 := by rw [List.getElem?_eq_getElem hjl] at hj; exact Option.some.inj hj
    have h4 := h2 p[i] (List.mem_of_getElem? (i := i) (by rw [List.getElem?_take, if_pos hij]; exact List.getElem?_eq_getElem hil))
    rw [e1, e3] at h4
    exact h4 (decide_eq_true e)

/-- Bytes as they lie, in a block from lo on. -/
def Ro (lo : Nat) (W : World) (pa : Option Addr) (t : Bs) : Prop := Rb W pa t ∧ ∀ a, pa = some a → lo ≤ a.block
theorem Ro.of_owns {lo : Nat} {W : World} {base : Nat} {pa : Option Addr} {n c : Nat} {t : Bs} (h : W.ownsRow base 5 1 (.slice pa n c) t.length (encB t)) (hl : lo ≤ base) : Ro lo W pa t :=
  ⟨(Rb.of_owns h).2, fun a e => by
    subst e
    have := (ownsRow_blk h rfl).choose_spec.2.1
    omega⟩

set_option maxRecDepth 100000 in
set_option maxHeartbeats 8000000 in
theorem rPrint_any (ps : List (List Fd)) (va : Option Addr) (vc : Nat) (w : World) (hl : ps.length ≤ 16777216) (hs : ∀ p ∈ ps, p.length ≤ 16777216 ∧ ∀ f ∈ p, szG f) (hsz : (∀ p ∈ ps, okP p = true) → (prT ps).length ≤ 16777216) (hD : DocG w (.slice va ps.length vc) ps) (hcp : ∀ g0 o0, va = some ⟨g0, o0, none⟩ → ∀ i, i < ps.length → ∀ pa n c, w.cell? ⟨g0, o0 + i, none⟩ = some (.slice pa n c) → n ≤ c) :
    Calls Tryd.prog 19 #[.slice va ps.length vc] w fun e w' => Below w.heap.size w w' ∧ (((∀ p ∈ ps, okP p = true) ∧ ∃ qa qc, e = .returned (.tuple #[.slice qa (prT ps).length qc, .int .i64 0]) ∧ Ro w.heap.size w' qa (prT ps)) ∨ (¬ (∀ p ∈ ps, okP p = true) ∧ e = .returned (.tuple #[.slice none 0 0, .int .i64 34]))) := by
  have HD := hide (fun (W : World) (hb : Below w.heap.size w W) (i : Nat) (hi : i < ps.length) => (show ∃ g0 o0 pa pc, va = some ⟨g0, o0, none⟩ ∧ W.cell? ⟨g0, o0 + i, none⟩ = some (.slice pa ps[i].length pc) ∧ ps[i].length ≤ pc ∧ (0 < ps[i].length → ∃ g o, pa = some ⟨g, o, none⟩ ∧ ∀ k f, ps[i][k]? = some f → FdG W g (o + k * 3) f) from by
    obtain ⟨a', c', e, h2⟩ := hD
    cases e
    obtain ⟨g0, o0, rfl, h3⟩ := h2 (by omega)
    obtain ⟨u, hu, hp⟩ := h3 i ps[i] (List.getElem?_eq_getElem hi)
    obtain ⟨pa, pc, rfl, hq⟩ := hp
    refine ⟨g0, o0, pa, pc, rfl, cell_later hu hb, hcp g0 o0 rfl i hi _ _ _ hu, fun h0 => ?_⟩
    obtain ⟨g, o, e, h5⟩ := hq h0
    exact ⟨g, o, e, fun k f hk => (h5 k f hk).later hb⟩))
  have HS := hide hs
  have HSZ := hide hsz
  obtain ⟨N, hN⟩ : ∃ N, ps.length = N := ⟨_, rfl⟩
  rw [hN] at hl ⊢
  have HN := hide hN
  clear hD hs hsz hN hcp
  go_enter Tryd.func19, Tryd.ntmps19
  go_wp2_with fail
  go_loopw [4, 5, 6] (fun iv _ _ wr => ∃ i : Nat, i ≤ N ∧ iv = .int .i64 i ∧ Hid (∀ j (hj : j < ps.length), j < i → okP ps[j] = true) ∧ Hid (Below w.heap.size w wr)) (fun iv _ _ _ => N - (intOf iv).toNat)
  case atStart => exact ⟨0, Nat.zero_le _, rfl, hide (fun j _ h => absurd h (Nat.not_lt_zero _)), hide (Below.refl _ _)⟩
  case round =>
    obtain ⟨i, hi, rfl, HZ, HB⟩ := hrel
    obtain ⟨w0, rfl⟩ : ∃ w0, w0 = wr := ⟨wr, rfl⟩
    by_cases hlt : i < N
    · have hltz : (i : Int) < (N : Int) := by omega
      have hip : i < ps.length := by have := unhide HN; omega
      obtain ⟨g0, o0, pa, pc, hva, c0, hpc, hp⟩ := unhide HD w0 (unhide HB) i hip
      subst hva
      have hq := unhide HS ps[i] (List.getElem_mem hip)
      by_cases he : ps[i].length = 0
      · have HF := hide (show ¬ (∀ p ∈ ps, okP p = true) from fun h => by
          have := h _ (List.getElem_mem hip)
          unfold okP at this
          simp only [Bool.and_eq_true, decide_eq_true_eq] at this
          exact this.2.1 (List.length_eq_zero_iff.1 he))
        rw [he] at c0
        clear hp hq HZ HD HS HSZ he
        go_wp2_with fail
        go_ret2
        exact ⟨unhide HB, .inr ⟨unhide HF, rfl⟩⟩
      · obtain ⟨g, o, hpa, hfl⟩ := hp (by omega)
        subst hpa
        obtain ⟨L, hL⟩ : ∃ L, ps[i].length = L := ⟨_, rfl⟩
        have HL := hide hL
        have HF := hide hfl
        have HQ := hide hq.2
        have hLl : L ≤ 16777216 := by rw [← hL]; exact hq.1
        have hLc : L ≤ pc := by rw [← hL]; exact hpc
        have hL0 : ¬ ((L : Int) = 0) := by omega
        have hL0b : ((L : Int) == 0) = false := by simp; omega
        rw [hL] at c0
        have HC0 := hide (fun (W : World) (hb : Below w0.heap.size w0 W) => cell_later c0 hb)
        have HFL := hide (fun (W : World) (hb : Below w0.heap.size w0 W) (k : Nat) (hk : k < ps[i].length) => (hfl k ps[i][k] (List.getElem?_eq_getElem hk)).later hb)
        clear hfl hq hL he
        go_wp2_with fail
        go_loopw [5, 6] (fun kv _ wr => ∃ k : Nat, k ≤ L ∧ kv = .int .i64 k ∧ Hid (∀ j (hj : j < ps[i].length), j < k → okF ps[i][j] = true ∧ hasN (ps[i].take j) ps[i][j].nm = false) ∧ Hid (Below w0.heap.size w0 wr)) (fun kv _ _ => L - (intOf kv).toNat)
        case atStart => exact ⟨0, Nat.zero_le _, rfl, hide (fun j _ h => absurd h (Nat.not_lt_zero _)), hide (Below.refl _ _)⟩
        case round =>
          obtain ⟨k, hk, rfl, HY, HB2⟩ := hrel
          have c1 := unhide HC0 _ (unhide HB2)
          by_cases hlt2 : k < L
          · have hlt2z : (k : Int) < (L : Int) := by omega
            have hkp : k < ps[i].length := by have := unhide HL; omega
            have hkc : (k : Int) ≤ (pc : Int) := by omega
            have fg := unhide HFL _ (unhide HB2) k hkp
            have hsk := unhide HQ _ (List.getElem_mem hkp)
            obtain ⟨la, lc, d1, _, d1l⟩ := fg.ls
            obtain ⟨na, nc, az, d2, _⟩ := fg.ns
            have d0 := fg.nm
            have cK := hide (rCheck_any ps[i][k] la lc (.slice na az.length nc) wr hsk.1 hsk.2.1 hsk.2.2 d1l)
            have htk : (ps[i].take k).length = k := by rw [List.length_take]; omega
            have cF := hide (fun (W : World) (hb : Below wr.heap.size wr W) => (show Calls Tryd.prog 43 #[.slice (some ⟨g, o, none⟩) k pc, .string (ba ps[i][k].nm)] W fun e w' => ∃ x : Int, e = .returned (.int .i64 x) ∧ (0 ≤ x ↔ hasN (ps[i].take k) ps[i][k].nm = true) ∧ Below W.heap.size W w' from by
              have h := rfind_g (ps[i].take k) (some ⟨g, o, none⟩) pc ps[i][k].nm W (fun _ => ⟨g, o, rfl, fun j f hj => by
                have hjk : j < k := by have := (List.getElem?_eq_some_iff.1 hj).1; omega
                rw [List.getElem?_take, if_pos hjk] at hj
                have hjl := (List.getElem?_eq_some_iff.1 hj).1
                rw [List.getElem?_eq_getElem hjl] at hj
                cases hj
                exact cell_later (unhide HFL _ (unhide HB2) j hjl).nm hb⟩) (by omega) hsk.1 (fun f hf => (unhide HQ f (List.mem_of_mem_take hf)).1)
              rw [htk] at h
              exact h))
            have HPp := hide (fun (w2 : World) (hb : Below wr.heap.size wr w2) => show w2.cell? ⟨g0, o0 + i, none⟩ = some (.slice (some ⟨g, o, none⟩) L pc) ∧ w2.cell? ⟨g, o + k * 3, none⟩ = some (.string (ba ps[i][k].nm)) from ⟨cell_later c1 hb, cell_later d0 hb⟩)
            have HBAD := hide (fun (h : okF ps[i][k] = false ∨ hasN (ps[i].take k) ps[i][k].nm = true) => (show ¬ (∀ p ∈ ps, okP p = true) from fun hall => by
              have h1 := hall _ (List.getElem_mem hip)
              rw [okP_bad hkp h] at h1
              cases h1))
            have HY2 := hide (fun (h1 : okF ps[i][k] = true) (h2 : hasN (ps[i].take k) ps[i][k].nm = false) => (show ∀ j (hj : j < ps[i].length), j < k + 1 → okF ps[i][j] = true ∧ hasN (ps[i].take j) ps[i][j].nm = false from fun j hj hjk => by
              by_cases e : j < k
              · exact unhide HY j hj e
              · obtain rfl : j = k := by omega
                exact ⟨h1, h2⟩))
            clear fg hsk d1l htk HY HFL HC0 HF HQ HZ
            cases hok : okF ps[i][k]
            · have hck : ckN ps[i][k] = 34 := by unfold ckN; rw [hok]; rfl
              rw [hck] at cK
              have HN2 := hide (unhide HBAD (.inl hok))
              clear hck hok HBAD HY2 cF HPp
              generalize ba ps[i][k].nm = nmk at *
              generalize ps[i][k].ls.length = ln at *
              generalize az.length = nn at *
              go_wp2_with (go_at_call 24; refine (unhide cK).mono ?_; rintro e w5 ⟨rfl, hb⟩; have HB5 := hide (bl_t (bl_t (unhide HB) (unhide HB2)) hb); clear hb)
              refine wp_region_held_drew (S := fun _ => True) (by kernel_rfl) ?_ (fun hHeld => ?_)
              · trivial
              refine wpAnyH_take (i := 0) (oi := { dst := some 39, op := Op.move (Operand.tmp 6), type := 3, pos := "ref.go:252", after := #[], guard := none }) (v := ?_) rfl (by kernel_rfl) (by kernel_rfl) (by kernel_rfl) (fun _ _ _ h => h) (Or.inl ⟨by rfl, ?_⟩) (by assumption) ?_
              rotate_left
              · intro w hSw; (try dsimp only at hSw); go_simp; (try with_reducible rfl)
              try simp only [Act.put, List.setIfInBounds_toArray, List.set_cons_zero, List.set_cons_succ]
              refine wpAnyH_take (i := 1) (oi := { dst := some 40, op := Op.binOp BinOp.neq 3 (Operand.tmp 39) (Operand.const (Value.int IntKind.i64 0)) 3, type := 4, pos := "ref.go:252", after := #[{ on := 0, ground := Ground.data }], guard := none }) (v := ?_) rfl (by kernel_rfl) (by kernel_rfl) (by kernel_rfl) (fun _ _ _ h => h) (Or.inl ⟨by rfl, ?_⟩) (by assumption) ?_
              rotate_left
              · intro w hSw; (try dsimp only at hSw); go_simp; (try with_reducible rfl)
              try simp only [Act.put, List.setIfInBounds_toArray, List.set_cons_zero, List.set_cons_succ]
              refine wpAnyH_take (i := 2) (oi := { dst := some 41, op := Op.move (Operand.tmp 40), type := 4, pos := "ref.go:252", after := #[{ on := 1, ground := Ground.data }], guard := none }) (v := ?_) rfl (by kernel_rfl) (by kernel_rfl) (by kernel_rfl) (fun _ _ _ h => h) (Or.inl ⟨by rfl, ?_⟩) (by assumption) ?_
              rotate_left
              · intro w hSw; (try dsimp only at hSw); go_simp; (try with_reducible rfl)
              try simp only [Act.put, List.setIfInBounds_toArray, List.set_cons_zero, List.set_cons_succ]
              refine wpAnyH_take (i := 3) (oi := { dst := some 42, op := Op.move (Operand.tmp 0), type := 24, pos := "ref.go:252", after := #[{ on := 2, ground := Ground.guard }], guard := some (2, false) }) (v := undef) rfl (by kernel_rfl) (by kernel_rfl) (by kernel_rfl) (fun _ _ _ h => h) (Or.inr ⟨by rfl, rfl⟩) (by assumption) ?_
              try simp only [Act.put, List.setIfInBounds_toArray, List.set_cons_zero, List.set_cons_succ]
              refine wpAnyH_take (i := 4) (oi := { dst := some 43, op := Op.move (Operand.tmp 4), type := 3, pos := "ref.go:252", after := #[{ on := 2, ground := Ground.guard }], guard := some (2, false) }) (v := undef) rfl (by kernel_rfl) (by kernel_rfl) (by kernel_rfl) (fun _ _ _ h => h) (Or.inr ⟨by rfl, rfl⟩) (by assumption) ?_
              try simp only [Act.put, List.setIfInBounds_toArray, List.set_cons_zero, List.set_cons_succ]
              refine wpAnyH_take (i := 5) (oi := { dst := some 44, op := Op.indexAddr 24 (Operand.tmp 42) (Operand.tmp 43), type := 0, pos := "ref.go:252", after := #[{ on := 3, ground := Ground.data }, { on := 4, ground := Ground.data }, { on := 2, ground := Ground.guard }], guard := some (2, false) }) (v := undef) rfl (by kernel_rfl) (by kernel_rfl) (by kernel_rfl) (fun _ _ _ h => h) (Or.inr ⟨by rfl, rfl⟩) (by assumption) ?_
              try simp only [Act.put, List.setIfInBounds_toArray, List.set_cons_zero, List.set_cons_succ]
              refine wpAnyH_take (i := 6) (oi := { dst := some 45, op := Op.load 39 (Operand.tmp 44), type := 39, pos := "ref.go:252", after := #[{ on := 5, ground := Ground.data }, { on := 2, ground := Ground.guard }], guard := some (2, false) }) (v := undef) rfl (by kernel_rfl) (by kernel_rfl) (by kernel_rfl) (fun _ _ _ h => h) (Or.inr ⟨by rfl, rfl⟩) (by assumption) ?_
              try simp only [Act.put, List.setIfInBounds_toArray, List.set_cons_zero, List.set_cons_succ]
              refine wpAnyH_take (i := 7) (oi := { dst := some 46, op := Op.move (Operand.tmp 5), type := 3, pos := "ref.go:252", after := #[{ on := 2, ground := Ground.guard }], guard := some (2, false) }) (v := undef) rfl (by kernel_rfl) (by kernel_rfl) (by kernel_rfl) (fun _ _ _ h => h) (Or.inr ⟨by rfl, rfl⟩) (by assumption) ?_
              try simp only [Act.put, List.setIfInBounds_toArray, List.set_cons_zero, List.set_cons_succ]
              refine wpAnyH_take (i := 8) (oi := { dst := some 47, op := Op.slice 39 (Operand.tmp 45) none (some (Operand.tmp 46)) none, type := 39, pos := "ref.go:252", after := #[{ on := 6, ground := Ground.data }, { on := 7, ground := Ground.data }, { on := 2, ground := Ground.guard }], guard := some (2, false) }) (v := undef) rfl (by kernel_rfl) (by kernel_rfl) (by kernel_rfl) (fun _ _ _ h => h) (Or.inr ⟨by rfl, rfl⟩) (by assumption) ?_
              try simp only [Act.put, List.setIfInBounds_toArray, List.set_cons_zero, List.set_cons_succ]
              refine wpAnyH_take (i := 9) (oi := { dst := some 48, op := Op.move (Operand.tmp 0), type := 24, pos := "ref.go:252", after := #[{ on := 2, ground := Ground.guard }], guard := some (2, false) }) (v := undef) rfl (by kernel_rfl) (by kernel_rfl) (by kernel_rfl) (fun _ _ _ h => h) (Or.inr ⟨by rfl, rfl⟩) (by assumption) ?_
              try simp only [Act.put, List.setIfInBounds_toArray, List.set_cons_zero, List.set_cons_succ]
              refine wpAnyH_take (i := 10) (oi := { dst := some 49, op := Op.move (Operand.tmp 4), type := 3, pos := "ref.go:252", after := #[{ on := 2, ground := Ground.guard }], guard := some (2, false) }) (v := undef) rfl (by kernel_rfl) (by kernel_rfl) (by kernel_rfl) (fun _ _ _ h => h) (Or.inr ⟨by rfl, rfl⟩) (by assumption) ?_
              try simp only [Act.put, List.setIfInBounds_toArray, List.set_cons_zero, List.set_cons_succ]
              refine wpAnyH_take (i := 11) (oi := { dst := some 50, op := Op.indexAddr 24 (Operand.tmp 48) (Operand.tmp 49), type := 0, pos := "ref.go:252", after := #[{ on := 9, ground := Ground.data }, { on := 10, ground := Ground.data }, { on := 2, ground := Ground.guard }], guard := some (2, false) }) (v := undef) rfl (by kernel_rfl) (by kernel_rfl) (by kernel_rfl) (fun _ _ _ h => h) (Or.inr ⟨by rfl, rfl⟩) (by assumption) ?_
              try simp only [Act.put, List.setIfInBounds_toArray, List.set_cons_zero, List.set_cons_succ]
              refine wpAnyH_take (i := 12) (oi := { dst := some 51, op := Op.load 39 (Operand.tmp 50), type := 39, pos := "ref.go:252", after := #[{ on := 11, ground := Ground.data }, { on := 2, ground := Ground.guard }], guard := some (2, false) }) (v := undef) rfl (by kernel_rfl) (by kernel_rfl) (by kernel_rfl) (fun _ _ _ h => h) (Or.inr ⟨by rfl, rfl⟩) (by assumption) ?_
              try simp only [Act.put, List.setIfInBounds_toArray, List.set_cons_zero, List.set_cons_succ]
              refine wpAnyH_take (i := 13) (oi := { dst := some 52, op := Op.move (Operand.tmp 5), type := 3, pos := "ref.go:252", after := #[{ on := 2, ground := Ground.guard }], guard := some (2, false) }) (v := undef) rfl (by kernel_rfl) (by kernel_rfl) (by kernel_rfl) (fun _ _ _ h => h) (Or.inr ⟨by rfl, rfl⟩) (by assumption) ?_
              try simp only [Act.put, List.setIfInBounds_toArray, List.set_cons_zero, List.set_cons_succ]
              refine wpAnyH_take (i := 14) (oi := { dst := some 53, op := Op.indexAddr 39 (Operand.tmp 51) (Operand.tmp 52), type := 0, pos := "ref.go:252", after := #[{ on := 12, ground := Ground.data }, { on := 13, ground := Ground.data }, { on := 2, ground := Ground.guard }], guard := some (2, false) }) (v := undef) rfl (by kernel_rfl) (by kernel_rfl) (by kernel_rfl) (fun _ _ _ h => h) (Or.inr ⟨by rfl, rfl⟩) (by assumption) ?_
              try simp only [Act.put, List.setIfInBounds_toArray, List.set_cons_zero, List.set_cons_succ]
              refine wpAnyH_take (i := 15) (oi := { dst := some 54, op := Op.fieldAddr 49 (Operand.tmp 53) 0, type := 0, pos := "ref.go:252", after := #[{ on := 14, ground := Ground.data }, { on := 2, ground := Ground.guard }], guard := some (2, false) }) (v := undef) rfl (by kernel_rfl) (by kernel_rfl) (by kernel_rfl) (fun _ _ _ h => h) (Or.inr ⟨by rfl, rfl⟩) (by assumption) ?_
              try simp only [Act.put, List.setIfInBounds_toArray, List.set_cons_zero, List.set_cons_succ]
              refine wpAnyH_take (i := 16) (oi := { dst := some 55, op := Op.load 9 (Operand.tmp 54), type := 9, pos := "ref.go:252", after := #[{ on := 15, ground := Ground.data }, { on := 2, ground := Ground.guard }], guard := some (2, false) }) (v := undef) rfl (by kernel_rfl) (by kernel_rfl) (by kernel_rfl) (fun _ _ _ h => h) (Or.inr ⟨by rfl, rfl⟩) (by assumption) ?_
              try simp only [Act.put, List.setIfInBounds_toArray, List.set_cons_zero, List.set_cons_succ]
              refine wpAnyH_take (i := 17) (oi := { dst := some 56, op := Op.call { callee := Callee.value (Operand.func 43), args := #[Operand.tmp 47, Operand.tmp 55], argTypes := #[39, 9] }, type := 3, pos := "ref.go:252", after := #[{ on := 8, ground := Ground.data }, { on := 16, ground := Ground.data }, { on := 2, ground := Ground.chain }, { on := 2, ground := Ground.guard }], guard := some (2, false) }) (v := undef) rfl (by kernel_rfl) (by kernel_rfl) (by kernel_rfl) (fun _ _ _ h => h) (Or.inr ⟨by rfl, rfl⟩) (by assumption) ?_
              try simp only [Act.put, List.setIfInBounds_toArray, List.set_cons_zero, List.set_cons_succ]
              refine wpAnyH_take (i := 18) (oi := { dst := some 57, op := Op.binOp BinOp.geq 3 (Operand.tmp 56) (Operand.const (Value.int IntKind.i64 0)) 3, type := 4, pos := "ref.go:252", after := #[{ on := 17, ground := Ground.data }, { on := 2, ground := Ground.guard }], guard := some (2, false) }) (v := undef) rfl (by kernel_rfl) (by kernel_rfl) (by kernel_rfl) (fun _ _ _ h => h) (Or.inr ⟨by rfl, rfl⟩) (by assumption) ?_
              try simp only [Act.put, List.setIfInBounds_toArray, List.set_cons_zero, List.set_cons_succ]
              refine wpAnyH_take (i := 19) (oi := { dst := some 58, op := Op.pick (Operand.tmp 41) (Operand.const (Value.bool true)) (Operand.tmp 57), type := 4, pos := "ref.go:252", after := #[{ on := 2, ground := Ground.data }, { on := 18, ground := Ground.data }], guard := none }) (v := ?_) rfl (by kernel_rfl) (by kernel_rfl) (by kernel_rfl) (fun _ _ _ h => h) (Or.inl ⟨by rfl, ?_⟩) (by assumption) ?_
              rotate_left
              · intro w hSw; (try dsimp only at hSw); go_simp; (try with_reducible rfl)
              try simp only [Act.put, List.setIfInBounds_toArray, List.set_cons_zero, List.set_cons_succ]
              refine wpAnyH_done (by kernel_rfl) ?_ _
              go_wp2_with fail
              go_ret2
              exact ⟨(unhide HB5).drew, .inr ⟨unhide HN2, rfl⟩⟩
            · have hck : ckN ps[i][k] = 0 := by unfold ckN; rw [hok]; rfl
              rw [hck] at cK
              cases hh : hasN (ps[i].take k) ps[i][k].nm
              · rw [hh] at cF
                have HY3 := hide (unhide HY2 hok hh)
                clear hck hok hh HBAD HY2
                generalize ba ps[i][k].nm = nmk at *
                generalize ps[i][k].ls.length = ln at *
                generalize az.length = nn at *
                go_wp2_with (go_at_call 24; refine (unhide cK).mono ?_; rintro e w5 ⟨rfl, hb⟩; have HB5 := hide (bl_t (unhide HB2) hb); have HR5 := hide hb; clear hb)
                have B0 := hide ((unhide HR5).trans ((Below.refl wr.heap.size w5).drew))
                go_region_held3 (fun w2 => w2.cell? ⟨g0, o0 + i, none⟩ = some (.slice (some ⟨g, o, none⟩) L pc) ∧ w2.cell? ⟨g, o + k * 3, none⟩ = some (.string nmk)) (first | exact unhide HPp _ (unhide B0) | exact unhide HPp _ (unhide B6)) (first | (go_at_call 43; refine (unhide cF _ (unhide B0)).mono ?_; rintro x5 w6 ⟨x, rfl, hx, hb6⟩; have hx0 : ¬ (0 : Int) ≤ x := (fun h => by have := hx.1 h; cases this); have B6 := hide ((unhide B0).trans (hb6.mono (unhide B0).size)); clear hb6 hx))
                go_wp2_with fail
                have HB7 := hide (bl_t (unhide HB2) (unhide B6))
                go_roundw
                case rel => exact ⟨k + 1, by omega, by go_num, HY3, HB7⟩
                case measure => simp [intOf]; omega
              · rw [hh] at cF
                have HN2 := hide (unhide HBAD (.inr hh))
                clear hck hok hh HBAD HY2
                generalize ba ps[i][k].nm = nmk at *
                generalize ps[i][k].ls.length = ln at *
                generalize az.length = nn at *
                go_wp2_with (go_at_call 24; refine (unhide cK).mono ?_; rintro e w5 ⟨rfl, hb⟩; have HB5 := hide (bl_t (unhide HB2) hb); have HR5 := hide hb; clear hb)
                have B0 := hide ((unhide HR5).trans ((Below.refl wr.heap.size w5).drew))
                go_region_held3 (fun w2 => w2.cell? ⟨g0, o0 + i, none⟩ = some (.slice (some ⟨g, o, none⟩) L pc) ∧ w2.cell? ⟨g, o + k * 3, none⟩ = some (.string nmk)) (first | exact unhide HPp _ (unhide B0) | exact unhide HPp _ (unhide B6)) (first | (go_at_call 43; refine (unhide cF _ (unhide B0)).mono ?_; rintro x5 w6 ⟨x, rfl, hx, hb6⟩; have hx0 : (0 : Int) ≤ x := (by first | exact hx.2 rfl | exact hx.2 trivial); have B6 := hide ((unhide B0).trans (hb6.mono (unhide B0).size)); clear hb6 hx))
                go_wp2_with fail
                go_ret2
                exact ⟨bl_t (unhide HB) (bl_t (unhide HB2) (unhide B6)), .inr ⟨unhide HN2, rfl⟩⟩
          · have hlt2z : ¬ (k : Int) < (L : Int) := by omega
            have HZ2 := hide (show ∀ j (hj : j < ps.length), j < i + 1 → okP ps[j] = true from fun j hj hji => by
              by_cases e : j < i
              · exact unhide HZ j hj e
              · obtain rfl : j = i := by omega
                refine okP_good (fun e => by have := unhide HL; rw [e] at this; simp at this; omega) fun m hm => unhide HY m hm (by have := unhide HL; omega))
            have HB3 := hide (bl_t (unhide HB) (unhide HB2))
            clear HZ HY HFL HC0 HF HQ
            go_wp2_with fail
            go_roundw
            case rel => exact ⟨i + 1, by omega, by go_num, HZ2, HB3⟩
            case measure => simp [intOf]; omega
    · have hltz : ¬ (i : Int) < (N : Int) := by omega
      have HOK := hide (show ∀ p ∈ ps, okP p = true from fun p hp => by
        obtain ⟨j, hj, rfl⟩ := List.getElem_of_mem hp
        exact unhide HZ j hj (by have := unhide HN; omega))
      clear HZ
      have hsz := unhide HSZ (unhide HOK)
      have HT := hide (fun (i : Nat) => prT_take_le ps i)
      have HALL := hide (show prT (ps.take N) = prT ps by rw [← unhide HN, List.take_length])
      clear HSZ HS
      go_wp2_with fail
      go_loopw [7, 8, 9] (fun bv iv _ wr => ∃ (i : Nat) (ra : Option Addr) (rc : Nat), i ≤ N ∧ iv = .int .i64 i ∧ bv = .slice ra (prT (ps.take i)).length rc ∧ Hid (Ro w.heap.size wr ra (prT (ps.take i))) ∧ Hid (Below w.heap.size w wr)) (fun _ iv _ _ => N - (intOf iv).toNat)
      case atStart => exact ⟨0, none, 0, Nat.zero_le _, rfl, rfl, hide ⟨fun h => absurd h (by simp [prT]), fun a h => by cases h⟩, HB⟩
      case round =>
        clear HB
        obtain ⟨i, ra0, rc0, hi, rfl, rfl, HR0, HB⟩ := hrel
        obtain ⟨w0, rfl⟩ : ∃ w0, w0 = wr := ⟨wr, rfl⟩
        by_cases hlt : i < N
        · have hltz : (i : Int) < (N : Int) := by omega
          have hip : i < ps.length := by have := unhide HN; omega
          obtain ⟨g0, o0, pa, pc, hva, c0, hpc, hp⟩ := unhide HD w0 (unhide HB) i hip
          subst hva
          have hokp := unhide HOK _ (List.getElem_mem hip)
          have hne : 0 < ps[i].length := by
            unfold okP at hokp
            simp only [Bool.and_eq_true, decide_eq_true_eq] at hokp
            exact List.length_pos_iff.2 hokp.2.1
          obtain ⟨g, o, hpa, hfl⟩ := hp hne
          subst hpa
          have HFO := hide (fun (k : Nat) (hk : k < ps[i].length) => (show okF ps[i][k] = true from by
            unfold okP at hokp
            simp only [Bool.and_eq_true, List.all_eq_true] at hokp
            exact hokp.1 _ (List.getElem_mem hk)))
          obtain ⟨L, hL⟩ : ∃ L, ps[i].length = L := ⟨_, rfl⟩
          have HL := hide hL
          have hLl : L ≤ 16777217 := by
            have h1 := (prT_len ps).2 _ (List.getElem_mem hip)
            have h2 := (par_len ps[i] (List.all_eq_true.2 fun f hf => by
              obtain ⟨k, hk, rfl⟩ := List.getElem_of_mem hf
              exact unhide HFO k hk)).1
            omega
          rw [hL] at c0
          have HC0 := hide (fun (W : World) (hb : Below w0.heap.size w0 W) => cell_later c0 hb)
          have HFL := hide (fun (W : World) (hb : Below w0.heap.size w0 W) (k : Nat) (hk : k < ps[i].length) => (hfl k ps[i][k] (List.getElem?_eq_getElem hk)).later hb)
          have htl := unhide HT i
          clear hfl hL hne hp hokp hpc
          by_cases hi0 : i = 0
          · have hm0 : midT ps i ps[i] 0 = prT (ps.take i) := by subst hi0; simp [midT, prT, parT, sepB]
            have e0 : ¬ (0 : Int) < (i : Int) := by omega
            have HR1 := hide (show Ro w.heap.size w0 ra0 (midT ps i ps[i] 0) by rw [hm0]; exact unhide HR0)
            rw [← hm0]
            clear hm0 HR0 hi0
            go_wp2_with fail
            go_loopw [7, 9] (fun bv kv wr => ∃ (k : Nat) (ra : Option Addr) (rc : Nat), k ≤ L ∧ kv = .int .i64 k ∧ bv = .slice ra (midT ps i ps[i] k).length rc ∧ Hid (Ro w.heap.size wr ra (midT ps i ps[i] k)) ∧ Hid (Below w0.heap.size w0 wr)) (fun _ kv _ => L - (intOf kv).toNat)
            case atStart => exact ⟨0, ra0, rc0, Nat.zero_le _, rfl, rfl, HR1, hide (Below.refl _ _)⟩
            case round =>
              obtain ⟨k, ra, rc, hk, rfl, rfl, HR, HB2⟩ := hrel
              have c1 := unhide HC0 _ (unhide HB2)
              by_cases hlt2 : k < L
              · have hlt2z : (k : Int) < (L : Int) := by omega
                have hkp : k < ps[i].length := by have := unhide HL; omega
                have fg := unhide HFL _ (unhide HB2) k hkp
                have hfok := unhide HFO k hkp
                obtain ⟨la, lc, d1, _, d1l⟩ := fg.ls
                obtain ⟨na, nc, az, d2, _⟩ := fg.ns
                have d0 := fg.nm
                have hms := mid_step ps i ps[i] k hkp
                have hml := mid_le ps i hip (k + 1)
                rw [hms, List.length_append] at hml
                obtain ⟨a, r, hls⟩ : ∃ a r, ps[i][k].ls = a :: r := by
                  cases e : ps[i][k].ls with
                  | nil => exact absurd e (okF_ls hfok)
                  | cons a r => exact ⟨a, r, rfl⟩
                have hft : fldT ps[i][k] = fldT ⟨ps[i][k].nm, a :: r, []⟩ := by unfold fldT linF; rw [hls]
                have hrl : r.length ≤ 16777216 := by
                  have := (fld_len ps[i][k] hfok).2.1
                  rw [hls, List.length_cons] at this
                  omega
                rw [hls] at d1 d1l
                rw [List.length_cons] at d1
                obtain ⟨lb, lo, rfl, hcl⟩ := d1l (by simp [strs])
                have cP := hide (rprinted_any ps[i][k].nm a r lb lo lc (.slice na az.length nc) wr hrl (by rw [← hft]; omega) hcl)
                rw [← hft] at cP
                have cJ := hide (fun (W : World) (hb : Below wr.heap.size wr W) => (show Calls Tryd.prog 44 #[.slice ra (midT ps i ps[i] k).length rc, .string (ba (fldT ps[i][k]))] W fun e w' => ∃ qa qc, e = .returned (.slice qa (midT ps i ps[i] (k + 1)).length qc) ∧ Ro w.heap.size w' qa (midT ps i ps[i] (k + 1)) ∧ Below W.heap.size W w' from by
                  refine (rjoined_any (midT ps i ps[i] k) (ba (fldT ps[i][k])) ra rc W (by rw [ba_size]; omega) ((unhide HR).1.later hb)).mono ?_
                  rintro e w' ⟨qa, qc, h1, h2, h3⟩
                  have hlen : (midT ps i ps[i] k).length + (ba (fldT ps[i][k])).size = (midT ps i ps[i] (k + 1)).length := by rw [ba_size, hms, List.length_append]
                  rw [hlen, ba_list, ← hms] at h2
                  rw [hlen] at h1
                  exact ⟨qa, qc, h1, Ro.of_owns h2 (by have a1 := (unhide HB).size; have a2 := (unhide HB2).size; have a3 := hb.size; omega), h3⟩))
                clear fg hfok hms hml hft hrl hcl hls HR
                generalize ba (fldT ps[i][k]) = st at *
                generalize ba ps[i][k].nm = nmk at *
                generalize az.length = nn at *
                go_wp2_with (first | (go_at_call 45; refine (unhide cP).mono ?_; rintro e w5 ⟨rfl, hb⟩; have HB5 := hide hb; clear hb) | (go_at_call 44; refine (unhide cJ _ (unhide HB5)).mono ?_; rintro e w6 ⟨qa, qc, rfl, h1, h2⟩; have HR6 := hide h1; have HB6 := hide (bl_t (unhide HB2) (bl_t (unhide HB5) h2)); clear h1 h2))
                go_roundw
                case rel => exact ⟨k + 1, qa, qc, by omega, by go_num, rfl, HR6, HB6⟩
                case measure => simp [intOf]; omega
              · have hlt2z : ¬ (k : Int) < (L : Int) := by omega
                have hkL : k = ps[i].length := by have := unhide HL; omega
                have hmn := mid_next ps i hip
                rw [← hkL] at hmn
                have HR2 := hide (show Ro w.heap.size wr ra (prT (ps.take (i + 1))) by rw [hmn]; exact unhide HR)
                have HB3 := hide (bl_t (unhide HB) (unhide HB2))
                rw [← hmn]
                clear hkL hmn HR HFL HC0 HFO
                go_wp2_with fail
                go_roundw
                case rel => exact ⟨i + 1, ra, rc, by omega, by go_num, rfl, HR2, HB3⟩
                case measure => simp [intOf]; omega
          · have hm0 : midT ps i ps[i] 0 = prT (ps.take i) ++ [10] := by simp [midT, parT, sepB, hi0]
            have e0 : (0 : Int) < (i : Int) := by omega
            have cN := hide (show Calls Tryd.prog 44 #[.slice ra0 (prT (ps.take i)).length rc0, .string ⟨#[10]⟩] w0 fun e w' => ∃ qa qc, e = .returned (.slice qa (midT ps i ps[i] 0).length qc) ∧ Ro w.heap.size w' qa (midT ps i ps[i] 0) ∧ Below w0.heap.size w0 w' from by
              refine (rjoined_any (prT (ps.take i)) ⟨#[10]⟩ ra0 rc0 w0 (by show _ + 1 ≤ _; omega) (unhide HR0).1).mono ?_
              rintro e w' ⟨qa, qc, h1, h2, h3⟩
              have hlen : (prT (ps.take i)).length + (⟨#[10]⟩ : ByteArray).size = (midT ps i ps[i] 0).length := by rw [hm0, List.length_append]; rfl
              rw [hlen, show prT (ps.take i) ++ (⟨#[10]⟩ : ByteArray).data.toList = midT ps i ps[i] 0 from hm0.symm] at h2
              rw [hlen] at h1
              exact ⟨qa, qc, h1, Ro.of_owns h2 (by have a1 := (unhide HB).size; omega), h3⟩)
            clear hm0 HR0 hi0
            go_wp2_with (go_at_call 44; refine (unhide cN).mono ?_; rintro e wj ⟨ra1, rc1, rfl, h1, h2⟩; have HR1 := hide h1; have HBj := hide h2; clear h1 h2)
            go_loopw [7, 9] (fun bv kv wr => ∃ (k : Nat) (ra : Option Addr) (rc : Nat), k ≤ L ∧ kv = .int .i64 k ∧ bv = .slice ra (midT ps i ps[i] k).length rc ∧ Hid (Ro w.heap.size wr ra (midT ps i ps[i] k)) ∧ Hid (Below w0.heap.size w0 wr)) (fun _ kv _ => L - (intOf kv).toNat)
            case atStart => exact ⟨0, ra1, rc1, Nat.zero_le _, rfl, rfl, HR1, HBj⟩
            case round =>
              obtain ⟨k, ra, rc, hk, rfl, rfl, HR, HB2⟩ := hrel
              have c1 := unhide HC0 _ (unhide HB2)
              by_cases hlt2 : k < L
              · have hlt2z : (k : Int) < (L : Int) := by omega
                have hkp : k < ps[i].length := by have := unhide HL; omega
                have fg := unhide HFL _ (unhide HB2) k hkp
                have hfok := unhide HFO k hkp
                obtain ⟨la, lc, d1, _, d1l⟩ := fg.ls
                obtain ⟨na, nc, az, d2, _⟩ := fg.ns
                have d0 := fg.nm
                have hms := mid_step ps i ps[i] k hkp
                have hml := mid_le ps i hip (k + 1)
                rw [hms, List.length_append] at hml
                obtain ⟨a, r, hls⟩ : ∃ a r, ps[i][k].ls = a :: r := by
                  cases e : ps[i][k].ls with
                  | nil => exact absurd e (okF_ls hfok)
                  | cons a r => exact ⟨a, r, rfl⟩
                have hft : fldT ps[i][k] = fldT ⟨ps[i][k].nm, a :: r, []⟩ := by unfold fldT linF; rw [hls]
                have hrl : r.length ≤ 16777216 := by
                  have := (fld_len ps[i][k] hfok).2.1
                  rw [hls, List.length_cons] at this
                  omega
                rw [hls] at d1 d1l
                rw [List.length_cons] at d1
                obtain ⟨lb, lo, rfl, hcl⟩ := d1l (by simp [strs])
                have cP := hide (rprinted_any ps[i][k].nm a r lb lo lc (.slice na az.length nc) wr hrl (by rw [← hft]; omega) hcl)
                rw [← hft] at cP
                have cJ := hide (fun (W : World) (hb : Below wr.heap.size wr W) => (show Calls Tryd.prog 44 #[.slice ra (midT ps i ps[i] k).length rc, .string (ba (fldT ps[i][k]))] W fun e w' => ∃ qa qc, e = .returned (.slice qa (midT ps i ps[i] (k + 1)).length qc) ∧ Ro w.heap.size w' qa (midT ps i ps[i] (k + 1)) ∧ Below W.heap.size W w' from by
                  refine (rjoined_any (midT ps i ps[i] k) (ba (fldT ps[i][k])) ra rc W (by rw [ba_size]; omega) ((unhide HR).1.later hb)).mono ?_
                  rintro e w' ⟨qa, qc, h1, h2, h3⟩
                  have hlen : (midT ps i ps[i] k).length + (ba (fldT ps[i][k])).size = (midT ps i ps[i] (k + 1)).length := by rw [ba_size, hms, List.length_append]
                  rw [hlen, ba_list, ← hms] at h2
                  rw [hlen] at h1
                  exact ⟨qa, qc, h1, Ro.of_owns h2 (by have a1 := (unhide HB).size; have a2 := (unhide HB2).size; have a3 := hb.size; omega), h3⟩))
                clear fg hfok hms hml hft hrl hcl hls HR
                generalize ba (fldT ps[i][k]) = st at *
                generalize ba ps[i][k].nm = nmk at *
                generalize az.length = nn at *
                go_wp2_with (first | (go_at_call 45; refine (unhide cP).mono ?_; rintro e w5 ⟨rfl, hb⟩; have HB5 := hide hb; clear hb) | (go_at_call 44; refine (unhide cJ _ (unhide HB5)).mono ?_; rintro e w6 ⟨qa, qc, rfl, h1, h2⟩; have HR6 := hide h1; have HB6 := hide (bl_t (unhide HB2) (bl_t (unhide HB5) h2)); clear h1 h2))
                go_roundw
                case rel => exact ⟨k + 1, qa, qc, by omega, by go_num, rfl, HR6, HB6⟩
                case measure => simp [intOf]; omega
              · have hlt2z : ¬ (k : Int) < (L : Int) := by omega
                have hkL : k = ps[i].length := by have := unhide HL; omega
                have hmn := mid_next ps i hip
                rw [← hkL] at hmn
                have HR2 := hide (show Ro w.heap.size wr ra (prT (ps.take (i + 1))) by rw [hmn]; exact unhide HR)
                have HB3 := hide (bl_t (unhide HB) (unhide HB2))
                rw [← hmn]
                clear hkL hmn HR HFL HC0 HFO
                go_wp2_with fail
                go_roundw
                case rel => exact ⟨i + 1, ra, rc, by omega, by go_num, rfl, HR2, HB3⟩
                case measure => simp [intOf]; omega
        · obtain rfl : i = N := by omega
          have hltz : ¬ (i : Int) < (i : Int) := by omega
          rw [unhide HALL]
          have e1 : ¬ (16777216 : Int) < ((prT ps).length : Int) := by omega
          have HR1 := hide (show Ro w.heap.size w0 ra0 (prT ps) by have := unhide HR0; rw [unhide HALL] at this; exact this)
          clear HR0
          go_wp2_with fail
          go_ret2
          exact ⟨unhide HB, .inl ⟨unhide HOK, ra0, ⟨rc0, rfl⟩, unhide HR1⟩⟩
end Go.Proofs.YtiibobjbcgbknaaDoor
