import Derived.Test.YtmckmeoondlcpaaDoorFirst
import Derived.Test.YtmckmeoondlcpaaDoorMeetR
import Derived.Deep.RegionHeld3
namespace Go.Proofs.YtmckmeoondlcpaaDoor
open Go.RowKit

theorem keepF {W w' : World} {b i c : Nat} {v0 v1 v2 : Value} {cs : List Value} (hb : b < W.heap.size) (hc : c < W.heap.size) (c0 : W.cell? ⟨b, i, none⟩ = some v0) (c1 : W.cell? ⟨b, i + 1, none⟩ = some v1) (c2 : W.cell? ⟨b, i + 2, none⟩ = some v2) (hr : W.rangeAt c 0 cs) (B : Below W.heap.size W w') :
    w'.cell? ⟨b, i, none⟩ = some v0 ∧ w'.cell? ⟨b, i + 1, none⟩ = some v1 ∧ w'.cell? ⟨b, i + 2, none⟩ = some v2 ∧ w'.rangeAt c 0 cs ∧ Below W.heap.size W w' :=
  ⟨(B.cell (p := ⟨b, i, none⟩) hb).trans c0, (B.cell (p := ⟨b, i + 1, none⟩) hb).trans c1, (B.cell (p := ⟨b, i + 2, none⟩) hb).trans c2, range_later1 hr hc B, B⟩

set_option maxRecDepth 20000 in
set_option maxHeartbeats 2000000 in
theorem rFirst_any (al : List At) (nm vr : ByteArray) (pv : Value) (pl : List ByteArray) (cs : List Value) (v : Value) (hsz : ∀ i (h : i < al.length), al[i].v.size ≤ maxLen) (hvr : vr.size ≤ maxLen) (w : World) (hp : Pkg cs nm vr pv) (h : Strs w pv pl) (ha : Ats w v al) :
    Calls Tryd.prog 13 #[v, .agg cs.toArray] w fun e w' => e = .returned (.tuple #[.int .i64 (firstA al nm vr pl).1, .bool (firstA al nm vr pl).2]) ∧ Below w.heap.size w w' := by
  obtain ⟨W, hW, hcells, hq, hB⟩ := pkgNew w cs 38
  have HR := hide (range_of1 hcells)
  have HI77 := hide (show (Tryd.prog.info? 38).map (·.size) = some cs.length by rw [hp.len]; kernel_rfl)
  have HM := hide (fun (i : Nat) (hi : i < al.length) (w' : World) (hb : Below w.heap.size w w') => rMeets_any al[i].n al[i].op al[i].v nm vr pv pl cs (hsz i hi) hvr w' hp (h.later hb))
  have HA := hide (ha.later hB)
  obtain ⟨xa, xc, rfl, hxb, -⟩ := ha
  have HB := hide hB
  clear hcells hp h hsz hvr hB
  go_enter Tryd.func13, Tryd.ntmps13
  go_wp2_with fail
  go_loopw [6, 7] (fun iv _ wr => ∃ k : Nat, k ≤ al.length ∧ iv = .int .i64 k ∧ Hid (Below W.heap.size W wr ∧ ∀ j (hj : j < al.length), j < k → meetsA al[j].n al[j].op al[j].v nm vr pl = false)) (fun iv _ _ => al.length - (intOf iv).toNat)
  case atStart => exact ⟨0, Nat.zero_le _, rfl, hide ⟨Below.refl _ _, fun j hj h => absurd h (Nat.not_lt_zero _)⟩⟩
  case round =>
    obtain ⟨k, hk, rfl, HQ⟩ := hrel
    by_cases hlt : k < al.length
    · have HBw := hide ((unhide HB).trans ((unhide HQ).1.mono (unhide HB).size))
      obtain ⟨_, _, e0, -, hcc⟩ := unhide HA
      injection e0 with e1 e2 e3
      subst e1
      obtain ⟨b, o, rfl, hb, c0, c1, c2⟩ := hcc k hlt
      have HMk := hide (unhide HM k hlt)
      clear hcc e3 e2
      rcases hak : al[k] with ⟨q0, q1, q2⟩
      rw [hak] at c0 c1 c2 HMk
      have HK := hide hak
      clear hak
      simp only at c0 c1 c2
      have HF := hide (fun (w' : World) (B : Below W.heap.size W w') => keepF hb hq c0 c1 c2 (unhide HR) B)
      have HD := hide (unhide HQ).1.drew
      have HE := hide (unhide HBw).drew
      clear c0 c1 c2
      cases hm : meetsA q0 q1 q2 nm vr pl
      · have HMk1 := hide hm
        rw [show meetsA (At.mk q0 q1 q2).n (At.mk q0 q1 q2).op (At.mk q0 q1 q2).v nm vr pl = false from hm] at HMk
        clear hm
        go_wp2_with fail
        have j1 : (0 : Int) ≤ (k : Int) := by omega
        have j2 : (k : Int) < (al.length : Int) := by omega
        refine wp_region_held_drew (S := (fun w' => w'.cell? ⟨b, o + k * 3, none⟩ = some (.string q0) ∧ w'.cell? ⟨b, o + k * 3 + 1, none⟩ = some (.int .i64 q1) ∧ w'.cell? ⟨b, o + k * 3 + 2, none⟩ = some (.string q2) ∧ w'.rangeAt w.heap.size 0 cs ∧ Below W.heap.size W w')) (by kernel_rfl) ?_ (fun hHeld => ?_)
        · exact unhide HF _ (unhide HD)
        refine wpAnyH_take (i := 0) (oi := { dst := some 14, op := Op.move (Operand.tmp 0), type := 24, pos := "ref.go:381", after := #[], guard := none }) (v := ?_) rfl (by kernel_rfl) (by kernel_rfl) (by kernel_rfl) (fun _ _ _ h => h) (Or.inl ⟨by rfl, ?_⟩) (by assumption) ?_
        rotate_left
        · intro w hSw; (try dsimp only at hSw); go_simp; (try with_reducible rfl)
        try simp only [Act.put, List.setIfInBounds_toArray, List.set_cons_zero, List.set_cons_succ]
        refine wpAnyH_take (i := 1) (oi := { dst := some 15, op := Op.move (Operand.tmp 6), type := 3, pos := "ref.go:381", after := #[], guard := none }) (v := ?_) rfl (by kernel_rfl) (by kernel_rfl) (by kernel_rfl) (fun _ _ _ h => h) (Or.inl ⟨by rfl, ?_⟩) (by assumption) ?_
        rotate_left
        · intro w hSw; (try dsimp only at hSw); go_simp; (try with_reducible rfl)
        try simp only [Act.put, List.setIfInBounds_toArray, List.set_cons_zero, List.set_cons_succ]
        refine wpAnyH_take (i := 2) (oi := { dst := some 16, op := Op.indexAddr 24 (Operand.tmp 14) (Operand.tmp 15), type := 0, pos := "ref.go:381", after := #[{ on := 0, ground := Ground.data }, { on := 1, ground := Ground.data }], guard := none }) (v := ?_) rfl (by kernel_rfl) (by kernel_rfl) (by kernel_rfl) (fun _ _ _ h => h) (Or.inl ⟨by rfl, ?_⟩) (by assumption) ?_
        rotate_left
        · intro w hSw; (try dsimp only at hSw); go_simp; (try with_reducible rfl)
        try simp only [Act.put, List.setIfInBounds_toArray, List.set_cons_zero, List.set_cons_succ]
        refine wpAnyH_take (i := 3) (oi := { dst := some 17, op := Op.load 33 (Operand.tmp 16), type := 33, pos := "ref.go:381", after := #[{ on := 2, ground := Ground.data }], guard := none }) (v := ?_) rfl (by kernel_rfl) (by kernel_rfl) (by kernel_rfl) (fun _ _ _ h => h) (Or.inl ⟨by rfl, ?_⟩) (by assumption) ?_
        rotate_left
        · intro w hSw; (try dsimp only at hSw); go_simp; (try with_reducible rfl)
        try simp only [Act.put, List.setIfInBounds_toArray, List.set_cons_zero, List.set_cons_succ]
        refine wpAnyH_take (i := 4) (oi := { dst := some 18, op := Op.load 38 (Operand.tmp 3), type := 38, pos := "ref.go:381", after := #[], guard := none }) (v := .agg cs.toArray) rfl (by kernel_rfl) (by kernel_rfl) (by kernel_rfl) (fun _ _ _ h => h) (yieldsIf_load_mid (by rfl) 38 (.tmp 3) rfl w.heap.size 0 rfl cs _ (fun _ h => h.2.2.2.1) Tryd.underlying38 rfl (unhide HI77)) (by assumption) ?_
        try simp only [Act.put, List.setIfInBounds_toArray, List.set_cons_zero, List.set_cons_succ]
        refine wpAnyH_ready (rs := [5]) (by kernel_rfl) (by simp) ?_
        refine AllReadyH.cons (o := { dst := some 19, op := Op.call { callee := Callee.value (Operand.func 16), args := #[Operand.tmp 17, Operand.tmp 18], argTypes := #[33, 38] }, type := 4, pos := "ref.go:381", after := #[{ on := 3, ground := Ground.data }, { on := 4, ground := Ground.data }], guard := none }) rfl (fun K hK => ?_) AllReadyH.nil
        go_simp
        refine (unhide HMk _ (unhide HE)).mono ?_
        rintro e w5 ⟨rfl, hb5⟩
        have HB6 := hide ((unhide HD).trans (hb5.mono (unhide HD).size))
        clear hb5
        go_wp2_with fail
        refine hK.out _ _ ?_ (fun hHeld0 => ?_)
        · exact unhide HF _ (unhide HB6)
        clear hHeld
        clear hK K
        try simp only [Act.put, List.setIfInBounds_toArray, List.set_cons_zero, List.set_cons_succ]
        refine wpAnyH_take (i := 6) (oi := { dst := some 7, op := Op.assign (Operand.tmp 19), type := 4, pos := "ref.go:381", after := #[{ on := 5, ground := Ground.data }, { on := 5, ground := Ground.chain }, { on := 0, ground := Ground.phase }, { on := 1, ground := Ground.phase }, { on := 2, ground := Ground.phase }, { on := 3, ground := Ground.phase }, { on := 4, ground := Ground.phase }, { on := 5, ground := Ground.phase }], guard := none }) (v := ?_) rfl (by kernel_rfl) (by kernel_rfl) (by kernel_rfl) (fun _ _ _ h => h) (Or.inl ⟨by rfl, ?_⟩) (by assumption) ?_
        rotate_left
        · intro w hSw; (try dsimp only at hSw); go_simp; (try with_reducible rfl)
        try simp only [Act.put, List.setIfInBounds_toArray, List.set_cons_zero, List.set_cons_succ]
        refine wpAnyH_done (by kernel_rfl) ?_ _
        go_wp2_with fail
        go_roundw
        case rel =>
          refine ⟨k + 1, by omega, by go_num, hide ⟨unhide HB6, fun j hj h => ?_⟩⟩
          by_cases e : j = k
          · subst e; rw [unhide HK]; exact unhide HMk1
          · exact (unhide HQ).2 j hj (by omega)
        case measure => simp [intOf]; omega
      · have HMk1 := hide hm
        rw [show meetsA (At.mk q0 q1 q2).n (At.mk q0 q1 q2).op (At.mk q0 q1 q2).v nm vr pl = true from hm] at HMk
        clear hm
        go_wp2_with fail
        have j1 : (0 : Int) ≤ (k : Int) := by omega
        have j2 : (k : Int) < (al.length : Int) := by omega
        refine wp_region_held_drew (S := (fun w' => w'.cell? ⟨b, o + k * 3, none⟩ = some (.string q0) ∧ w'.cell? ⟨b, o + k * 3 + 1, none⟩ = some (.int .i64 q1) ∧ w'.cell? ⟨b, o + k * 3 + 2, none⟩ = some (.string q2) ∧ w'.rangeAt w.heap.size 0 cs ∧ Below W.heap.size W w')) (by kernel_rfl) ?_ (fun hHeld => ?_)
        · exact unhide HF _ (unhide HD)
        refine wpAnyH_take (i := 0) (oi := { dst := some 14, op := Op.move (Operand.tmp 0), type := 24, pos := "ref.go:381", after := #[], guard := none }) (v := ?_) rfl (by kernel_rfl) (by kernel_rfl) (by kernel_rfl) (fun _ _ _ h => h) (Or.inl ⟨by rfl, ?_⟩) (by assumption) ?_
        rotate_left
        · intro w hSw; (try dsimp only at hSw); go_simp; (try with_reducible rfl)
        try simp only [Act.put, List.setIfInBounds_toArray, List.set_cons_zero, List.set_cons_succ]
        refine wpAnyH_take (i := 1) (oi := { dst := some 15, op := Op.move (Operand.tmp 6), type := 3, pos := "ref.go:381", after := #[], guard := none }) (v := ?_) rfl (by kernel_rfl) (by kernel_rfl) (by kernel_rfl) (fun _ _ _ h => h) (Or.inl ⟨by rfl, ?_⟩) (by assumption) ?_
        rotate_left
        · intro w hSw; (try dsimp only at hSw); go_simp; (try with_reducible rfl)
        try simp only [Act.put, List.setIfInBounds_toArray, List.set_cons_zero, List.set_cons_succ]
        refine wpAnyH_take (i := 2) (oi := { dst := some 16, op := Op.indexAddr 24 (Operand.tmp 14) (Operand.tmp 15), type := 0, pos := "ref.go:381", after := #[{ on := 0, ground := Ground.data }, { on := 1, ground := Ground.data }], guard := none }) (v := ?_) rfl (by kernel_rfl) (by kernel_rfl) (by kernel_rfl) (fun _ _ _ h => h) (Or.inl ⟨by rfl, ?_⟩) (by assumption) ?_
        rotate_left
        · intro w hSw; (try dsimp only at hSw); go_simp; (try with_reducible rfl)
        try simp only [Act.put, List.setIfInBounds_toArray, List.set_cons_zero, List.set_cons_succ]
        refine wpAnyH_take (i := 3) (oi := { dst := some 17, op := Op.load 33 (Operand.tmp 16), type := 33, pos := "ref.go:381", after := #[{ on := 2, ground := Ground.data }], guard := none }) (v := ?_) rfl (by kernel_rfl) (by kernel_rfl) (by kernel_rfl) (fun _ _ _ h => h) (Or.inl ⟨by rfl, ?_⟩) (by assumption) ?_
        rotate_left
        · intro w hSw; (try dsimp only at hSw); go_simp; (try with_reducible rfl)
        try simp only [Act.put, List.setIfInBounds_toArray, List.set_cons_zero, List.set_cons_succ]
        refine wpAnyH_take (i := 4) (oi := { dst := some 18, op := Op.load 38 (Operand.tmp 3), type := 38, pos := "ref.go:381", after := #[], guard := none }) (v := .agg cs.toArray) rfl (by kernel_rfl) (by kernel_rfl) (by kernel_rfl) (fun _ _ _ h => h) (yieldsIf_load_mid (by rfl) 38 (.tmp 3) rfl w.heap.size 0 rfl cs _ (fun _ h => h.2.2.2.1) Tryd.underlying38 rfl (unhide HI77)) (by assumption) ?_
        try simp only [Act.put, List.setIfInBounds_toArray, List.set_cons_zero, List.set_cons_succ]
        refine wpAnyH_ready (rs := [5]) (by kernel_rfl) (by simp) ?_
        refine AllReadyH.cons (o := { dst := some 19, op := Op.call { callee := Callee.value (Operand.func 16), args := #[Operand.tmp 17, Operand.tmp 18], argTypes := #[33, 38] }, type := 4, pos := "ref.go:381", after := #[{ on := 3, ground := Ground.data }, { on := 4, ground := Ground.data }], guard := none }) rfl (fun K hK => ?_) AllReadyH.nil
        go_simp
        refine (unhide HMk _ (unhide HE)).mono ?_
        rintro e w5 ⟨rfl, hb5⟩
        have HB6 := hide ((unhide HD).trans (hb5.mono (unhide HD).size))
        clear hb5
        go_wp2_with fail
        refine hK.out _ _ ?_ (fun hHeld0 => ?_)
        · exact unhide HF _ (unhide HB6)
        clear hHeld
        clear hK K
        try simp only [Act.put, List.setIfInBounds_toArray, List.set_cons_zero, List.set_cons_succ]
        refine wpAnyH_take (i := 6) (oi := { dst := some 7, op := Op.assign (Operand.tmp 19), type := 4, pos := "ref.go:381", after := #[{ on := 5, ground := Ground.data }, { on := 5, ground := Ground.chain }, { on := 0, ground := Ground.phase }, { on := 1, ground := Ground.phase }, { on := 2, ground := Ground.phase }, { on := 3, ground := Ground.phase }, { on := 4, ground := Ground.phase }, { on := 5, ground := Ground.phase }], guard := none }) (v := ?_) rfl (by kernel_rfl) (by kernel_rfl) (by kernel_rfl) (fun _ _ _ h => h) (Or.inl ⟨by rfl, ?_⟩) (by assumption) ?_
        rotate_left
        · intro w hSw; (try dsimp only at hSw); go_simp; (try with_reducible rfl)
        try simp only [Act.put, List.setIfInBounds_toArray, List.set_cons_zero, List.set_cons_succ]
        refine wpAnyH_done (by kernel_rfl) ?_ _
        go_wp2_with fail
        exact bodyPost_ret (v := .tuple #[.int .i64 k, .bool true]) (by simp [results, Tryd.results13, go_sem]) rfl ⟨by rw [firstA_hit al nm vr pl k hlt (by rw [unhide HK]; exact unhide HMk1) (fun j hj h => (unhide HQ).2 j hj h)], (unhide HB).trans ((unhide HB6).mono (unhide HB).size)⟩
    · go_wp2
      exact bodyPost_ret (v := .tuple #[.int .i64 0, .bool false]) (by simp [results, Tryd.results13, go_sem]) rfl ⟨by rw [firstA_miss al nm vr pl fun j hj => (unhide HQ).2 j hj (by omega)], (unhide HB).trans ((unhide HQ).1.mono (unhide HB).size)⟩

end Go.Proofs.YtmckmeoondlcpaaDoor
