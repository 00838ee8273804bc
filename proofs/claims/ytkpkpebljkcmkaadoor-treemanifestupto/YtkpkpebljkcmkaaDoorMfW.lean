import Derived.Test.YtkpkpebljkcmkaaDoorMfV
import Derived.Test.YtkpkpebljkcmkaaDoorMfO
namespace Go.Proofs.YtkpkpebljkcmkaaDoor
open Go.RowKit

set_option maxRecDepth 100000 in
set_option maxHeartbeats 16000000 in
theorem turned_any {w0 w : World} {v : Value} {gI : Nat} {os ps : List Pk} {seq : Int} (h : Lm w0 w gI ps) (k : Pks w v os) (hl : ps.length ≤ 1048576) (kl : os.length ≤ 1048576) (hs : (allF ps).length ≤ 1048576) (ks : (allF os).length ≤ 1048576) (hz : ∀ r ∈ allF ps, (pth r).size ≤ 1048576) (hg : Glob w) (hlo : 5 < gI) :
    Calls Tryd.prog 13 #[.int .i64 seq, v, .slice (some ⟨gI, 0, none⟩) ps.length (ps.length + 1)] w fun e w' => e = .returned (.bool true) ∧ Below gI w w' := by
  have HKP := hide (h.pks (ps.length + 1))
  have HKO := hide k
  have HGI := hide (Nat.le_of_lt h.lt)
  have HG := hide (show ∀ X, Below gI w X → Glob X from fun X hX => hg.from hlo hX)
  have HWR := hide (show ∀ i (hi : i < ps.length), ∃ B, gI < B ∧ w.cell? ⟨gI, i * 43 + 7, none⟩ = some (.slice (some ⟨B, 0, none⟩) (ps[i]).fs.length ((ps[i]).fs.length + 1)) ∧ (∀ t, w.frozen? ⟨B, t, none⟩ = false) ∧ (allF (ps.take i)).length + (ps[i]).fs.length = (allF (ps.take (i + 1))).length ∧ (allF (ps.take (i + 1))).length ≤ 1048576 ∧ ∀ k (hk : k < (ps[i]).fs.length), ∃ s : Nm, w.cell? ⟨B, k * 34, none⟩ = some (.string s) ∧ s.size ≤ 1048576 from fun i hi => by
    obtain ⟨B, h1, h2, h3, h4⟩ := h.wr hi
    refine ⟨B, h1, h2, h3, by rw [allF_snoc hi, List.length_append], Nat.le_trans (allF_take_le _) hs, fun k hk => ⟨_, (h4 k hk).1, hz _ (allF_mem hi (List.getElem_mem hk))⟩⟩)
  have HT0 := hide (show Tz gI w w (allF (ps.take 0)).length from Tz.refl gI w)
  have HLS := hide (And.intro hs ks)
  have HLL := hide (And.intro hl kl)
  have HRM := hide (show ∀ X r L, Pks X r L → L.length ≤ 1048576 → (allF L).length ≤ 1048576 → Calls Tryd.prog 6 #[r] X fun e w' => MnA X (allF L) e w' from fun X r L q1 q2 q3 => rManifest_any q1 q2 q3)
  obtain ⟨N, hN⟩ : ∃ N, ps.length = N := ⟨_, rfl⟩
  have HN := hide hN
  rw [hN] at hl HKP ⊢
  obtain ⟨ov, rfl⟩ : ∃ ov, ov = v := ⟨_, rfl⟩
  clear h k hN hg hz hs ks kl
  go_enter Tryd.func13, Tryd.ntmps13
  go_wp2_with fail
  go_loopg [7, 8] N (fun gq iv _ wr => ∃ i : Nat, iv = .int .i64 i ∧ i ≤ N ∧ N - i ≤ gq ∧ Hid (Tz gI w wr (allF (ps.take i)).length))
  case atStart => exact ⟨0, by go_num, by omega, by omega, HT0⟩
  case round =>
    clear HT0
    obtain ⟨i, rfl, hi, hgq, HT⟩ := hrel
    by_cases hlt : i < N
    · have hin : (i : Int) < (N : Int) := by omega
      have hin2 : (i : Int) < (N : Int) + 1 := by omega
      have hil : i < ps.length := by have := unhide HN; omega
      obtain ⟨B, hB, a7w, hfr, hc1, hc2, hcl⟩ := unhide HWR i hil
      have a7 := (unhide HT).kd.slice a7w
      have HFR := hide hfr
      have HCL := hide hcl
      have HA7 := hide (show ∀ X m, Tz gI w X m → X.cell? ⟨gI, i * 43 + 7, none⟩ = some (.slice (some ⟨B, 0, none⟩) (ps[i]).fs.length ((ps[i]).fs.length + 1)) from fun X m hX => hX.kd.slice a7w)
      have HB := hide hB
      obtain ⟨T, hT⟩ : ∃ T, (allF (ps.take i)).length = T := ⟨_, rfl⟩
      obtain ⟨T2, hT2⟩ : ∃ T, (allF (ps.take (i + 1))).length = T := ⟨_, rfl⟩
      obtain ⟨K, hK⟩ : ∃ K, (ps[i]).fs.length = K := ⟨_, rfl⟩
      rw [hT, hT2, hK] at hc1
      rw [hT2] at hc2
      have HT2 := hide hT2
      rw [hT] at HT
      rw [hK] at a7 HA7 HCL
      clear a7w hfr hcl hB hT hK hT2
      go_wp2_with fail
      clear a7
      go_loopg [8] K (fun gq iv wr2 => ∃ k : Nat, iv = .int .i64 k ∧ k ≤ K ∧ K - k ≤ gq ∧ Hid (Tz gI w wr2 (T + k)))
      case atStart => exact ⟨0, by go_num, by omega, by omega, HT⟩
      case round =>
        clear HT
        obtain ⟨k, rfl, hk, hgk, HT⟩ := hrel
        have a7 := unhide HA7 _ _ (unhide HT)
        by_cases hlk : k < K
        · have hkn : (k : Int) < (K : Int) := by omega
          have hkn2 : (k : Int) < (K : Int) + 1 := by omega
          obtain ⟨s, hs0, hsz⟩ := unhide HCL k hlk
          obtain ⟨s', hv, hsz2⟩ := (unhide HT).sz _ _ hs0
          have hT3 := ((unhide HT).set hs0 hv (Nat.le_of_lt (unhide HB)) hsz2 (by unfold maxLen; omega)).drew
          have D := hide hT3
          have a7d : wr.drew.cell? ⟨gI, i * 43 + 7, none⟩ = some (.slice (some ⟨B, 0, none⟩) K (K + 1)) := a7
          have hvd : wr.drew.cell? ⟨B, k * 34, none⟩ = some (.string s') := hv
          have hvz : wr.frozen? ⟨B, k * 34, none⟩ = false := ((unhide HT).kd.fr _).trans (unhide HFR _)
          have hvz2 : wr.drew.frozen? ⟨B, k * 34, none⟩ = false := hvz
          have hcat : ¬ (9223372036854775807 < 2 + s'.size) := by omega
          have HSG := hide (unhide HA7 _ _ hT3)
          clear hT3 HT hs0 hsz hsz2
          go_upto_region 7 with fail
          refine wp_region_held_drew (S := fun w' => w'.cell? ⟨gI, i * 43 + 7, none⟩ = some (.slice (some ⟨B, 0, none⟩) K (K + 1))) (by kernel_rfl) ?_ (fun hHeld => ?_)
          · exact a7d
          refine wpAnyH_take (i := 0) (oi := { dst := some 33, op := Op.move (Operand.tmp 2), type := 22, pos := "law.go:160", after := #[], guard := none }) (v := ?_) rfl (by kernel_rfl) (by kernel_rfl) (by kernel_rfl) (fun _ _ _ h => h) (Or.inl ⟨by rfl, ?_⟩) (by assumption) ?_
          rotate_left
          · intro w hSw; (try dsimp only at hSw); go_simp; (try with_reducible rfl)
          try simp only [Act.put, List.setIfInBounds_toArray, List.set_cons_zero, List.set_cons_succ]
          refine wpAnyH_take (i := 1) (oi := { dst := some 34, op := Op.move (Operand.tmp 7), type := 3, pos := "law.go:160", after := #[], guard := none }) (v := ?_) rfl (by kernel_rfl) (by kernel_rfl) (by kernel_rfl) (fun _ _ _ h => h) (Or.inl ⟨by rfl, ?_⟩) (by assumption) ?_
          rotate_left
          · intro w hSw; (try dsimp only at hSw); go_simp; (try with_reducible rfl)
          try simp only [Act.put, List.setIfInBounds_toArray, List.set_cons_zero, List.set_cons_succ]
          refine wpAnyH_take (i := 2) (oi := { dst := some 35, op := Op.indexAddr 22 (Operand.tmp 33) (Operand.tmp 34), type := 0, pos := "law.go:160", after := #[{ on := 0, ground := Ground.data }, { on := 1, ground := Ground.data }], guard := none }) (v := ?_) rfl (by kernel_rfl) (by kernel_rfl) (by kernel_rfl) (fun _ _ _ h => h) (Or.inl ⟨by rfl, ?_⟩) (by assumption) ?_
          rotate_left
          · intro w hSw; (try dsimp only at hSw); go_simp; (try with_reducible rfl)
          try simp only [Act.put, List.setIfInBounds_toArray, List.set_cons_zero, List.set_cons_succ]
          refine wpAnyH_take (i := 3) (oi := { dst := some 36, op := Op.fieldAddr 49 (Operand.tmp 35) 7, type := 0, pos := "law.go:160", after := #[{ on := 2, ground := Ground.data }], guard := none }) (v := ?_) rfl (by kernel_rfl) (by kernel_rfl) (by kernel_rfl) (fun _ _ _ h => h) (Or.inl ⟨by rfl, ?_⟩) (by assumption) ?_
          rotate_left
          · intro w hSw; (try dsimp only at hSw); go_simp; (try with_reducible rfl)
          try simp only [Act.put, List.setIfInBounds_toArray, List.set_cons_zero, List.set_cons_succ]
          refine wpAnyH_take (i := 4) (oi := { dst := some 37, op := Op.load 24 (Operand.tmp 36), type := 24, pos := "law.go:160", after := #[{ on := 3, ground := Ground.data }], guard := none }) (v := ?_) rfl (by kernel_rfl) (by kernel_rfl) (by kernel_rfl) (fun _ _ _ h => h) (Or.inl ⟨by rfl, ?_⟩) (by assumption) ?_
          rotate_left
          · intro w hSw; (try dsimp only at hSw); go_simp; (try with_reducible rfl)
          try simp only [Act.put, List.setIfInBounds_toArray, List.set_cons_zero, List.set_cons_succ]
          refine wpAnyH_take (i := 5) (oi := { dst := some 38, op := Op.move (Operand.tmp 8), type := 3, pos := "law.go:160", after := #[], guard := none }) (v := ?_) rfl (by kernel_rfl) (by kernel_rfl) (by kernel_rfl) (fun _ _ _ h => h) (Or.inl ⟨by rfl, ?_⟩) (by assumption) ?_
          rotate_left
          · intro w hSw; (try dsimp only at hSw); go_simp; (try with_reducible rfl)
          try simp only [Act.put, List.setIfInBounds_toArray, List.set_cons_zero, List.set_cons_succ]
          refine wpAnyH_take (i := 6) (oi := { dst := some 39, op := Op.move (Operand.tmp 2), type := 22, pos := "law.go:160", after := #[], guard := none }) (v := ?_) rfl (by kernel_rfl) (by kernel_rfl) (by kernel_rfl) (fun _ _ _ h => h) (Or.inl ⟨by rfl, ?_⟩) (by assumption) ?_
          rotate_left
          · intro w hSw; (try dsimp only at hSw); go_simp; (try with_reducible rfl)
          try simp only [Act.put, List.setIfInBounds_toArray, List.set_cons_zero, List.set_cons_succ]
          refine wpAnyH_take (i := 7) (oi := { dst := some 40, op := Op.move (Operand.tmp 7), type := 3, pos := "law.go:160", after := #[], guard := none }) (v := ?_) rfl (by kernel_rfl) (by kernel_rfl) (by kernel_rfl) (fun _ _ _ h => h) (Or.inl ⟨by rfl, ?_⟩) (by assumption) ?_
          rotate_left
          · intro w hSw; (try dsimp only at hSw); go_simp; (try with_reducible rfl)
          try simp only [Act.put, List.setIfInBounds_toArray, List.set_cons_zero, List.set_cons_succ]
          refine wpAnyH_take (i := 8) (oi := { dst := some 41, op := Op.indexAddr 22 (Operand.tmp 39) (Operand.tmp 40), type := 0, pos := "law.go:160", after := #[{ on := 6, ground := Ground.data }, { on := 7, ground := Ground.data }], guard := none }) (v := ?_) rfl (by kernel_rfl) (by kernel_rfl) (by kernel_rfl) (fun _ _ _ h => h) (Or.inl ⟨by rfl, ?_⟩) (by assumption) ?_
          rotate_left
          · intro w hSw; (try dsimp only at hSw); go_simp; (try with_reducible rfl)
          try simp only [Act.put, List.setIfInBounds_toArray, List.set_cons_zero, List.set_cons_succ]
          refine wpAnyH_take (i := 9) (oi := { dst := some 42, op := Op.fieldAddr 49 (Operand.tmp 41) 7, type := 0, pos := "law.go:160", after := #[{ on := 8, ground := Ground.data }], guard := none }) (v := ?_) rfl (by kernel_rfl) (by kernel_rfl) (by kernel_rfl) (fun _ _ _ h => h) (Or.inl ⟨by rfl, ?_⟩) (by assumption) ?_
          rotate_left
          · intro w hSw; (try dsimp only at hSw); go_simp; (try with_reducible rfl)
          try simp only [Act.put, List.setIfInBounds_toArray, List.set_cons_zero, List.set_cons_succ]
          refine wpAnyH_take (i := 10) (oi := { dst := some 43, op := Op.load 24 (Operand.tmp 42), type := 24, pos := "law.go:160", after := #[{ on := 9, ground := Ground.data }], guard := none }) (v := ?_) rfl (by kernel_rfl) (by kernel_rfl) (by kernel_rfl) (fun _ _ _ h => h) (Or.inl ⟨by rfl, ?_⟩) (by assumption) ?_
          rotate_left
          · intro w hSw; (try dsimp only at hSw); go_simp; (try with_reducible rfl)
          try simp only [Act.put, List.setIfInBounds_toArray, List.set_cons_zero, List.set_cons_succ]
          refine wpAnyH_take (i := 11) (oi := { dst := some 44, op := Op.move (Operand.tmp 8), type := 3, pos := "law.go:160", after := #[], guard := none }) (v := ?_) rfl (by kernel_rfl) (by kernel_rfl) (by kernel_rfl) (fun _ _ _ h => h) (Or.inl ⟨by rfl, ?_⟩) (by assumption) ?_
          rotate_left
          · intro w hSw; (try dsimp only at hSw); go_simp; (try with_reducible rfl)
          try simp only [Act.put, List.setIfInBounds_toArray, List.set_cons_zero, List.set_cons_succ]
          refine wpAnyH_take (i := 12) (oi := { dst := some 45, op := Op.indexAddr 24 (Operand.tmp 43) (Operand.tmp 44), type := 0, pos := "law.go:160", after := #[{ on := 10, ground := Ground.data }, { on := 11, ground := Ground.data }], guard := none }) (v := ?_) rfl (by kernel_rfl) (by kernel_rfl) (by kernel_rfl) (fun _ _ _ h => h) (Or.inl ⟨by rfl, ?_⟩) (by assumption) ?_
          rotate_left
          · intro w hSw; (try dsimp only at hSw); go_simp; (try with_reducible rfl)
          try simp only [Act.put, List.setIfInBounds_toArray, List.set_cons_zero, List.set_cons_succ]
          refine wpAnyH_take (i := 13) (oi := { dst := some 46, op := Op.fieldAddr 40 (Operand.tmp 45) 0, type := 0, pos := "law.go:160", after := #[{ on := 12, ground := Ground.data }], guard := none }) (v := ?_) rfl (by kernel_rfl) (by kernel_rfl) (by kernel_rfl) (fun _ _ _ h => h) (Or.inl ⟨by rfl, ?_⟩) (by assumption) ?_
          rotate_left
          · intro w hSw; (try dsimp only at hSw); go_simp; (try with_reducible rfl)
          try simp only [Act.put, List.setIfInBounds_toArray, List.set_cons_zero, List.set_cons_succ]
          refine wpAnyH_ready (rs := [14]) (by kernel_rfl) (by simp) ?_
          refine AllReadyH.cons (o := { dst := some 47, op := Op.load 9 (Operand.tmp 46), type := 9, pos := "law.go:160", after := #[{ on := 13, ground := Ground.data }], guard := none }) rfl (fun K hK => ?_) AllReadyH.nil
          go_simp
          refine hK.out _ _ a7d (fun hHeld => ?_)
          clear hK K
          try simp only [Act.put, List.setIfInBounds_toArray, List.set_cons_zero, List.set_cons_succ]
          refine wpAnyH_take (i := 15) (oi := { dst := some 48, op := Op.binOp BinOp.add 9 (Operand.const (Value.string { data := #[122, 47] })) (Operand.tmp 47) 9, type := 9, pos := "law.go:160", after := #[{ on := 14, ground := Ground.data }], guard := none }) (v := ?_) rfl (by kernel_rfl) (by kernel_rfl) (by kernel_rfl) (fun _ _ _ h => h) (Or.inl ⟨by rfl, ?_⟩) (by assumption) ?_
          rotate_left
          · intro w hSw; (try dsimp only at hSw); go_simp; (try with_reducible rfl)
          try simp only [Act.put, List.setIfInBounds_toArray, List.set_cons_zero, List.set_cons_succ]
          refine wpAnyH_take (i := 16) (oi := { dst := some 49, op := Op.indexAddr 24 (Operand.tmp 37) (Operand.tmp 38), type := 0, pos := "law.go:160", after := #[{ on := 4, ground := Ground.data }, { on := 5, ground := Ground.data }, { on := 0, ground := Ground.phase }, { on := 1, ground := Ground.phase }, { on := 2, ground := Ground.phase }, { on := 3, ground := Ground.phase }, { on := 4, ground := Ground.phase }, { on := 5, ground := Ground.phase }, { on := 6, ground := Ground.phase }, { on := 7, ground := Ground.phase }, { on := 8, ground := Ground.phase }, { on := 9, ground := Ground.phase }, { on := 10, ground := Ground.phase }, { on := 11, ground := Ground.phase }, { on := 12, ground := Ground.phase }, { on := 13, ground := Ground.phase }, { on := 14, ground := Ground.phase }, { on := 15, ground := Ground.phase }], guard := none }) (v := ?_) rfl (by kernel_rfl) (by kernel_rfl) (by kernel_rfl) (fun _ _ _ h => h) (Or.inl ⟨by rfl, ?_⟩) (by assumption) ?_
          rotate_left
          · intro w hSw; (try dsimp only at hSw); go_simp; (try with_reducible rfl)
          try simp only [Act.put, List.setIfInBounds_toArray, List.set_cons_zero, List.set_cons_succ]
          refine wpAnyH_take (i := 17) (oi := { dst := some 50, op := Op.fieldAddr 40 (Operand.tmp 49) 0, type := 0, pos := "law.go:160", after := #[{ on := 16, ground := Ground.data }, { on := 0, ground := Ground.phase }, { on := 1, ground := Ground.phase }, { on := 2, ground := Ground.phase }, { on := 3, ground := Ground.phase }, { on := 4, ground := Ground.phase }, { on := 5, ground := Ground.phase }, { on := 6, ground := Ground.phase }, { on := 7, ground := Ground.phase }, { on := 8, ground := Ground.phase }, { on := 9, ground := Ground.phase }, { on := 10, ground := Ground.phase }, { on := 11, ground := Ground.phase }, { on := 12, ground := Ground.phase }, { on := 13, ground := Ground.phase }, { on := 14, ground := Ground.phase }, { on := 15, ground := Ground.phase }], guard := none }) (v := ?_) rfl (by kernel_rfl) (by kernel_rfl) (by kernel_rfl) (fun _ _ _ h => h) (Or.inl ⟨by rfl, ?_⟩) (by assumption) ?_
          rotate_left
          · intro w hSw; (try dsimp only at hSw); go_simp; (try with_reducible rfl)
          try simp only [Act.put, List.setIfInBounds_toArray, List.set_cons_zero, List.set_cons_succ]
          refine wpAnyH_ready (rs := [18]) (by kernel_rfl) (by simp) ?_
          refine AllReadyH.cons (o := { dst := none, op := Op.store 9 (Operand.tmp 50) (Operand.tmp 48), type := 0, pos := "law.go:160", after := #[{ on := 17, ground := Ground.data }, { on := 15, ground := Ground.data }, { on := 0, ground := Ground.phase }, { on := 1, ground := Ground.phase }, { on := 2, ground := Ground.phase }, { on := 3, ground := Ground.phase }, { on := 4, ground := Ground.phase }, { on := 5, ground := Ground.phase }, { on := 6, ground := Ground.phase }, { on := 7, ground := Ground.phase }, { on := 8, ground := Ground.phase }, { on := 9, ground := Ground.phase }, { on := 10, ground := Ground.phase }, { on := 11, ground := Ground.phase }, { on := 12, ground := Ground.phase }, { on := 13, ground := Ground.phase }, { on := 14, ground := Ground.phase }, { on := 15, ground := Ground.phase }], guard := none }) rfl (fun K hK => ?_) AllReadyH.nil
          go_simp
          refine hK.out _ _ (unhide HSG) (fun hHeld => ?_)
          clear hK K
          try simp only [Act.put, List.setIfInBounds_toArray, List.set_cons_zero, List.set_cons_succ]
          refine wpAnyH_done (by kernel_rfl) ?_ _
          clear hcat hvd hvz hvz2 a7d HSG a7 hHeld hv
          generalize (wr.setCell ⟨B, k * 34, none⟩ (.string ((⟨#[122, 47]⟩ : Nm) ++ s'))).drew = W7 at *
          go_wp2_with fail
          go_roundg (K - (k + 1))
          case measure => omega
          case rel => exact ⟨k + 1, by go_num, by omega, by omega, D⟩
        · obtain rfl : k = K := by omega
          have hge : ¬ (k : Int) < (k : Int) := by omega
          have HT3 := hide (show Tz gI w wr (allF (ps.take (i + 1))).length by rw [unhide HT2, ← hc1]; exact unhide HT)
          clear HT
          go_wp2_with fail
          go_roundg (N - (i + 1))
          case measure => omega
          case rel => exact ⟨i + 1, by go_num, by omega, by omega, HT3⟩
    · obtain rfl : i = N := by omega
      have hge : ¬ (i : Int) < (i : Int) := by omega
      have kd := (unhide HT).kd
      obtain ⟨ps', p1, p2⟩ := kd.pks (unhide HKP)
      obtain ⟨os', o1, o2⟩ := kd.pks (unhide HKO)
      obtain ⟨c1, c2⟩ := allF_same p2
      obtain ⟨c3, c4⟩ := allF_same o2
      have l1 : ps'.length ≤ 1048576 := by have := (unhide HLL).1; omega
      have l2 : os'.length ≤ 1048576 := by have := (unhide HLL).2; omega
      have l3 : (allF ps').length ≤ 1048576 := by have := (unhide HLS).1; omega
      have l4 : (allF os').length ≤ 1048576 := by have := (unhide HLS).2; omega
      have hG := unhide HG _ kd.bel
      have BW := hide kd.bel
      have hpl : ps'.length = i := by have := unhide HN; omega
      have KP := hide (show ∀ X, Below wr.heap.size wr X → Pks X (.slice (some ⟨gI, 0, none⟩) i (i + 1)) ps' from fun X hX => p1.later hX)
      have KO := hide (show ∀ X, Below wr.heap.size wr X → Pks X ov os' from fun X hX => o1.later hX)
      have KG := hide (show ∀ X, Below wr.heap.size wr X → Glob X from fun X hX => hG.later hX)
      have OKP := hide p1.ok
      have CM := hide (show ∀ X, Below wr.heap.size wr X → Calls Tryd.prog 5 #[.slice (some ⟨gI, 0, none⟩) i (i + 1)] X fun e w' => MnA X (allF ps') e w' from fun X hX => manifest_any (unhide KP X hX) l1 l3 (unhide KG X hX))
      have CR := hide (show ∀ X, Below wr.heap.size wr X → Calls Tryd.prog 6 #[.slice (some ⟨gI, 0, none⟩) i (i + 1)] X fun e w' => MnA X (allF ps') e w' from fun X hX => rManifest_any (unhide KP X hX) l1 l3)
      have CS := hide (show ∀ X, Below wr.heap.size wr X → Calls Tryd.prog 7 #[.int .i64 seq, ov, .slice (some ⟨gI, 0, none⟩) i (i + 1)] X fun e w' => StA X seq (allF ps') (allF os') e w' from fun X hX => steps_any (unhide KO X hX) (unhide KP X hX) l2 l1 l4 l3 (unhide KG X hX))
      have CT := hide (show ∀ X, Below wr.heap.size wr X → Calls Tryd.prog 8 #[.int .i64 seq, ov, .slice (some ⟨gI, 0, none⟩) i (i + 1)] X fun e w' => StA X seq (allF ps') (allF os') e w' from fun X hX => rsteps_any (unhide KO X hX) (unhide KP X hX) l2 l1 l4 l3)
      have L34 := hide (And.intro l3 l4)
      clear kd p1 p2 o1 o2 c1 c2 c3 c4 l1 l2 l3 l4 hG hpl HWR HKP HKO HG HT HLS HLL HRM KG KO KP
      go_wp2_with (first
        | (go_at_call 6; refine (unhide CR wr (Below.refl _ _)).mono ?_; rintro e w1 ⟨er, M, kv, m1, rfl, o1, b1⟩; have MN := hide m1; have O1 := hide o1; have B1 := hide b1; clear m1 o1 b1 CR)
        | (go_at_call 8; refine (unhide CT w1 (unhide B1)).mono ?_; rintro e w2 ⟨sr, S, uv, m1, rfl, o1, b1⟩; have SN := hide m1; have O2 := hide o1; have D2 := hide b1; have B2 := hide (bl_t (unhide B1) b1); clear m1 o1 b1 CT)
        | (go_at_call 5; refine (unhide CM w2 (unhide B2)).mono ?_; rintro e w3 ⟨er3, M3, lv, m1, rfl, o1, b1⟩; obtain ⟨rfl, rfl⟩ := (unhide MN).uniq m1; have O3 := hide o1; have D3 := hide b1; have B3 := hide (bl_t (unhide B2) b1); clear m1 o1 b1 CM)
        | (go_at_call 7; refine (unhide CS w3 (unhide B3)).mono ?_; rintro e w4 ⟨sr4, S4, sv, m1, rfl, o1, b1⟩; obtain ⟨rfl, rfl⟩ := (unhide SN).uniq m1; have O4 := hide o1; have D4 := hide b1; have B4 := hide (bl_t (unhide B3) b1); clear m1 o1 b1 CS; have OKM := hide ((unhide MN).ok (unhide OKP)); have OKS := hide ((unhide SN).ok (unhide L34).1); have C9 := hide (sameFiles_yes (by have := (unhide MN).len; have := (unhide L34).1; omega) ((own_rws2 (unhide OKM) (unhide O3)).later (unhide D4)) ((own_rws2 (unhide OKM) (unhide O1)).later (bl_t (unhide D2) (bl_t (unhide D3) (unhide D4))))); have C11 := hide (show ∀ n, Calls Tryd.prog 11 #[sv, uv] (w4.drewN n) fun e w' => e = .returned (.bool true) ∧ ∃ k, w' = (w4.drewN n).drewN k from fun n => sameSteps_yes (by have := (unhide SN).len; have := (unhide L34).1; have := (unhide L34).2; omega) ((own_rws2 (unhide OKS) (unhide O4)).later (bl_drewN _ _)) ((own_rws2 (unhide OKS) (unhide O2)).later (bl_t (unhide D3) (bl_t (unhide D4) (bl_drewN _ _))))))
        | (go_at_call 9; refine (unhide C9).mono ?_; rintro e w5 ⟨rfl, n5, rfl⟩; clear C9)
        | (go_at_call 10; refine (num_any er _).mono ?_; rintro e w6 ⟨rfl, rfl⟩)
        | (go_at_call 11; refine (unhide C11 n5).mono ?_; rintro e w7 ⟨rfl, n7, rfl⟩; clear C11)
        | (go_at_call 10; refine (num_any sr _).mono ?_; rintro e w8 ⟨rfl, rfl⟩))
      go_ret
      exact ⟨rfl, (unhide BW).trans ((bl_t (unhide B4) (bl_drewN w4 (n5 + n7))).mono (Nat.le_trans (unhide HGI) (unhide BW).size))⟩
end Go.Proofs.YtkpkpebljkcmkaaDoor
