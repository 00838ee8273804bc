import Derived.Test.YtmckmeoondlcpaaDoorVmN
namespace Go.Proofs.YtmckmeoondlcpaaDoor
open Go.RowKit

/-- WHAT THE FIRST LOOP KEEPS. -/
def LpA (w1 wr : World) (D C n : Nat) : Prop := ∃ al : List At, al.length = n ∧ (∀ i (h : i < al.length), al[i].v.size ≤ maxLen) ∧ Below w1.heap.size w1 wr ∧ wr.cell? ⟨D, 0, none⟩ = some (.slice (some ⟨C, 0, none⟩) n (n + 1)) ∧ Mk1 wr C al
theorem LpA.write {w1 wr : World} {D C n : Nat} (h : LpA w1 wr D C n) (h1 : w1.heap.size ≤ C) (hD : D < C) (i : Nat) (hi : i < n) : LpA w1 (((wr.setCell ⟨C, i * 3, none⟩ (.string ⟨#[122, 122]⟩)).setCell ⟨C, i * 3 + 1, none⟩ (.int .i64 0)).setCell ⟨C, i * 3 + 2, none⟩ (.string ⟨#[]⟩)) D C n := by
  obtain ⟨al, rfl, hs, hb, hd, hm⟩ := h
  refine ⟨al.set i zzA, by simp, fun k hk => ?_, ((hb.setCell (p := ⟨C, _, none⟩) h1 _).setCell (p := ⟨C, _, none⟩) h1 _).setCell (p := ⟨C, _, none⟩) h1 _, ?_, hm.write i hi⟩
  · rw [List.length_set] at hk
    by_cases e : i = k
    · subst e; rw [List.getElem_set_self]; show 0 ≤ maxLen; omega
    · rw [List.getElem_set_ne e]; exact hs k hk
  · rw [World.cell?_setCell_other _ _ _ _ (blk_ne (by omega)), World.cell?_setCell_other _ _ _ _ (blk_ne (by omega)), World.cell?_setCell_other _ _ _ _ (blk_ne (by omega))]
    exact hd
/-- WHAT THE SECOND LOOP KEEPS. -/
def LpB (w wr : World) (N D C : Nat) (al : List At) : Prop := ∃ ps : List Pk, ps.length = N ∧ (∀ p ∈ ps, PkZ p) ∧ (∀ p ∈ ps, p.vr.size ≤ maxLen) ∧ PRow w.heap.size wr w.heap.size ps N ∧ Below w.heap.size w wr ∧ wr.cell? ⟨D, 0, none⟩ = some (.slice (some ⟨C, 0, none⟩) al.length (al.length + 1)) ∧ Mk1 wr C al
theorem LpB.write {w wr : World} {N D C : Nat} {al : List At} (h : LpB w wr N D C al) (hD : w.heap.size < D) (hC : w.heap.size < C) (i : Nat) (hi : i < N) : LpB w (wr.setCell ⟨w.heap.size, i * 43, none⟩ (.string ⟨#[122, 122]⟩)) N D C al := by
  obtain ⟨ps, rfl, hz, hv, hp, hb, hd, hm⟩ := h
  obtain ⟨p, hpi⟩ : ∃ p, ps[i]? = some p := ⟨_, List.getElem?_eq_getElem hi⟩
  have hmem := List.mem_of_getElem? hpi
  refine ⟨ps.set i (zzP p), by simp, fun q hq => ?_, fun q hq => ?_, hp.name hi (Nat.le_refl _) hpi, hb.setCell (p := ⟨w.heap.size, _, none⟩) (Nat.le_refl _) _, ?_, hm.of (setCell_blk _ _ _ wr C hC) (fun j => World.frozen?_setCell _ _ _ _) (by simp)⟩
  · rcases List.mem_or_eq_of_mem_set hq with hq | rfl
    · exact hz q hq
    · exact zzP_ok (hz p hmem)
  · rcases List.mem_or_eq_of_mem_set hq with hq | rfl
    · exact hv q hq
    · exact hv p hmem
  · rw [setCell_blk _ _ _ wr D hD]; exact hd
theorem LpB.spot {w wr : World} {N D C : Nat} {al : List At} (h : LpB w wr N D C al) (i : Nat) (hi : i < N) : (∃ z, wr.cell? ⟨w.heap.size, i * 43, none⟩ = some z) ∧ wr.frozen? ⟨w.heap.size, i * 43, none⟩ = false := by
  obtain ⟨ps, rfl, _, _, hp, _⟩ := h
  exact ⟨Option.isSome_iff_exists.1 (hp.spot _ (by omega)), hp.fr _⟩
theorem LpA.spot {w1 wr : World} {D C n : Nat} (h : LpA w1 wr D C n) (i : Nat) (hi : i < n) : ∃ a b c, wr.cell? ⟨C, i * 3, none⟩ = some a ∧ wr.cell? ⟨C, i * 3 + 1, none⟩ = some b ∧ wr.cell? ⟨C, i * 3 + 2, none⟩ = some c ∧ wr.frozen? ⟨C, i * 3, none⟩ = false ∧ wr.frozen? ⟨C, i * 3 + 1, none⟩ = false ∧ wr.frozen? ⟨C, i * 3 + 2, none⟩ = false ∧ wr.cell? ⟨D, 0, none⟩ = some (.slice (some ⟨C, 0, none⟩) n (n + 1)) := by
  obtain ⟨al, rfl, _, _, hd, hm⟩ := h
  exact ⟨_, _, _, (hm.elem i hi).1, (hm.elem i hi).2.1, (hm.elem i hi).2.2, hm.fr _, hm.fr _, hm.fr _, hd⟩
set_option maxRecDepth 100000 in
set_option maxHeartbeats 8000000 in
theorem validMet_walk (ps : List Pk) (s : Value) (who : Int) (al : List At) (c : Value) (pre : Bool) (w : World) (hl : ps.length ≤ 606627104962) (hz : ∀ p ∈ ps, PkZ p) (hv : ∀ p ∈ ps, p.vr.size ≤ maxLen) (hal : al.length ≤ 3518437208883) (hsz : ∀ i (h : i < al.length), al[i].v.size ≤ maxLen) (h : Pkl w s ps) (ha : Ats w c al) :
    Calls Tryd.prog 3 #[s, .int .i64 who, c, .bool pre] w fun e w' => e = .returned (.bool true) ∧ Below w.heap.size w w' := by
  obtain ⟨ca, cc, rfl⟩ : ∃ a n, c = .slice a al.length n := let ⟨a, n, e, _⟩ := ha; ⟨a, n, e⟩
  have cL := hide (lent_any ps s w hl hz h)
  go_enter Tryd.func3, Tryd.ntmps3
  go_wp2_with fail
  refine (unhide cL).mono ?_
  rintro e w1 ⟨rfl, hb1, l1⟩
  have H1 := hide (h.later hb1)
  have A1 := hide (ha.later hb1)
  have HL1 := hide l1
  have HB1 := hide hb1
  have HLl : w.heap.size < w1.heap.size := l1.row.lt
  clear cL h ha l1 hb1
  go_wp2_with fail
  obtain ⟨W2, hW2, m2, hlt2, hB2⟩ := pkgNew w1 [.slice ca al.length cc] 24
  have hW2' : w1.alloc (Obj.cells #[Value.slice ca al.length cc] 24) = W2 := hW2
  rw [hW2']
  refine (lentClauses_any [al] (.slice (some ⟨w1.heap.size, 0, none⟩) 1 1) W2 (by simp) (fun x hx => by simp at hx; subst hx; exact hal) (cls_one (m2 0 _ rfl) hlt2 ((unhide A1).later hB2))).mono ?_
  rintro e w3 ⟨rfl, hb3, l3⟩
  have K3 := hide (bl_t hB2 hb3)
  obtain ⟨C, hC, m3, mk3⟩ := l3.row.row 0 al (by simp) rfl
  have hD : w1.heap.size < W2.heap.size := hlt2
  have HC3 := hide l3
  obtain ⟨xs, hxl, hxs, cM, cR⟩ := met_two who pre al (.slice (some ⟨C, 0, none⟩) al.length (al.length + 1)) (((unhide HL1).later (unhide K3)).pkl hz) hv (by omega) hsz (mk3.ats (by omega))
  obtain ⟨ys, hyl, hys, dM, dR⟩ := met_two who pre al (.slice ca al.length cc) (unhide H1) hv (by omega) hsz (unhide A1)
  have e1 : metA xs who pre al = metA ys who pre al := metA_same xs ys who pre al (by omega) (fun i a b hx hy => by
    obtain ⟨p, hp⟩ : ∃ p, ps[i]? = some p := ⟨_, List.getElem?_eq_getElem (by rw [← hxl]; exact (List.getElem?_eq_some_iff.1 hx).1)⟩
    have g1 := hxs i a p hx hp
    have g2 := hys i b p hy hp
    exact ⟨g1.1.trans g2.1.symm, g1.2.1.trans g2.2.1.symm, g1.2.2.trans g2.2.2.symm⟩)
  rw [← e1] at dM dR
  generalize metA xs who pre al = q at *
  have CM := hide cM
  have DR := hide dR
  have M3 := hide m3
  have MK3 := hide mk3
  clear cM cR dM dR hxs hys hxl hyl e1 hW2 hW2' m2 hb3 l3 mk3
  go_wp2_with fail
  refine (unhide CM w3 (Below.refl _ _)).mono ?_
  rintro e w4 ⟨rfl, hb4⟩
  have K4 := hide hb4
  clear hb4 m3
  go_wp2_with fail
  refine (unhide DR w4 (bl_t (unhide K3) (unhide K4))).mono ?_
  rintro e w5 ⟨rfl, hb5⟩
  have K5 := hide (bl_t (unhide K4) hb5)
  clear hb5
  have qq : (q != q) = false := by cases q <;> rfl
  go_wp2_with fail
  refine (still_any ps w.heap.size w.heap.size s w5 hl hz (((unhide HL1).later (unhide K3)).later (unhide K5)) (((unhide H1).later (unhide K3)).later (unhide K5))).mono ?_
  rintro e w6 ⟨rfl, hb6⟩
  have K6 := hide (bl_t (unhide K5) hb6)
  clear hb6
  go_wp2_with fail
  refine (stillClauses_any [al] W2.heap.size W2.heap.size w6 (by simp) (fun x hx => by simp at hx; subst hx; exact hal) ((unhide HC3).later (unhide K6))).mono ?_
  rintro e w7 ⟨rfl, hb7⟩
  have K7 := hide (bl_t (unhide K6) hb7)
  clear hb7
  go_wp2_with fail
  obtain ⟨W8, hW8, m8, hlt8, hB8⟩ := pkgNew w7 [.slice ca al.length cc] 24
  have hW8' : w7.alloc (Obj.cells #[Value.slice ca al.length cc] 24) = W8 := hW8
  rw [hW8']
  have K8 := hide (bl_t (unhide K7) hB8)
  refine (sameClauses_any [al] (.slice (some ⟨W2.heap.size, 0, none⟩) 1 2) (.slice (some ⟨w7.heap.size, 0, none⟩) 1 1) W8 (by simp) (fun x hx => by simp at hx; subst hx; omega) (((unhide HC3).later (unhide K8)).cls (fun x hx => by simp at hx; subst hx; omega)) (cls_one (m8 0 _ rfl) hlt8 (((unhide A1).later (unhide K3)).later (unhide K8)))).mono ?_
  rintro e w9 ⟨rfl, hb9⟩
  have K9 := hide (bl_t (unhide K8) hb9)
  have LA := hide (show LpA w1 w9 W2.heap.size C al.length from ⟨al, rfl, hsz, bl_t (unhide K3) (unhide K9), cell_later (unhide M3) (unhide K9), (unhide MK3).later (unhide K9)⟩)
  have hDC : W2.heap.size < C := hC
  have HZ := hide hz
  have HVr := hide hv
  clear hb9 hB8 hW8 hW8' m8 hlt8 K4 K5 K6 K7 K8 CM DR M3 MK3 HC3 hB2 hz hv hC hsz qq H1 A1 K3 K9
  go_wp2_with fail
  generalize W2.heap.size = D at *
  go_loopg [12] al.length (fun gq vi wr => ∃ i : Nat, vi = .int .i64 i ∧ i ≤ al.length ∧ al.length - i ≤ gq ∧ Hid (LpA w1 wr D C al.length))
  case atStart => exact ⟨0, by go_num, by omega, by omega, LA⟩
  case round =>
    clear LA
    obtain ⟨i, rfl, hi, hg, LA⟩ := hrel
    have i0 : (0 : Int) ≤ (i : Int) := by omega
    by_cases hlt : i < al.length
    · have hiz : (i : Int) < (al.length : Int) := by omega
      obtain ⟨x1, x2, x3, y1, y2, y3, f1, f2, f3, y4⟩ := (unhide LA).spot i hlt
      have LA2 := hide ((unhide LA).write (by omega) hDC i hlt)
      go_wp2_with fail
      go_roundg (al.length - (i + 1))
      case measure => omega
      case rel => exact ⟨i + 1, by go_num, by omega, by omega, LA2⟩
    · have hiz : ¬ (i : Int) < (al.length : Int) := by omega
      obtain ⟨bl, hbl, hs2, hb2, md, mk⟩ := unhide LA
      have hat : Ats wr (.slice (some ⟨C, 0, none⟩) al.length (al.length + 1)) bl := by rw [← hbl]; exact mk.ats (by omega)
      have HL := hide ((unhide HL1).later hb2)
      obtain ⟨xs, -, -, cM, cR⟩ := met_two who pre bl (.slice (some ⟨C, 0, none⟩) al.length (al.length + 1)) ((unhide HL).pkl (unhide HZ)) (unhide HVr) (by omega) hs2 hat
      have QM := hide cM
      have QR := hide cR
      have MD := hide md
      have MK := hide mk
      have HS2 := hide hs2
      have HBw := hide (bl_t (unhide HB1) hb2)
      have E0 := hide ((Below.refl wr.heap.size wr).drew)
      clear cM cR md mk hs2 hb2 hat LA
      generalize metA xs who pre bl = q2 at *
      have qq2 : (q2 != q2) = false := by cases q2 <;> rfl
      go_wp2_with fail
      refine wp_region_held_drew (S := fun w' => w'.cell? ⟨D, 0, none⟩ = some (.slice (some ⟨C, 0, none⟩) al.length (al.length + 1))) (by kernel_rfl) ?_ (fun hHeld => ?_)
      · exact cell_later (unhide MD) (unhide E0)
      refine wpAnyH_take (i := 0) (oi := { dst := some 63, op := Op.move (Operand.tmp 9), type := 22, pos := "law.go:236", after := #[], guard := none }) (v := ?_) rfl (by kernel_rfl) (by kernel_rfl) (by kernel_rfl) (fun _ _ _ h => h) (Or.inl ⟨by rfl, ?_⟩) (by assumption) ?_
      rotate_left
      · intro w hSw; (try dsimp only at hSw); go_simp; (try with_reducible rfl)
      try simp only [Act.put, List.setIfInBounds_toArray, List.set_cons_zero, List.set_cons_succ]
      refine wpAnyH_take (i := 1) (oi := { dst := some 64, op := Op.move (Operand.tmp 1), type := 3, pos := "law.go:236", after := #[], guard := none }) (v := ?_) rfl (by kernel_rfl) (by kernel_rfl) (by kernel_rfl) (fun _ _ _ h => h) (Or.inl ⟨by rfl, ?_⟩) (by assumption) ?_
      rotate_left
      · intro w hSw; (try dsimp only at hSw); go_simp; (try with_reducible rfl)
      try simp only [Act.put, List.setIfInBounds_toArray, List.set_cons_zero, List.set_cons_succ]
      refine wpAnyH_take (i := 2) (oi := { dst := some 65, op := Op.move (Operand.tmp 10), type := 26, pos := "law.go:236", after := #[], guard := none }) (v := ?_) rfl (by kernel_rfl) (by kernel_rfl) (by kernel_rfl) (fun _ _ _ h => h) (Or.inl ⟨by rfl, ?_⟩) (by assumption) ?_
      rotate_left
      · intro w hSw; (try dsimp only at hSw); go_simp; (try with_reducible rfl)
      try simp only [Act.put, List.setIfInBounds_toArray, List.set_cons_zero, List.set_cons_succ]
      refine wpAnyH_take (i := 3) (oi := { dst := some 66, op := Op.indexAddr 26 (Operand.tmp 65) (Operand.const (Value.int IntKind.i64 0)), type := 0, pos := "law.go:236", after := #[{ on := 2, ground := Ground.data }], guard := none }) (v := ?_) rfl (by kernel_rfl) (by kernel_rfl) (by kernel_rfl) (fun _ _ _ h => h) (Or.inl ⟨by rfl, ?_⟩) (by assumption) ?_
      rotate_left
      · intro w hSw; (try dsimp only at hSw); go_simp; (try with_reducible rfl)
      try simp only [Act.put, List.setIfInBounds_toArray, List.set_cons_zero, List.set_cons_succ]
      refine wpAnyH_take (i := 4) (oi := { dst := some 67, op := Op.load 24 (Operand.tmp 66), type := 24, pos := "law.go:236", after := #[{ on := 3, ground := Ground.data }], guard := none }) (v := ?_) rfl (by kernel_rfl) (by kernel_rfl) (by kernel_rfl) (fun _ _ _ h => h) (Or.inl ⟨by rfl, ?_⟩) (by assumption) ?_
      rotate_left
      · intro w hSw; (try dsimp only at hSw); go_simp; (try with_reducible rfl)
      try simp only [Act.put, List.setIfInBounds_toArray, List.set_cons_zero, List.set_cons_succ]
      refine wpAnyH_take (i := 5) (oi := { dst := some 68, op := Op.move (Operand.tmp 3), type := 4, pos := "law.go:236", after := #[], guard := none }) (v := ?_) rfl (by kernel_rfl) (by kernel_rfl) (by kernel_rfl) (fun _ _ _ h => h) (Or.inl ⟨by rfl, ?_⟩) (by assumption) ?_
      rotate_left
      · intro w hSw; (try dsimp only at hSw); go_simp; (try with_reducible rfl)
      try simp only [Act.put, List.setIfInBounds_toArray, List.set_cons_zero, List.set_cons_succ]
      refine wpAnyH_take (i := 7) (oi := { dst := some 70, op := Op.move (Operand.tmp 9), type := 22, pos := "law.go:236", after := #[], guard := none }) (v := ?_) rfl (by kernel_rfl) (by kernel_rfl) (by kernel_rfl) (fun _ _ _ h => h) (Or.inl ⟨by rfl, ?_⟩) (by assumption) ?_
      rotate_left
      · intro w hSw; (try dsimp only at hSw); go_simp; (try with_reducible rfl)
      try simp only [Act.put, List.setIfInBounds_toArray, List.set_cons_zero, List.set_cons_succ]
      refine wpAnyH_take (i := 8) (oi := { dst := some 71, op := Op.move (Operand.tmp 1), type := 3, pos := "law.go:236", after := #[], guard := none }) (v := ?_) rfl (by kernel_rfl) (by kernel_rfl) (by kernel_rfl) (fun _ _ _ h => h) (Or.inl ⟨by rfl, ?_⟩) (by assumption) ?_
      rotate_left
      · intro w hSw; (try dsimp only at hSw); go_simp; (try with_reducible rfl)
      try simp only [Act.put, List.setIfInBounds_toArray, List.set_cons_zero, List.set_cons_succ]
      refine wpAnyH_take (i := 9) (oi := { dst := some 72, op := Op.move (Operand.tmp 10), type := 26, pos := "law.go:236", after := #[], guard := none }) (v := ?_) rfl (by kernel_rfl) (by kernel_rfl) (by kernel_rfl) (fun _ _ _ h => h) (Or.inl ⟨by rfl, ?_⟩) (by assumption) ?_
      rotate_left
      · intro w hSw; (try dsimp only at hSw); go_simp; (try with_reducible rfl)
      try simp only [Act.put, List.setIfInBounds_toArray, List.set_cons_zero, List.set_cons_succ]
      refine wpAnyH_take (i := 10) (oi := { dst := some 73, op := Op.indexAddr 26 (Operand.tmp 72) (Operand.const (Value.int IntKind.i64 0)), type := 0, pos := "law.go:236", after := #[{ on := 9, ground := Ground.data }], guard := none }) (v := ?_) rfl (by kernel_rfl) (by kernel_rfl) (by kernel_rfl) (fun _ _ _ h => h) (Or.inl ⟨by rfl, ?_⟩) (by assumption) ?_
      rotate_left
      · intro w hSw; (try dsimp only at hSw); go_simp; (try with_reducible rfl)
      try simp only [Act.put, List.setIfInBounds_toArray, List.set_cons_zero, List.set_cons_succ]
      refine wpAnyH_take (i := 11) (oi := { dst := some 74, op := Op.load 24 (Operand.tmp 73), type := 24, pos := "law.go:236", after := #[{ on := 10, ground := Ground.data }], guard := none }) (v := ?_) rfl (by kernel_rfl) (by kernel_rfl) (by kernel_rfl) (fun _ _ _ h => h) (Or.inl ⟨by rfl, ?_⟩) (by assumption) ?_
      rotate_left
      · intro w hSw; (try dsimp only at hSw); go_simp; (try with_reducible rfl)
      try simp only [Act.put, List.setIfInBounds_toArray, List.set_cons_zero, List.set_cons_succ]
      refine wpAnyH_take (i := 12) (oi := { dst := some 75, op := Op.move (Operand.tmp 3), type := 4, pos := "law.go:236", after := #[], guard := none }) (v := ?_) rfl (by kernel_rfl) (by kernel_rfl) (by kernel_rfl) (fun _ _ _ h => h) (Or.inl ⟨by rfl, ?_⟩) (by assumption) ?_
      rotate_left
      · intro w hSw; (try dsimp only at hSw); go_simp; (try with_reducible rfl)
      try simp only [Act.put, List.setIfInBounds_toArray, List.set_cons_zero, List.set_cons_succ]
      refine wpAnyH_ready (rs := [6]) (by kernel_rfl) (by simp) ?_
      refine AllReadyH.cons (o := { dst := some 69, op := Op.call { callee := Callee.value (Operand.func 7), args := #[Operand.tmp 63, Operand.tmp 64, Operand.tmp 67, Operand.tmp 68], argTypes := #[22, 3, 24, 4] }, type := 4, pos := "law.go:236", after := #[{ on := 0, ground := Ground.data }, { on := 1, ground := Ground.data }, { on := 4, ground := Ground.data }, { on := 5, ground := Ground.data }], guard := none }) rfl (fun K hK => ?_) AllReadyH.nil
      go_simp
      refine (unhide QR _ (unhide E0)).mono ?_
      rintro x v1 ⟨rfl, hv1⟩
      have E1 := hide (bl_t (unhide E0) hv1)
      clear hv1
      go_wp2_with fail
      refine hK.out _ _ ?_ (fun hHeld0 => ?_)
      · exact cell_later (unhide MD) (unhide E1)
      clear hHeld
      clear hK K
      try simp only [Act.put, List.setIfInBounds_toArray, List.set_cons_zero, List.set_cons_succ]
      refine wpAnyH_ready (rs := [13]) (by kernel_rfl) (by simp) ?_
      refine AllReadyH.cons (o := { dst := some 76, op := Op.call { callee := Callee.value (Operand.func 6), args := #[Operand.tmp 70, Operand.tmp 71, Operand.tmp 74, Operand.tmp 75], argTypes := #[22, 3, 24, 4] }, type := 4, pos := "law.go:236", after := #[{ on := 7, ground := Ground.data }, { on := 8, ground := Ground.data }, { on := 11, ground := Ground.data }, { on := 12, ground := Ground.data }, { on := 6, ground := Ground.chain }], guard := none }) rfl (fun K hK => ?_) AllReadyH.nil
      go_simp
      refine (unhide QM _ (unhide E1)).mono ?_
      rintro x v2 ⟨rfl, hv2⟩
      have E2 := hide (bl_t (unhide E1) hv2)
      clear hv2
      go_wp2_with fail
      refine hK.out _ _ ?_ (fun hHeld1 => ?_)
      · exact cell_later (unhide MD) (unhide E2)
      clear hHeld0
      clear hK K
      try simp only [Act.put, List.setIfInBounds_toArray, List.set_cons_zero, List.set_cons_succ]
      refine wpAnyH_take (i := 14) (oi := { dst := some 77, op := Op.binOp BinOp.neq 4 (Operand.tmp 69) (Operand.tmp 76) 4, type := 4, pos := "law.go:236", after := #[{ on := 6, ground := Ground.data }, { on := 13, ground := Ground.data }], guard := none }) (v := ?_) rfl (by kernel_rfl) (by kernel_rfl) (by kernel_rfl) (fun _ _ _ h => h) (Or.inl ⟨by rfl, ?_⟩) (by assumption) ?_
      rotate_left
      · intro w hSw; (try dsimp only at hSw); go_simp; (try with_reducible rfl)
      try simp only [Act.put, List.setIfInBounds_toArray, List.set_cons_zero, List.set_cons_succ]
      refine wpAnyH_done (by kernel_rfl) ?_ _
      have LB := hide (show LpB w v2 ps.length D C bl from ⟨ps, rfl, unhide HZ, unhide HVr, (unhide HL).row.later (unhide E2), bl_t (unhide HBw) (unhide E2), by rw [hbl]; exact cell_later (unhide MD) (unhide E2), (unhide MK).later (unhide E2)⟩)
      clear QM QR MD MK E0 E1 E2 HL HBw
      go_wp2_with fail
      go_loopg [13] ps.length (fun gq vi wr => ∃ i : Nat, vi = .int .i64 i ∧ i ≤ ps.length ∧ ps.length - i ≤ gq ∧ Hid (LpB w wr ps.length D C bl))
      case atStart => exact ⟨0, by go_num, by omega, by omega, LB⟩
      case round =>
        clear LB hi hg i0 hlt hiz
        obtain ⟨i, rfl, hi, hg, LB⟩ := hrel
        have i0 : (0 : Int) ≤ (i : Int) := by omega
        by_cases hlt : i < ps.length
        · have hiz : (i : Int) < (ps.length : Int) := by omega
          obtain ⟨⟨z, y1⟩, f1⟩ := (unhide LB).spot i hlt
          have LB2 := hide ((unhide LB).write (by omega) (by omega) i hlt)
          go_wp2_with fail
          go_roundg (ps.length - (i + 1))
          case measure => omega
          case rel => exact ⟨i + 1, by go_num, by omega, by omega, LB2⟩
        · have hiz : ¬ (i : Int) < (ps.length : Int) := by omega
          obtain ⟨ps', hpl, hz', hv', hp', hb', md, mk⟩ := unhide LB
          rw [hbl] at md
          have hat : Ats wr (.slice (some ⟨C, 0, none⟩) al.length (al.length + 1)) bl := by rw [← hbl]; exact mk.ats (by omega)
          have hpk : Pkl wr (.slice (some ⟨w.heap.size, 0, none⟩) ps.length (ps.length + 1)) ps' := by rw [← hpl]; rw [← hpl] at hp'; exact hp'.pkl hz'
          obtain ⟨xs, -, -, cM, cR⟩ := met_two who pre bl (.slice (some ⟨C, 0, none⟩) al.length (al.length + 1)) hpk hv' (by omega) (unhide HS2) hat
          have QM := hide cM
          have QR := hide cR
          have MD := hide md
          have HBw := hide hb'
          have E0 := hide ((Below.refl wr.heap.size wr).drew)
          clear cM cR md mk hat LB hpk hp' hz' hv' hb'
          generalize metA xs who pre bl = q3 at *
          have qq3 : (q3 == q3) = true := by cases q3 <;> rfl
          go_wp2_with fail
          refine wp_region_held_drew (S := fun w' => w'.cell? ⟨D, 0, none⟩ = some (.slice (some ⟨C, 0, none⟩) al.length (al.length + 1))) (by kernel_rfl) ?_ (fun hHeld => ?_)
          · exact cell_later (unhide MD) (unhide E0)
          refine wpAnyH_take (i := 0) (oi := { dst := some 88, op := Op.move (Operand.tmp 9), type := 22, pos := "law.go:242", after := #[], guard := none }) (v := ?_) rfl (by kernel_rfl) (by kernel_rfl) (by kernel_rfl) (fun _ _ _ h => h) (Or.inl ⟨by rfl, ?_⟩) (by assumption) ?_
          rotate_left
          · intro w hSw; (try dsimp only at hSw); go_simp; (try with_reducible rfl)
          try simp only [Act.put, List.setIfInBounds_toArray, List.set_cons_zero, List.set_cons_succ]
          refine wpAnyH_take (i := 1) (oi := { dst := some 89, op := Op.move (Operand.tmp 1), type := 3, pos := "law.go:242", after := #[], guard := none }) (v := ?_) rfl (by kernel_rfl) (by kernel_rfl) (by kernel_rfl) (fun _ _ _ h => h) (Or.inl ⟨by rfl, ?_⟩) (by assumption) ?_
          rotate_left
          · intro w hSw; (try dsimp only at hSw); go_simp; (try with_reducible rfl)
          try simp only [Act.put, List.setIfInBounds_toArray, List.set_cons_zero, List.set_cons_succ]
          refine wpAnyH_take (i := 2) (oi := { dst := some 90, op := Op.move (Operand.tmp 10), type := 26, pos := "law.go:242", after := #[], guard := none }) (v := ?_) rfl (by kernel_rfl) (by kernel_rfl) (by kernel_rfl) (fun _ _ _ h => h) (Or.inl ⟨by rfl, ?_⟩) (by assumption) ?_
          rotate_left
          · intro w hSw; (try dsimp only at hSw); go_simp; (try with_reducible rfl)
          try simp only [Act.put, List.setIfInBounds_toArray, List.set_cons_zero, List.set_cons_succ]
          refine wpAnyH_take (i := 3) (oi := { dst := some 91, op := Op.indexAddr 26 (Operand.tmp 90) (Operand.const (Value.int IntKind.i64 0)), type := 0, pos := "law.go:242", after := #[{ on := 2, ground := Ground.data }], guard := none }) (v := ?_) rfl (by kernel_rfl) (by kernel_rfl) (by kernel_rfl) (fun _ _ _ h => h) (Or.inl ⟨by rfl, ?_⟩) (by assumption) ?_
          rotate_left
          · intro w hSw; (try dsimp only at hSw); go_simp; (try with_reducible rfl)
          try simp only [Act.put, List.setIfInBounds_toArray, List.set_cons_zero, List.set_cons_succ]
          refine wpAnyH_take (i := 4) (oi := { dst := some 92, op := Op.load 24 (Operand.tmp 91), type := 24, pos := "law.go:242", after := #[{ on := 3, ground := Ground.data }], guard := none }) (v := ?_) rfl (by kernel_rfl) (by kernel_rfl) (by kernel_rfl) (fun _ _ _ h => h) (Or.inl ⟨by rfl, ?_⟩) (by assumption) ?_
          rotate_left
          · intro w hSw; (try dsimp only at hSw); go_simp; (try with_reducible rfl)
          try simp only [Act.put, List.setIfInBounds_toArray, List.set_cons_zero, List.set_cons_succ]
          refine wpAnyH_take (i := 5) (oi := { dst := some 93, op := Op.move (Operand.tmp 3), type := 4, pos := "law.go:242", after := #[], guard := none }) (v := ?_) rfl (by kernel_rfl) (by kernel_rfl) (by kernel_rfl) (fun _ _ _ h => h) (Or.inl ⟨by rfl, ?_⟩) (by assumption) ?_
          rotate_left
          · intro w hSw; (try dsimp only at hSw); go_simp; (try with_reducible rfl)
          try simp only [Act.put, List.setIfInBounds_toArray, List.set_cons_zero, List.set_cons_succ]
          refine wpAnyH_take (i := 7) (oi := { dst := some 95, op := Op.move (Operand.tmp 9), type := 22, pos := "law.go:242", after := #[], guard := none }) (v := ?_) rfl (by kernel_rfl) (by kernel_rfl) (by kernel_rfl) (fun _ _ _ h => h) (Or.inl ⟨by rfl, ?_⟩) (by assumption) ?_
          rotate_left
          · intro w hSw; (try dsimp only at hSw); go_simp; (try with_reducible rfl)
          try simp only [Act.put, List.setIfInBounds_toArray, List.set_cons_zero, List.set_cons_succ]
          refine wpAnyH_take (i := 8) (oi := { dst := some 96, op := Op.move (Operand.tmp 1), type := 3, pos := "law.go:242", after := #[], guard := none }) (v := ?_) rfl (by kernel_rfl) (by kernel_rfl) (by kernel_rfl) (fun _ _ _ h => h) (Or.inl ⟨by rfl, ?_⟩) (by assumption) ?_
          rotate_left
          · intro w hSw; (try dsimp only at hSw); go_simp; (try with_reducible rfl)
          try simp only [Act.put, List.setIfInBounds_toArray, List.set_cons_zero, List.set_cons_succ]
          refine wpAnyH_take (i := 9) (oi := { dst := some 97, op := Op.move (Operand.tmp 10), type := 26, pos := "law.go:242", after := #[], guard := none }) (v := ?_) rfl (by kernel_rfl) (by kernel_rfl) (by kernel_rfl) (fun _ _ _ h => h) (Or.inl ⟨by rfl, ?_⟩) (by assumption) ?_
          rotate_left
          · intro w hSw; (try dsimp only at hSw); go_simp; (try with_reducible rfl)
          try simp only [Act.put, List.setIfInBounds_toArray, List.set_cons_zero, List.set_cons_succ]
          refine wpAnyH_take (i := 10) (oi := { dst := some 98, op := Op.indexAddr 26 (Operand.tmp 97) (Operand.const (Value.int IntKind.i64 0)), type := 0, pos := "law.go:242", after := #[{ on := 9, ground := Ground.data }], guard := none }) (v := ?_) rfl (by kernel_rfl) (by kernel_rfl) (by kernel_rfl) (fun _ _ _ h => h) (Or.inl ⟨by rfl, ?_⟩) (by assumption) ?_
          rotate_left
          · intro w hSw; (try dsimp only at hSw); go_simp; (try with_reducible rfl)
          try simp only [Act.put, List.setIfInBounds_toArray, List.set_cons_zero, List.set_cons_succ]
          refine wpAnyH_take (i := 11) (oi := { dst := some 99, op := Op.load 24 (Operand.tmp 98), type := 24, pos := "law.go:242", after := #[{ on := 10, ground := Ground.data }], guard := none }) (v := ?_) rfl (by kernel_rfl) (by kernel_rfl) (by kernel_rfl) (fun _ _ _ h => h) (Or.inl ⟨by rfl, ?_⟩) (by assumption) ?_
          rotate_left
          · intro w hSw; (try dsimp only at hSw); go_simp; (try with_reducible rfl)
          try simp only [Act.put, List.setIfInBounds_toArray, List.set_cons_zero, List.set_cons_succ]
          refine wpAnyH_take (i := 12) (oi := { dst := some 100, op := Op.move (Operand.tmp 3), type := 4, pos := "law.go:242", after := #[], guard := none }) (v := ?_) rfl (by kernel_rfl) (by kernel_rfl) (by kernel_rfl) (fun _ _ _ h => h) (Or.inl ⟨by rfl, ?_⟩) (by assumption) ?_
          rotate_left
          · intro w hSw; (try dsimp only at hSw); go_simp; (try with_reducible rfl)
          try simp only [Act.put, List.setIfInBounds_toArray, List.set_cons_zero, List.set_cons_succ]
          refine wpAnyH_ready (rs := [6]) (by kernel_rfl) (by simp) ?_
          refine AllReadyH.cons (o := { dst := some 94, op := Op.call { callee := Callee.value (Operand.func 7), args := #[Operand.tmp 88, Operand.tmp 89, Operand.tmp 92, Operand.tmp 93], argTypes := #[22, 3, 24, 4] }, type := 4, pos := "law.go:242", after := #[{ on := 0, ground := Ground.data }, { on := 1, ground := Ground.data }, { on := 4, ground := Ground.data }, { on := 5, ground := Ground.data }], guard := none }) rfl (fun K hK => ?_) AllReadyH.nil
          go_simp
          refine (unhide QR _ (unhide E0)).mono ?_
          rintro x v1 ⟨rfl, hv1⟩
          have E1 := hide (bl_t (unhide E0) hv1)
          clear hv1
          go_wp2_with fail
          refine hK.out _ _ ?_ (fun hHeld0 => ?_)
          · exact cell_later (unhide MD) (unhide E1)
          clear hHeld
          clear hK K
          try simp only [Act.put, List.setIfInBounds_toArray, List.set_cons_zero, List.set_cons_succ]
          refine wpAnyH_ready (rs := [13]) (by kernel_rfl) (by simp) ?_
          refine AllReadyH.cons (o := { dst := some 101, op := Op.call { callee := Callee.value (Operand.func 6), args := #[Operand.tmp 95, Operand.tmp 96, Operand.tmp 99, Operand.tmp 100], argTypes := #[22, 3, 24, 4] }, type := 4, pos := "law.go:242", after := #[{ on := 7, ground := Ground.data }, { on := 8, ground := Ground.data }, { on := 11, ground := Ground.data }, { on := 12, ground := Ground.data }, { on := 6, ground := Ground.chain }], guard := none }) rfl (fun K hK => ?_) AllReadyH.nil
          go_simp
          refine (unhide QM _ (unhide E1)).mono ?_
          rintro x v2 ⟨rfl, hv2⟩
          have E2 := hide (bl_t (unhide E1) hv2)
          clear hv2
          go_wp2_with fail
          refine hK.out _ _ ?_ (fun hHeld1 => ?_)
          · exact cell_later (unhide MD) (unhide E2)
          clear hHeld0
          clear hK K
          try simp only [Act.put, List.setIfInBounds_toArray, List.set_cons_zero, List.set_cons_succ]
          refine wpAnyH_take (i := 14) (oi := { dst := some 102, op := Op.binOp BinOp.eql 4 (Operand.tmp 94) (Operand.tmp 101) 4, type := 4, pos := "law.go:242", after := #[{ on := 6, ground := Ground.data }, { on := 13, ground := Ground.data }], guard := none }) (v := ?_) rfl (by kernel_rfl) (by kernel_rfl) (by kernel_rfl) (fun _ _ _ h => h) (Or.inl ⟨by rfl, ?_⟩) (by assumption) ?_
          rotate_left
          · intro w hSw; (try dsimp only at hSw); go_simp; (try with_reducible rfl)
          try simp only [Act.put, List.setIfInBounds_toArray, List.set_cons_zero, List.set_cons_succ]
          refine wpAnyH_take (i := 15) (oi := { dst := some 8, op := Op.assign (Operand.tmp 102), type := 4, pos := "law.go:242", after := #[{ on := 14, ground := Ground.data }, { on := 13, ground := Ground.chain }, { on := 0, ground := Ground.phase }, { on := 1, ground := Ground.phase }, { on := 2, ground := Ground.phase }, { on := 3, ground := Ground.phase }, { on := 4, ground := Ground.phase }, { on := 5, ground := Ground.phase }, { on := 6, ground := Ground.phase }, { on := 7, ground := Ground.phase }, { on := 8, ground := Ground.phase }, { on := 9, ground := Ground.phase }, { on := 10, ground := Ground.phase }, { on := 11, ground := Ground.phase }, { on := 12, ground := Ground.phase }, { on := 13, ground := Ground.phase }, { on := 14, ground := Ground.phase }], guard := none }) (v := ?_) rfl (by kernel_rfl) (by kernel_rfl) (by kernel_rfl) (fun _ _ _ h => h) (Or.inl ⟨by rfl, ?_⟩) (by assumption) ?_
          rotate_left
          · intro w hSw; (try dsimp only at hSw); go_simp; (try with_reducible rfl)
          try simp only [Act.put, List.setIfInBounds_toArray, List.set_cons_zero, List.set_cons_succ]
          refine wpAnyH_done (by kernel_rfl) ?_ _
          go_wp2_with fail
          go_ret
          exact ⟨rfl, bl_t (unhide HBw) (unhide E2)⟩
end Go.Proofs.YtmckmeoondlcpaaDoor
