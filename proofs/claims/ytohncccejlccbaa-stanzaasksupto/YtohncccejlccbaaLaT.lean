import Derived.Test.YtohncccejlccbaaLaX
namespace Go.Proofs.Ytohncccejlccbaa
open Go.RowKit

theorem new3z (w : World) (v0 v1 v2 : Value) (t : TypeId) : ∃ W, w.alloc (.cells #[v0, v1, v2] t) = W ∧ W.cell? ⟨w.heap.size, 0, none⟩ = some v0 ∧ W.cell? ⟨w.heap.size, 1, none⟩ = some v1 ∧ W.cell? ⟨w.heap.size, 2, none⟩ = some v2 ∧ w.heap.size < W.heap.size ∧ Below w.heap.size w W := by
  refine ⟨_, rfl, ?_, ?_, ?_, by simp, (Below.refl w.heap.size w).alloc (Nat.le_refl _) _⟩
  all_goals go_simp

theorem wrap1 (n : Nat) (h : n ≤ 16777216) : IntKind.i64.wrap ((n : Int) + 1) = (n : Int) + 1 := by
  rw [IntKind.wrap_i64]
  omega
theorem two_cells (W : World) (u1 u2 : Value) (t : TypeId) : ((W.alloc (.cells #[u1] t)).alloc (.cells #[u2] t)).drew.drew.cell? ⟨W.heap.size, 0, none⟩ = some u1 ∧ ((W.alloc (.cells #[u1] t)).alloc (.cells #[u2] t)).drew.drew.cell? ⟨W.heap.size + 1, 0, none⟩ = some u2 ∧ Below W.heap.size W ((W.alloc (.cells #[u1] t)).alloc (.cells #[u2] t)).drew.drew := by
  refine ⟨?_, ?_, (((Below.refl _ _).alloc (Nat.le_refl _) _).alloc (by simp) _).drew.drew⟩
  · have h := (Below.heap_alloc (W.alloc (.cells #[u1] t)) (.cells #[u2] t) W.heap.size (by simp)).trans (World.alloc_heap_new W (.cells #[u1] t))
    exact (cell_blk (W := (W.alloc (.cells #[u1] t)).alloc (.cells #[u2] t)) h 0).1
  · have h := World.alloc_heap_new (W.alloc (.cells #[u1] t)) (.cells #[u2] t)
    rw [show (W.alloc (.cells #[u1] t)).heap.size = W.heap.size + 1 by simp] at h
    exact (cell_blk (W := (W.alloc (.cells #[u1] t)).alloc (.cells #[u2] t)) h 0).1

theorem alike_1 (p : List Gd) (b1 b2 : Nat) (u1 u2 : Value) (W : World) (hl : p.length ≤ 16777216 ∧ ∀ f ∈ p, f.ls.length ≤ 16777216 ∧ f.ns.length ≤ 16777216) (h1 : W.cell? ⟨b1, 0, none⟩ = some u1) (h2 : W.cell? ⟨b2, 0, none⟩ = some u2) (k1 : ParZ W u1 p) (k2 : ParZ W u2 p) :
    Calls Try.prog 7 #[.slice (some ⟨b1, 0, none⟩) 1 1, .slice (some ⟨b2, 0, none⟩) 1 1] W fun e w' => e = .returned (.bool true) ∧ Below W.heap.size W w' :=
  alike_z [p] (some ⟨b1, 0, none⟩) (some ⟨b2, 0, none⟩) 1 1 W (by simp) (fun x hx => by rw [List.mem_singleton.1 hx]; exact hl)
    ⟨_, _, rfl, fun _ => ⟨b1, 0, rfl, fun i x hi => by
      cases i with
      | zero => cases hi; exact ⟨u1, h1, k1⟩
      | succ i => simp at hi⟩⟩
    ⟨_, _, rfl, fun _ => ⟨b2, 0, rfl, fun i x hi => by
      cases i with
      | zero => cases hi; exact ⟨u2, h2, k2⟩
      | succ i => simp at hi⟩⟩

set_option maxRecDepth 100000 in
set_option maxHeartbeats 8000000 in
theorem stayed_any (b0 : Nat) (qs : List Lq) (ps : List (List Gd)) (v : Value) (w : World) (lg lgc : Nat) (P F : Value) (m1 m2 : Nat) (hl : ps.length ≤ 16777216) (hls : ∀ x ∈ ps, x.length ≤ 16777216 ∧ ∀ f ∈ x, f.ls.length ≤ 16777216 ∧ f.ns.length ≤ 16777216) (hq : qs.map (fun q => q.xs.map (·.f)) = ps) (hN : LN b0 w lg lgc P F qs m1 m2) (hD : DocZ w v ps) :
    Calls Try.prog 8 #[.agg #[.slice (some ⟨lg, 0, none⟩) ps.length lgc, P, F], v] w fun e w' => e = .returned (.bool true) ∧ Below w.heap.size w w' := by
  obtain ⟨va, vc, rfl, -⟩ := id hD
  have hql : qs.length = ps.length := by rw [← hq]; simp
  have HK := hide (fun (W : World) (hb : Below w.heap.size w W) => (hN.later hb).c)
  have HK2 := hide (show ∀ (W : World) (hb : Below w.heap.size w W), DocZ W (.slice (some ⟨lg, 0, none⟩) ps.length lgc) ps from fun W hb => by
    have h := (hN.later hb).docZ
    rw [hq, hql] at h
    exact h)
  have HK3 := hide (fun (W : World) (hb : Below w.heap.size w W) => hD.later hb)
  obtain ⟨pa, pcc, rfl, -⟩ := hN.c.p
  obtain ⟨fa, fcc, rfl, -⟩ := hN.c.f
  have HLS := hide hls
  have HQ := hide hq
  have cL := hN.c.lc
  have cLz : (ps.length : Int) + 2 ≤ (lgc : Int) := by omega
  have hl2 : (ps.length : Int) + 2 ≤ 9223372036854775807 := by omega
  clear hN hD hls hq
  rw [hql] at HK cL ⊢
  go_enter Try.func8, Try.ntmps8
  go_wp2_with fail
  obtain ⟨W, hW, k0, k1, k2, q4, hB⟩ := new3z w (.slice (some ⟨lg, 0, none⟩) ps.length lgc) (.slice pa ps.length pcc) (.slice fa ps.length fcc) 25
  rw [hW]
  clear hW
  have HBW := hide hB
  clear hB
  have HX := hide (show ∀ W', Below W.heap.size W W' → W'.cell? ⟨w.heap.size, 0, none⟩ = some (.slice (some ⟨lg, 0, none⟩) ps.length lgc) ∧ W'.cell? ⟨w.heap.size, 1, none⟩ = some (.slice pa ps.length pcc) ∧ W'.cell? ⟨w.heap.size, 2, none⟩ = some (.slice fa ps.length fcc) ∧ Below w.heap.size w W' from fun W' hb => ⟨cell_later k0 hb, cell_later k1 hb, cell_later k2 hb, bl_t (unhide HBW) hb⟩)
  clear k0 k1 k2
  go_wp2_with (go_at_call 7; refine (alike_z ps _ _ _ _ W (by omega) (unhide HLS) (unhide HK2 W (unhide HBW)) (unhide HK3 W (unhide HBW))).mono ?_; rintro e w5 ⟨rfl, hb5⟩; have x0 := (unhide HX w5 hb5).1; have c1 := (unhide HK w5 (unhide HX w5 hb5).2.2.2).l1; have c2 := (unhide HK w5 (unhide HX w5 hb5).2.2.2).l2; have c3 := (unhide HK w5 (unhide HX w5 hb5).2.2.2).a1; have c4 := (unhide HK w5 (unhide HX w5 hb5).2.2.2).a2; rw [hql] at c1 c2; have HB5 := hide hb5; clear hb5)
  clear x0 c1 c2 c3 c4
  go_loopw [6] (fun iv wr => ∃ (i : Nat), i ≤ ps.length ∧ iv = .int .i64 i ∧ Hid (Below W.heap.size W wr)) (fun iv _ => ps.length - (intOf iv).toNat)
  case atStart => exact ⟨0, Nat.zero_le _, rfl, HB5⟩
  case round =>
    obtain ⟨i, hi, rfl, HB⟩ := hrel
    clear HB5
    rename World => W2
    by_cases hlt : i < ps.length
    · obtain ⟨q, hqi⟩ : ∃ q, qs[i]? = some q := ⟨_, List.getElem?_eq_getElem (by omega)⟩
      have hpq : ps[i] = q.xs.map (·.f) := by
        have h1 : (qs.map (fun q => q.xs.map (·.f)))[i]? = some (q.xs.map (·.f)) := by rw [List.getElem?_map, hqi]; rfl
        rw [unhide HQ, List.getElem?_eq_getElem hlt] at h1
        exact Option.some.inj h1
      have hlen : ps[i].length = q.xs.length := by rw [hpq, List.length_map]
      obtain ⟨q1, q2⟩ := unhide HLS _ (List.getElem_mem hlt)
      obtain ⟨_, x1, x2, hbw⟩ := unhide HX W2 (unhide HB)
      have lcw := unhide HK W2 hbw
      obtain ⟨pa', pc', hp1, hp2⟩ := lcw.p
      obtain ⟨fa', fc', hf1, hf2⟩ := lcw.f
      simp only [Value.slice.injEq] at hp1 hf1
      obtain ⟨rfl, -, rfl⟩ := hp1
      obtain ⟨rfl, -, rfl⟩ := hf1
      obtain ⟨pg, rfl, hp3⟩ := hp2 (by omega)
      obtain ⟨fg, rfl, hf3⟩ := hf2 (by omega)
      obtain ⟨g, o, ua, uc, rfl, u1, u2⟩ := (unhide HK3 W2 hbw).par i hlt
      have p1 := hp3 i q hqi
      have lq := lcw.q q (List.mem_of_getElem? hqi)
      have hqc := lq.pc
      rw [hlen] at u1 u2 q1
      have hqcz : (q.xs.length : Int) + 2 ≤ (q.pc : Int) := by omega
      unfold pcell at p1
      generalize hn : q.xs.length = n at *
      have HHF := hide hf3
      rw [hpq] at q2 u2
      have HQ2 := hide (show (q.xs.map (·.f)).length ≤ 16777216 ∧ ∀ f ∈ q.xs.map (·.f), f.ls.length ≤ 16777216 ∧ f.ns.length ≤ 16777216 from ⟨by rw [List.length_map]; omega, q2⟩)
      have HU2 := hide u2
      have HPZ := hide (show ParZ W2 (.slice (some ⟨q.pb, 0, none⟩) n q.pc) (q.xs.map (·.f)) from hn ▸ lq.parZ)
      clear hp2 hp3 hf2 hf3 lcw q2 u2
      go_wp2_with fail
      go_region
      have HB3 := hide ((unhide HB).drew)
      have HS3 := hide (show ∀ W', Below W2.heap.size W2 W' → W'.cell? ⟨g, o + i, none⟩ = some (.slice ua n uc) ∧ W'.cell? ⟨q.pb, n * 3, none⟩ = some (.string ⟨#[42]⟩) ∧ W'.cell? ⟨q.pb, (n + 1) * 3, none⟩ = some (.string ⟨#[42, 42]⟩) from fun W' hb => ⟨cell_later u1 hb, hn ▸ cell_later lq.p1 hb, hn ▸ cell_later lq.p2 hb⟩)
      have hn0 : (0 : Int) ≤ (n : Int) := by omega
      have hnp : (n : Int) ≤ (q.pc : Int) := by omega
      have hnn : (n : Int) ≤ (n : Int) + 2 := by omega
      have hn1 : (n : Int) < (n : Int) + 2 := by omega
      have hn2 : (n : Int) + 1 < (n : Int) + 2 := by omega
      have hn3 : (n : Int) + 1 ≤ 9223372036854775807 := by omega
      have hn4 : IntKind.i64.wrap ((n : Int) + 1) = (n : Int) + 1 := wrap1 n (by omega)
      have hn5 : (0 : Int) ≤ (n : Int) + 1 := by omega
      have hn6 : ((n : Int) + 1).toNat = n + 1 := by omega
      have hi0 : (0 : Int) ≤ (i : Int) := by omega
      have hi1 : (i : Int) < (ps.length : Int) := by omega
      clear u1 p1 x1 x2 lq
      go_wp2_with fail
      apply merge
      case h =>
        intro KEY
        go_region_held3 (fun w2 => w2.cell? ⟨g, o + i, none⟩ = some (.slice ua n uc) ∧ w2.cell? ⟨q.pb, n * 3, none⟩ = some (.string ⟨#[42]⟩) ∧ w2.cell? ⟨q.pb, (n + 1) * 3, none⟩ = some (.string ⟨#[42, 42]⟩)) (first | exact unhide HS3 _ ((Below.refl _ _).drew.drew) | exact unhide HS3 _ ((Below.refl _ _).drew.drew.alloc (by simp) _) | exact unhide HS3 _ (((Below.refl _ _).drew.drew.alloc (by simp) _).alloc (by simp) _) | exact unhide HS3 _ (unhide B5)) (first | (go_at_call 7; have b9 := (two_cells W2 (.slice (some ⟨q.pb, 0, none⟩) n q.pc) (.slice ua n uc) 22); refine (alike_1 (q.xs.map (·.f)) _ _ (.slice (some ⟨q.pb, 0, none⟩) n q.pc) (.slice ua n uc) _ (unhide HQ2) ?_ ?_ ?_ ?_).mono ?_; exact b9.1; exact b9.2.1; exact (unhide HPZ).later b9.2.2; exact (unhide HU2).later b9.2.2; rintro e w5 ⟨rfl, hb5⟩; have B5 := hide (bl_t b9.2.2 hb5); clear hb5 b9) | (go_at_call 7; have b9 := (two_cells W2 (.slice ua n uc) (.slice (some ⟨q.pb, 0, none⟩) n q.pc) 22); refine (alike_1 (q.xs.map (·.f)) _ _ (.slice (some ⟨q.pb, 0, none⟩) n q.pc) (.slice ua n uc) _ (unhide HQ2) ?_ ?_ ?_ ?_).mono ?_; exact b9.2.1; exact b9.1; exact (unhide HPZ).later b9.2.2; exact (unhide HU2).later b9.2.2; rintro e w5 ⟨rfl, hb5⟩; have B5 := hide (bl_t b9.2.2 hb5); clear hb5 b9))
        · generalize Value.slice (some ⟨W2.heap.size, 0, none⟩) 1 1 = z1
          generalize Value.slice (some ⟨W2.heap.size + 1, 0, none⟩) 1 1 = z2
          revert z1 z2 w5
          exact unhide KEY
        · generalize Value.slice (some ⟨W2.heap.size + 1, 0, none⟩) 1 1 = z1
          generalize Value.slice (some ⟨W2.heap.size, 0, none⟩) 1 1 = z2
          revert z1 z2 w5
          exact unhide KEY
      intro w5 B5 HH z1 z2
      clear HH
      go_wp2_with fail
      go_loopw [8] (fun kv wr => ∃ (k : Nat), k ≤ n ∧ kv = .int .i64 k ∧ Hid (Below W2.heap.size W2 wr)) (fun kv _ => n - (intOf kv).toNat)
      case atStart => exact ⟨0, Nat.zero_le _, rfl, B5⟩
      case round =>
        obtain ⟨k, hk, rfl, HBk⟩ := hrel
        clear B5
        rename World => W3
        by_cases hlt2 : k < n
        · obtain ⟨x, hx⟩ : ∃ x, q.xs[k]? = some x := ⟨_, List.getElem?_eq_getElem (by omega)⟩
          have HBW3 := hide (bl_t (unhide HB) (unhide HBk))
          have HBw3 := hide (bl_t (unhide HBW) (unhide HBW3))
          have lc3 := unhide HK W3 (unhide HBw3)
          have lq3 := lc3.q q (List.mem_of_getElem? hqi)
          have lf3 := lq3.f x (List.mem_of_getElem? hx)
          obtain ⟨fa', fc', hf1, hf2⟩ := lc3.f
          simp only [Value.slice.injEq] at hf1
          obtain ⟨rfl, -, rfl⟩ := hf1
          obtain ⟨fg', hfe, hf3⟩ := hf2 (by omega)
          cases hfe
          have f1 := hf3 i q hqi
          obtain ⟨oa, oc, ho, ho2⟩ := lq3.o
          obtain ⟨og, rfl, ho3⟩ := ho2 (by omega)
          rw [ho, hn] at f1
          have x2 := (unhide HX W3 (unhide HBW3)).2.2.1
          have u1 := (unhide HS3 W3 (unhide HBk)).1
          obtain ⟨g2, o2, rfl, fz⟩ := ((unhide HU2).later (unhide HBk)).fld k (by rw [List.length_map]; omega)
          have hxf : (q.xs.map (·.f))[k]'(by rw [List.length_map]; omega) = x.f := by
            rw [List.getElem_map]
            rw [List.getElem?_eq_getElem (by omega)] at hx
            rw [Option.some.inj hx]
          rw [hxf] at fz
          obtain ⟨f2a, f2b⟩ := (unhide HQ2).2 x.f (List.mem_map.2 ⟨x, List.mem_of_getElem? hx, rfl⟩)
          have l1 := ho3 k x 1 _ hx rfl
          have a1 := ho3 k x 2 _ hx rfl
          obtain ⟨la, lc, e1, _, es⟩ := fz.ls
          obtain ⟨na, nc, e2, en⟩ := fz.ns
          have c1 := lf3.lc
          have c2 := lf3.ac
          have m1' := lf3.l1
          have m2' := lf3.l2
          have m3' := lf3.a1
          have m4' := lf3.a2
          have HT1 := hide lf3.l
          have HT2 := hide lf3.a
          have HES := hide es
          have HEN := hide en
          have hls' : (strs x.f.ls).length = x.f.ls.length := by simp [strs]
          generalize hnl : x.f.ls.length = nl at *
          generalize hnn : x.f.ns.length = nn at *
          have c1z : (nl : Int) + 2 ≤ (x.lc : Int) := by omega
          have c2z : (nn : Int) + 2 ≤ (x.ac : Int) := by omega
          clear lc3 lq3 lf3 hf2 hf3 ho2 ho3 fz es en
          go_wp2_with fail
          have cT := hide (show ∀ W', Below W3.heap.size W3 W' → Calls Try.prog 13 #[.slice (some ⟨x.lb, 0, none⟩) nl x.lc, .slice la nl lc] W' fun e w' => e = .returned (.bool true) ∧ Below W'.heap.size W' w' from fun W' hb => by
            have h := texts_same x.f.ls (some ⟨x.lb, 0, none⟩) la x.lc lc W' (by omega) ((unhide HT1).later hb) ((unhide HES).later hb)
            rw [hnl] at h
            exact h)
          have cN := hide (show ∀ W', Below W3.heap.size W3 W' → Calls Try.prog 25 #[.slice (some ⟨x.ab, 0, none⟩) nn x.ac, .slice na nn nc] W' fun e w' => e = .returned (.bool true) ∧ Below W'.heap.size W' w' from fun W' hb => by
            have h := numbers_z x.f.ns (some ⟨x.ab, 0, none⟩) na x.ac nc W' (by omega) ((unhide HT2).later hb) ((unhide HEN).later hb)
            rw [hnn] at h
            exact h)
          have HS4 := hide (show ∀ W', Below W3.heap.size W3 W' → W'.cell? ⟨g, o + i, none⟩ = some (.slice (some ⟨g2, o2, none⟩) n uc) ∧ W'.cell? ⟨g2, o2 + k * 3 + 1, none⟩ = some (.slice la nl lc) ∧ W'.cell? ⟨g2, o2 + k * 3 + 2, none⟩ = some (.slice na nn nc) ∧ W'.cell? ⟨x.lb, nl, none⟩ = some (.string ⟨#[42]⟩) ∧ W'.cell? ⟨x.lb, nl + 1, none⟩ = some (.string ⟨#[42, 42]⟩) ∧ W'.cell? ⟨x.ab, nn, none⟩ = some (.int .i64 (-7)) ∧ W'.cell? ⟨x.ab, nn + 1, none⟩ = some (.int .i64 (-8)) from fun W' hb => ⟨cell_later u1 hb, cell_later e1 hb, cell_later e2 hb, cell_later m1' hb, cell_later m2' hb, cell_later m3' hb, cell_later m4' hb⟩)
          have r1 : (0 : Int) ≤ (nl : Int) := by omega
          have r2 : (nl : Int) ≤ (x.lc : Int) := by omega
          have r3 : (nl : Int) < (nl : Int) + 2 := by omega
          have r4 : (nl : Int) + 1 < (nl : Int) + 2 := by omega
          have r5 : IntKind.i64.wrap ((nl : Int) + 1) = (nl : Int) + 1 := wrap1 nl (by omega)
          have r6 : (0 : Int) ≤ (nl : Int) + 1 := by omega
          have r7 : ((nl : Int) + 1).toNat = nl + 1 := by omega
          have t1 : (0 : Int) ≤ (nn : Int) := by omega
          have t2 : (nn : Int) ≤ (x.ac : Int) := by omega
          have t3 : (nn : Int) < (nn : Int) + 2 := by omega
          have t4 : (nn : Int) + 1 < (nn : Int) + 2 := by omega
          have t5 : IntKind.i64.wrap ((nn : Int) + 1) = (nn : Int) + 1 := wrap1 nn (by omega)
          have t6 : (0 : Int) ≤ (nn : Int) + 1 := by omega
          have t7 : ((nn : Int) + 1).toNat = nn + 1 := by omega
          have k0 : (0 : Int) ≤ (k : Int) := by omega
          have k1 : (k : Int) < (n : Int) := by omega
          clear u1 e1 e2 m1' m2' m3' m4' l1 a1 f1 x2
          go_region_held3 (fun w2 => w2.cell? ⟨g, o + i, none⟩ = some (.slice (some ⟨g2, o2, none⟩) n uc) ∧ w2.cell? ⟨g2, o2 + k * 3 + 1, none⟩ = some (.slice la nl lc) ∧ w2.cell? ⟨g2, o2 + k * 3 + 2, none⟩ = some (.slice na nn nc) ∧ w2.cell? ⟨x.lb, nl, none⟩ = some (.string ⟨#[42]⟩) ∧ w2.cell? ⟨x.lb, nl + 1, none⟩ = some (.string ⟨#[42, 42]⟩) ∧ w2.cell? ⟨x.ab, nn, none⟩ = some (.int .i64 (-7)) ∧ w2.cell? ⟨x.ab, nn + 1, none⟩ = some (.int .i64 (-8))) (first | exact unhide HS4 _ (unhide B7) | exact unhide HS4 _ (unhide B6) | exact unhide HS4 _ ((Below.refl _ _).drew) | exact unhide HS4 _ ((Below.refl _ _).drew.drew) | exact unhide HS4 _ ((Below.refl _ _).drew.drew.drew)) (first | (go_at_call 13; first | (refine (unhide cT _ (Below.refl _ _).drew).mono ?_; rintro e w6 ⟨rfl, hb6⟩; have B6 := hide (bl_t ((Below.refl W3.heap.size W3).drew) hb6); clear hb6) | (refine (unhide cT _ (Below.refl _ _).drew.drew.drew).mono ?_; rintro e w6 ⟨rfl, hb6⟩; have B6 := hide (bl_t ((Below.refl W3.heap.size W3).drew.drew.drew) hb6); clear hb6)) | (go_at_call 25; refine (unhide cN _ (unhide B6)).mono ?_; rintro e w7 ⟨rfl, hb7⟩; have B7 := hide (bl_t (unhide B6) hb7); clear hb7))
          go_wp2
          go_roundw
          case rel => exact ⟨k + 1, by omega, by go_num, hide (bl_t (unhide HBk) (unhide B7))⟩
          case measure => simp [intOf]; omega
        · obtain rfl : k = n := by omega
          have u1 := (unhide HS3 W3 (unhide HBk)).1
          go_wp2
          go_roundw
          case rel => exact ⟨i + 1, by omega, by go_num, hide (bl_t (unhide HB) (unhide HBk))⟩
          case measure => simp [intOf]; omega
    · obtain rfl : i = ps.length := by omega
      go_wp2
      go_ret
      exact ⟨rfl, bl_t (unhide HBW) (unhide HB)⟩
end Go.Proofs.Ytohncccejlccbaa
