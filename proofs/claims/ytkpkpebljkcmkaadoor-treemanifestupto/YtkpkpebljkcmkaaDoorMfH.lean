import Derived.Test.YtkpkpebljkcmkaaDoorMfG
namespace Go.Proofs.YtkpkpebljkcmkaaDoor
open Go.RowKit

theorem append_none {P : Program} (w : World) (t ty e : TypeId) (i : TypeInfo) (ht : P.underlying t = some (.slice e)) (hi : P.info? e = some i) (s : Option Addr) (n cap : Nat) (hn : n ≤ cap) (a : Option Addr) (c : Nat) (hs : s = none → n = 0 ∧ cap = 0) :
    (Builtin.append_ #[t, t] ty #[.slice s n cap, .slice a 0 c]).run P w = .ok (.slice s n cap) w := by
  have hl : ∀ (x : Addr), (loadCells x 0).run P w = .ok #[] w := fun x => by simpa using run_loadCells_list (P := P) w x [] (by simp)
  cases s with
  | none =>
    obtain ⟨rfl, rfl⟩ := hs rfl
    cases a <;> simp [Builtin.append_, run_underlying ht, sizeOf, typeInfo, hi, Builtin.lenOf, Builtin.firstCells, hl]
  | some g => cases a <;> simp [Builtin.append_, run_underlying ht, sizeOf, typeInfo, hi, Builtin.lenOf, Builtin.firstCells, storeCells, hl, hn]
/-- ROWS BEHIND A ROW OF ONE'S OWN, FROM WHEREVER THEY LIE. -/
theorem app_rws {t e k bytes : Nat} {z : Value} (T : Ty t e k bytes z) {w wr : World} {n : Nat} {s : Value} {xs : List Value} (h : wr.ownsRow w.heap.size e k s n xs) (hb : Below w.heap.size w wr) {xa : Option Addr} {xc : Nat} {fl : List (List Value)} (hf : Rws e k wr (.slice xa fl.length xc) fl) (h63 : n + fl.length ≤ maxLen) (hbt : (n + fl.length) * bytes ≤ 140737488355328) (ty : TypeId) :
    ∃ v' w9, (Builtin.append_ #[t, t] ty #[s, .slice xa fl.length xc]).run Tryd.prog wr = .ok v' w9 ∧ w9.ownsRow w.heap.size e k v' (n + fl.length) (xs ++ fl.flatten) ∧ Below w.heap.size w w9 := by
  obtain ⟨i0, hi0, hz0, hz1, hz2⟩ := info_parts2 T.inf
  rcases hf.src with h0 | ⟨b, o, rfl, hbl, hc⟩
  · have e0 : fl = [] := List.length_eq_zero_iff.1 h0
    subst e0
    refine ⟨s, wr, ?_, by simpa using h, hb⟩
    obtain ⟨a, c, rfl⟩ := owns_form h
    rcases h.2 with ⟨q, q0⟩ | ⟨g, cap, cur, q, _, _, q4, _⟩
    · cases q
      exact append_none wr t ty e i0 T.und hi0 none 0 0 (Nat.le_refl _) xa xc fun _ => ⟨rfl, rfl⟩
    · cases q
      exact append_none wr t ty e i0 T.und hi0 _ n _ q4 xa xc fun q => by cases q
  · obtain ⟨v1, W1, hr, h2, h3, _, h5⟩ := run_append_own_at (P := Tryd.prog) wr w.heap.size t ty e i0 z k bytes T.und hi0 hz0 hz1 hz2 T.zs T.pos s n xs h ⟨b, o, none⟩ fl.length xc fl.flatten (flat_len hf.ok)
      (fun j u hj => by rw [Addr.add_mid]; exact hc j u hj) (flat_one hf.ok) h63 hbt hb.size
    exact ⟨v1, W1, hr, h2, hb.grown h3 hb.size (fun j hj => by have := (World.ownsRow.lt h j hj).1; omega)⟩
theorem zeroPk : ∃ zc : List Value, (Tryd.prog.info? 49).map (fun i => (i.zero, i.size)) = some (some (.agg zc.toArray), 43) ∧ zc.length = 43 ∧ zc.all (·.oneCell') = true :=
  ⟨((((Tryd.prog.info? 49).bind (·.zero)).map fun z => z.cells.toList).getD []), by kernel_rfl, by kernel_rfl, by kernel_rfl⟩
theorem allF_take_le {ps : List Pk} (i : Nat) : (allF (ps.take i)).length ≤ (allF ps).length := by
  have e : allF ps = allF (ps.take i) ++ allF (ps.drop i) := by
    unfold allF
    rw [← List.flatMap_append, List.take_append_drop]
  rw [e, List.length_append]
  omega
theorem mna_base {w W w' : World} {L : List (List Value)} {e : Ending} (h : MnA W L e w') (hb : Below w.heap.size w W) : MnA w L e w' := by
  obtain ⟨er, M, v', h1, h2, h3, h4⟩ := h
  exact ⟨er, M, v', h1, h2, own_base h3 hb.size, bl_t hb h4⟩
set_option maxRecDepth 100000 in
set_option maxHeartbeats 8000000 in
theorem manifest_any {w : World} {v : Value} {ps : List Pk} (h : Pks w v ps) (hl : ps.length ≤ 1048576) (hs : (allF ps).length ≤ 1048576) (hg : Glob w) :
    Calls Tryd.prog 5 #[v] w fun e w' => MnA w (allF ps) e w' := by
  obtain ⟨a, c, rfl⟩ := h.form
  obtain ⟨zF, TF⟩ := tyF
  obtain ⟨zpk, zeroPk2⟩ := zeroPk
  have HTF := hide TF
  have HP := hide (fun (i : Nat) (hi : i < ps.length) => h.at hi)
  have HLE := hide (fun (i : Nat) (hi : i < ps.length) => Nat.le_trans (allF_le hi) hs)
  have HSN := hide (fun (i : Nat) (hi : i < ps.length) => allF_snoc hi)
  have HTL := hide (fun (i : Nat) => Nat.le_trans (allF_take_le (ps := ps) i) hs)
  have HCK := hide (fun (s : Nm) (X : World) (hs : s.size ≤ maxLen) (hX : Below w.heap.size w X) => CheckPath_any s X hs (hg.later hX))
  have HOKA := hide (show ∀ r ∈ allF ps, isT 40 34 r from fun r hr => by
    obtain ⟨p, hp, hr2⟩ := List.mem_flatMap.1 hr
    obtain ⟨i, hi, rfl⟩ := List.getElem_of_mem hp
    obtain ⟨_, _, _, _, _, _, _, _, _, k⟩ := h.at hi
    exact k.ok r hr2)
  have HFULL := hide (show allF (ps.take ps.length) = allF ps by rw [List.take_length])
  have HST := hide (show w.ownsRow w.heap.size 40 34 (.slice none 0 0) (allF (ps.take 0)).length (allF (ps.take 0)).flatten from World.ownsRow_nil _ _ _ _)
  obtain ⟨N, hN⟩ : ∃ N, ps.length = N := ⟨_, rfl⟩
  have HN := hide hN
  rw [hN] at hl HFULL
  rw [hN]
  have HS := hide hs
  clear h hN TF hg hs
  go_enter Tryd.func5, Tryd.ntmps5
  go_wp2_with fail
  go_loopg [4, 6, 12] N (fun gq fv _ iv wr => ∃ i : Nat, iv = .int .i64 i ∧ i ≤ N ∧ N - i ≤ gq ∧ Hid (wr.ownsRow w.heap.size 40 34 fv (allF (ps.take i)).length (allF (ps.take i)).flatten) ∧ Hid (Below w.heap.size w wr))
  case atStart => exact ⟨0, by go_num, by omega, by omega, HST, hide (Below.refl _ _)⟩
  case round =>
    clear HST
    obtain ⟨i, rfl, hi, hg, HR, HB⟩ := hrel
    by_cases hlt : i < N
    · have hin : (i : Int) < (N : Int) := by omega
      have hil : i < ps.length := by have := unhide HN; omega
      obtain ⟨b, o, cs, xa, xc, rfl, hbl, hr, hc, hf⟩ := unhide HP i hil
      have HRG := hide (rangeAt_later hr hbl (unhide HB))
      have hcl := hc.len
      have HC1 := hide hc.one
      have HC7 := hide hc.c7
      have hfl := unhide HLE i hil
      have htl := unhide HTL i
      have HS1 := hide (unhide HSN i hil)
      have HF := hide (fun (X : World) (hX : Below w.heap.size w X) => hf.later hX)
      have HAP := hide (fun (X : World) (hX : Below w.heap.size w X) (hO : X.ownsRow w.heap.size 40 34 u4 (allF (ps.take i)).length (allF (ps.take i)).flatten) => app_rws (unhide HTF) hO hX (unhide HF X hX) (by unfold maxLen; omega) (by omega) 24)
      clear hr hc hf htl hfl
      go_wp2_with (first
        | ((with_reducible refine m_load (t := 49) (k := 43) Tryd.underlying49 rfl infoK _ rfl rfl b (o + i * 43) rfl cs (unhide HRG) hcl ?_))
        | ((with_reducible refine b_alloc (t := 49) (k := 43) zeroPk2 rfl rfl ?_); intro w2 B1 k1 z1)
        | ((with_reducible refine b_store (t := 49) (k := 43) infoK _ _ rfl rfl wr.heap.size rfl cs rfl hcl (unhide HC1) _ B1 ?_); intro w3 B3 o3 k3 z3; have b7 := k1.trans (k3 _ (Nat.le_refl _)); have HB3 := hide (bl_t (unhide HB) b7); have HR3 := hide (own_low (unhide HR) b7); have c7 := B3.cell (unhide HC7); obtain ⟨v9, w9, hr9, ho9, hb9⟩ := unhide HAP w3 (unhide HB3) (unhide HR3); have HO9 := hide ho9; have HB9 := hide hb9; clear B1 k1 z1 B3 o3 k3 z3 b7 ho9 hb9)
        | (at_builtin; refine wpList_append_run rfl _ _ 24 rfl _ _ rfl rfl hr9 ?_; clear hr9 c7))
      have HO8 := hide (show w9.ownsRow w.heap.size 40 34 v9 (allF (ps.take (i + 1))).length (allF (ps.take (i + 1))).flatten from by rw [unhide HS1, List.length_append, List.flatten_append]; exact unhide HO9)
      go_roundg (N - (i + 1))
      case measure => omega
      case rel => exact ⟨i + 1, by go_num, by omega, by omega, HO8, HB9⟩
    · obtain rfl : i = N := by omega
      have hge : ¬ (i : Int) < (i : Int) := by omega
      have HO := hide (show wr.ownsRow w.heap.size 40 34 u4 (allF ps).length (allF ps).flatten from by have := unhide HR; rw [unhide HFULL] at this; exact this)
      have HRIS := hide (fun (X : World) (hX : X.ownsRow w.heap.size 40 34 u4 (allF ps).length (allF ps).flatten) (hc : ∀ r ∈ allF ps, chk (pth r) = 0) => rising_any hX (unhide HOKA) (unhide HS) hc)
      have HRW := hide (own_rws2 (unhide HOKA) (unhide HO))
      obtain ⟨a2, c2, rfl⟩ := owns_form (unhide HO)
      have HAT := hide (fun (k : Nat) (hk : k < (allF ps).length) => (unhide HRW).at hk)
      have hLS := unhide HS
      obtain ⟨K, hK⟩ : ∃ K, (allF ps).length = K := ⟨_, rfl⟩
      have HK := hide hK
      obtain ⟨W, rfl⟩ : ∃ W, W = wr := ⟨_, rfl⟩
      rw [hK] at hLS ⊢
      clear HR HRW hK
      go_wp2_with fail
      have HWB := hide (unhide HB)
      obtain ⟨zf, zeroF2⟩ := zeroF1
      go_loopg [8, 9, 23] K (fun gq _ _ iv wz => ∃ k : Nat, iv = .int .i64 k ∧ k ≤ K ∧ K - k ≤ gq ∧ Hid (Below W.heap.size W wz) ∧ Hid (∀ j (hj : j < (allF ps).length), j < k → chk (pth (allF ps)[j]) = 0))
      case atStart => exact ⟨0, by go_num, by omega, by omega, hide (Below.refl _ _), hide fun j _ h => absurd h (Nat.not_lt_zero _)⟩
      case round =>
        obtain ⟨k, rfl, hk, hgk, HBW, HZ⟩ := hrel
        by_cases hlk : k < K
        · have hkn : (k : Int) < (K : Int) := by omega
          have hkl : k < (allF ps).length := by have := unhide HK; omega
          obtain ⟨b2, o2, rfl, hb2, hok, hrg⟩ := unhide HAT k hkl
          obtain ⟨s, hs0, hsp, hsz⟩ := hok.path2
          have HRG := hide (rangeAt_later hrg hb2 (unhide HBW))
          have hxl := hok.1
          have HX1 := hide hok.2.2
          have HX0 := hide hs0
          have HMEM := hide (show (allF ps)[k] ∈ allF ps from List.getElem_mem _)
          have HZ2 := hide (show chk s = 0 → ∀ j (hj : j < (allF ps).length), j < k + 1 → chk (pth (allF ps)[j]) = 0 from fun h0 j hj hjk => by
            by_cases e : j = k
            · subst e; rw [hsp]; exact h0
            · exact unhide HZ j hj (by omega))
          generalize (allF ps)[k] = xs at *
          have HSP := hide hsp
          have HCP := hide (fun (X : World) (hX : Below W.heap.size W X) => unhide HCK s X hsz (bl_t (unhide HWB) hX))
          clear hok hrg hs0 hsp HZ hsz
          rcases chk_two s with hz | hz
          · rw [hz] at HCP
            have HZ3 := hide (unhide HZ2 hz)
            clear HZ2 hz
            go_wp2_with (first
              | ((with_reducible refine m_load (t := 40) (k := 34) Tryd.underlying40 rfl infoF _ rfl rfl b2 (o2 + k * 34) rfl xs (unhide HRG) hxl ?_))
              | ((with_reducible refine b_alloc (t := 40) (k := 34) zeroF2 rfl rfl ?_); intro w2 B1 k1 z1)
              | ((with_reducible refine b_store (t := 40) (k := 34) infoF _ _ rfl rfl wr.heap.size rfl xs rfl hxl (unhide HX1) _ B1 ?_); intro w3 B3 o3 k3 z3; have HB3 := hide (bl_t (unhide HBW) (k1.trans (k3 _ (Nat.le_refl _)))); have c7 := B3.cell (unhide HX0); clear B1 k1 z1 B3 o3 k3 z3)
              | (go_at_call 15; refine (unhide HCP _ (unhide HB3)).mono ?_; rintro e w4 ⟨rfl, hb4⟩; have HB4 := hide (bl_t (unhide HB3) hb4); clear hb4 c7))
            go_roundg (K - (k + 1))
            case measure => omega
            case rel => exact ⟨k + 1, by go_num, by omega, by omega, HB4, HZ3⟩
          · rw [hz] at HCP
            have HBAD := hide (show ∃ r ∈ allF ps, chk (pth r) ≠ 0 from ⟨xs, unhide HMEM, by rw [unhide HSP, hz]; decide⟩)
            clear HZ2 hz
            go_wp2_with (first
              | ((with_reducible refine m_load (t := 40) (k := 34) Tryd.underlying40 rfl infoF _ rfl rfl b2 (o2 + k * 34) rfl xs (unhide HRG) hxl ?_))
              | ((with_reducible refine b_alloc (t := 40) (k := 34) zeroF2 rfl rfl ?_); intro w2 B1 k1 z1)
              | ((with_reducible refine b_store (t := 40) (k := 34) infoF _ _ rfl rfl wr.heap.size rfl xs rfl hxl (unhide HX1) _ B1 ?_); intro w3 B3 o3 k3 z3; have HB3 := hide (bl_t (unhide HBW) (k1.trans (k3 _ (Nat.le_refl _)))); have c7 := B3.cell (unhide HX0); clear B1 k1 z1 B3 o3 k3 z3)
              | (go_at_call 15; refine (unhide HCP _ (unhide HB3)).mono ?_; rintro e w4 ⟨rfl, hb4⟩; have HB4 := hide (bl_t (unhide HB3) hb4); clear hb4 c7))
            go_ret2
            exact mna (.path (unhide HBAD)) rfl (World.ownsRow_nil _ _ _ _) (bl_t (unhide HWB) (unhide HB4))
        · obtain rfl : k = K := by omega
          have hge2 : ¬ (k : Int) < (k : Int) := by omega
          have HALL := hide (show ∀ r ∈ allF ps, chk (pth r) = 0 from fun r hr => by
            obtain ⟨j, hj, rfl⟩ := List.getElem_of_mem hr
            exact unhide HZ j hj (by have := unhide HK; omega))
          have HC := hide (unhide HRIS wr (own_low (unhide HO) (unhide HBW)) (unhide HALL))
          rw [unhide HK] at HC
          have HBB := hide (bl_t (unhide HWB) (unhide HBW))
          clear HZ
          go_wp2_with (go_at_call 16; refine (unhide HC).mono ?_; rintro e w5 ⟨er, M, v5, h1, rfl, h3, h4⟩; have HA := hide (mna h1 rfl h3 h4); clear h1 h3 h4)
          go_ret2
          exact mna_base (unhide HA) (unhide HBB)
end Go.Proofs.YtkpkpebljkcmkaaDoor
