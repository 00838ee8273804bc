import Derived.Test.YtapkhfblhdicbaaTnB
namespace Go.Proofs.Ytapkhfblhdicbaa
open Go.RowKit Go.Maps

theorem same_at {W : World} {pa pb : Option Addr} {bs : List Int} {n n2 : Nat} (e : bs.length = n) (e2 : bs.length = n2) (ca cb : Nat) (ha : Rb W pa bs) (hb : Rb W pb bs) (hz : n ≤ 140737488355328) (t : Nat) :
    Calls Try.prog 17 #[.slice pa n ca, .slice pb n2 cb] (W.drewN t) fun x W' => x = .returned (.bool true) ∧ ∃ t2, W' = W.drewN t2 := by
  subst e e2
  exact (same_yes ca cb (ha.later (bl_drewN W t)) (hb.later (bl_drewN W t)) hz).mono fun x W' ⟨q0, d, q1⟩ => ⟨q0, t + d, by rw [q1, World.drewN_drewN]⟩
theorem Rb.drop {W : World} {bs cs : List Int} {b : Nat} (h : ∀ (j : Nat) u, (u8 (bs ++ cs))[j]? = some u → W.cell? ⟨b, j, none⟩ = some u) (hb : b < W.heap.size) (n : Nat) (e : bs.length = n) : Rb W (some ⟨b, n, none⟩) cs := by
  refine .inr ⟨b, n, rfl, hb, fun j u hj => h (n + j) u ?_⟩
  rw [u8_app, List.getElem?_append_right (by rw [u8_len]; omega), u8_len]
  rw [show n + j - bs.length = j by omega]
  exact hj
set_option maxRecDepth 100000 in
set_option maxHeartbeats 16000000 in
theorem torn_walk {W : World} {oa da : Option Addr} {os ds : List Int} (oc dc : Nat) (ho : Rb W oa os) (hd : Rb W da ds) (ho0 : oa = none → os = []) (hd0 : da = none → ds = []) (hol : os.length ≤ 140737488355328) (hdl : ds.length ≤ 140737488355328) (hdc : ds.length ≤ dc) (k : Int) (hk : k ≤ 9223372036854775807) :
    Calls Try.prog 3 #[.slice oa os.length oc, .slice da ds.length dc, .int .i64 k] W fun v W' => v = .returned (.bool true) ∧ Below W.heap.size W W' := by
  obtain ⟨on, hon⟩ : ∃ n, n = os.length := ⟨_, rfl⟩
  obtain ⟨dn, hdn⟩ : ∃ n, n = ds.length := ⟨_, rfl⟩
  have HON := hide hon
  have HDN := hide hdn
  rw [← hon] at hol ⊢
  rw [← hdn] at hdl hdc ⊢
  by_cases hz : on + dn ≤ 1073741824
  · have hz1 : ¬ ((1073741824 : Int) < (on : Int) + (dn : Int)) := by omega
    have HT := hide (fun W1 W2 e1 e2 => torn_all (W := W) (W1 := W1) (W2 := W2) e1 e2 oc dc ho hd ho0 hd0 (by rw [← hon, ← hdn]; exact hz) k hk)
    rw [← hon, ← hdn] at HT
    have HO := hide ho
    have HD := hide hd
    clear ho hd hon hdn
    go_enter Try.func3, Try.ntmps3
    go_upto_region 4 with (first | (go_at_call 10; refine (New_any 1073741824 (by decide) _).mono ?_; rintro x1 w1 ⟨rfl, hw1⟩; have HW1 := hide hw1; clear hw1))
    go_upto_region 5 with (first | (go_at_call 10; refine (New_any 1073741824 (by decide) _).mono ?_; rintro x2 w2 ⟨rfl, hw2⟩; have C := unhide HT w1 w2 (unhide HW1) hw2; clear HT HW1 hw2))
    go_upto_region 9 with (first | (go_at_call 11; refine (num_any _ _).mono ?_; rintro x8 w8 ⟨rfl, rfl⟩) | (go_at_call 12; refine C.mono ?_; rintro x9 w9 ⟨rfl, D⟩; clear C; have C := D; clear D) | (go_at_call 13; refine C.mono ?_; rintro x9 w9 ⟨rfl, D⟩; clear C; have C := D; clear D) | (go_at_call 14; refine C.mono ?_; rintro x9 w9 ⟨rfl, D⟩; clear C; have C := D; clear D) | (go_at_call 15; refine C.mono ?_; rintro x9 w9 ⟨rfl, D⟩; clear C; have C := D; clear D))
    go_upto_region 10 with (first | (go_at_call 16; refine C.mono ?_; rintro x3 w3 ⟨f, rfl, D⟩; clear C; have C := D; clear D))
    go_upto_region 11 with (first | (go_at_call 16; refine C.mono ?_; rintro x4 w4 ⟨g, rfl, bf, bg, bw⟩; clear C))
    have HF := hide (And.intro bf (And.intro bg bw))
    have hfl := bf.len
    have hgl := bg.len
    clear bf bg bw
    by_cases hk1 : k < 1
    · have er : res os ds k = os := by unfold res; rw [if_pos hk1]
      have ea : resA os ds k = os := by unfold resA; rw [if_pos hk1]
      rw [er] at HF hfl
      rw [ea] at HF hgl
      rw [← unhide HON] at hfl hgl
      have c1 := same_at (unhide HON).symm (unhide HON).symm f.c oc (unhide HF).1.rb ((unhide HO).later (unhide HF).2.2) hol
      have c2 := same_at (unhide HON).symm (unhide HON).symm g.c oc (unhide HF).2.1.rb ((unhide HO).later (unhide HF).2.2) hol
      obtain ⟨fa, fn, fc⟩ := f
      obtain ⟨ga, gn, gc⟩ := g
      simp only at hfl hgl c1 c2
      subst hfl hgl
      go_wp2_with (first | (go_at_call 17; refine (c1 0).mono ?_; rintro yc1 vc1 ⟨rfl, tc1, rfl⟩; clear c1) | (go_at_call 17; refine (c2 _).mono ?_; rintro yc2 vc2 ⟨rfl, tc2, rfl⟩; clear c2) | (go_at_call 11; refine (num_any _ _).mono ?_; rintro x8 w8 ⟨rfl, rfl⟩))
      go_ret
      exact ⟨rfl, bl_t (unhide HF).2.2 (bl_drewN _ _)⟩
    · by_cases hk2 : k = 1
      · subst hk2
        have er : res os ds 1 = ds.take dn := by unfold res; rw [if_neg hk1, if_pos rfl, unhide HDN, List.take_length]
        have ea : resA os ds 1 = os ++ ds.take dn := by unfold resA; rw [if_neg hk1, if_pos rfl, unhide HDN, List.take_length]
        have etl : (ds.take dn).length = dn := by rw [List.length_take]; have := unhide HDN; omega
        rw [er] at HF hfl
        rw [ea] at HF hgl
        rw [etl] at hfl
        rw [List.length_append, etl, ← unhide HON] at hgl
        obtain ⟨bf, bg, bw⟩ := unhide HF
        have ho4 := (unhide HO).later bw
        have hd4 := ((unhide HD).later bw).take dn
        have c1 := same_at etl etl f.c dc bf.rb hd4 (by omega)
        have gy := bg.rb
        have gform := bg.form
        have hgc : g.n ≤ g.c := by
          rcases gform with ⟨e, _⟩ | ⟨gb, cu, _, _, q, _⟩
          · rw [e]; exact Nat.le_refl _
          · exact q
        have HBW := hide bw
        obtain ⟨fa, fn, fc⟩ := f
        obtain ⟨ga, gn, gc⟩ := g
        simp only at hfl hgl c1 hgc
        subst hfl
        have hgi : (gn : Int) = (on : Int) + (dn : Int) := by omega
        have hgi2 : (on : Int) ≤ (gn : Int) := by omega
        have hwr : IntKind.i64.wrap ((on : Int) + (dn : Int)) = (on : Int) + (dn : Int) := by rw [IntKind.wrap_i64]; omega
        have HGL := hide hgl
        clear hgl
        have hnd : (dn : Int) ≤ (dc : Int) := by omega
        have hog : (on : Int) ≤ (gc : Int) := by omega
        have hog2 : (on : Int) ≤ (on : Int) + (dn : Int) := by omega
        skip
        rcases gform with ⟨e, ee⟩ | ⟨gb, cu, ega, hgb, _, _, _, _⟩
        · injection e with e1 e2 e3
          subst e1 e3
          have a1 : on = 0 := by have := unhide HGL; omega
          have a2 : dn = 0 := by have := unhide HGL; omega
          subst a1 a2
          have cz := fun (t : Nat) (pa pb : Option Addr) (ca cb : Nat) => same_at (W := w4) (n := 0) (n2 := 0) (bs := []) rfl rfl ca cb (pa := pa) (pb := pb) (.inl rfl) (.inl rfl) (by decide) t
          clear gy bf bg bw ho4 hd4 HF HO HD etl c1
          go_upto_region 18 with (first | (go_at_call 11; refine (num_any _ _).mono ?_; rintro x8 w8 ⟨rfl, rfl⟩))
          go_quiet (first | (go_at_call 17; refine (cz _ _ _ _ _).mono ?_; rintro e w'' ⟨rfl, d, rfl⟩; exact ⟨rfl, _, rfl⟩))
          go_wp2_with fail
          all_goals
            go_ret
            exact ⟨rfl, bl_t (unhide HBW) (bl_drewN _ _)⟩
        · simp only at ega
          subst ega
          have gcell : ∀ (j : Nat) u, (u8 (os ++ ds.take dn))[j]? = some u → w4.cell? ⟨gb, j, none⟩ = some u := fun j u hj => owns_at bg j u hj
          have c2 := same_at (unhide HON).symm (unhide HON).symm gc oc (show Rb w4 (some ⟨gb, 0, none⟩) os from .inr ⟨gb, 0, rfl, blk_lt hgb, fun j u hj => by
            rw [Nat.zero_add]
            refine gcell j u ?_
            have hjl := (List.getElem?_eq_some_iff.1 hj).1
            rw [u8_app, List.getElem?_append_left hjl]
            exact hj⟩) ho4 hol
          have c3 := same_at (n := gn - on) (by rw [etl]; have := unhide HGL; omega) etl (gc - on) dc (show Rb w4 (if gc = on then some ⟨gb, 0, none⟩ else some ⟨gb, on, none⟩) (ds.take dn) from by
            by_cases eg : gc = on
            · refine .inl (List.length_eq_zero_iff.1 ?_)
              have := unhide HGL
              omega
            · rw [if_neg eg]
              exact Rb.drop gcell (blk_lt hgb) on (unhide HON).symm) hd4 (by have := unhide HGL; omega)
          clear gcell gy hgb bf bg bw ho4 hd4 HF HO HD etl
          go_upto_region 18 with (first | (go_at_call 11; refine (num_any _ _).mono ?_; rintro x8 w8 ⟨rfl, rfl⟩))
          go_quiet (first | (go_at_call_of 17 (Value.slice fa dn fc); refine (c1 _).mono ?_; rintro e w'' ⟨rfl, d, rfl⟩; exact ⟨rfl, _, rfl⟩) | (go_at_call_of 17 (Value.slice (some ⟨gb, 0, none⟩) on gc); refine (c2 _).mono ?_; rintro e w'' ⟨rfl, d, rfl⟩; exact ⟨rfl, _, rfl⟩) | (go_at_call 17; refine (c3 _).mono ?_; rintro e w'' ⟨rfl, d, rfl⟩; exact ⟨rfl, _, rfl⟩))
          go_wp2_with fail
          all_goals
            go_ret
            exact ⟨rfl, bl_t (unhide HBW) (bl_drewN _ _)⟩
      · obtain ⟨jj, hjj⟩ : ∃ z : Nat, k - 2 = (z : Int) := ⟨(k - 2).toNat, by omega⟩
        have hk3 : (2 : Int) ≤ k := by omega
        have hw64 : wrap64 (k - 2) = (jj : Int) := by rw [hjj]; exact wrap64_id (by omega) (by omega)
        have HJJ := hide hjj
        clear hjj
        by_cases hjd0 : jj < dn
        · have hjd : (jj : Int) < (dn : Int) := by omega
          have hjd2 : ¬ ((dn : Int) ≤ (jj : Int)) := by omega
          have hjd3 : ¬ ((dn : Int) < (jj : Int)) := by omega
          have hjd4 : (jj : Int) ≤ (dc : Int) := by omega
          clear hk hjd0
          have er : res os ds k = ds.take jj := by unfold res; rw [if_neg hk1, if_neg hk2]; unfold tk; rw [show (min (k - 2) (ds.length : Int)).toNat = jj by have := unhide HDN; have := unhide HJJ; omega]
          have ea : resA os ds k = os ++ ds.take jj := by unfold resA; rw [if_neg hk1, if_neg hk2]; unfold tk; rw [show (min (k - 2) (ds.length : Int)).toNat = jj by have := unhide HDN; have := unhide HJJ; omega]
          have etl : (ds.take jj).length = jj := by rw [List.length_take]; have := unhide HDN; omega
          rw [er] at HF hfl
          rw [ea] at HF hgl
          rw [etl] at hfl
          rw [List.length_append, etl, ← unhide HON] at hgl
          obtain ⟨bf, bg, bw⟩ := unhide HF
          have ho4 := (unhide HO).later bw
          have hd4 := ((unhide HD).later bw).take jj
          have c1 := same_at etl etl f.c dc bf.rb hd4 (by omega)
          have gy := bg.rb
          have gform := bg.form
          have hgc : g.n ≤ g.c := by
            rcases gform with ⟨e, _⟩ | ⟨gb, cu, _, _, q, _⟩
            · rw [e]; exact Nat.le_refl _
            · exact q
          have HBW := hide bw
          obtain ⟨fa, fn, fc⟩ := f
          obtain ⟨ga, gn, gc⟩ := g
          simp only at hfl hgl c1 hgc
          subst hfl
          have hgi : (gn : Int) = (on : Int) + (jj : Int) := by omega
          have hgi2 : (on : Int) ≤ (gn : Int) := by omega
          have hwr : IntKind.i64.wrap ((on : Int) + (jj : Int)) = (on : Int) + (jj : Int) := by rw [IntKind.wrap_i64]; omega
          have HGL := hide hgl
          clear hgl
          have hnd : (jj : Int) ≤ (dc : Int) := by omega
          have hog : (on : Int) ≤ (gc : Int) := by omega
          have hog2 : (on : Int) ≤ (on : Int) + (jj : Int) := by omega
          skip
          rcases gform with ⟨e, ee⟩ | ⟨gb, cu, ega, hgb, _, _, _, _⟩
          · injection e with e1 e2 e3
            subst e1 e3
            have a1 : on = 0 := by have := unhide HGL; omega
            have a2 : jj = 0 := by have := unhide HGL; omega
            subst a1 a2
            have cz := fun (t : Nat) (pa pb : Option Addr) (ca cb : Nat) => same_at (W := w4) (n := 0) (n2 := 0) (bs := []) rfl rfl ca cb (pa := pa) (pb := pb) (.inl rfl) (.inl rfl) (by decide) t
            clear gy bf bg bw ho4 hd4 HF HO HD etl c1
            go_upto_region 18 with (first | (go_at_call 11; refine (num_any _ _).mono ?_; rintro x8 w8 ⟨rfl, rfl⟩))
            go_quiet (first | (go_at_call 17; refine (cz _ _ _ _ _).mono ?_; rintro e w'' ⟨rfl, d, rfl⟩; exact ⟨rfl, _, rfl⟩))
            go_wp2_with fail
            all_goals
              go_ret
              exact ⟨rfl, bl_t (unhide HBW) (bl_drewN _ _)⟩
          · simp only at ega
            subst ega
            have gcell : ∀ (j : Nat) u, (u8 (os ++ ds.take jj))[j]? = some u → w4.cell? ⟨gb, j, none⟩ = some u := fun j u hj => owns_at bg j u hj
            have c2 := same_at (unhide HON).symm (unhide HON).symm gc oc (show Rb w4 (some ⟨gb, 0, none⟩) os from .inr ⟨gb, 0, rfl, blk_lt hgb, fun j u hj => by
              rw [Nat.zero_add]
              refine gcell j u ?_
              have hjl := (List.getElem?_eq_some_iff.1 hj).1
              rw [u8_app, List.getElem?_append_left hjl]
              exact hj⟩) ho4 hol
            have c3 := same_at (n := gn - on) (by rw [etl]; have := unhide HGL; omega) etl (gc - on) dc (show Rb w4 (if gc = on then some ⟨gb, 0, none⟩ else some ⟨gb, on, none⟩) (ds.take jj) from by
              by_cases eg : gc = on
              · refine .inl (List.length_eq_zero_iff.1 ?_)
                have := unhide HGL
                omega
              · rw [if_neg eg]
                exact Rb.drop gcell (blk_lt hgb) on (unhide HON).symm) hd4 (by have := unhide HGL; omega)
            clear gcell gy hgb bf bg bw ho4 hd4 HF HO HD etl
            go_upto_region 18 with (first | (go_at_call 11; refine (num_any _ _).mono ?_; rintro x8 w8 ⟨rfl, rfl⟩))
            go_quiet (first | (go_at_call_of 17 (Value.slice fa jj fc); refine (c1 _).mono ?_; rintro e w'' ⟨rfl, d, rfl⟩; exact ⟨rfl, _, rfl⟩) | (go_at_call_of 17 (Value.slice (some ⟨gb, 0, none⟩) on gc); refine (c2 _).mono ?_; rintro e w'' ⟨rfl, d, rfl⟩; exact ⟨rfl, _, rfl⟩) | (go_at_call 17; refine (c3 _).mono ?_; rintro e w'' ⟨rfl, d, rfl⟩; exact ⟨rfl, _, rfl⟩))
            go_wp2_with fail
            all_goals
              go_ret
              exact ⟨rfl, bl_t (unhide HBW) (bl_drewN _ _)⟩
        · by_cases hjd1 : dn < jj
          · have hjd : (dn : Int) < (jj : Int) := by omega
            have hjd2 : ¬ ((jj : Int) < (dn : Int)) := by omega
            have hjd3 : (dn : Int) ≤ (jj : Int) := by omega
            have hjd4 : ¬ ((jj : Int) ≤ (dn : Int)) := by omega
            clear hk hjd0
            have er : res os ds k = ds.take dn := by unfold res; rw [if_neg hk1, if_neg hk2]; unfold tk; rw [show (min (k - 2) (ds.length : Int)).toNat = dn by have := unhide HDN; have := unhide HJJ; omega]
            have ea : resA os ds k = os ++ ds.take dn := by unfold resA; rw [if_neg hk1, if_neg hk2]; unfold tk; rw [show (min (k - 2) (ds.length : Int)).toNat = dn by have := unhide HDN; have := unhide HJJ; omega]
            have etl : (ds.take dn).length = dn := by rw [List.length_take]; have := unhide HDN; omega
            rw [er] at HF hfl
            rw [ea] at HF hgl
            rw [etl] at hfl
            rw [List.length_append, etl, ← unhide HON] at hgl
            obtain ⟨bf, bg, bw⟩ := unhide HF
            have ho4 := (unhide HO).later bw
            have hd4 := ((unhide HD).later bw).take dn
            have c1 := same_at etl etl f.c dc bf.rb hd4 (by omega)
            have gy := bg.rb
            have gform := bg.form
            have hgc : g.n ≤ g.c := by
              rcases gform with ⟨e, _⟩ | ⟨gb, cu, _, _, q, _⟩
              · rw [e]; exact Nat.le_refl _
              · exact q
            have HBW := hide bw
            obtain ⟨fa, fn, fc⟩ := f
            obtain ⟨ga, gn, gc⟩ := g
            simp only at hfl hgl c1 hgc
            subst hfl
            have hgi : (gn : Int) = (on : Int) + (dn : Int) := by omega
            have hgi2 : (on : Int) ≤ (gn : Int) := by omega
            have hwr : IntKind.i64.wrap ((on : Int) + (dn : Int)) = (on : Int) + (dn : Int) := by rw [IntKind.wrap_i64]; omega
            have HGL := hide hgl
            clear hgl
            have hnd : (dn : Int) ≤ (dc : Int) := by omega
            have hog : (on : Int) ≤ (gc : Int) := by omega
            have hog2 : (on : Int) ≤ (on : Int) + (dn : Int) := by omega
            skip
            rcases gform with ⟨e, ee⟩ | ⟨gb, cu, ega, hgb, _, _, _, _⟩
            · injection e with e1 e2 e3
              subst e1 e3
              have a1 : on = 0 := by have := unhide HGL; omega
              have a2 : dn = 0 := by have := unhide HGL; omega
              subst a1 a2
              have cz := fun (t : Nat) (pa pb : Option Addr) (ca cb : Nat) => same_at (W := w4) (n := 0) (n2 := 0) (bs := []) rfl rfl ca cb (pa := pa) (pb := pb) (.inl rfl) (.inl rfl) (by decide) t
              clear gy bf bg bw ho4 hd4 HF HO HD etl c1
              go_upto_region 18 with (first | (go_at_call 11; refine (num_any _ _).mono ?_; rintro x8 w8 ⟨rfl, rfl⟩))
              go_quiet (first | (go_at_call 17; refine (cz _ _ _ _ _).mono ?_; rintro e w'' ⟨rfl, d, rfl⟩; exact ⟨rfl, _, rfl⟩))
              go_wp2_with fail
              all_goals
                go_ret
                exact ⟨rfl, bl_t (unhide HBW) (bl_drewN _ _)⟩
            · simp only at ega
              subst ega
              have gcell : ∀ (j : Nat) u, (u8 (os ++ ds.take dn))[j]? = some u → w4.cell? ⟨gb, j, none⟩ = some u := fun j u hj => owns_at bg j u hj
              have c2 := same_at (unhide HON).symm (unhide HON).symm gc oc (show Rb w4 (some ⟨gb, 0, none⟩) os from .inr ⟨gb, 0, rfl, blk_lt hgb, fun j u hj => by
                rw [Nat.zero_add]
                refine gcell j u ?_
                have hjl := (List.getElem?_eq_some_iff.1 hj).1
                rw [u8_app, List.getElem?_append_left hjl]
                exact hj⟩) ho4 hol
              have c3 := same_at (n := gn - on) (by rw [etl]; have := unhide HGL; omega) etl (gc - on) dc (show Rb w4 (if gc = on then some ⟨gb, 0, none⟩ else some ⟨gb, on, none⟩) (ds.take dn) from by
                by_cases eg : gc = on
                · refine .inl (List.length_eq_zero_iff.1 ?_)
                  have := unhide HGL
                  omega
                · rw [if_neg eg]
                  exact Rb.drop gcell (blk_lt hgb) on (unhide HON).symm) hd4 (by have := unhide HGL; omega)
              clear gcell gy hgb bf bg bw ho4 hd4 HF HO HD etl
              go_upto_region 18 with (first | (go_at_call 11; refine (num_any _ _).mono ?_; rintro x8 w8 ⟨rfl, rfl⟩))
              go_quiet (first | (go_at_call_of 17 (Value.slice fa dn fc); refine (c1 _).mono ?_; rintro e w'' ⟨rfl, d, rfl⟩; exact ⟨rfl, _, rfl⟩) | (go_at_call_of 17 (Value.slice (some ⟨gb, 0, none⟩) on gc); refine (c2 _).mono ?_; rintro e w'' ⟨rfl, d, rfl⟩; exact ⟨rfl, _, rfl⟩) | (go_at_call 17; refine (c3 _).mono ?_; rintro e w'' ⟨rfl, d, rfl⟩; exact ⟨rfl, _, rfl⟩))
              go_wp2_with fail
              all_goals
                go_ret
                exact ⟨rfl, bl_t (unhide HBW) (bl_drewN _ _)⟩
          · obtain rfl : jj = dn := by omega
            clear hk hjd0
            have er : res os ds k = ds.take jj := by unfold res; rw [if_neg hk1, if_neg hk2]; unfold tk; rw [show (min (k - 2) (ds.length : Int)).toNat = jj by have := unhide HDN; have := unhide HJJ; omega]
            have ea : resA os ds k = os ++ ds.take jj := by unfold resA; rw [if_neg hk1, if_neg hk2]; unfold tk; rw [show (min (k - 2) (ds.length : Int)).toNat = jj by have := unhide HDN; have := unhide HJJ; omega]
            have etl : (ds.take jj).length = jj := by rw [List.length_take]; have := unhide HDN; omega
            rw [er] at HF hfl
            rw [ea] at HF hgl
            rw [etl] at hfl
            rw [List.length_append, etl, ← unhide HON] at hgl
            obtain ⟨bf, bg, bw⟩ := unhide HF
            have ho4 := (unhide HO).later bw
            have hd4 := ((unhide HD).later bw).take jj
            have c1 := same_at etl etl f.c dc bf.rb hd4 (by omega)
            have gy := bg.rb
            have gform := bg.form
            have hgc : g.n ≤ g.c := by
              rcases gform with ⟨e, _⟩ | ⟨gb, cu, _, _, q, _⟩
              · rw [e]; exact Nat.le_refl _
              · exact q
            have HBW := hide bw
            obtain ⟨fa, fn, fc⟩ := f
            obtain ⟨ga, gn, gc⟩ := g
            simp only at hfl hgl c1 hgc
            subst hfl
            have hgi : (gn : Int) = (on : Int) + (jj : Int) := by omega
            have hgi2 : (on : Int) ≤ (gn : Int) := by omega
            have hwr : IntKind.i64.wrap ((on : Int) + (jj : Int)) = (on : Int) + (jj : Int) := by rw [IntKind.wrap_i64]; omega
            have HGL := hide hgl
            clear hgl
            have hnd : (jj : Int) ≤ (dc : Int) := by omega
            have hog : (on : Int) ≤ (gc : Int) := by omega
            have hog2 : (on : Int) ≤ (on : Int) + (jj : Int) := by omega
            skip
            rcases gform with ⟨e, ee⟩ | ⟨gb, cu, ega, hgb, _, _, _, _⟩
            · injection e with e1 e2 e3
              subst e1 e3
              have a1 : on = 0 := by have := unhide HGL; omega
              have a2 : jj = 0 := by have := unhide HGL; omega
              subst a1 a2
              have cz := fun (t : Nat) (pa pb : Option Addr) (ca cb : Nat) => same_at (W := w4) (n := 0) (n2 := 0) (bs := []) rfl rfl ca cb (pa := pa) (pb := pb) (.inl rfl) (.inl rfl) (by decide) t
              clear gy bf bg bw ho4 hd4 HF HO HD etl c1
              go_upto_region 18 with (first | (go_at_call 11; refine (num_any _ _).mono ?_; rintro x8 w8 ⟨rfl, rfl⟩))
              go_quiet (first | (go_at_call 17; refine (cz _ _ _ _ _).mono ?_; rintro e w'' ⟨rfl, d, rfl⟩; exact ⟨rfl, _, rfl⟩))
              go_wp2_with fail
              all_goals
                go_ret
                exact ⟨rfl, bl_t (unhide HBW) (bl_drewN _ _)⟩
            · simp only at ega
              subst ega
              have gcell : ∀ (j : Nat) u, (u8 (os ++ ds.take jj))[j]? = some u → w4.cell? ⟨gb, j, none⟩ = some u := fun j u hj => owns_at bg j u hj
              have c2 := same_at (unhide HON).symm (unhide HON).symm gc oc (show Rb w4 (some ⟨gb, 0, none⟩) os from .inr ⟨gb, 0, rfl, blk_lt hgb, fun j u hj => by
                rw [Nat.zero_add]
                refine gcell j u ?_
                have hjl := (List.getElem?_eq_some_iff.1 hj).1
                rw [u8_app, List.getElem?_append_left hjl]
                exact hj⟩) ho4 hol
              have c3 := same_at (n := gn - on) (by rw [etl]; have := unhide HGL; omega) etl (gc - on) dc (show Rb w4 (if gc = on then some ⟨gb, 0, none⟩ else some ⟨gb, on, none⟩) (ds.take jj) from by
                by_cases eg : gc = on
                · refine .inl (List.length_eq_zero_iff.1 ?_)
                  have := unhide HGL
                  omega
                · rw [if_neg eg]
                  exact Rb.drop gcell (blk_lt hgb) on (unhide HON).symm) hd4 (by have := unhide HGL; omega)
              clear gcell gy hgb bf bg bw ho4 hd4 HF HO HD etl
              go_upto_region 18 with (first | (go_at_call 11; refine (num_any _ _).mono ?_; rintro x8 w8 ⟨rfl, rfl⟩))
              go_quiet (first | (go_at_call_of 17 (Value.slice fa jj fc); refine (c1 _).mono ?_; rintro e w'' ⟨rfl, d, rfl⟩; exact ⟨rfl, _, rfl⟩) | (go_at_call_of 17 (Value.slice (some ⟨gb, 0, none⟩) on gc); refine (c2 _).mono ?_; rintro e w'' ⟨rfl, d, rfl⟩; exact ⟨rfl, _, rfl⟩) | (go_at_call 17; refine (c3 _).mono ?_; rintro e w'' ⟨rfl, d, rfl⟩; exact ⟨rfl, _, rfl⟩))
              go_wp2_with fail
              all_goals
                go_ret
                exact ⟨rfl, bl_t (unhide HBW) (bl_drewN _ _)⟩
  · have hz1 : (1073741824 : Int) < (on : Int) + (dn : Int) := by omega
    have C := little_any W
    clear ho hd hon hdn
    go_enter Try.func3, Try.ntmps3
    go_wp2_with (first | (go_at_call 9; refine C.mono ?_; rintro x1 w1 ⟨rfl, hb⟩; have HB := hide hb; clear hb))
    go_ret
    exact ⟨rfl, unhide HB⟩
end Go.Proofs.Ytapkhfblhdicbaa
