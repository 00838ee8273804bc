import Derived.Test.YtjmomdnlibfbkaaDoorAbG
namespace Go.Proofs.YtjmomdnlibfbkaaDoor
open Go.RowKit

theorem Rb.take {w : World} {a : Option Addr} {n c : Nat} {l : Bs} (h : Rb w (.slice a n c) l) {k : Nat} (hk : k ≤ l.length) : Rb w (.slice a k c) (l.take k) := by
  obtain ⟨a2, c2, e, hc, hr⟩ := h
  cases e
  have hl : (l.take k).length = k := by rw [List.length_take]; omega
  refine ⟨a, c, by rw [hl], by rw [hl]; omega, fun h0 => ?_⟩
  rw [hl] at h0
  obtain ⟨b, o, e1, e2, e3⟩ := hr (by omega)
  exact ⟨b, o, e1, e2, fun i x hi => e3 i x (by
    have := (List.getElem?_eq_some_iff.1 hi).1
    rw [hl] at this
    rw [List.getElem?_take_of_lt this] at hi
    exact hi)⟩
set_option maxRecDepth 100000 in
set_option maxHeartbeats 4000000 in
theorem checkEnd_any {w : World} {v : Value} {l : Bs} (h : Rb w v l) (hl : l.length ≤ 2147483648) :
    Calls Tryd.prog 20 #[v] w fun e w' => e = .returned (.int .i64 (endE l)) ∧ w' = w := by
  obtain ⟨a, c, rfl, hc⟩ := h.form
  have HR := hide h
  by_cases h1 : l.length < 512
  · have he : endE l = 73 := by unfold endE; rw [if_pos h1]
    have h1' : (l.length : Int) < 512 := by omega
    rw [he]
    go_enter Tryd.func20, Tryd.ntmps20
    go_wp2_with fail
    go_ret
    exact ⟨rfl, rfl⟩
  · have h1' : ¬ (l.length : Int) < 512 := by omega
    have h512 : (512 : Int) ≤ (c : Int) := by omega
    have CZ := hide (allZero_any (h.take (k := 512) (by omega)) (by rw [List.length_take]; omega))
    have hle : l.take 512 = zs 512 ↔ allz (l.take 512) = true := by rw [allz_iff, List.length_take, Nat.min_eq_left (by omega)]
    clear h HR
    cases hz : allz (l.take 512) with
    | false =>
      have he : endE l = 74 := by unfold endE; rw [if_neg h1, if_pos (fun q => by rw [hle.1 q] at hz; cases hz)]
      rw [he]
      rw [hz] at CZ
      clear hle he
      go_enter Tryd.func20, Tryd.ntmps20
      go_wp2_with (first
        | (go_at_call 34; refine (unhide CZ).mono ?_; rintro e w2 ⟨rfl, rfl⟩))
      go_ret
      exact ⟨rfl, rfl⟩
    | true =>
      rw [hz] at CZ
      by_cases h2 : 512 < l.length
      · have he : endE l = 75 := by unfold endE; rw [if_neg h1, if_neg (fun q => q (hle.2 hz)), if_pos h2]
        have h2' : (512 : Int) < (l.length : Int) := by omega
        rw [he]
        clear hle he
        go_enter Tryd.func20, Tryd.ntmps20
        go_wp2_with (first
          | (go_at_call 34; refine (unhide CZ).mono ?_; rintro e w2 ⟨rfl, rfl⟩))
        go_ret
        exact ⟨rfl, rfl⟩
      · have he : endE l = 0 := by unfold endE; rw [if_neg h1, if_neg (fun q => q (hle.2 hz)), if_neg h2]
        have h2' : ¬ (512 : Int) < (l.length : Int) := by omega
        rw [he]
        clear hle he
        go_enter Tryd.func20, Tryd.ntmps20
        go_wp2_with (first
          | (go_at_call 34; refine (unhide CZ).mono ?_; rintro e w2 ⟨rfl, rfl⟩))
        go_ret
        exact ⟨rfl, rfl⟩
theorem filled_any (n : Nat) (w : World) (h : n ≤ 1073741824) : Calls Tryd.prog 18 #[.int .i64 n] w fun e w' => e = .returned (.int .i64 (fill n : Nat)) ∧ w' = w := by
  have w1 : IntKind.i64.wrap ((n : Int) + 512) = (n : Int) + 512 := IntWalk.i64_in _ (by omega)
  have w2 : IntKind.i64.wrap ((n : Int) + 512 - 1) = (n : Int) + 512 - 1 := IntWalk.i64_in _ (by omega)
  go_enter Tryd.func18, Tryd.ntmps18
  go_wp2_with fail
  go_ret
  refine ⟨?_, rfl⟩
  have e : ((n : Int) + 512 - 1) / 512 * 512 = ((fill n : Nat) : Int) := by unfold fill; omega
  rw [e]
  rfl
/-- THREE RESULTS, THE FIRST IN A VARIABLE OF ITS OWN. -/
theorem results_cell3 {fn : Func} {p u v : Tmp} {ty : TypeId} (h : fn.results = #[.cell p ty, .tmp u, .tmp v]) (tmps : Array Value) (P : Program) (w : World) :
    (results fn tmps).run P w =
      ((asAddr (tmps.getD p undef)).run P w).andThen fun a w₁ => ((loadVar ty a).run P w₁).andThen fun x w₂ => .ok (.tuple #[x, tmps.getD u undef, tmps.getD v undef]) w₂ := by
  simp only [results, h]
  simp [Sem.run_bind, Result.andThen]
theorem zeroBl : (Tryd.prog.info? 40).map (fun i => (i.zero, i.size)) = some (some (.agg [Value.string ⟨#[]⟩, Value.slice none 0 0].toArray), 2) ∧ [Value.string ⟨#[]⟩, Value.slice none 0 0].length = 2 ∧ [Value.string ⟨#[]⟩, Value.slice none 0 0].all (·.oneCell') = true := ⟨by kernel_rfl, rfl, rfl⟩
theorem infoBl : (Tryd.prog.info? 40).map (·.size) = some 2 := by kernel_rfl
theorem bn_cb (l : Bs) : (bn l).map (Value.int .u8) = l.map cb := by
  unfold bn
  rw [List.map_map]
  rfl
theorem Rb.cutA {w : World} {a : Option Addr} {n c : Nat} {l : Bs} (h : Rb w (.slice a n c) l) {i j : Nat} (hij : i ≤ j) (hj : j ≤ l.length) : Rb w (.slice (Option.map (fun x => x.add i) a) (j - i) (c - i)) ((l.drop i).take (j - i)) := by
  obtain ⟨a2, c2, e, hc, hr⟩ := h
  cases e
  have hl : ((l.drop i).take (j - i)).length = j - i := by rw [List.length_take, List.length_drop]; omega
  refine ⟨_, c - i, by rw [hl], by rw [hl]; omega, fun h0 => ?_⟩
  rw [hl] at h0
  obtain ⟨b, o, e1, e2, e3⟩ := hr (by omega)
  refine ⟨b, o + i, by rw [e1, Option.map_some, Addr.add_mid], e2, fun k x hk => ?_⟩
  have hkl := (List.getElem?_eq_some_iff.1 hk).1
  rw [hl] at hkl
  rw [List.getElem?_take_of_lt hkl, List.getElem?_drop] at hk
  rw [Nat.add_assoc]
  exact e3 _ _ hk
theorem Rb.nil' (w : World) (a : Option Addr) (c : Nat) : Rb w (.slice a 0 c) [] := ⟨a, c, rfl, Nat.zero_le _, fun h => absurd h (Nat.lt_irrefl 0)⟩
theorem own_one {w : World} {base e size n : Nat} {v : Value} {xs : List Value} (h : w.ownsRow base e size v n xs) : v.oneCell' = true := by
  obtain ⟨a, c, rfl⟩ := owns_form h
  rfl
theorem two_one {v : Value} {p : ByteArray} (h : v.oneCell' = true) : ∀ u ∈ [Value.string p, v], u.oneCell' = true := fun u hu => by
  rcases List.mem_cons.1 hu with rfl | hu
  · rfl
  · rw [List.mem_singleton.1 hu]
    exact h
theorem clone_any {w : World} {a : Option Addr} {n c : Nat} {l : Bs} (h : Rb w (.slice a n c) l) (hl : l.length ≤ 140737488355328) :
    Calls Tryd.prog 35 #[.slice a n c] w fun e w' => ∃ v', e = .returned v' ∧ w'.ownsRow w.heap.size 5 1 v' l.length (l.map cb) ∧ Below w.heap.size w w' := by
  obtain ⟨a2, c2, e, _⟩ := h.form
  cases e
  cases a with
  | none =>
    have h0 : l.length = 0 := by
      rcases Nat.eq_zero_or_pos l.length with h0 | h0
      · exact h0
      · obtain ⟨b, o, e, _⟩ := h.at h0
        cases e
    have e0 : l = [] := List.length_eq_zero_iff.1 h0
    subst e0
    refine (Any.bytes_Clone_nil Tryd.laysK4 _ c w).mono ?_
    rintro e w' ⟨rfl, rfl⟩
    exact ⟨_, rfl, World.ownsRow_nil _ _ _ _, Below.refl _ _⟩
  | some ad =>
    refine (Any.bytes_Clone_at Tryd.laysK4 ad l.length c (bn l) w (bn_len l) hl fun i hi => ?_).mono ?_
    · obtain ⟨b, o, e, _, hc⟩ := h.at (by omega)
      cases e
      rw [Addr.add_mid, hc i hi]
      unfold cb bn
      rw [List.getD_eq_getElem?_getD, List.getElem?_map, List.getElem?_eq_getElem hi]
      rfl
    · rintro e w' ⟨v', rfl, h1, _, h2⟩
      rw [bn_cb] at h1
      exact ⟨v', rfl, h1, h2⟩
set_option maxRecDepth 100000 in
set_option maxHeartbeats 8000000 in
theorem takeFile_ok3 {w : World} {g : Nat} {h d : Bs} {a : Option Addr} {c : Nat} {p : ByteArray} {s : Nat} (hB : By w g h) (hl : h.length = 512) (hR : Rb w (.slice a d.length c) d) (hd : d.length ≤ 1073741824) (hg : Glob w) (ht : toldL h = some (p, s)) (h1 : s ≤ 1048576) (h2 : fill s ≤ d.length) (h3 : (d.drop s).take (fill s - s) = zs (fill s - s)) (hcF : ¬ c = fill s) :
    Calls Tryd.prog 19 #[.pointer (some ⟨g, 0, none⟩), .slice a d.length c] w fun e w' => ∃ dv rv, e = .returned (.tuple #[.agg #[.string p, dv], rv, .int .i64 0]) ∧ w'.ownsRow w.heap.size 5 1 dv s ((d.take s).map cb) ∧ (∀ X, Rb X (.slice a d.length c) d → Rb X rv (d.drop (fill s))) ∧ Below w.heap.size w w' := by
  obtain ⟨a0, c0, e0, hc⟩ := hR.form
  cases e0
  have hge := fill_ge s
  have hV : toldV h = .tuple #[.string p, .int .i64 (s : Int), .bool true] := by unfold toldV; rw [ht]
  have CT := hide (show ∀ X, Below w.heap.size w X → Calls Tryd.prog 33 #[.pointer (some ⟨g, 0, none⟩)] X fun e w' => e = .returned (.tuple #[.string p, .int .i64 (s : Int), .bool true]) ∧ Below X.heap.size X w' from fun X hX => by rw [← hV]; exact told_any (hB.later hX) hl (hg.later hX))
  have hc1 : ¬ ((1048576 : Int) < (s : Int)) := by omega
  have hc2 : ¬ ((d.length : Int) < ((fill s : Nat) : Int)) := by omega
  have hc3 : (s : Int) ≤ ((fill s : Nat) : Int) := by omega
  have hc4 : ((fill s : Nat) : Int) ≤ (c : Int) := by omega
  have HR := hide hR
  clear hB hl hg ht hV hR
  generalize hF : fill s = F at *
  have HF := hide hF
  clear hF
  have CC := hide (show ∀ X, Below w.heap.size w X → Calls Tryd.prog 35 #[.slice a s c] X fun e w' => ∃ v', e = .returned v' ∧ w'.ownsRow X.heap.size 5 1 v' s ((d.take s).map cb) ∧ Below X.heap.size X w' from fun X hX => by
    have q := clone_any (((unhide HR).later hX).take (k := s) (by omega)) (by rw [List.length_take]; omega)
    rw [show (d.take s).length = s by rw [List.length_take]; omega] at q
    exact q)
  have AZ : allz ((d.drop s).take (F - s)) = true := by rw [allz_iff, h3, zs_len]
  have hcs : ¬ c = s := by omega
  have hsc : s ≤ c := by omega
  have hFc : F ≤ c := by omega
  have hFl : F ≤ d.length := h2
  have CZ := hide (show ∀ X, Below w.heap.size w X → Calls Tryd.prog 34 #[.slice (Option.map (fun x => x.add s) a) (F - s) (c - s)] X fun e w' => e = .returned (.bool true) ∧ w' = X from fun X hX => by
    have q := allZero_any (((unhide HR).later hX).cutA (i := s) (j := F) hge h2) (by rw [List.length_take, List.length_drop]; omega)
    rw [AZ] at q
    exact q)
  clear AZ
  go_enter Tryd.func19, Tryd.ntmps19
  go_wp2_with (first
    | ((with_reducible refine b_alloc (t := 40) (k := 2) zeroBl rfl rfl ?_); intro w1 q1 k1 z1; have P1 := hide q1; have K1 := hide k1; clear q1 k1 z1)
    | (go_at_call 33; refine (unhide CT w1 (unhide K1)).mono ?_; rintro e w2 ⟨rfl, b2⟩; have G2 := hide (Nat.lt_of_lt_of_le (unhide P1).lt b2.size); have P2 := hide ((unhide P1).later b2); have K2 := hide (bl_t (unhide K1) b2); clear b2 CT P1 K1)
    | (go_at_call 18; refine (filled_any s _ (by omega)).mono ?_; rintro e wn ⟨rfl, hw⟩; rw [hw, unhide HF]; clear hw wn)
    | (go_at_call 34; refine (unhide CZ w2 (unhide K2)).mono ?_; rintro e wn ⟨rfl, hw⟩; rw [hw]; clear hw wn CZ))
  have KD := hide (unhide K2).drew
  refine wp_region_held_drew (S := fun _ => True) (by kernel_rfl) ?_ (fun hHeld => ?_)
  · exact trivial
  refine wpAnyH_take (i := 0) (oi := { dst := some 40, op := Op.move (Operand.tmp 7), type := 9, pos := "tar.go:97", after := #[], guard := none }) (v := ?_) rfl (by kernel_rfl) (by kernel_rfl) (by kernel_rfl) (fun _ _ _ h => h) (Or.inl ⟨by rfl, ?_⟩) (by assumption) ?_
  rotate_left
  · intro w hSw; (try dsimp only at hSw); go_simp; (try with_reducible rfl)
  try simp only [Act.put, List.setIfInBounds_toArray, List.set_cons_zero, List.set_cons_succ]
  refine wpAnyH_take (i := 1) (oi := { dst := some 41, op := Op.move (Operand.tmp 1), type := 23, pos := "tar.go:97", after := #[], guard := none }) (v := ?_) rfl (by kernel_rfl) (by kernel_rfl) (by kernel_rfl) (fun _ _ _ h => h) (Or.inl ⟨by rfl, ?_⟩) (by assumption) ?_
  rotate_left
  · intro w hSw; (try dsimp only at hSw); go_simp; (try with_reducible rfl)
  try simp only [Act.put, List.setIfInBounds_toArray, List.set_cons_zero, List.set_cons_succ]
  refine wpAnyH_take (i := 2) (oi := { dst := some 42, op := Op.move (Operand.tmp 8), type := 3, pos := "tar.go:97", after := #[], guard := none }) (v := ?_) rfl (by kernel_rfl) (by kernel_rfl) (by kernel_rfl) (fun _ _ _ h => h) (Or.inl ⟨by rfl, ?_⟩) (by assumption) ?_
  rotate_left
  · intro w hSw; (try dsimp only at hSw); go_simp; (try with_reducible rfl)
  try simp only [Act.put, List.setIfInBounds_toArray, List.set_cons_zero, List.set_cons_succ]
  refine wpAnyH_take (i := 3) (oi := { dst := some 43, op := Op.slice 23 (Operand.tmp 41) none (some (Operand.tmp 42)) none, type := 23, pos := "tar.go:97", after := #[{ on := 1, ground := Ground.data }, { on := 2, ground := Ground.data }], guard := none }) (v := ?_) rfl (by kernel_rfl) (by kernel_rfl) (by kernel_rfl) (fun _ _ _ h => h) (Or.inl ⟨by rfl, ?_⟩) (by assumption) ?_
  rotate_left
  · intro w hSw; (try dsimp only at hSw); go_simp; (try with_reducible rfl)
  try simp only [Act.put, List.setIfInBounds_toArray, List.set_cons_zero, List.set_cons_succ]
  refine wpAnyH_take (i := 6) (oi := { dst := some 46, op := Op.move (Operand.tmp 1), type := 23, pos := "tar.go:97", after := #[], guard := none }) (v := ?_) rfl (by kernel_rfl) (by kernel_rfl) (by kernel_rfl) (fun _ _ _ h => h) (Or.inl ⟨by rfl, ?_⟩) (by assumption) ?_
  rotate_left
  · intro w hSw; (try dsimp only at hSw); go_simp; (try with_reducible rfl)
  try simp only [Act.put, List.setIfInBounds_toArray, List.set_cons_zero, List.set_cons_succ]
  refine wpAnyH_take (i := 7) (oi := { dst := some 47, op := Op.move (Operand.tmp 8), type := 3, pos := "tar.go:97", after := #[], guard := none }) (v := ?_) rfl (by kernel_rfl) (by kernel_rfl) (by kernel_rfl) (fun _ _ _ h => h) (Or.inl ⟨by rfl, ?_⟩) (by assumption) ?_
  rotate_left
  · intro w hSw; (try dsimp only at hSw); go_simp; (try with_reducible rfl)
  try simp only [Act.put, List.setIfInBounds_toArray, List.set_cons_zero, List.set_cons_succ]
  refine wpAnyH_ready (rs := [4]) (by kernel_rfl) (by simp) ?_
  refine AllReadyH.cons (o := { dst := some 44, op := Op.call { callee := Callee.value (Operand.func 35), args := #[Operand.tmp 43], argTypes := #[23] }, type := 23, pos := "tar.go:97", after := #[{ on := 3, ground := Ground.data }], guard := none }) rfl (fun K hK => ?_) AllReadyH.nil
  go_simp
  refine (unhide CC _ (unhide KD)).mono ?_
  rintro e w3 ⟨dv, rfl, o3, b3⟩
  obtain ⟨da, dc, rfl⟩ := owns_form o3
  have O3 := hide o3
  have P3 := hide ((show Bk 40 2 w2.drew w.heap.size [Value.string ⟨#[]⟩, Value.slice none 0 0] from (unhide P2).of rfl).later b3)
  have K3 := hide (bl_t (unhide KD) b3)
  have VV := hide (show #[Value.string p, Value.slice da s dc].all (·.oneCell') = true from by simp [Value.oneCell'])
  clear o3 b3 CC
  go_wp2_with fail
  refine hK.out _ _ trivial (fun hHeld => ?_)
  clear hK K
  try simp only [Act.put, List.setIfInBounds_toArray, List.set_cons_zero, List.set_cons_succ]
  refine wpAnyH_take (i := 5) (oi := { dst := some 45, op := Op.build 40 #[(0, Operand.tmp 40), (1, Operand.tmp 44)], type := 40, pos := "tar.go:97", after := #[{ on := 0, ground := Ground.data }, { on := 4, ground := Ground.data }], guard := none }) (v := ?_) rfl (by kernel_rfl) (by kernel_rfl) (by kernel_rfl) (fun _ _ _ h => h) (Or.inl ⟨by rfl, ?_⟩) (by assumption) ?_
  rotate_left
  · intro w hSw; (try dsimp only at hSw); go_simp; (try with_reducible rfl)
  try simp only [Act.put, List.setIfInBounds_toArray, List.set_cons_zero, List.set_cons_succ]
  refine wpAnyH_ready (rs := [8]) (by kernel_rfl) (by simp) ?_
  refine AllReadyH.cons (o := { dst := some 48, op := Op.call { callee := Callee.value (Operand.func 18), args := #[Operand.tmp 47], argTypes := #[3] }, type := 3, pos := "tar.go:97", after := #[{ on := 7, ground := Ground.data }, { on := 4, ground := Ground.chain }], guard := none }) rfl (fun K hK => ?_) AllReadyH.nil
  go_simp
  refine (filled_any s _ (by omega)).mono ?_
  rintro e wn ⟨rfl, hw⟩
  rw [hw, unhide HF]
  clear hw wn
  go_wp2_with fail
  refine hK.out _ _ trivial (fun hHeld => ?_)
  clear hK K
  try simp only [Act.put, List.setIfInBounds_toArray, List.set_cons_zero, List.set_cons_succ]
  refine wpAnyH_take (i := 9) (oi := { dst := some 49, op := Op.slice 23 (Operand.tmp 46) (some (Operand.tmp 48)) none none, type := 23, pos := "tar.go:97", after := #[{ on := 6, ground := Ground.data }, { on := 8, ground := Ground.data }], guard := none }) (v := ?_) rfl (by kernel_rfl) (by kernel_rfl) (by kernel_rfl) (fun _ _ _ h => h) (Or.inl ⟨by rfl, ?_⟩) (by assumption) ?_
  rotate_left
  · intro w hSw; (try dsimp only at hSw); go_simp; (try with_reducible rfl)
  try simp only [Act.put, List.setIfInBounds_toArray, List.set_cons_zero, List.set_cons_succ]
  refine wpAnyH_ready (rs := [10]) (by kernel_rfl) (by simp) ?_
  refine AllReadyH.cons (o := { dst := none, op := Op.store 40 (Operand.tmp 4) (Operand.tmp 45), type := 0, pos := "tar.go:97", after := #[{ on := 5, ground := Ground.data }, { on := 8, ground := Ground.chain }, { on := 0, ground := Ground.phase }, { on := 1, ground := Ground.phase }, { on := 2, ground := Ground.phase }, { on := 3, ground := Ground.phase }, { on := 4, ground := Ground.phase }, { on := 5, ground := Ground.phase }, { on := 6, ground := Ground.textOnly Departure.lateStores }, { on := 7, ground := Ground.textOnly Departure.lateStores }, { on := 8, ground := Ground.textOnly Departure.lateStoresUnsure }, { on := 9, ground := Ground.textOnly Departure.lateStoresUnsure }], guard := none }) rfl (fun K hK => ?_) AllReadyH.nil
  refine wp_store_row 40 _ _ rfl w.heap.size #[.string p, .slice da s dc] rfl rfl 40 _ (unhide P3).at_ infoBl rfl (unhide VV) ?_
  refine hK.out _ _ trivial (fun hHeld => ?_)
  clear hK K
  try simp only [Act.put]
  refine wpAnyH_take (i := 11) (oi := { dst := some 5, op := Op.assign (Operand.tmp 49), type := 23, pos := "tar.go:97", after := #[{ on := 9, ground := Ground.data }, { on := 10, ground := Ground.chain }, { on := 0, ground := Ground.phase }, { on := 1, ground := Ground.phase }, { on := 2, ground := Ground.phase }, { on := 3, ground := Ground.phase }, { on := 4, ground := Ground.phase }, { on := 5, ground := Ground.phase }, { on := 6, ground := Ground.phase }, { on := 7, ground := Ground.phase }, { on := 8, ground := Ground.phase }, { on := 9, ground := Ground.phase }, { on := 10, ground := Ground.phase }], guard := none }) (v := ?_) rfl (by kernel_rfl) (by kernel_rfl) (by kernel_rfl) (fun _ _ _ h => h) (Or.inl ⟨by rfl, ?_⟩) (by assumption) ?_
  rotate_left
  · intro w hSw; (try dsimp only at hSw); go_simp; (try with_reducible rfl)
  try simp only [Act.put, List.setIfInBounds_toArray, List.set_cons_zero, List.set_cons_succ]
  refine wpAnyH_take (i := 12) (oi := { dst := some 6, op := Op.assign (Operand.const (Value.int IntKind.i64 0)), type := 25, pos := "tar.go:97", after := #[{ on := 11, ground := Ground.chain }, { on := 0, ground := Ground.phase }, { on := 1, ground := Ground.phase }, { on := 2, ground := Ground.phase }, { on := 3, ground := Ground.phase }, { on := 4, ground := Ground.phase }, { on := 5, ground := Ground.phase }, { on := 6, ground := Ground.phase }, { on := 7, ground := Ground.phase }, { on := 8, ground := Ground.phase }, { on := 9, ground := Ground.phase }, { on := 10, ground := Ground.phase }, { on := 11, ground := Ground.phase }], guard := none }) (v := ?_) rfl (by kernel_rfl) (by kernel_rfl) (by kernel_rfl) (fun _ _ _ h => h) (Or.inl ⟨by rfl, ?_⟩) (by assumption) ?_
  rotate_left
  · intro w hSw; (try dsimp only at hSw); go_simp; (try with_reducible rfl)
  try simp only [Act.put, List.setIfInBounds_toArray, List.set_cons_zero, List.set_cons_succ]
  refine wpAnyH_done (by kernel_rfl) ?_ _
  have P5 : Bk 40 2 (w3.setRow w.heap.size #[.string p, .slice da s dc]) w.heap.size [.string p, .slice da s dc] := ⟨rfl, by simp [Value.oneCell'], setRow_heap w3 w.heap.size _ _ 40 (0, 0) (unhide P3).at_⟩
  have K5 : Below w.heap.size w3 (w3.setRow w.heap.size #[.string p, .slice da s dc]) := ⟨rfl, rfl, rfl, by simp, fun k hk => setRow_other w3 w.heap.size k _ (by omega)⟩
  have O5 : (w3.setRow w.heap.size #[.string p, .slice da s dc]).ownsRow w2.heap.size 5 1 (.slice da s dc) s ((d.take s).map cb) := own_same (unhide O3) fun b e => setRow_other w3 w.heap.size b _ (by have h1 := (World.ownsRow.lt (unhide O3) b e).1; have h2 := unhide G2; have h3 : w2.drew.heap.size = w2.heap.size := rfl; omega)
  have K6 := hide ((unhide K3).trans K5)
  have P6 := hide P5
  have O6 := hide (own_base O5 (Nat.le_of_lt (unhide G2)))
  clear P5 K5 O5 P3 O3 VV KD
  generalize w3.setRow w.heap.size #[.string p, .slice da s dc] = w5 at *
  go_wp2_with fail
  have hld := run_loadVar_mid w5 w.heap.size 0 40 [.string p, .slice da s dc] _ (unhide P6).range Tryd.underlying40 rfl infoBl
  (try simp only [Exit.inBlock, Exit.then])
  refine bodyPost_ret (v := .tuple #[.agg #[.string p, .slice da s dc], .slice (Option.map (fun x => x.add F) a) (d.length - F) (c - F), .int .i64 0]) ?_ rfl ⟨_, _, rfl, unhide O6, fun X hX => by have q := hX.cutA (i := F) (j := d.length) hFl (Nat.le_refl _); rw [List.take_of_length_le (by rw [List.length_drop]; exact Nat.le_refl _)] at q; exact q, unhide K6⟩
  · rw [results_cell3 rfl]
    simp [asAddr, Result.andThen, hld]
set_option maxRecDepth 100000 in
set_option maxHeartbeats 8000000 in
theorem takeFile_ok2 {w : World} {g : Nat} {h d : Bs} {a : Option Addr} {c : Nat} {p : ByteArray} {s : Nat} (hB : By w g h) (hl : h.length = 512) (hR : Rb w (.slice a d.length c) d) (hd : d.length ≤ 1073741824) (hg : Glob w) (ht : toldL h = some (p, s)) (h1 : s ≤ 1048576) (h2 : fill s ≤ d.length) (h3 : (d.drop s).take (fill s - s) = zs (fill s - s)) (hcF : c = fill s) (hcs : ¬ c = s) :
    Calls Tryd.prog 19 #[.pointer (some ⟨g, 0, none⟩), .slice a d.length c] w fun e w' => ∃ dv rv, e = .returned (.tuple #[.agg #[.string p, dv], rv, .int .i64 0]) ∧ w'.ownsRow w.heap.size 5 1 dv s ((d.take s).map cb) ∧ (∀ X, Rb X (.slice a d.length c) d → Rb X rv (d.drop (fill s))) ∧ Below w.heap.size w w' := by
  obtain ⟨a0, c0, e0, hc⟩ := hR.form
  cases e0
  have hge := fill_ge s
  have hV : toldV h = .tuple #[.string p, .int .i64 (s : Int), .bool true] := by unfold toldV; rw [ht]
  have CT := hide (show ∀ X, Below w.heap.size w X → Calls Tryd.prog 33 #[.pointer (some ⟨g, 0, none⟩)] X fun e w' => e = .returned (.tuple #[.string p, .int .i64 (s : Int), .bool true]) ∧ Below X.heap.size X w' from fun X hX => by rw [← hV]; exact told_any (hB.later hX) hl (hg.later hX))
  have hc1 : ¬ ((1048576 : Int) < (s : Int)) := by omega
  have hc2 : ¬ ((d.length : Int) < ((fill s : Nat) : Int)) := by omega
  have hc3 : (s : Int) ≤ ((fill s : Nat) : Int) := by omega
  have hc4 : ((fill s : Nat) : Int) ≤ (c : Int) := by omega
  have HR := hide hR
  clear hB hl hg ht hV hR
  generalize hF : fill s = F at *
  have HF := hide hF
  clear hF
  have CC := hide (show ∀ X, Below w.heap.size w X → Calls Tryd.prog 35 #[.slice a s c] X fun e w' => ∃ v', e = .returned v' ∧ w'.ownsRow X.heap.size 5 1 v' s ((d.take s).map cb) ∧ Below X.heap.size X w' from fun X hX => by
    have q := clone_any (((unhide HR).later hX).take (k := s) (by omega)) (by rw [List.length_take]; omega)
    rw [show (d.take s).length = s by rw [List.length_take]; omega] at q
    exact q)
  have AZ : allz ((d.drop s).take (F - s)) = true := by rw [allz_iff, h3, zs_len]
  have hdl : d.length = F := by omega
  have hsc : s ≤ c := by omega
  have hFc : F ≤ c := by omega
  have hFl : F ≤ d.length := h2
  have CZ := hide (show ∀ X, Below w.heap.size w X → Calls Tryd.prog 34 #[.slice (Option.map (fun x => x.add s) a) (F - s) (c - s)] X fun e w' => e = .returned (.bool true) ∧ w' = X from fun X hX => by
    have q := allZero_any (((unhide HR).later hX).cutA (i := s) (j := F) hge h2) (by rw [List.length_take, List.length_drop]; omega)
    rw [AZ] at q
    exact q)
  clear AZ
  rw [hdl] at hc2 ⊢
  have HDL := hide hdl
  clear hdl hc
  obtain rfl : F = c := hcF.symm
  go_enter Tryd.func19, Tryd.ntmps19
  go_wp2_with (first
    | ((with_reducible refine b_alloc (t := 40) (k := 2) zeroBl rfl rfl ?_); intro w1 q1 k1 z1; have P1 := hide q1; have K1 := hide k1; clear q1 k1 z1)
    | (go_at_call 33; refine (unhide CT w1 (unhide K1)).mono ?_; rintro e w2 ⟨rfl, b2⟩; have G2 := hide (Nat.lt_of_lt_of_le (unhide P1).lt b2.size); have P2 := hide ((unhide P1).later b2); have K2 := hide (bl_t (unhide K1) b2); clear b2 CT P1 K1)
    | (go_at_call 18; refine (filled_any s _ (by omega)).mono ?_; rintro e wn ⟨rfl, hw⟩; rw [hw, unhide HF]; clear hw wn)
    | (go_at_call 34; refine (unhide CZ w2 (unhide K2)).mono ?_; rintro e wn ⟨rfl, hw⟩; rw [hw]; clear hw wn CZ))
  have KD := hide (unhide K2).drew
  refine wp_region_held_drew (S := fun _ => True) (by kernel_rfl) ?_ (fun hHeld => ?_)
  · exact trivial
  refine wpAnyH_take (i := 0) (oi := { dst := some 40, op := Op.move (Operand.tmp 7), type := 9, pos := "tar.go:97", after := #[], guard := none }) (v := ?_) rfl (by kernel_rfl) (by kernel_rfl) (by kernel_rfl) (fun _ _ _ h => h) (Or.inl ⟨by rfl, ?_⟩) (by assumption) ?_
  rotate_left
  · intro w hSw; (try dsimp only at hSw); go_simp; (try with_reducible rfl)
  try simp only [Act.put, List.setIfInBounds_toArray, List.set_cons_zero, List.set_cons_succ]
  refine wpAnyH_take (i := 1) (oi := { dst := some 41, op := Op.move (Operand.tmp 1), type := 23, pos := "tar.go:97", after := #[], guard := none }) (v := ?_) rfl (by kernel_rfl) (by kernel_rfl) (by kernel_rfl) (fun _ _ _ h => h) (Or.inl ⟨by rfl, ?_⟩) (by assumption) ?_
  rotate_left
  · intro w hSw; (try dsimp only at hSw); go_simp; (try with_reducible rfl)
  try simp only [Act.put, List.setIfInBounds_toArray, List.set_cons_zero, List.set_cons_succ]
  refine wpAnyH_take (i := 2) (oi := { dst := some 42, op := Op.move (Operand.tmp 8), type := 3, pos := "tar.go:97", after := #[], guard := none }) (v := ?_) rfl (by kernel_rfl) (by kernel_rfl) (by kernel_rfl) (fun _ _ _ h => h) (Or.inl ⟨by rfl, ?_⟩) (by assumption) ?_
  rotate_left
  · intro w hSw; (try dsimp only at hSw); go_simp; (try with_reducible rfl)
  try simp only [Act.put, List.setIfInBounds_toArray, List.set_cons_zero, List.set_cons_succ]
  refine wpAnyH_take (i := 3) (oi := { dst := some 43, op := Op.slice 23 (Operand.tmp 41) none (some (Operand.tmp 42)) none, type := 23, pos := "tar.go:97", after := #[{ on := 1, ground := Ground.data }, { on := 2, ground := Ground.data }], guard := none }) (v := ?_) rfl (by kernel_rfl) (by kernel_rfl) (by kernel_rfl) (fun _ _ _ h => h) (Or.inl ⟨by rfl, ?_⟩) (by assumption) ?_
  rotate_left
  · intro w hSw; (try dsimp only at hSw); go_simp; (try with_reducible rfl)
  try simp only [Act.put, List.setIfInBounds_toArray, List.set_cons_zero, List.set_cons_succ]
  refine wpAnyH_take (i := 6) (oi := { dst := some 46, op := Op.move (Operand.tmp 1), type := 23, pos := "tar.go:97", after := #[], guard := none }) (v := ?_) rfl (by kernel_rfl) (by kernel_rfl) (by kernel_rfl) (fun _ _ _ h => h) (Or.inl ⟨by rfl, ?_⟩) (by assumption) ?_
  rotate_left
  · intro w hSw; (try dsimp only at hSw); go_simp; (try with_reducible rfl)
  try simp only [Act.put, List.setIfInBounds_toArray, List.set_cons_zero, List.set_cons_succ]
  refine wpAnyH_take (i := 7) (oi := { dst := some 47, op := Op.move (Operand.tmp 8), type := 3, pos := "tar.go:97", after := #[], guard := none }) (v := ?_) rfl (by kernel_rfl) (by kernel_rfl) (by kernel_rfl) (fun _ _ _ h => h) (Or.inl ⟨by rfl, ?_⟩) (by assumption) ?_
  rotate_left
  · intro w hSw; (try dsimp only at hSw); go_simp; (try with_reducible rfl)
  try simp only [Act.put, List.setIfInBounds_toArray, List.set_cons_zero, List.set_cons_succ]
  refine wpAnyH_ready (rs := [4]) (by kernel_rfl) (by simp) ?_
  refine AllReadyH.cons (o := { dst := some 44, op := Op.call { callee := Callee.value (Operand.func 35), args := #[Operand.tmp 43], argTypes := #[23] }, type := 23, pos := "tar.go:97", after := #[{ on := 3, ground := Ground.data }], guard := none }) rfl (fun K hK => ?_) AllReadyH.nil
  go_simp
  refine (unhide CC _ (unhide KD)).mono ?_
  rintro e w3 ⟨dv, rfl, o3, b3⟩
  obtain ⟨da, dc, rfl⟩ := owns_form o3
  have O3 := hide o3
  have P3 := hide ((show Bk 40 2 w2.drew w.heap.size [Value.string ⟨#[]⟩, Value.slice none 0 0] from (unhide P2).of rfl).later b3)
  have K3 := hide (bl_t (unhide KD) b3)
  have VV := hide (show #[Value.string p, Value.slice da s dc].all (·.oneCell') = true from by simp [Value.oneCell'])
  clear o3 b3 CC
  go_wp2_with fail
  refine hK.out _ _ trivial (fun hHeld => ?_)
  clear hK K
  try simp only [Act.put, List.setIfInBounds_toArray, List.set_cons_zero, List.set_cons_succ]
  refine wpAnyH_take (i := 5) (oi := { dst := some 45, op := Op.build 40 #[(0, Operand.tmp 40), (1, Operand.tmp 44)], type := 40, pos := "tar.go:97", after := #[{ on := 0, ground := Ground.data }, { on := 4, ground := Ground.data }], guard := none }) (v := ?_) rfl (by kernel_rfl) (by kernel_rfl) (by kernel_rfl) (fun _ _ _ h => h) (Or.inl ⟨by rfl, ?_⟩) (by assumption) ?_
  rotate_left
  · intro w hSw; (try dsimp only at hSw); go_simp; (try with_reducible rfl)
  try simp only [Act.put, List.setIfInBounds_toArray, List.set_cons_zero, List.set_cons_succ]
  refine wpAnyH_ready (rs := [8]) (by kernel_rfl) (by simp) ?_
  refine AllReadyH.cons (o := { dst := some 48, op := Op.call { callee := Callee.value (Operand.func 18), args := #[Operand.tmp 47], argTypes := #[3] }, type := 3, pos := "tar.go:97", after := #[{ on := 7, ground := Ground.data }, { on := 4, ground := Ground.chain }], guard := none }) rfl (fun K hK => ?_) AllReadyH.nil
  go_simp
  refine (filled_any s _ (by omega)).mono ?_
  rintro e wn ⟨rfl, hw⟩
  rw [hw, unhide HF]
  clear hw wn
  go_wp2_with fail
  refine hK.out _ _ trivial (fun hHeld => ?_)
  clear hK K
  try simp only [Act.put, List.setIfInBounds_toArray, List.set_cons_zero, List.set_cons_succ]
  refine wpAnyH_take (i := 9) (oi := { dst := some 49, op := Op.slice 23 (Operand.tmp 46) (some (Operand.tmp 48)) none none, type := 23, pos := "tar.go:97", after := #[{ on := 6, ground := Ground.data }, { on := 8, ground := Ground.data }], guard := none }) (v := ?_) rfl (by kernel_rfl) (by kernel_rfl) (by kernel_rfl) (fun _ _ _ h => h) (Or.inl ⟨by rfl, ?_⟩) (by assumption) ?_
  rotate_left
  · intro w hSw; (try dsimp only at hSw); go_simp; (try with_reducible rfl)
  try simp only [Act.put, List.setIfInBounds_toArray, List.set_cons_zero, List.set_cons_succ]
  refine wpAnyH_ready (rs := [10]) (by kernel_rfl) (by simp) ?_
  refine AllReadyH.cons (o := { dst := none, op := Op.store 40 (Operand.tmp 4) (Operand.tmp 45), type := 0, pos := "tar.go:97", after := #[{ on := 5, ground := Ground.data }, { on := 8, ground := Ground.chain }, { on := 0, ground := Ground.phase }, { on := 1, ground := Ground.phase }, { on := 2, ground := Ground.phase }, { on := 3, ground := Ground.phase }, { on := 4, ground := Ground.phase }, { on := 5, ground := Ground.phase }, { on := 6, ground := Ground.textOnly Departure.lateStores }, { on := 7, ground := Ground.textOnly Departure.lateStores }, { on := 8, ground := Ground.textOnly Departure.lateStoresUnsure }, { on := 9, ground := Ground.textOnly Departure.lateStoresUnsure }], guard := none }) rfl (fun K hK => ?_) AllReadyH.nil
  refine wp_store_row 40 _ _ rfl w.heap.size #[.string p, .slice da s dc] rfl rfl 40 _ (unhide P3).at_ infoBl rfl (unhide VV) ?_
  refine hK.out _ _ trivial (fun hHeld => ?_)
  clear hK K
  try simp only [Act.put]
  refine wpAnyH_take (i := 11) (oi := { dst := some 5, op := Op.assign (Operand.tmp 49), type := 23, pos := "tar.go:97", after := #[{ on := 9, ground := Ground.data }, { on := 10, ground := Ground.chain }, { on := 0, ground := Ground.phase }, { on := 1, ground := Ground.phase }, { on := 2, ground := Ground.phase }, { on := 3, ground := Ground.phase }, { on := 4, ground := Ground.phase }, { on := 5, ground := Ground.phase }, { on := 6, ground := Ground.phase }, { on := 7, ground := Ground.phase }, { on := 8, ground := Ground.phase }, { on := 9, ground := Ground.phase }, { on := 10, ground := Ground.phase }], guard := none }) (v := ?_) rfl (by kernel_rfl) (by kernel_rfl) (by kernel_rfl) (fun _ _ _ h => h) (Or.inl ⟨by rfl, ?_⟩) (by assumption) ?_
  rotate_left
  · intro w hSw; (try dsimp only at hSw); go_simp; (try with_reducible rfl)
  try simp only [Act.put, List.setIfInBounds_toArray, List.set_cons_zero, List.set_cons_succ]
  refine wpAnyH_take (i := 12) (oi := { dst := some 6, op := Op.assign (Operand.const (Value.int IntKind.i64 0)), type := 25, pos := "tar.go:97", after := #[{ on := 11, ground := Ground.chain }, { on := 0, ground := Ground.phase }, { on := 1, ground := Ground.phase }, { on := 2, ground := Ground.phase }, { on := 3, ground := Ground.phase }, { on := 4, ground := Ground.phase }, { on := 5, ground := Ground.phase }, { on := 6, ground := Ground.phase }, { on := 7, ground := Ground.phase }, { on := 8, ground := Ground.phase }, { on := 9, ground := Ground.phase }, { on := 10, ground := Ground.phase }, { on := 11, ground := Ground.phase }], guard := none }) (v := ?_) rfl (by kernel_rfl) (by kernel_rfl) (by kernel_rfl) (fun _ _ _ h => h) (Or.inl ⟨by rfl, ?_⟩) (by assumption) ?_
  rotate_left
  · intro w hSw; (try dsimp only at hSw); go_simp; (try with_reducible rfl)
  try simp only [Act.put, List.setIfInBounds_toArray, List.set_cons_zero, List.set_cons_succ]
  refine wpAnyH_done (by kernel_rfl) ?_ _
  have P5 : Bk 40 2 (w3.setRow w.heap.size #[.string p, .slice da s dc]) w.heap.size [.string p, .slice da s dc] := ⟨rfl, by simp [Value.oneCell'], setRow_heap w3 w.heap.size _ _ 40 (0, 0) (unhide P3).at_⟩
  have K5 : Below w.heap.size w3 (w3.setRow w.heap.size #[.string p, .slice da s dc]) := ⟨rfl, rfl, rfl, by simp, fun k hk => setRow_other w3 w.heap.size k _ (by omega)⟩
  have O5 : (w3.setRow w.heap.size #[.string p, .slice da s dc]).ownsRow w2.heap.size 5 1 (.slice da s dc) s ((d.take s).map cb) := own_same (unhide O3) fun b e => setRow_other w3 w.heap.size b _ (by have h1 := (World.ownsRow.lt (unhide O3) b e).1; have h2 := unhide G2; have h3 : w2.drew.heap.size = w2.heap.size := rfl; omega)
  have K6 := hide ((unhide K3).trans K5)
  have P6 := hide P5
  have O6 := hide (own_base O5 (Nat.le_of_lt (unhide G2)))
  clear P5 K5 O5 P3 O3 VV KD
  generalize w3.setRow w.heap.size #[.string p, .slice da s dc] = w5 at *
  go_wp2_with fail
  have hld := run_loadVar_mid w5 w.heap.size 0 40 [.string p, .slice da s dc] _ (unhide P6).range Tryd.underlying40 rfl infoBl
  (try simp only [Exit.inBlock, Exit.then])
  refine bodyPost_ret (v := .tuple #[.agg #[.string p, .slice da s dc], .slice a 0 0, .int .i64 0]) ?_ rfl ⟨_, _, rfl, unhide O6, fun X _ => by rw [List.drop_of_length_le (by have := unhide HDL; omega)]; exact Rb.nil' _ _ _, unhide K6⟩
  · rw [results_cell3 rfl]
    simp [asAddr, Result.andThen, hld]
set_option maxRecDepth 100000 in
set_option maxHeartbeats 8000000 in
theorem takeFile_ok1 {w : World} {g : Nat} {h d : Bs} {a : Option Addr} {c : Nat} {p : ByteArray} {s : Nat} (hB : By w g h) (hl : h.length = 512) (hR : Rb w (.slice a d.length c) d) (_ : d.length ≤ 1073741824) (hg : Glob w) (ht : toldL h = some (p, s)) (h1 : s ≤ 1048576) (h2 : fill s ≤ d.length) (h3 : (d.drop s).take (fill s - s) = zs (fill s - s)) (hcF : c = fill s) (hcs : c = s) :
    Calls Tryd.prog 19 #[.pointer (some ⟨g, 0, none⟩), .slice a d.length c] w fun e w' => ∃ dv rv, e = .returned (.tuple #[.agg #[.string p, dv], rv, .int .i64 0]) ∧ w'.ownsRow w.heap.size 5 1 dv s ((d.take s).map cb) ∧ (∀ X, Rb X (.slice a d.length c) d → Rb X rv (d.drop (fill s))) ∧ Below w.heap.size w w' := by
  obtain ⟨a0, c0, e0, hc⟩ := hR.form
  cases e0
  have hge := fill_ge s
  have hV : toldV h = .tuple #[.string p, .int .i64 (s : Int), .bool true] := by unfold toldV; rw [ht]
  have CT := hide (show ∀ X, Below w.heap.size w X → Calls Tryd.prog 33 #[.pointer (some ⟨g, 0, none⟩)] X fun e w' => e = .returned (.tuple #[.string p, .int .i64 (s : Int), .bool true]) ∧ Below X.heap.size X w' from fun X hX => by rw [← hV]; exact told_any (hB.later hX) hl (hg.later hX))
  have hc1 : ¬ ((1048576 : Int) < (s : Int)) := by omega
  have hc2 : ¬ ((d.length : Int) < ((fill s : Nat) : Int)) := by omega
  have hc3 : (s : Int) ≤ ((fill s : Nat) : Int) := by omega
  have hc4 : ((fill s : Nat) : Int) ≤ (c : Int) := by omega
  have HR := hide hR
  clear hB hl hg ht hV hR
  generalize hF : fill s = F at *
  have HF := hide hF
  clear hF
  have CC := hide (show ∀ X, Below w.heap.size w X → Calls Tryd.prog 35 #[.slice a s c] X fun e w' => ∃ v', e = .returned v' ∧ w'.ownsRow X.heap.size 5 1 v' s ((d.take s).map cb) ∧ Below X.heap.size X w' from fun X hX => by
    have q := clone_any (((unhide HR).later hX).take (k := s) (by omega)) (by rw [List.length_take]; omega)
    rw [show (d.take s).length = s by rw [List.length_take]; omega] at q
    exact q)
  have AZ : allz ((d.drop s).take (F - s)) = true := by rw [allz_iff, h3, zs_len]
  have hdl : d.length = F := by omega
  have hsc : s ≤ c := by omega
  have hFc : F ≤ c := by omega
  have hFl : F ≤ d.length := h2
  have CZ := hide (show ∀ X, Below w.heap.size w X → Calls Tryd.prog 34 #[.slice a 0 0] X fun e w' => e = .returned (.bool true) ∧ w' = X from fun X hX => allZero_any (Rb.nil' X a 0) (by decide))
  clear AZ
  rw [hdl] at hc2 ⊢
  have HDL := hide hdl
  clear hdl hc h3
  obtain rfl : F = c := hcF.symm
  obtain rfl : F = s := hcs
  go_enter Tryd.func19, Tryd.ntmps19
  go_wp2_with (first
    | ((with_reducible refine b_alloc (t := 40) (k := 2) zeroBl rfl rfl ?_); intro w1 q1 k1 z1; have P1 := hide q1; have K1 := hide k1; clear q1 k1 z1)
    | (go_at_call 33; refine (unhide CT w1 (unhide K1)).mono ?_; rintro e w2 ⟨rfl, b2⟩; have G2 := hide (Nat.lt_of_lt_of_le (unhide P1).lt b2.size); have P2 := hide ((unhide P1).later b2); have K2 := hide (bl_t (unhide K1) b2); clear b2 CT P1 K1)
    | (go_at_call 18; refine (filled_any F _ (by omega)).mono ?_; rintro e wn ⟨rfl, hw⟩; rw [hw, unhide HF]; clear hw wn)
    | (go_at_call 34; refine (unhide CZ w2 (unhide K2)).mono ?_; rintro e wn ⟨rfl, hw⟩; rw [hw]; clear hw wn CZ))
  have KD := hide (unhide K2).drew
  refine wp_region_held_drew (S := fun _ => True) (by kernel_rfl) ?_ (fun hHeld => ?_)
  · exact trivial
  refine wpAnyH_take (i := 0) (oi := { dst := some 40, op := Op.move (Operand.tmp 7), type := 9, pos := "tar.go:97", after := #[], guard := none }) (v := ?_) rfl (by kernel_rfl) (by kernel_rfl) (by kernel_rfl) (fun _ _ _ h => h) (Or.inl ⟨by rfl, ?_⟩) (by assumption) ?_
  rotate_left
  · intro w hSw; (try dsimp only at hSw); go_simp; (try with_reducible rfl)
  try simp only [Act.put, List.setIfInBounds_toArray, List.set_cons_zero, List.set_cons_succ]
  refine wpAnyH_take (i := 1) (oi := { dst := some 41, op := Op.move (Operand.tmp 1), type := 23, pos := "tar.go:97", after := #[], guard := none }) (v := ?_) rfl (by kernel_rfl) (by kernel_rfl) (by kernel_rfl) (fun _ _ _ h => h) (Or.inl ⟨by rfl, ?_⟩) (by assumption) ?_
  rotate_left
  · intro w hSw; (try dsimp only at hSw); go_simp; (try with_reducible rfl)
  try simp only [Act.put, List.setIfInBounds_toArray, List.set_cons_zero, List.set_cons_succ]
  refine wpAnyH_take (i := 2) (oi := { dst := some 42, op := Op.move (Operand.tmp 8), type := 3, pos := "tar.go:97", after := #[], guard := none }) (v := ?_) rfl (by kernel_rfl) (by kernel_rfl) (by kernel_rfl) (fun _ _ _ h => h) (Or.inl ⟨by rfl, ?_⟩) (by assumption) ?_
  rotate_left
  · intro w hSw; (try dsimp only at hSw); go_simp; (try with_reducible rfl)
  try simp only [Act.put, List.setIfInBounds_toArray, List.set_cons_zero, List.set_cons_succ]
  refine wpAnyH_take (i := 3) (oi := { dst := some 43, op := Op.slice 23 (Operand.tmp 41) none (some (Operand.tmp 42)) none, type := 23, pos := "tar.go:97", after := #[{ on := 1, ground := Ground.data }, { on := 2, ground := Ground.data }], guard := none }) (v := ?_) rfl (by kernel_rfl) (by kernel_rfl) (by kernel_rfl) (fun _ _ _ h => h) (Or.inl ⟨by rfl, ?_⟩) (by assumption) ?_
  rotate_left
  · intro w hSw; (try dsimp only at hSw); go_simp; (try with_reducible rfl)
  try simp only [Act.put, List.setIfInBounds_toArray, List.set_cons_zero, List.set_cons_succ]
  refine wpAnyH_take (i := 6) (oi := { dst := some 46, op := Op.move (Operand.tmp 1), type := 23, pos := "tar.go:97", after := #[], guard := none }) (v := ?_) rfl (by kernel_rfl) (by kernel_rfl) (by kernel_rfl) (fun _ _ _ h => h) (Or.inl ⟨by rfl, ?_⟩) (by assumption) ?_
  rotate_left
  · intro w hSw; (try dsimp only at hSw); go_simp; (try with_reducible rfl)
  try simp only [Act.put, List.setIfInBounds_toArray, List.set_cons_zero, List.set_cons_succ]
  refine wpAnyH_take (i := 7) (oi := { dst := some 47, op := Op.move (Operand.tmp 8), type := 3, pos := "tar.go:97", after := #[], guard := none }) (v := ?_) rfl (by kernel_rfl) (by kernel_rfl) (by kernel_rfl) (fun _ _ _ h => h) (Or.inl ⟨by rfl, ?_⟩) (by assumption) ?_
  rotate_left
  · intro w hSw; (try dsimp only at hSw); go_simp; (try with_reducible rfl)
  try simp only [Act.put, List.setIfInBounds_toArray, List.set_cons_zero, List.set_cons_succ]
  refine wpAnyH_ready (rs := [4]) (by kernel_rfl) (by simp) ?_
  refine AllReadyH.cons (o := { dst := some 44, op := Op.call { callee := Callee.value (Operand.func 35), args := #[Operand.tmp 43], argTypes := #[23] }, type := 23, pos := "tar.go:97", after := #[{ on := 3, ground := Ground.data }], guard := none }) rfl (fun K hK => ?_) AllReadyH.nil
  go_simp
  refine (unhide CC _ (unhide KD)).mono ?_
  rintro e w3 ⟨dv, rfl, o3, b3⟩
  obtain ⟨da, dc, rfl⟩ := owns_form o3
  have O3 := hide o3
  have P3 := hide ((show Bk 40 2 w2.drew w.heap.size [Value.string ⟨#[]⟩, Value.slice none 0 0] from (unhide P2).of rfl).later b3)
  have K3 := hide (bl_t (unhide KD) b3)
  have VV := hide (show #[Value.string p, Value.slice da F dc].all (·.oneCell') = true from by simp [Value.oneCell'])
  clear o3 b3 CC
  go_wp2_with fail
  refine hK.out _ _ trivial (fun hHeld => ?_)
  clear hK K
  try simp only [Act.put, List.setIfInBounds_toArray, List.set_cons_zero, List.set_cons_succ]
  refine wpAnyH_take (i := 5) (oi := { dst := some 45, op := Op.build 40 #[(0, Operand.tmp 40), (1, Operand.tmp 44)], type := 40, pos := "tar.go:97", after := #[{ on := 0, ground := Ground.data }, { on := 4, ground := Ground.data }], guard := none }) (v := ?_) rfl (by kernel_rfl) (by kernel_rfl) (by kernel_rfl) (fun _ _ _ h => h) (Or.inl ⟨by rfl, ?_⟩) (by assumption) ?_
  rotate_left
  · intro w hSw; (try dsimp only at hSw); go_simp; (try with_reducible rfl)
  try simp only [Act.put, List.setIfInBounds_toArray, List.set_cons_zero, List.set_cons_succ]
  refine wpAnyH_ready (rs := [8]) (by kernel_rfl) (by simp) ?_
  refine AllReadyH.cons (o := { dst := some 48, op := Op.call { callee := Callee.value (Operand.func 18), args := #[Operand.tmp 47], argTypes := #[3] }, type := 3, pos := "tar.go:97", after := #[{ on := 7, ground := Ground.data }, { on := 4, ground := Ground.chain }], guard := none }) rfl (fun K hK => ?_) AllReadyH.nil
  go_simp
  refine (filled_any F _ (by omega)).mono ?_
  rintro e wn ⟨rfl, hw⟩
  rw [hw, unhide HF]
  clear hw wn
  go_wp2_with fail
  refine hK.out _ _ trivial (fun hHeld => ?_)
  clear hK K
  try simp only [Act.put, List.setIfInBounds_toArray, List.set_cons_zero, List.set_cons_succ]
  refine wpAnyH_take (i := 9) (oi := { dst := some 49, op := Op.slice 23 (Operand.tmp 46) (some (Operand.tmp 48)) none none, type := 23, pos := "tar.go:97", after := #[{ on := 6, ground := Ground.data }, { on := 8, ground := Ground.data }], guard := none }) (v := ?_) rfl (by kernel_rfl) (by kernel_rfl) (by kernel_rfl) (fun _ _ _ h => h) (Or.inl ⟨by rfl, ?_⟩) (by assumption) ?_
  rotate_left
  · intro w hSw; (try dsimp only at hSw); go_simp; (try with_reducible rfl)
  try simp only [Act.put, List.setIfInBounds_toArray, List.set_cons_zero, List.set_cons_succ]
  refine wpAnyH_ready (rs := [10]) (by kernel_rfl) (by simp) ?_
  refine AllReadyH.cons (o := { dst := none, op := Op.store 40 (Operand.tmp 4) (Operand.tmp 45), type := 0, pos := "tar.go:97", after := #[{ on := 5, ground := Ground.data }, { on := 8, ground := Ground.chain }, { on := 0, ground := Ground.phase }, { on := 1, ground := Ground.phase }, { on := 2, ground := Ground.phase }, { on := 3, ground := Ground.phase }, { on := 4, ground := Ground.phase }, { on := 5, ground := Ground.phase }, { on := 6, ground := Ground.textOnly Departure.lateStores }, { on := 7, ground := Ground.textOnly Departure.lateStores }, { on := 8, ground := Ground.textOnly Departure.lateStoresUnsure }, { on := 9, ground := Ground.textOnly Departure.lateStoresUnsure }], guard := none }) rfl (fun K hK => ?_) AllReadyH.nil
  refine wp_store_row 40 _ _ rfl w.heap.size #[.string p, .slice da F dc] rfl rfl 40 _ (unhide P3).at_ infoBl rfl (unhide VV) ?_
  refine hK.out _ _ trivial (fun hHeld => ?_)
  clear hK K
  try simp only [Act.put]
  refine wpAnyH_take (i := 11) (oi := { dst := some 5, op := Op.assign (Operand.tmp 49), type := 23, pos := "tar.go:97", after := #[{ on := 9, ground := Ground.data }, { on := 10, ground := Ground.chain }, { on := 0, ground := Ground.phase }, { on := 1, ground := Ground.phase }, { on := 2, ground := Ground.phase }, { on := 3, ground := Ground.phase }, { on := 4, ground := Ground.phase }, { on := 5, ground := Ground.phase }, { on := 6, ground := Ground.phase }, { on := 7, ground := Ground.phase }, { on := 8, ground := Ground.phase }, { on := 9, ground := Ground.phase }, { on := 10, ground := Ground.phase }], guard := none }) (v := ?_) rfl (by kernel_rfl) (by kernel_rfl) (by kernel_rfl) (fun _ _ _ h => h) (Or.inl ⟨by rfl, ?_⟩) (by assumption) ?_
  rotate_left
  · intro w hSw; (try dsimp only at hSw); go_simp; (try with_reducible rfl)
  try simp only [Act.put, List.setIfInBounds_toArray, List.set_cons_zero, List.set_cons_succ]
  refine wpAnyH_take (i := 12) (oi := { dst := some 6, op := Op.assign (Operand.const (Value.int IntKind.i64 0)), type := 25, pos := "tar.go:97", after := #[{ on := 11, ground := Ground.chain }, { on := 0, ground := Ground.phase }, { on := 1, ground := Ground.phase }, { on := 2, ground := Ground.phase }, { on := 3, ground := Ground.phase }, { on := 4, ground := Ground.phase }, { on := 5, ground := Ground.phase }, { on := 6, ground := Ground.phase }, { on := 7, ground := Ground.phase }, { on := 8, ground := Ground.phase }, { on := 9, ground := Ground.phase }, { on := 10, ground := Ground.phase }, { on := 11, ground := Ground.phase }], guard := none }) (v := ?_) rfl (by kernel_rfl) (by kernel_rfl) (by kernel_rfl) (fun _ _ _ h => h) (Or.inl ⟨by rfl, ?_⟩) (by assumption) ?_
  rotate_left
  · intro w hSw; (try dsimp only at hSw); go_simp; (try with_reducible rfl)
  try simp only [Act.put, List.setIfInBounds_toArray, List.set_cons_zero, List.set_cons_succ]
  refine wpAnyH_done (by kernel_rfl) ?_ _
  have P5 : Bk 40 2 (w3.setRow w.heap.size #[.string p, .slice da F dc]) w.heap.size [.string p, .slice da F dc] := ⟨rfl, by simp [Value.oneCell'], setRow_heap w3 w.heap.size _ _ 40 (0, 0) (unhide P3).at_⟩
  have K5 : Below w.heap.size w3 (w3.setRow w.heap.size #[.string p, .slice da F dc]) := ⟨rfl, rfl, rfl, by simp, fun k hk => setRow_other w3 w.heap.size k _ (by omega)⟩
  have O5 : (w3.setRow w.heap.size #[.string p, .slice da F dc]).ownsRow w2.heap.size 5 1 (.slice da F dc) F ((d.take F).map cb) := own_same (unhide O3) fun b e => setRow_other w3 w.heap.size b _ (by have h1 := (World.ownsRow.lt (unhide O3) b e).1; have h2 := unhide G2; have h3 : w2.drew.heap.size = w2.heap.size := rfl; omega)
  have K6 := hide ((unhide K3).trans K5)
  have P6 := hide P5
  have O6 := hide (own_base O5 (Nat.le_of_lt (unhide G2)))
  clear P5 K5 O5 P3 O3 VV KD
  generalize w3.setRow w.heap.size #[.string p, .slice da F dc] = w5 at *
  go_wp2_with fail
  have hld := run_loadVar_mid w5 w.heap.size 0 40 [.string p, .slice da F dc] _ (unhide P6).range Tryd.underlying40 rfl infoBl
  (try simp only [Exit.inBlock, Exit.then])
  refine bodyPost_ret (v := .tuple #[.agg #[.string p, .slice da F dc], .slice a 0 0, .int .i64 0]) ?_ rfl ⟨_, _, rfl, unhide O6, fun X _ => by rw [List.drop_of_length_le (by have := unhide HDL; omega)]; exact Rb.nil' _ _ _, unhide K6⟩
  · rw [results_cell3 rfl]
    simp [asAddr, Result.andThen, hld]
theorem takeFile_ok {w : World} {g : Nat} {h d : Bs} {v : Value} {p : ByteArray} {s : Nat} (hB : By w g h) (hl : h.length = 512) (hR : Rb w v d) (hd : d.length ≤ 1073741824) (hg : Glob w) (ht : toldL h = some (p, s)) (h1 : s ≤ 1048576) (h2 : fill s ≤ d.length) (h3 : (d.drop s).take (fill s - s) = zs (fill s - s)) :
    Calls Tryd.prog 19 #[.pointer (some ⟨g, 0, none⟩), v] w fun e w' => ∃ dv rv, e = .returned (.tuple #[.agg #[.string p, dv], rv, .int .i64 0]) ∧ w'.ownsRow w.heap.size 5 1 dv s ((d.take s).map cb) ∧ (∀ X, Rb X v d → Rb X rv (d.drop (fill s))) ∧ Below w.heap.size w w' := by
  obtain ⟨a, c, rfl, hc⟩ := hR.form
  by_cases hcF : c = fill s
  · by_cases hcs : c = s
    · exact takeFile_ok1 hB hl hR hd hg ht h1 h2 h3 hcF hcs
    · exact takeFile_ok2 hB hl hR hd hg ht h1 h2 h3 hcF hcs
  · exact takeFile_ok3 hB hl hR hd hg ht h1 h2 h3 hcF
end Go.Proofs.YtjmomdnlibfbkaaDoor
