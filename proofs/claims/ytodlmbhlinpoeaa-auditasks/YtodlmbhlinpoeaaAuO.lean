import Derived.Test.YtodlmbhlinpoeaaAuJ
import Derived.OwnWalk
import Derived.Deep.RegionWith
import Derived.Deep.CutRange
import Derived.Laws.IdiomCopy
namespace Go.Proofs.Ytodlmbhlinpoeaa
open Go.RowKit

theorem size_setCells (b : Nat) : ∀ (vs : List Value) (o : Nat) (u : World), (u.setCells b o vs).heap.size = u.heap.size
  | [], _, _ => rfl
  | v :: r, o, u => by rw [World.setCells, size_setCells b r]; simp
theorem below_setCells {w : World} {base : Nat} (b : Nat) (hb : base ≤ b) : ∀ (vs : List Value) (o : Nat) (u : World), Below base w u → Below base w (u.setCells b o vs)
  | [], _, _, h => h
  | v :: r, o, u, h => by
    rw [World.setCells]
    exact below_setCells b hb r (o + 1) _ (h.setCell (p := ⟨b, o, none⟩) hb v)
theorem heap_setCells (b : Nat) : ∀ (vs : List Value) (o : Nat) (u : World) (k : Nat), k ≠ b → (u.setCells b o vs).heap[k]? = u.heap[k]?
  | [], _, _, _, _ => rfl
  | v :: r, o, u, k, h => by
    rw [World.setCells, heap_setCells b r (o + 1) _ k h]
    exact Below.heap_setCell u ⟨b, o, none⟩ v k h
/-- ROWS THAT ARE TURNED ABOUT WITHIN THEIR BLOCK. -/
structure Ab (w0 W : World) (g N : Nat) (csl rows : List (List Value)) : Prop where
  len : rows.length = N
  mem : ∀ r ∈ rows, r ∈ csl
  at_ : ∀ j r, rows[j]? = some r → W.rangeAt g (j * 44) r
  spot : ∀ t, t < N * 44 → (W.cell? ⟨g, t, none⟩).isSome = true
  fr : ∀ t, W.frozen? ⟨g, t, none⟩ = false
  lt : g < W.heap.size
  oth : ∀ b, b ≠ g → W.heap[b]? = w0.heap[b]?
  size : W.heap.size = w0.heap.size
  bel : ∀ B, B ≤ g → Below B w0 W
theorem Ab.drew {w0 W : World} {g N : Nat} {csl rows : List (List Value)} (h : Ab w0 W g N csl rows) : Ab w0 W.drew g N csl rows :=
  ⟨h.len, h.mem, h.at_, h.spot, h.fr, h.lt, h.oth, h.size, fun B hB => (h.bel B hB).drew⟩
theorem Ab.there {w0 W : World} {g N : Nat} {csl rows : List (List Value)} (h : Ab w0 W g N csl rows) {i : Nat} (hi : i < N) : W.there g (i * 44) 44 := fun j hj => ⟨h.spot _ (by omega), h.fr _⟩
theorem Ab.put {w0 W : World} {g N : Nat} {csl rows : List (List Value)} (h : Ab w0 W g N csl rows) (c44 : ∀ r ∈ csl, r.length = 44) {i : Nat} (hi : i < N) {x : List Value} (hx : x ∈ csl) : Ab w0 (W.setCells g (i * 44) x) g N csl (rows.set i x) := by
  have hxl := c44 x hx
  refine ⟨by rw [List.length_set]; exact h.len, fun r hr => ?_, fun j r hj => ?_, fun t ht => World.isSome_setCells _ _ _ _ _ (h.spot t ht), fun t => by rw [World.frozen?_setCells]; exact h.fr t, by rw [size_setCells]; exact h.lt, fun b hb => (heap_setCells g x _ W b hb).trans (h.oth b hb), by rw [size_setCells]; exact h.size, fun B hB => below_setCells g hB x _ W (h.bel B hB)⟩
  · rcases List.mem_or_eq_of_mem_set hr with q | rfl
    · exact h.mem r q
    · exact hx
  · by_cases e : i = j
    · subst e
      rw [List.getElem?_set_self (by rw [h.len]; exact hi)] at hj
      cases hj
      exact World.rangeAt_setCells_same W g (i * 44) x (by rw [hxl]; exact h.there hi)
    · rw [List.getElem?_set_ne e] at hj
      have hr := c44 r (h.mem r (List.mem_of_getElem? hj))
      exact World.rangeAt_setCells_apart (h.at_ j r hj) _ _ _ (.inr (by rw [hr, hxl]; omega))
set_option maxRecDepth 100000 in
set_option maxHeartbeats 4000000 in
theorem about_any {w : World} {g cap N : Nat} {csl rows0 : List (List Value)} (c44 : ∀ r ∈ csl, r.length = 44) (h1 : ∀ r ∈ csl, ∀ u ∈ r, u.oneCell' = true) (h : Ab w w g N csl rows0) (hl : N ≤ 586406201463) :
    Calls Try.prog 11 #[.slice (some ⟨g, 0, none⟩) N cap] w fun e w' => e = .returned (.tuple #[]) ∧ ∃ rows, Ab w w' g N csl rows := by
  have HAB := hide h
  have HC := hide c44
  have HO := hide h1
  clear h c44 h1
  go_enter Try.func11, Try.ntmps11
  go_wp2_with fail
  go_loopg [2, 3] N (fun gq iv _ wr => ∃ (i : Nat) (rows : List (List Value)), iv = .int .i64 i ∧ i ≤ N ∧ N - i ≤ gq ∧ Hid (Ab w wr g N csl rows))
  case atStart => exact ⟨0, rows0, by go_num, by omega, by omega, HAB⟩
  case round =>
    clear HAB
    obtain ⟨i, rows, rfl, hi, hg, HA⟩ := hrel
    by_cases hlt : i < N / 2
    · have hin : (i : Int) < (N : Int) / 2 := by omega
      go_wp2_with fail
      obtain ⟨k, hk⟩ : ∃ k : Nat, (N : Int) - 1 - (i : Int) = (k : Int) := ⟨N - 1 - i, by omega⟩
      rw [hk]
      have hki : i < k := by omega
      have hkn : k < N := by omega
      have hin2 : (i : Int) < (N : Int) := by omega
      have hkz : (k : Int) < (N : Int) := by omega
      have hkp : (0 : Int) ≤ (k : Int) := by omega
      have hil : i < rows.length := by rw [(unhide HA).len]; omega
      have hkl : k < rows.length := by rw [(unhide HA).len]; omega
      have hxs : rows[i]? = some rows[i] := List.getElem?_eq_getElem hil
      have hys : rows[k]? = some rows[k] := List.getElem?_eq_getElem hkl
      generalize rows[i] = xs at *
      generalize rows[k] = ys at *
      have HD := hide (unhide HA).drew
      have mx := (unhide HA).mem xs (List.mem_of_getElem? hxs)
      have my := (unhide HA).mem ys (List.mem_of_getElem? hys)
      have HX := hide ((unhide HD).at_ i xs hxs)
      have HY := hide ((unhide HD).at_ k ys hys)
      have HIxs := hide (show (Try.prog.info? 47).map (·.size) = some xs.length from by rw [unhide HC xs mx]; exact infoH)
      have HIys := hide (show (Try.prog.info? 47).map (·.size) = some ys.length from by rw [unhide HC ys my]; exact infoH)
      have HIxs2 := hide (show (Try.prog.info? 47).map (·.size) = some xs.toArray.size from by rw [List.size_toArray, unhide HC xs mx]; exact infoH)
      have HIys2 := hide (show (Try.prog.info? 47).map (·.size) = some ys.toArray.size from by rw [List.size_toArray, unhide HC ys my]; exact infoH)
      have HAx := hide (all_oneCell_toArray (unhide HO xs mx))
      have HAy := hide (all_oneCell_toArray (unhide HO ys my))
      have P1 := hide ((unhide HD).put (unhide HC) (show i < N by omega) my)
      have P2 := hide ((unhide P1).put (unhide HC) hkn mx)
      have HT1 := hide (show wr.drew.there g (i * 44) ys.toArray.size from by rw [List.size_toArray, unhide HC ys my]; exact (unhide HD).there (by omega))
      have HT2 := hide (show (wr.drew.setCells g (i * 44) ys).there g (k * 44) xs.toArray.size from by rw [List.size_toArray, unhide HC xs mx]; exact (unhide P1).there hkn)
      clear hxs hys mx my HA P1 hk
      refine wp_region_held_drew (S := fun _ => True) (by kernel_rfl) ?_ (fun hHeld => ?_)
      · exact trivial
      refine wpAnyH_take (i := 0) (oi := { dst := some 16, op := Op.move (Operand.tmp 0), type := 22, pos := "law.go:80", after := #[], guard := none }) (v := ?_) rfl (by kernel_rfl) (by kernel_rfl) (by kernel_rfl) (fun _ _ _ h => h) (Or.inl ⟨by rfl, ?_⟩) (by assumption) ?_
      rotate_left
      · intro w hSw; (try dsimp only at hSw); go_simp; (try with_reducible rfl)
      try simp only [Act.put, List.setIfInBounds_toArray, List.set_cons_zero, List.set_cons_succ]
      refine wpAnyH_take (i := 1) (oi := { dst := some 17, op := Op.move (Operand.tmp 2), type := 3, pos := "law.go:80", after := #[], guard := none }) (v := ?_) rfl (by kernel_rfl) (by kernel_rfl) (by kernel_rfl) (fun _ _ _ h => h) (Or.inl ⟨by rfl, ?_⟩) (by assumption) ?_
      rotate_left
      · intro w hSw; (try dsimp only at hSw); go_simp; (try with_reducible rfl)
      try simp only [Act.put, List.setIfInBounds_toArray, List.set_cons_zero, List.set_cons_succ]
      refine wpAnyH_take (i := 2) (oi := { dst := some 18, op := Op.move (Operand.tmp 0), type := 22, pos := "law.go:80", after := #[{ on := 13, ground := Ground.gcOnly Departure.lateStores }], guard := none }) (v := ?_) rfl (by kernel_rfl) (by kernel_rfl) (by kernel_rfl) (fun _ _ _ h => h) (Or.inl ⟨by rfl, ?_⟩) (by assumption) ?_
      rotate_left
      · intro w hSw; (try dsimp only at hSw); go_simp; (try with_reducible rfl)
      try simp only [Act.put, List.setIfInBounds_toArray, List.set_cons_zero, List.set_cons_succ]
      refine wpAnyH_take (i := 3) (oi := { dst := some 19, op := Op.move (Operand.tmp 3), type := 3, pos := "law.go:80", after := #[{ on := 13, ground := Ground.gcOnly Departure.lateStores }], guard := none }) (v := ?_) rfl (by kernel_rfl) (by kernel_rfl) (by kernel_rfl) (fun _ _ _ h => h) (Or.inl ⟨by rfl, ?_⟩) (by assumption) ?_
      rotate_left
      · intro w hSw; (try dsimp only at hSw); go_simp; (try with_reducible rfl)
      try simp only [Act.put, List.setIfInBounds_toArray, List.set_cons_zero, List.set_cons_succ]
      refine wpAnyH_take (i := 4) (oi := { dst := some 20, op := Op.move (Operand.tmp 0), type := 22, pos := "law.go:80", after := #[], guard := none }) (v := ?_) rfl (by kernel_rfl) (by kernel_rfl) (by kernel_rfl) (fun _ _ _ h => h) (Or.inl ⟨by rfl, ?_⟩) (by assumption) ?_
      rotate_left
      · intro w hSw; (try dsimp only at hSw); go_simp; (try with_reducible rfl)
      try simp only [Act.put, List.setIfInBounds_toArray, List.set_cons_zero, List.set_cons_succ]
      refine wpAnyH_take (i := 5) (oi := { dst := some 21, op := Op.move (Operand.tmp 3), type := 3, pos := "law.go:80", after := #[], guard := none }) (v := ?_) rfl (by kernel_rfl) (by kernel_rfl) (by kernel_rfl) (fun _ _ _ h => h) (Or.inl ⟨by rfl, ?_⟩) (by assumption) ?_
      rotate_left
      · intro w hSw; (try dsimp only at hSw); go_simp; (try with_reducible rfl)
      try simp only [Act.put, List.setIfInBounds_toArray, List.set_cons_zero, List.set_cons_succ]
      refine wpAnyH_take (i := 6) (oi := { dst := some 22, op := Op.indexAddr 22 (Operand.tmp 20) (Operand.tmp 21), type := 0, pos := "law.go:80", after := #[{ on := 4, ground := Ground.data }, { on := 5, ground := Ground.data }], guard := none }) (v := ?_) rfl (by kernel_rfl) (by kernel_rfl) (by kernel_rfl) (fun _ _ _ h => h) (Or.inl ⟨by rfl, ?_⟩) (by assumption) ?_
      rotate_left
      · intro w hSw; (try dsimp only at hSw); go_simp; (try with_reducible rfl)
      try simp only [Act.put, List.setIfInBounds_toArray, List.set_cons_zero, List.set_cons_succ]
      refine wpAnyH_take (i := 8) (oi := { dst := some 24, op := Op.move (Operand.tmp 0), type := 22, pos := "law.go:80", after := #[], guard := none }) (v := ?_) rfl (by kernel_rfl) (by kernel_rfl) (by kernel_rfl) (fun _ _ _ h => h) (Or.inl ⟨by rfl, ?_⟩) (by assumption) ?_
      rotate_left
      · intro w hSw; (try dsimp only at hSw); go_simp; (try with_reducible rfl)
      try simp only [Act.put, List.setIfInBounds_toArray, List.set_cons_zero, List.set_cons_succ]
      refine wpAnyH_take (i := 9) (oi := { dst := some 25, op := Op.move (Operand.tmp 2), type := 3, pos := "law.go:80", after := #[], guard := none }) (v := ?_) rfl (by kernel_rfl) (by kernel_rfl) (by kernel_rfl) (fun _ _ _ h => h) (Or.inl ⟨by rfl, ?_⟩) (by assumption) ?_
      rotate_left
      · intro w hSw; (try dsimp only at hSw); go_simp; (try with_reducible rfl)
      try simp only [Act.put, List.setIfInBounds_toArray, List.set_cons_zero, List.set_cons_succ]
      refine wpAnyH_take (i := 10) (oi := { dst := some 26, op := Op.indexAddr 22 (Operand.tmp 24) (Operand.tmp 25), type := 0, pos := "law.go:80", after := #[{ on := 8, ground := Ground.data }, { on := 9, ground := Ground.data }], guard := none }) (v := ?_) rfl (by kernel_rfl) (by kernel_rfl) (by kernel_rfl) (fun _ _ _ h => h) (Or.inl ⟨by rfl, ?_⟩) (by assumption) ?_
      rotate_left
      · intro w hSw; (try dsimp only at hSw); go_simp; (try with_reducible rfl)
      try simp only [Act.put, List.setIfInBounds_toArray, List.set_cons_zero, List.set_cons_succ]
      refine wpAnyH_ready (rs := [7, 11]) (by kernel_rfl) (by simp) ?_
      refine AllReadyH.cons (o := { dst := some 23, op := Op.load 47 (Operand.tmp 22), type := 47, pos := "law.go:80", after := #[{ on := 6, ground := Ground.data }], guard := none }) rfl (fun K hK => ?_) (AllReadyH.cons (o := { dst := some 27, op := Op.load 47 (Operand.tmp 26), type := 47, pos := "law.go:80", after := #[{ on := 10, ground := Ground.data }], guard := none }) rfl (fun K hK => ?_) AllReadyH.nil)
      · refine wp_load_mid 47 (.tmp 22) rfl g (k * 44) rfl ys _ (unhide HY) Try.underlying47 rfl (unhide HIys) ?_
        refine hK.out _ _ trivial (fun hHeld => ?_)
        clear hK K
        try simp only [Act.put, List.setIfInBounds_toArray, List.set_cons_zero, List.set_cons_succ]
        refine wpAnyH_ready (rs := [11]) (by kernel_rfl) (by simp) ?_
        refine AllReadyH.cons (o := { dst := some 27, op := Op.load 47 (Operand.tmp 26), type := 47, pos := "law.go:80", after := #[{ on := 10, ground := Ground.data }], guard := none }) rfl (fun K hK => ?_) AllReadyH.nil
        refine wp_load_mid 47 (.tmp 26) rfl g (i * 44) rfl xs _ (unhide HX) Try.underlying47 rfl (unhide HIxs) ?_
        refine hK.out _ _ trivial (fun hHeld => ?_)
        clear hK K
        try simp only [Act.put, List.setIfInBounds_toArray, List.set_cons_zero, List.set_cons_succ]
        refine wpAnyH_take (i := 12) (oi := { dst := some 28, op := Op.indexAddr 22 (Operand.tmp 16) (Operand.tmp 17), type := 0, pos := "law.go:80", after := #[{ on := 0, ground := Ground.data }, { on := 1, ground := Ground.data }, { on := 0, ground := Ground.phase }, { on := 1, ground := Ground.phase }, { on := 2, ground := Ground.textOnly Departure.lateStores }, { on := 3, ground := Ground.textOnly Departure.lateStores }, { on := 4, ground := Ground.phase }, { on := 5, ground := Ground.phase }, { on := 6, ground := Ground.phase }, { on := 7, ground := Ground.phase }, { on := 8, ground := Ground.textOnly Departure.lateStores }, { on := 9, ground := Ground.textOnly Departure.lateStores }, { on := 10, ground := Ground.textOnly Departure.lateStoresUnsure }, { on := 11, ground := Ground.phase }], guard := none }) (v := ?_) rfl (by kernel_rfl) (by kernel_rfl) (by kernel_rfl) (fun _ _ _ h => h) (Or.inl ⟨by rfl, ?_⟩) (by assumption) ?_
        rotate_left
        · intro w hSw; (try dsimp only at hSw); go_simp; (try with_reducible rfl)
        try simp only [Act.put, List.setIfInBounds_toArray, List.set_cons_zero, List.set_cons_succ]
        refine wpAnyH_ready (rs := [13]) (by kernel_rfl) (by simp) ?_
        refine AllReadyH.cons (o := { dst := none, op := Op.store 47 (Operand.tmp 28) (Operand.tmp 23), type := 0, pos := "law.go:80", after := #[{ on := 12, ground := Ground.data }, { on := 7, ground := Ground.data }, { on := 0, ground := Ground.phase }, { on := 1, ground := Ground.phase }, { on := 2, ground := Ground.textOnly Departure.lateStores }, { on := 3, ground := Ground.textOnly Departure.lateStores }, { on := 4, ground := Ground.phase }, { on := 5, ground := Ground.phase }, { on := 6, ground := Ground.phase }, { on := 7, ground := Ground.phase }, { on := 8, ground := Ground.textOnly Departure.lateStores }, { on := 9, ground := Ground.textOnly Departure.lateStores }, { on := 10, ground := Ground.textOnly Departure.lateStoresUnsure }, { on := 11, ground := Ground.phase }], guard := none }) rfl (fun K hK => ?_) AllReadyH.nil
        refine wp_store_mid 47 (.tmp 28) (.tmp 23) rfl g (i * 44) ys.toArray rfl rfl (unhide HT1) (unhide HIys2) (unhide HAy) ?_
        refine hK.out _ _ trivial (fun hHeld => ?_)
        clear hK K
        try simp only [Act.put]
        refine wpAnyH_take (i := 14) (oi := { dst := some 29, op := Op.indexAddr 22 (Operand.tmp 18) (Operand.tmp 19), type := 0, pos := "law.go:80", after := #[{ on := 2, ground := Ground.data }, { on := 3, ground := Ground.data }, { on := 0, ground := Ground.phase }, { on := 1, ground := Ground.phase }, { on := 2, ground := Ground.phase }, { on := 3, ground := Ground.phase }, { on := 4, ground := Ground.phase }, { on := 5, ground := Ground.phase }, { on := 6, ground := Ground.phase }, { on := 7, ground := Ground.phase }, { on := 8, ground := Ground.phase }, { on := 9, ground := Ground.phase }, { on := 10, ground := Ground.phase }, { on := 11, ground := Ground.phase }, { on := 12, ground := Ground.phase }, { on := 13, ground := Ground.phase }], guard := none }) (v := ?_) rfl (by kernel_rfl) (by kernel_rfl) (by kernel_rfl) (fun _ _ _ h => h) (Or.inl ⟨by rfl, ?_⟩) (by assumption) ?_
        rotate_left
        · intro w hSw; (try dsimp only at hSw); go_simp; (try with_reducible rfl)
        try simp only [Act.put, List.setIfInBounds_toArray, List.set_cons_zero, List.set_cons_succ]
        refine wpAnyH_ready (rs := [15]) (by kernel_rfl) (by simp) ?_
        refine AllReadyH.cons (o := { dst := none, op := Op.store 47 (Operand.tmp 29) (Operand.tmp 27), type := 0, pos := "law.go:80", after := #[{ on := 14, ground := Ground.data }, { on := 11, ground := Ground.data }, { on := 13, ground := Ground.chain }, { on := 0, ground := Ground.phase }, { on := 1, ground := Ground.phase }, { on := 2, ground := Ground.phase }, { on := 3, ground := Ground.phase }, { on := 4, ground := Ground.phase }, { on := 5, ground := Ground.phase }, { on := 6, ground := Ground.phase }, { on := 7, ground := Ground.phase }, { on := 8, ground := Ground.phase }, { on := 9, ground := Ground.phase }, { on := 10, ground := Ground.phase }, { on := 11, ground := Ground.phase }, { on := 12, ground := Ground.phase }, { on := 13, ground := Ground.phase }], guard := none }) rfl (fun K hK => ?_) AllReadyH.nil
        refine wp_store_mid 47 (.tmp 29) (.tmp 27) rfl g (k * 44) xs.toArray rfl rfl (unhide HT2) (unhide HIxs2) (unhide HAx) ?_
        refine hK.out _ _ trivial (fun hHeld => ?_)
        clear hK K
        try simp only [Act.put]
        refine wpAnyH_done (by kernel_rfl) ?_ _
        go_wp2_with fail
        go_roundg (N - (i + 1))
        case measure => omega
        case rel => exact ⟨i + 1, _, by go_num, by omega, by omega, P2⟩
      · refine wp_load_mid 47 (.tmp 26) rfl g (i * 44) rfl xs _ (unhide HX) Try.underlying47 rfl (unhide HIxs) ?_
        refine hK.out _ _ trivial (fun hHeld => ?_)
        clear hK K
        try simp only [Act.put, List.setIfInBounds_toArray, List.set_cons_zero, List.set_cons_succ]
        refine wpAnyH_ready (rs := [7]) (by kernel_rfl) (by simp) ?_
        refine AllReadyH.cons (o := { dst := some 23, op := Op.load 47 (Operand.tmp 22), type := 47, pos := "law.go:80", after := #[{ on := 6, ground := Ground.data }], guard := none }) rfl (fun K hK => ?_) AllReadyH.nil
        refine wp_load_mid 47 (.tmp 22) rfl g (k * 44) rfl ys _ (unhide HY) Try.underlying47 rfl (unhide HIys) ?_
        refine hK.out _ _ trivial (fun hHeld => ?_)
        clear hK K
        try simp only [Act.put, List.setIfInBounds_toArray, List.set_cons_zero, List.set_cons_succ]
        refine wpAnyH_take (i := 12) (oi := { dst := some 28, op := Op.indexAddr 22 (Operand.tmp 16) (Operand.tmp 17), type := 0, pos := "law.go:80", after := #[{ on := 0, ground := Ground.data }, { on := 1, ground := Ground.data }, { on := 0, ground := Ground.phase }, { on := 1, ground := Ground.phase }, { on := 2, ground := Ground.textOnly Departure.lateStores }, { on := 3, ground := Ground.textOnly Departure.lateStores }, { on := 4, ground := Ground.phase }, { on := 5, ground := Ground.phase }, { on := 6, ground := Ground.phase }, { on := 7, ground := Ground.phase }, { on := 8, ground := Ground.textOnly Departure.lateStores }, { on := 9, ground := Ground.textOnly Departure.lateStores }, { on := 10, ground := Ground.textOnly Departure.lateStoresUnsure }, { on := 11, ground := Ground.phase }], guard := none }) (v := ?_) rfl (by kernel_rfl) (by kernel_rfl) (by kernel_rfl) (fun _ _ _ h => h) (Or.inl ⟨by rfl, ?_⟩) (by assumption) ?_
        rotate_left
        · intro w hSw; (try dsimp only at hSw); go_simp; (try with_reducible rfl)
        try simp only [Act.put, List.setIfInBounds_toArray, List.set_cons_zero, List.set_cons_succ]
        refine wpAnyH_ready (rs := [13]) (by kernel_rfl) (by simp) ?_
        refine AllReadyH.cons (o := { dst := none, op := Op.store 47 (Operand.tmp 28) (Operand.tmp 23), type := 0, pos := "law.go:80", after := #[{ on := 12, ground := Ground.data }, { on := 7, ground := Ground.data }, { on := 0, ground := Ground.phase }, { on := 1, ground := Ground.phase }, { on := 2, ground := Ground.textOnly Departure.lateStores }, { on := 3, ground := Ground.textOnly Departure.lateStores }, { on := 4, ground := Ground.phase }, { on := 5, ground := Ground.phase }, { on := 6, ground := Ground.phase }, { on := 7, ground := Ground.phase }, { on := 8, ground := Ground.textOnly Departure.lateStores }, { on := 9, ground := Ground.textOnly Departure.lateStores }, { on := 10, ground := Ground.textOnly Departure.lateStoresUnsure }, { on := 11, ground := Ground.phase }], guard := none }) rfl (fun K hK => ?_) AllReadyH.nil
        refine wp_store_mid 47 (.tmp 28) (.tmp 23) rfl g (i * 44) ys.toArray rfl rfl (unhide HT1) (unhide HIys2) (unhide HAy) ?_
        refine hK.out _ _ trivial (fun hHeld => ?_)
        clear hK K
        try simp only [Act.put]
        refine wpAnyH_take (i := 14) (oi := { dst := some 29, op := Op.indexAddr 22 (Operand.tmp 18) (Operand.tmp 19), type := 0, pos := "law.go:80", after := #[{ on := 2, ground := Ground.data }, { on := 3, ground := Ground.data }, { on := 0, ground := Ground.phase }, { on := 1, ground := Ground.phase }, { on := 2, ground := Ground.phase }, { on := 3, ground := Ground.phase }, { on := 4, ground := Ground.phase }, { on := 5, ground := Ground.phase }, { on := 6, ground := Ground.phase }, { on := 7, ground := Ground.phase }, { on := 8, ground := Ground.phase }, { on := 9, ground := Ground.phase }, { on := 10, ground := Ground.phase }, { on := 11, ground := Ground.phase }, { on := 12, ground := Ground.phase }, { on := 13, ground := Ground.phase }], guard := none }) (v := ?_) rfl (by kernel_rfl) (by kernel_rfl) (by kernel_rfl) (fun _ _ _ h => h) (Or.inl ⟨by rfl, ?_⟩) (by assumption) ?_
        rotate_left
        · intro w hSw; (try dsimp only at hSw); go_simp; (try with_reducible rfl)
        try simp only [Act.put, List.setIfInBounds_toArray, List.set_cons_zero, List.set_cons_succ]
        refine wpAnyH_ready (rs := [15]) (by kernel_rfl) (by simp) ?_
        refine AllReadyH.cons (o := { dst := none, op := Op.store 47 (Operand.tmp 29) (Operand.tmp 27), type := 0, pos := "law.go:80", after := #[{ on := 14, ground := Ground.data }, { on := 11, ground := Ground.data }, { on := 13, ground := Ground.chain }, { on := 0, ground := Ground.phase }, { on := 1, ground := Ground.phase }, { on := 2, ground := Ground.phase }, { on := 3, ground := Ground.phase }, { on := 4, ground := Ground.phase }, { on := 5, ground := Ground.phase }, { on := 6, ground := Ground.phase }, { on := 7, ground := Ground.phase }, { on := 8, ground := Ground.phase }, { on := 9, ground := Ground.phase }, { on := 10, ground := Ground.phase }, { on := 11, ground := Ground.phase }, { on := 12, ground := Ground.phase }, { on := 13, ground := Ground.phase }], guard := none }) rfl (fun K hK => ?_) AllReadyH.nil
        refine wp_store_mid 47 (.tmp 29) (.tmp 27) rfl g (k * 44) xs.toArray rfl rfl (unhide HT2) (unhide HIxs2) (unhide HAx) ?_
        refine hK.out _ _ trivial (fun hHeld => ?_)
        clear hK K
        try simp only [Act.put]
        refine wpAnyH_done (by kernel_rfl) ?_ _
        go_wp2_with fail
        go_roundg (N - (i + 1))
        case measure => omega
        case rel => exact ⟨i + 1, _, by go_num, by omega, by omega, P2⟩
    · have hge : ¬ (i : Int) < (N : Int) / 2 := by omega
      go_wp2_with fail
      go_end0
      exact ⟨rfl, rows, unhide HA⟩
end Go.Proofs.Ytodlmbhlinpoeaa
