import Derived.Test.YtnkdkgeblemlbaaDoorUmJM
import Derived.Test.YtnkdkgeblemlbaaDoorVmN
namespace Go.Proofs.YtnkdkgeblemlbaaDoor
open Go.RowKit Go.Maps Go.Shelf

/-- WHAT COUNTS OF A PACKAGE. -/
def pdK (p : Pk) : Pd := ⟨[], p.nm, p.vr, .slice none 0 0, p.pv⟩
theorem any_same {f : Pd → Bool} (hf : ∀ a b, same3 a b → f a = f b) : ∀ (xs ys : List Pd), xs.length = ys.length → (∀ (i : Nat) (a b : Pd), xs[i]? = some a → ys[i]? = some b → same3 a b) → xs.any f = ys.any f
  | [], [], _, _ => rfl
  | [], _ :: _, h, _ => by simp at h
  | _ :: _, [], h, _ => by simp at h
  | a :: xs, b :: ys, h, hs => by
    rw [List.any_cons, List.any_cons, hf a b (hs 0 a b rfl rfl), any_same hf xs ys (by simpa using h) fun i x y hx hy => hs (i + 1) x y (by simpa using hx) (by simpa using hy)]
theorem wantP_same {xs ys : List Pd} (h : xs.length = ys.length) (hs : ∀ (i : Nat) (a b : Pd), xs[i]? = some a → ys[i]? = some b → same3 a b) (kd : Int) (an : Nm) (op : Int) (bd : ByteArray) : wantP xs kd an op bd = wantP ys kd an op bd := by
  unfold wantP
  rw [any_same (f := fun q => meetsA an op bd q.nm q.vr q.pl) (fun a b e => by rw [e.1, e.2.1, e.2.2]) xs ys h hs, any_same (f := fun q => q.nm.toList == an.toList && fitsA op bd q.vr) (fun a b e => by rw [e.1, e.2.1]) xs ys h hs]
theorem unL_same {xs ys : List Pd} (h : xs.length = ys.length) (hs : ∀ (i : Nat) (a b : Pd), xs[i]? = some a → ys[i]? = some b → same3 a b) (ws : List Wd) : ∀ n, unL xs ws n = unL ys ws n
  | 0 => rfl
  | n + 1 => by
    unfold unL
    rw [unL_same h hs ws n]
    cases ws[n]? with
    | none => rfl
    | some x => simp only; unfold Wd.ok; rw [wantP_same h hs]
/-- PACKAGES OF SIZES THAT WILL DO. -/
structure SmK (ps : List Pk) : Prop where
  l : ps.length ≤ 1000000000
  t : (ps.map fun p => p.pv.length).sum ≤ 1000000000
  z : ∀ p ∈ ps, p.nm.size ≤ maxLen ∧ p.vr.size ≤ maxLen ∧ ∀ n ∈ p.pv, n.size ≤ maxLen
theorem totP_le {xs : List Pd} {ps : List Pk} (h : ∀ (i : Nat) (x : Pd) (p : Pk), xs[i]? = some x → ps[i]? = some p → x.nm = p.nm ∧ x.vr = p.vr ∧ x.pl = p.pv) (hl : xs.length = ps.length) : ∀ n, totP xs n ≤ ((ps.take n).map fun p => p.pv.length).sum
  | 0 => Nat.zero_le _
  | n + 1 => by
    have ih := totP_le h hl n
    rw [List.take_add_one, List.map_append, List.sum_append]
    unfold totP
    cases e : xs[n]? with
    | none => simp only; omega
    | some x =>
      obtain ⟨p, hp⟩ : ∃ p, ps[n]? = some p := ⟨_, List.getElem?_eq_getElem (by rw [← hl]; exact (List.getElem?_eq_some_iff.1 e).1)⟩
      rw [hp]
      have e3 : ((some p).toList.map fun p => p.pv.length).sum = p.pv.length := by simp
      rw [e3]
      simp only
      rw [(h n x p e hp).2.2]
      omega
theorem sm_of {xs : List Pd} {ps : List Pk} (h : ∀ (i : Nat) (x : Pd) (p : Pk), xs[i]? = some x → ps[i]? = some p → x.nm = p.nm ∧ x.vr = p.vr ∧ x.pl = p.pv) (hl : xs.length = ps.length) (sm : SmK ps) : Sm xs := by
  refine ⟨by rw [hl]; exact sm.l, ?_, fun q hq => ?_⟩
  · have := totP_le h hl xs.length
    rw [hl, List.take_length] at this
    rw [hl]
    exact Nat.le_trans this sm.t
  · obtain ⟨i, hi, e⟩ := List.getElem_of_mem hq
    have e2 : xs[i]? = some q := by rw [List.getElem?_eq_getElem hi, e]
    have hp : ps[i]? = some ps[i] := List.getElem?_eq_getElem (by omega)
    have hh := h i q _ e2 hp
    have hz := sm.z _ (List.mem_of_getElem? hp)
    rw [hh.1, hh.2.2]
    exact ⟨hz.1, hz.2.2⟩
/-- WHICH WISHES ARE NOT MET. -/
def unK (ps : List Pk) (ws : List Wd) : List Nat := unL (ps.map pdK) ws ws.length
theorem unK_len (ps : List Pk) (ws : List Wd) : (unK ps ws).length ≤ ws.length := unL_len _ _ _
theorem un_two {w : World} {v : Value} {ps : List Pk} (h : Pkl w v ps) (sm : SmK ps) (X : World) (hb : RowKit.Below w.heap.size w X) {wa : Option Addr} {ws : List Wd} (wcap : Nat) (hw : Wis X wa ws) (hok : ∀ x ∈ ws, WdOk x) (hl : ws.length ≤ 1099511627776) :
    (Calls Tryd.prog 6 #[v, .slice wa ws.length wcap] X fun e w' => ∃ r, e = .returned r ∧ w'.ownsRow X.heap.size 3 1 r (unK ps ws).length (ints (unK ps ws)) ∧ RowKit.Below X.heap.size X w') ∧
    (Calls Tryd.prog 5 #[v, .slice wa ws.length wcap] X fun e w' => ∃ r, e = .returned r ∧ w'.ownsRow X.heap.size 3 1 r (unK ps ws).length (ints (unK ps ws)) ∧ RowKit.Below X.heap.size X w') := by
  obtain ⟨xs, hx, hlen, hs⟩ := pks_of h fun p hp => (sm.z p hp).2.1
  have e : unL xs ws ws.length = unK ps ws := unL_same (by rw [hlen, List.length_map]) (fun i a b ha hb' => by
    rw [List.getElem?_map] at hb'
    cases hp : ps[i]? with
    | none => rw [hp] at hb'; cases hb'
    | some p =>
      rw [hp] at hb'
      cases hb'
      exact hs i a p ha hp) ws _
  have s := sm_of hs hlen sm
  rw [← e]
  exact ⟨Unmet_any wcap (hx.later hb) s hw hok hl, rUnmet_any wcap (hx.later hb) s.l hw hok hl⟩
theorem SmK.zz {ps : List Pk} (h : SmK ps) (i : Nat) {p : Pk} (hp : ps[i]? = some p) : SmK (ps.set i (zzP p)) := by
  have hm := List.mem_of_getElem? hp
  refine ⟨by rw [List.length_set]; exact h.l, ?_, fun q hq => ?_⟩
  · have : (ps.set i (zzP p)).map (fun p => p.pv.length) = ps.map fun p => p.pv.length := by
      apply List.ext_getElem?
      intro j
      rw [List.getElem?_map, List.getElem?_map]
      by_cases e : i = j
      · subst e
        rw [List.getElem?_set_self (List.getElem?_eq_some_iff.1 hp).1, hp]
        rfl
      · rw [List.getElem?_set_ne e]
    rw [this]
    exact h.t
  · rcases List.mem_or_eq_of_mem_set hq with hq | rfl
    · exact h.z q hq
    · exact ⟨by show 2 ≤ maxLen; unfold maxLen; omega, (h.z p hm).2.1, (h.z p hm).2.2⟩
end Go.Proofs.YtnkdkgeblemlbaaDoor
namespace Go.Proofs.YtnkdkgeblemlbaaDoor
open Go.RowKit Go.Maps Go.Shelf

theorem infoW : (Tryd.prog.info? 28).map (fun i => (i.zero, i.size, i.bytes)) = some (some (.agg #[.int .i64 0, .string ⟨#[]⟩, .int .i64 0, .string ⟨#[]⟩]), 4, 48) := by kernel_rfl
theorem infoW4 : (Tryd.prog.info? 28).map (·.size) = some 4 := by kernel_rfl
theorem makeW (n : Nat) (hn : n ≤ 1099511627776) (u : World) : (Instr.makeSlice 23 (.int .i64 ((n : Int) + 1)) (.int .i64 ((n : Int) + 1))).run Tryd.prog u =
    .ok (.slice (some ⟨u.heap.size, 0, none⟩) (n + 1) (n + 1)) (u.alloc (.cells (madeCells #[.int .i64 0, .string ⟨#[]⟩, .int .i64 0, .string ⟨#[]⟩] ((n + 1) * 4)) 28)) := by
  obtain ⟨i0, hi, hz0, hz1, hz2⟩ := info_parts2 infoW
  have h := run_make (P := Tryd.prog) u 23 28 i0 (.agg #[.int .i64 0, .string ⟨#[]⟩, .int .i64 0, .string ⟨#[]⟩]) Tryd.underlying23 hi hz0 .i64 .i64 ((n : Int) + 1) ((n : Int) + 1) (by omega) (Int.le_refl _) (by rw [hz2]; omega) (by omega)
  have e : ((n : Int) + 1).toNat = n + 1 := by omega
  rw [e] at h
  simpa [hz1, Value.cells] using h
def flW (ws : List Wd) : List Value := (ws.map Wd.cs).flatten
theorem flW_len (ws : List Wd) : (flW ws).length = ws.length * 4 := by
  have := flat_lenm 4 (ws.map Wd.cs) (fun r hr => by obtain ⟨x, _, rfl⟩ := List.mem_map.1 hr; rfl)
  rw [List.length_map] at this
  exact this
theorem flW_get (ws : List Wd) (j : Nat) : (flW ws)[j]? = (ws[j / 4]?).bind fun x => x.cs[j % 4]? := by
  have := flat_get 4 (by omega) (ws.map Wd.cs) (fun r hr => by obtain ⟨x, _, rfl⟩ := List.mem_map.1 hr; rfl) j
  unfold flW
  rw [this, List.getElem?_map]
  cases ws[j / 4]? <;> rfl
theorem copy_wis (ws : List Wd) (a : Option Addr) (xc : Nat) (ty : TypeId) (C c : Nat) (u : World) (h : Wis u a ws) (hs : ∀ j, j < ws.length * 4 → (u.cell? ⟨C, j, none⟩).isSome = true) (hf : ∀ j, u.frozen? ⟨C, j, none⟩ = false) :
    ∃ v', (Builtin.copy_ #[23, 23] ty #[.slice (some ⟨C, 0, none⟩) (ws.length + 1) c, .slice a ws.length xc]).run Tryd.prog u = .ok v' (u.setCells C 0 (flW ws)) := by
  have hlen := flW_len ws
  cases ws with
  | nil =>
    exact ⟨goInt 0, run_copy_nothing (P := Tryd.prog) u 23 23 ty 28 (some ⟨C, 0, none⟩) a 4 _ c xc Tryd.underlying23 infoW4⟩
  | cons y l =>
    obtain ⟨b, o, rfl, _, hc⟩ := h (by simp)
    refine ⟨_, run_copy_many (P := Tryd.prog) u 23 23 ty 28 4 C 0 _ c ⟨b, o, none⟩ _ xc (flW (y :: l)) Tryd.underlying23 infoW4 ?_ ?_ ?_ ?_ ?_⟩
    · have e : Nat.min (y :: l).length ((y :: l).length + 1) = (y :: l).length := Nat.min_eq_left (Nat.le_succ _)
      rw [hlen, e]
    · intro j v hj
      rw [Addr.add_mid]
      rw [flW_get] at hj
      obtain ⟨r, hr, hv⟩ := Option.bind_eq_some_iff.1 hj
      have := hc (j / 4) r hr (j % 4) v hv
      rw [show o + j = o + j / 4 * 4 + j % 4 by omega]
      exact this
    · intro j hj
      rw [Nat.zero_add]
      exact hs j (by rw [hlen] at hj; exact hj)
    · intro j _
      exact hf _
    · intro v hv
      obtain ⟨r, hr, hv⟩ := List.mem_flatten.1 hv
      obtain ⟨x, _, rfl⟩ := List.mem_map.1 hr
      simp at hv
      rcases hv with rfl | rfl | rfl | rfl <;> rfl
/-- WISHES IN A BLOCK OF THEIR OWN, THE MARK BEHIND THEM. -/
structure Wk (W : World) (B : Nat) (ws : List Wd) : Prop where
  el : ∀ (i : Nat) (x : Wd), ws[i]? = some x → W.rangeAt B (i * 4) x.cs
  mrk : W.cell? ⟨B, ws.length * 4, none⟩ = some (.int .i64 99)
  fr : ∀ j, W.frozen? ⟨B, j, none⟩ = false
  lt : B < W.heap.size
theorem Wk.wis {W : World} {B : Nat} {ws : List Wd} (h : Wk W B ws) : Wis W (some ⟨B, 0, none⟩) ws := fun _ => ⟨B, 0, rfl, h.lt, fun i x hx => by rw [Nat.zero_add]; exact h.el i x hx⟩
theorem Wk.same {W W2 : World} {B : Nat} {ws : List Wd} (h : Wk W B ws) (hb : W2.heap[B]? = W.heap[B]?) : Wk W2 B ws := by
  have hc : ∀ j, W2.cell? ⟨B, j, none⟩ = W.cell? ⟨B, j, none⟩ := fun j => World.cell?_of_block hb
  have hf : ∀ j, W2.frozen? ⟨B, j, none⟩ = W.frozen? ⟨B, j, none⟩ := fun j => World.frozen?_of_block hb
  refine ⟨fun i x hx j v hv => (hc _).trans (h.el i x hx j v hv), (hc _).trans h.mrk, fun j => (hf j).trans (h.fr j), ?_⟩
  by_cases q : B < W2.heap.size
  · exact q
  · have h1 : W2.heap[B]? = none := Array.getElem?_eq_none (by omega)
    rw [h1] at hb
    have h2 := Array.getElem?_eq_none_iff.1 hb.symm
    have := h.lt
    omega
theorem Wk.later {W W2 : World} {B : Nat} {ws : List Wd} (h : Wk W B ws) (hb : RowKit.Below W.heap.size W W2) : Wk W2 B ws := h.same (hb.block B h.lt)
theorem Wk.cells {W : World} {B : Nat} {ws : List Wd} (h : Wk W B ws) {i : Nat} {x : Wd} (hx : ws[i]? = some x) : W.cell? ⟨B, i * 4, none⟩ = some (.int .i64 x.kd) ∧ W.cell? ⟨B, i * 4 + 1, none⟩ = some (.string x.an) ∧ W.cell? ⟨B, i * 4 + 2, none⟩ = some (.int .i64 x.op) ∧ W.cell? ⟨B, i * 4 + 3, none⟩ = some (.string x.bd) :=
  ⟨h.el i x hx 0 _ rfl, h.el i x hx 1 _ rfl, h.el i x hx 2 _ rfl, h.el i x hx 3 _ rfl⟩
/-- A KIND TURNED OVER. -/
def ngW (x : Wd) : Wd := { x with kd := wrap64 (1 - x.kd) }
def ngs (ws : List Wd) (i : Nat) : List Wd := (ws.take i).map ngW ++ ws.drop i
theorem ngs_len (ws : List Wd) (i : Nat) : (ngs ws i).length = ws.length := by
  unfold ngs
  rw [List.length_append, List.length_map, List.length_take, List.length_drop]
  omega
theorem ngs_at {ws : List Wd} {i : Nat} (hi : i < ws.length) : (ngs ws i)[i]? = ws[i]? := by
  unfold ngs
  rw [List.getElem?_append_right (by rw [List.length_map, List.length_take]; omega), List.length_map, List.length_take, List.getElem?_drop]
  congr 1
  omega
theorem ngs_next {ws : List Wd} {i : Nat} {x : Wd} (hx : ws[i]? = some x) : ngs ws (i + 1) = (ngs ws i).set i (ngW x) := by
  have hi := (List.getElem?_eq_some_iff.1 hx).1
  apply List.ext_getElem?
  intro j
  by_cases e : i = j
  · subst e
    rw [List.getElem?_set_self (by rw [ngs_len]; exact hi)]
    unfold ngs
    rw [List.getElem?_append_left (by rw [List.length_map, List.length_take]; omega), List.getElem?_map, List.getElem?_take, if_pos (by omega), hx]
    rfl
  · rw [List.getElem?_set_ne e]
    unfold ngs
    by_cases q : j < i
    · rw [List.getElem?_append_left (by rw [List.length_map, List.length_take]; omega), List.getElem?_append_left (by rw [List.length_map, List.length_take]; omega), List.getElem?_map, List.getElem?_map, List.getElem?_take, List.getElem?_take, if_pos (by omega), if_pos (by omega)]
    · rw [List.getElem?_append_right (by rw [List.length_map, List.length_take]; omega), List.getElem?_append_right (by rw [List.length_map, List.length_take]; omega), List.length_map, List.length_map, List.length_take, List.length_take, List.getElem?_drop, List.getElem?_drop]
      congr 1
      omega
theorem ngs_ok {ws : List Wd} (h : ∀ x ∈ ws, WdOk x) (i : Nat) : ∀ x ∈ ngs ws i, WdOk x := fun x hx => by
  unfold ngs at hx
  rcases List.mem_append.1 hx with hx | hx
  · obtain ⟨y, hy, rfl⟩ := List.mem_map.1 hx
    exact h y (List.mem_of_mem_take hy)
  · exact h x (List.mem_of_mem_drop hx)
/-- A WISH WRITTEN OVER. -/
theorem Wk.write {W : World} {B : Nat} {ws : List Wd} (h : Wk W B ws) {i : Nat} (hi : i < ws.length) (y : Wd) :
    Wk ((((W.setCell ⟨B, i * 4, none⟩ (.int .i64 y.kd)).setCell ⟨B, i * 4 + 1, none⟩ (.string y.an)).setCell ⟨B, i * 4 + 2, none⟩ (.int .i64 y.op)).setCell ⟨B, i * 4 + 3, none⟩ (.string y.bd)) B (ws.set i y) := by
  obtain ⟨x, hx⟩ : ∃ x, ws[i]? = some x := ⟨_, List.getElem?_eq_getElem hi⟩
  obtain ⟨z0, z1, z2, z3⟩ := h.cells hx
  have hel : ∀ j, j ≠ i * 4 → j ≠ i * 4 + 1 → j ≠ i * 4 + 2 → j ≠ i * 4 + 3 → ((((W.setCell ⟨B, i * 4, none⟩ (.int .i64 y.kd)).setCell ⟨B, i * 4 + 1, none⟩ (.string y.an)).setCell ⟨B, i * 4 + 2, none⟩ (.int .i64 y.op)).setCell ⟨B, i * 4 + 3, none⟩ (.string y.bd)).cell? ⟨B, j, none⟩ = W.cell? ⟨B, j, none⟩ := fun j h0 h1 h2 h3 => by
    rw [World.cell?_setCell_other _ _ _ _ (off_ne (Ne.symm h3)), World.cell?_setCell_other _ _ _ _ (off_ne (Ne.symm h2)), World.cell?_setCell_other _ _ _ _ (off_ne (Ne.symm h1)), World.cell?_setCell_other _ _ _ _ (off_ne (Ne.symm h0))]
  refine ⟨fun k q hq => ?_, ?_, fun j => ?_, by simpa using h.lt⟩
  · by_cases e : i = k
    · subst e
      rw [List.getElem?_set_self hi] at hq
      cases hq
      intro j v hv
      have hj : j < 4 := (List.getElem?_eq_some_iff.1 hv).1
      rcases (show j = 0 ∨ j = 1 ∨ j = 2 ∨ j = 3 by omega) with rfl | rfl | rfl | rfl <;> cases hv
      · show World.cell? _ ⟨B, i * 4, none⟩ = _
        rw [World.cell?_setCell_other _ _ _ _ (off_ne (by omega)), World.cell?_setCell_other _ _ _ _ (off_ne (by omega)), World.cell?_setCell_other _ _ _ _ (off_ne (by omega))]
        exact World.cell?_setCell_same _ _ _ z0
      · rw [World.cell?_setCell_other _ _ _ _ (off_ne (by omega)), World.cell?_setCell_other _ _ _ _ (off_ne (by omega))]
        exact World.cell?_setCell_same _ _ _ (by rw [World.cell?_setCell_other _ _ _ _ (off_ne (by omega))]; exact z1)
      · rw [World.cell?_setCell_other _ _ _ _ (off_ne (by omega))]
        exact World.cell?_setCell_same _ _ _ (by rw [World.cell?_setCell_other _ _ _ _ (off_ne (by omega)), World.cell?_setCell_other _ _ _ _ (off_ne (by omega))]; exact z2)
      · exact World.cell?_setCell_same _ _ _ (by rw [World.cell?_setCell_other _ _ _ _ (off_ne (by omega)), World.cell?_setCell_other _ _ _ _ (off_ne (by omega)), World.cell?_setCell_other _ _ _ _ (off_ne (by omega))]; exact z3)
    · rw [List.getElem?_set_ne e] at hq
      intro j v hv
      have hj : j < 4 := (List.getElem?_eq_some_iff.1 hv).1
      rw [hel _ (by omega) (by omega) (by omega) (by omega)]
      exact h.el k q hq j v hv
  · rw [List.length_set, hel _ (by omega) (by omega) (by omega) (by omega)]; exact h.mrk
  · rw [World.frozen?_setCell, World.frozen?_setCell, World.frozen?_setCell, World.frozen?_setCell]; exact h.fr j
/-- WHAT make, copy AND THE MARK LEAVE. -/
def w3W (w1 : World) (ws : List Wd) : World := ((w1.alloc (.cells (madeCells #[.int .i64 0, .string ⟨#[]⟩, .int .i64 0, .string ⟨#[]⟩] ((ws.length + 1) * 4)) 28)).setCells w1.heap.size 0 (flW ws))
theorem wk_start (w1 : World) (ws : List Wd) : Wk ((w3W w1 ws).setCell ⟨w1.heap.size, ws.length * 4, none⟩ (.int .i64 99)) w1.heap.size ws ∧ (∃ z, (w3W w1 ws).cell? ⟨w1.heap.size, ws.length * 4, none⟩ = some z) ∧ (w3W w1 ws).frozen? ⟨w1.heap.size, ws.length * 4, none⟩ = false ∧ RowKit.Below w1.heap.size w1 ((w3W w1 ws).setCell ⟨w1.heap.size, ws.length * 4, none⟩ (.int .i64 99)) := by
  have hk := blk_of w1 #[.int .i64 0, .string ⟨#[]⟩, .int .i64 0, .string ⟨#[]⟩] ((ws.length + 1) * 4) 28 (flW ws) (by rw [flW_len]; omega)
  obtain ⟨z, hz⟩ := Option.isSome_iff_exists.1 (hk.spot (ws.length * 4) (by omega))
  refine ⟨⟨fun i x hx j v hv => ?_, World.cell?_setCell_same _ _ _ hz, fun j => ?_, ?_⟩, ⟨z, hz⟩, hk.fr _, ?_⟩
  · have hj : j < 4 := (List.getElem?_eq_some_iff.1 hv).1
    have hi := (List.getElem?_eq_some_iff.1 hx).1
    rw [World.cell?_setCell_other _ _ _ _ (off_ne (by omega))]
    refine hk.elem (i * 4 + j) v ?_
    rw [flW_get, show (i * 4 + j) / 4 = i by omega, show (i * 4 + j) % 4 = j by omega, hx]
    exact hv
  · rw [World.frozen?_setCell]; exact hk.fr j
  · have := hk.lt
    unfold w3W
    simpa using this
  · unfold w3W
    exact (below_setCells w1.heap.size (Nat.le_refl _) (flW ws) 0 _ ((Below.refl w1.heap.size w1).alloc (Nat.le_refl _) _)).setCell (p := ⟨w1.heap.size, _, none⟩) (Nat.le_refl _) _
end Go.Proofs.YtnkdkgeblemlbaaDoor
namespace Go.Proofs.YtnkdkgeblemlbaaDoor
open Go.RowKit Go.Maps Go.Shelf

theorem owns_form {W : World} {base e size n : Nat} {v : Value} {xs : List Value} (h : W.ownsRow base e size v n xs) : ∃ a c, v = .slice a n c := by
  obtain ⟨f, rfl, hn⟩ := slice_hd h
  exact ⟨f.a, f.c, by rw [← hn]; rfl⟩
theorem row_low {W W2 : World} {base e size n : Nat} {v : Value} {xs : List Value} (h : W.ownsRow base e size v n xs) (hb : RowKit.Below W.heap.size W W2) : W2.ownsRow base e size v n xs := own_same h fun b e => hb.block b (World.ownsRow.lt h b e).2
/-- AN ANSWER THAT IS WRITTEN OVER. -/
structure Ra (w wr : World) (v : Value) (n : Nat) : Prop where
  row : ∃ xs, wr.ownsRow 0 3 1 v n xs
  fx : Fx (fun g => v.ownBlock = some g) w wr
theorem Ra.set {w wr : World} {a : Option Addr} {n c i : Nat} (h : Ra w wr (.slice a n c) n) (hi : i < n) (u : Value) : ∃ g, a = some ⟨g, 0, none⟩ ∧ (∃ z, wr.cell? ⟨g, i, none⟩ = some z) ∧ wr.frozen? ⟨g, i, none⟩ = false ∧ Ra w (wr.setCell ⟨g, i, none⟩ u) (.slice a n c) n := by
  obtain ⟨xs, hr⟩ := h.row
  rcases hr.2 with ⟨_, q⟩ | ⟨g, cap, cur, e, hg, hh, h1, h2, h3, h4⟩
  · omega
  · injection e with e _ ec
    subst e
    subst ec
    have hic : i < cur.size := by omega
    refine ⟨g, rfl, ⟨cur[i], ?_⟩, (cell_blk hh i).2, ⟨xs.set i u, by rw [List.length_set]; exact hr.1, .inr ⟨g, c, cur.setIfInBounds i u, rfl, hg, set_blk hh i u, h1, h2, by simpa using h3, ?_⟩⟩, h.fx.set (g := g) rfl i u⟩
    · rw [(cell_blk hh i).1]; exact Array.getElem?_eq_getElem hic
    · rw [Array.toList_setIfInBounds, List.take_set, h4]
/-- THE WISHES WHILE THEY ARE TURNED OVER. -/
structure Rb2 (w wr : World) (B : Nat) (ws : List Wd) : Prop where
  fx : Fx (fun g => g = B) w wr
  wk : Wk wr B ws
theorem Rb2.drew {w wr : World} {B : Nat} {ws : List Wd} (h : Rb2 w wr B ws) : Rb2 w wr.drew B ws := ⟨h.fx.trans (Fx.of (Below.refl _ wr).drew), h.wk.later (Below.refl _ wr).drew⟩
theorem Rb2.write {w wr : World} {B : Nat} {ws : List Wd} (h : Rb2 w wr B ws) {i : Nat} (hi : i < ws.length) (y : Wd) : Rb2 w ((((wr.setCell ⟨B, i * 4, none⟩ (.int .i64 y.kd)).setCell ⟨B, i * 4 + 1, none⟩ (.string y.an)).setCell ⟨B, i * 4 + 2, none⟩ (.int .i64 y.op)).setCell ⟨B, i * 4 + 3, none⟩ (.string y.bd)) B (ws.set i y) :=
  ⟨(((h.fx.set rfl _ _).set rfl _ _).set rfl _ _).set rfl _ _, h.wk.write hi y⟩
/-- WHAT THE LAST LOOP KEEPS. -/
def LpC (w wr : World) (N B : Nat) (wz : List Wd) : Prop := ∃ ps : List Pk, ps.length = N ∧ SmK ps ∧ (∀ p ∈ ps, PkZ p) ∧ PRow w.heap.size wr w.heap.size ps N ∧ RowKit.Below w.heap.size w wr ∧ Wk wr B wz
theorem LpC.write {w wr : World} {N B : Nat} {wz : List Wd} (h : LpC w wr N B wz) (hB : w.heap.size < B) (i : Nat) (hi : i < N) : LpC w (wr.setCell ⟨w.heap.size, i * 43, none⟩ (.string ⟨#[122, 122]⟩)) N B wz := by
  obtain ⟨ps, rfl, sm, hz, hp, hb, hk⟩ := h
  obtain ⟨p, hpi⟩ : ∃ p, ps[i]? = some p := ⟨_, List.getElem?_eq_getElem hi⟩
  have hmem := List.mem_of_getElem? hpi
  refine ⟨ps.set i (zzP p), by simp, sm.zz i hpi, fun q hq => ?_, hp.name hi (Nat.le_refl _) hpi, hb.setCell (p := ⟨w.heap.size, _, none⟩) (Nat.le_refl _) _, hk.same (set_other wr w.heap.size (i * 43) _ B (by omega))⟩
  rcases List.mem_or_eq_of_mem_set hq with hq | rfl
  · exact hz q hq
  · exact zzP_ok (hz p hmem)
theorem LpC.spot {w wr : World} {N B : Nat} {wz : List Wd} (h : LpC w wr N B wz) (i : Nat) (hi : i < N) : (∃ z, wr.cell? ⟨w.heap.size, i * 43, none⟩ = some z) ∧ wr.frozen? ⟨w.heap.size, i * 43, none⟩ = false := by
  obtain ⟨ps, rfl, _, _, hp, _⟩ := h
  exact ⟨Option.isSome_iff_exists.1 (hp.spot _ (by omega)), hp.fr _⟩
end Go.Proofs.YtnkdkgeblemlbaaDoor
