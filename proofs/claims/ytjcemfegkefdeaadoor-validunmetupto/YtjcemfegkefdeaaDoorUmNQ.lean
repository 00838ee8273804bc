import Derived.Test.YtjcemfegkefdeaaDoorUmFM
import Derived.Test.YtjcemfegkefdeaaDoorVmN
import Derived.IntWalk
namespace Go.Proofs.YtjcemfegkefdeaaDoor
open Go.RowKit Go.Maps Go.Shelf

/-- WHAT COUNTS OF A PACKAGE. -/
def pdK (p : Pk) : Pd := ⟨[], p.nm, p.vr, .slice none 0 0, p.pv⟩
theorem any_same {f : Pd → Bool} (hf : ∀ a b, same3 a b → f a = f b) : ∀ (xs ys : List Pd), xs.length = ys.length → (∀ (i : Nat) (a b : Pd), xs[i]? = some a → ys[i]? = some b → same3 a b) → xs.any f = ys.any f
  | [], [], _, _ => rfl
  | [], _ :: _, h, _ => by simp at h
  | _ :: _, [], h, _ => by simp at h
  | a :: xs, b :: ys, h, hs => by
    rw [List.any_cons, List.any_cons, hf a b (hs 0 a b rfl rfl), any_same hf xs ys (by simpa using h) fun i x y hx hy => hs (i + 1) x y (by simpa using hx) (by simpa using hy)]
theorem wantP_same {xs ys : List Pd} (h : xs.length = ys.length) (hs : ∀ (i : Nat) (a b : Pd), xs[i]? = some a → ys[i]? = some b → same3 a b) (kd : Int) (an : Nm) (op : Int) (bd : ByteArray) : wantP xs kd an op bd = wantP ys kd an op bd := by
  unfold wantP
  rw [any_same (f := fun q => meetsA an op bd q.nm q.vr q.pl) (fun a b e => by rw [e.1, e.2.1, e.2.2]) xs ys h hs, any_same (f := fun q => q.nm.toList == an.toList && fitsA op bd q.vr) (fun a b e => by rw [e.1, e.2.1]) xs ys h hs]
theorem unL_same {xs ys : List Pd} (h : xs.length = ys.length) (hs : ∀ (i : Nat) (a b : Pd), xs[i]? = some a → ys[i]? = some b → same3 a b) (ws : List Wd) : ∀ n, unL xs ws n = unL ys ws n
  | 0 => rfl
  | n + 1 => by
    unfold unL
    rw [unL_same h hs ws n]
    cases ws[n]? with
    | none => rfl
    | some x => simp only; unfold Wd.ok; rw [wantP_same h hs]
/-- PACKAGES OF SIZES THAT WILL DO. -/
structure SmK (ps : List Pk) : Prop where
  l : ps.length ≤ 1000000000
  t : (ps.map fun p => p.pv.length).sum ≤ 1000000000
  z : ∀ p ∈ ps, p.nm.size ≤ maxLen ∧ p.vr.size ≤ maxLen ∧ ∀ n ∈ p.pv, n.size ≤ maxLen
theorem totP_le {xs : List Pd} {ps : List Pk} (h : ∀ (i : Nat) (x : Pd) (p : Pk), xs[i]? = some x → ps[i]? = some p → x.nm = p.nm ∧ x.vr = p.vr ∧ x.pl = p.pv) (hl : xs.length = ps.length) : ∀ n, totP xs n ≤ ((ps.take n).map fun p => p.pv.length).sum
  | 0 => Nat.zero_le _
  | n + 1 => by
    have ih := totP_le h hl n
    rw [List.take_add_one, List.map_append, List.sum_append]
    unfold totP
    cases e : xs[n]? with
    | none => simp only; omega
    | some x =>
      obtain ⟨p, hp⟩ : ∃ p, ps[n]? = some p := ⟨_, List.getElem?_eq_getElem (by rw [← hl]; exact (List.getElem?_eq_some_iff.1 e).1)⟩
      rw [hp]
      have e3 : ((some p).toList.map fun p => p.pv.length).sum = p.pv.length := by simp
      rw [e3]
      simp only
      rw [(h n x p e hp).2.2]
      omega
theorem sm_of {xs : List Pd} {ps : List Pk} (h : ∀ (i : Nat) (x : Pd) (p : Pk), xs[i]? = some x → ps[i]? = some p → x.nm = p.nm ∧ x.vr = p.vr ∧ x.pl = p.pv) (hl : xs.length = ps.length) (sm : SmK ps) : Sm xs := by
  refine ⟨by rw [hl]; exact sm.l, ?_, fun q hq => ?_⟩
  · have := totP_le h hl xs.length
    rw [hl, List.take_length] at this
    rw [hl]
    exact Nat.le_trans this sm.t
  · obtain ⟨i, hi, e⟩ := List.getElem_of_mem hq
    have e2 : xs[i]? = some q := by rw [List.getElem?_eq_getElem hi, e]
    have hp : ps[i]? = some ps[i] := List.getElem?_eq_getElem (by omega)
    have hh := h i q _ e2 hp
    have hz := sm.z _ (List.mem_of_getElem? hp)
    rw [hh.1, hh.2.2]
    exact ⟨hz.1, hz.2.2⟩
/-- WHICH WISHES ARE NOT MET. -/
def unK (ps : List Pk) (ws : List Wd) : List Nat := unL (ps.map pdK) ws ws.length
theorem unK_len (ps : List Pk) (ws : List Wd) : (unK ps ws).length ≤ ws.length := unL_len _ _ _
theorem un_two {w : World} {v : Value} {ps : List Pk} (h : Pkl w v ps) (sm : SmK ps) (X : World) (hb : RowKit.Below w.heap.size w X) {wa : Option Addr} {ws : List Wd} (wcap : Nat) (hw : Wis X wa ws) (hok : ∀ x ∈ ws, WdOk x) (hl : ws.length ≤ 1099511627776) :
    (Calls Tryd.prog 6 #[v, .slice wa ws.length wcap] X fun e w' => ∃ r, e = .returned r ∧ w'.ownsRow X.heap.size 3 1 r (unK ps ws).length (ints (unK ps ws)) ∧ RowKit.Below X.heap.size X w') ∧
    (Calls Tryd.prog 5 #[v, .slice wa ws.length wcap] X fun e w' => ∃ r, e = .returned r ∧ w'.ownsRow X.heap.size 3 1 r (unK ps ws).length (ints (unK ps ws)) ∧ RowKit.Below X.heap.size X w') := by
  obtain ⟨xs, hx, hlen, hs⟩ := pks_of h fun p hp => (sm.z p hp).2.1
  have e : unL xs ws ws.length = unK ps ws := unL_same (by rw [hlen, List.length_map]) (fun i a b ha hb' => by
    rw [List.getElem?_map] at hb'
    cases hp : ps[i]? with
    | none => rw [hp] at hb'; cases hb'
    | some p =>
      rw [hp] at hb'
      cases hb'
      exact hs i a p ha hp) ws _
  have s := sm_of hs hlen sm
  rw [← e]
  exact ⟨Unmet_any wcap (hx.later hb) s hw hok hl, rUnmet_any wcap (hx.later hb) s.l hw hok hl⟩
theorem SmK.zz {ps : List Pk} (h : SmK ps) (i : Nat) {p : Pk} (hp : ps[i]? = some p) : SmK (ps.set i (zzP p)) := by
  have hm := List.mem_of_getElem? hp
  refine ⟨by rw [List.length_set]; exact h.l, ?_, fun q hq => ?_⟩
  · have : (ps.set i (zzP p)).map (fun p => p.pv.length) = ps.map fun p => p.pv.length := by
      apply List.ext_getElem?
      intro j
      rw [List.getElem?_map, List.getElem?_map]
      by_cases e : i = j
      · subst e
        rw [List.getElem?_set_self (List.getElem?_eq_some_iff.1 hp).1, hp]
        rfl
      · rw [List.getElem?_set_ne e]
    rw [this]
    exact h.t
  · rcases List.mem_or_eq_of_mem_set hq with hq | rfl
    · exact h.z q hq
    · exact ⟨by show 2 ≤ maxLen; unfold maxLen; omega, (h.z p hm).2.1, (h.z p hm).2.2⟩
end Go.Proofs.YtjcemfegkefdeaaDoor
namespace Go.Proofs.YtjcemfegkefdeaaDoor
open Go.RowKit Go.Maps Go.Shelf

theorem infoW : (Tryd.prog.info? 28).map (fun i => (i.zero, i.size, i.bytes)) = some (some (.agg #[.int .i64 0, .string ⟨#[]⟩, .int .i64 0, .string ⟨#[]⟩]), 4, 48) := by kernel_rfl
theorem infoW4 : (Tryd.prog.info? 28).map (·.size) = some 4 := by kernel_rfl
theorem makeW (n : Nat) (hn : n ≤ 1099511627776) (u : World) : (Instr.makeSlice 23 (.int .i64 ((n : Int) + 1)) (.int .i64 ((n : Int) + 1))).run Tryd.prog u =
    .ok (.slice (some ⟨u.heap.size, 0, none⟩) (n + 1) (n + 1)) (u.alloc (.cells (madeCells #[.int .i64 0, .string ⟨#[]⟩, .int .i64 0, .string ⟨#[]⟩] ((n + 1) * 4)) 28)) := by
  obtain ⟨i0, hi, hz0, hz1, hz2⟩ := info_parts2 infoW
  have h := run_make (P := Tryd.prog) u 23 28 i0 (.agg #[.int .i64 0, .string ⟨#[]⟩, .int .i64 0, .string ⟨#[]⟩]) Tryd.underlying23 hi hz0 .i64 .i64 ((n : Int) + 1) ((n : Int) + 1) (by omega) (Int.le_refl _) (by rw [hz2]; omega) (by omega)
  have e : ((n : Int) + 1).toNat = n + 1 := by omega
  rw [e] at h
  simpa [hz1, Value.cells] using h
def flW (ws : List Wd) : List Value := (ws.map Wd.cs).flatten
theorem flW_len (ws : List Wd) : (flW ws).length = ws.length * 4 := by
  have := flat_lenm 4 (ws.map Wd.cs) (fun r hr => by obtain ⟨x, _, rfl⟩ := List.mem_map.1 hr; rfl)
  rw [List.length_map] at this
  exact this
theorem flW_get (ws : List Wd) (j : Nat) : (flW ws)[j]? = (ws[j / 4]?).bind fun x => x.cs[j % 4]? := by
  have := flat_get 4 (by omega) (ws.map Wd.cs) (fun r hr => by obtain ⟨x, _, rfl⟩ := List.mem_map.1 hr; rfl) j
  unfold flW
  rw [this, List.getElem?_map]
  cases ws[j / 4]? <;> rfl
theorem copy_wis (ws : List Wd) (a : Option Addr) (xc : Nat) (ty : TypeId) (C c : Nat) (u : World) (h : Wis u a ws) (hs : ∀ j, j < ws.length * 4 → (u.cell? ⟨C, j, none⟩).isSome = true) (hf : ∀ j, u.frozen? ⟨C, j, none⟩ = false) :
    ∃ v', (Builtin.copy_ #[23, 23] ty #[.slice (some ⟨C, 0, none⟩) (ws.length + 1) c, .slice a ws.length xc]).run Tryd.prog u = .ok v' (u.setCells C 0 (flW ws)) := by
  have hlen := flW_len ws
  cases ws with
  | nil =>
    exact ⟨goInt 0, run_copy_nothing (P := Tryd.prog) u 23 23 ty 28 (some ⟨C, 0, none⟩) a 4 _ c xc Tryd.underlying23 infoW4⟩
  | cons y l =>
    obtain ⟨b, o, rfl, _, hc⟩ := h (by simp)
    refine ⟨_, run_copy_many (P := Tryd.prog) u 23 23 ty 28 4 C 0 _ c ⟨b, o, none⟩ _ xc (flW (y :: l)) Tryd.underlying23 infoW4 ?_ ?_ ?_ ?_ ?_⟩
    · have e : Nat.min (y :: l).length ((y :: l).length + 1) = (y :: l).length := Nat.min_eq_left (Nat.le_succ _)
      rw [hlen, e]
    · intro j v hj
      rw [Addr.add_mid]
      rw [flW_get] at hj
      obtain ⟨r, hr, hv⟩ := Option.bind_eq_some_iff.1 hj
      have := hc (j / 4) r hr (j % 4) v hv
      rw [show o + j = o + j / 4 * 4 + j % 4 by omega]
      exact this
    · intro j hj
      rw [Nat.zero_add]
      exact hs j (by rw [hlen] at hj; exact hj)
    · intro j _
      exact hf _
    · intro v hv
      obtain ⟨r, hr, hv⟩ := List.mem_flatten.1 hv
      obtain ⟨x, _, rfl⟩ := List.mem_map.1 hr
      simp at hv
      rcases hv with rfl | rfl | rfl | rfl <;> rfl
/-- WISHES IN A BLOCK OF THEIR OWN, THE MARK BEHIND THEM. -/
structure Wk (W : World) (B : Nat) (ws : List Wd) : Prop where
  el : ∀ (i : Nat) (x : Wd), ws[i]? = some x → W.rangeAt B (i * 4) x.cs
  mrk : W.cell? ⟨B, ws.length * 4, none⟩ = some (.int .i64 99)
  fr : ∀ j, W.frozen? ⟨B, j, none⟩ = false
  lt : B < W.heap.size
theorem Wk.wis {W : World} {B : Nat} {ws : List Wd} (h : Wk W B ws) : Wis W (some ⟨B, 0, none⟩) ws := fun _ => ⟨B, 0, rfl, h.lt, fun i x hx => by rw [Nat.zero_add]; exact h.el i x hx⟩
theorem Wk.same {W W2 : World} {B : Nat} {ws : List Wd} (h : Wk W B ws) (hb : W2.heap[B]? = W.heap[B]?) : Wk W2 B ws := by
  have hc : ∀ j, W2.cell? ⟨B, j, none⟩ = W.cell? ⟨B, j, none⟩ := fun j => World.cell?_of_block hb
  have hf : ∀ j, W2.frozen? ⟨B, j, none⟩ = W.frozen? ⟨B, j, none⟩ := fun j => World.frozen?_of_block hb
  refine ⟨fun i x hx j v hv => (hc _).trans (h.el i x hx j v hv), (hc _).trans h.mrk, fun j => (hf j).trans (h.fr j), ?_⟩
  by_cases q : B < W2.heap.size
  · exact q
  · have h1 : W2.heap[B]? = none := Array.getElem?_eq_none (by omega)
    rw [h1] at hb
    have h2 := Array.getElem?_eq_none_iff.1 hb.symm
    have := h.lt
    omega
theorem Wk.later {W W2 : World} {B : Nat} {ws : List Wd} (h : Wk W B ws) (hb : RowKit.Below W.heap.size W W2) : Wk W2 B ws := h.same (hb.block B h.lt)
theorem Wk.cells {W : World} {B : Nat} {ws : List Wd} (h : Wk W B ws) {i : Nat} {x : Wd} (hx : ws[i]? = some x) : W.cell? ⟨B, i * 4, none⟩ = some (.int .i64 x.kd) ∧ W.cell? ⟨B, i * 4 + 1, none⟩ = some (.string x.an) ∧ W.cell? ⟨B, i * 4 + 2, none⟩ = some (.int .i64 x.op) ∧ W.cell? ⟨B, i * 4 + 3, none⟩ = some (.string x.bd) :=
  ⟨h.el i x hx 0 _ rfl, h.el i x hx 1 _ rfl, h.el i x hx 2 _ rfl, h.el i x hx 3 _ rfl⟩
/-- A KIND TURNED OVER. -/
def ngW (x : Wd) : Wd := { x with kd := wrap64 (1 - x.kd) }
def ngs (ws : List Wd) (i : Nat) : List Wd := (ws.take i).map ngW ++ ws.drop i
theorem ngs_len (ws : List Wd) (i : Nat) : (ngs ws i).length = ws.length := by
  unfold ngs
  rw [List.length_append, List.length_map, List.length_take, List.length_drop]
  omega
theorem ngs_at {ws : List Wd} {i : Nat} (hi : i < ws.length) : (ngs ws i)[i]? = ws[i]? := by
  unfold ngs
  rw [List.getElem?_append_right (by rw [List.length_map, List.length_take]; omega), List.length_map, List.length_take, List.getElem?_drop]
  congr 1
  omega
theorem ngs_next {ws : List Wd} {i : Nat} {x : Wd} (hx : ws[i]? = some x) : ngs ws (i + 1) = (ngs ws i).set i (ngW x) := by
  have hi := (List.getElem?_eq_some_iff.1 hx).1
  apply List.ext_getElem?
  intro j
  by_cases e : i = j
  · subst e
    rw [List.getElem?_set_self (by rw [ngs_len]; exact hi)]
    unfold ngs
    rw [List.getElem?_append_left (by rw [List.length_map, List.length_take]; omega), List.getElem?_map, List.getElem?_take, if_pos (by omega), hx]
    rfl
  · rw [List.getElem?_set_ne e]
    unfold ngs
    by_cases q : j < i
    · rw [List.getElem?_append_left (by rw [List.length_map, List.length_take]; omega), List.getElem?_append_left (by rw [List.length_map, List.length_take]; omega), List.getElem?_map, List.getElem?_map, List.getElem?_take, List.getElem?_take, if_pos (by omega), if_pos (by omega)]
    · rw [List.getElem?_append_right (by rw [List.length_map, List.length_take]; omega), List.getElem?_append_right (by rw [List.length_map, List.length_take]; omega), List.length_map, List.length_map, List.length_take, List.length_take, List.getElem?_drop, List.getElem?_drop]
      congr 1
      omega
theorem ngs_ok {ws : List Wd} (h : ∀ x ∈ ws, WdOk x) (i : Nat) : ∀ x ∈ ngs ws i, WdOk x := fun x hx => by
  unfold ngs at hx
  rcases List.mem_append.1 hx with hx | hx
  · obtain ⟨y, hy, rfl⟩ := List.mem_map.1 hx
    exact h y (List.mem_of_mem_take hy)
  · exact h x (List.mem_of_mem_drop hx)
/-- A WISH WRITTEN OVER. -/
theorem Wk.write {W : World} {B : Nat} {ws : List Wd} (h : Wk W B ws) {i : Nat} (hi : i < ws.length) (y : Wd) :
    Wk ((((W.setCell ⟨B, i * 4, none⟩ (.int .i64 y.kd)).setCell ⟨B, i * 4 + 1, none⟩ (.string y.an)).setCell ⟨B, i * 4 + 2, none⟩ (.int .i64 y.op)).setCell ⟨B, i * 4 + 3, none⟩ (.string y.bd)) B (ws.set i y) := by
  obtain ⟨x, hx⟩ : ∃ x, ws[i]? = some x := ⟨_, List.getElem?_eq_getElem hi⟩
  obtain ⟨z0, z1, z2, z3⟩ := h.cells hx
  have hel : ∀ j, j ≠ i * 4 → j ≠ i * 4 + 1 → j ≠ i * 4 + 2 → j ≠ i * 4 + 3 → ((((W.setCell ⟨B, i * 4, none⟩ (.int .i64 y.kd)).setCell ⟨B, i * 4 + 1, none⟩ (.string y.an)).setCell ⟨B, i * 4 + 2, none⟩ (.int .i64 y.op)).setCell ⟨B, i * 4 + 3, none⟩ (.string y.bd)).cell? ⟨B, j, none⟩ = W.cell? ⟨B, j, none⟩ := fun j h0 h1 h2 h3 => by
    rw [World.cell?_setCell_other _ _ _ _ (off_ne (Ne.symm h3)), World.cell?_setCell_other _ _ _ _ (off_ne (Ne.symm h2)), World.cell?_setCell_other _ _ _ _ (off_ne (Ne.symm h1)), World.cell?_setCell_other _ _ _ _ (off_ne (Ne.symm h0))]
  refine ⟨fun k q hq => ?_, ?_, fun j => ?_, by simpa using h.lt⟩
  · by_cases e : i = k
    · subst e
      rw [List.getElem?_set_self hi] at hq
      cases hq
      intro j v hv
      have hj : j < 4 := (List.getElem?_eq_some_iff.1 hv).1
      rcases (show j = 0 ∨ j = 1 ∨ j = 2 ∨ j = 3 by omega) with rfl | rfl | rfl | rfl <;> cases hv
      · show World.cell? _ ⟨B, i * 4, none⟩ = _
        rw [World.cell?_setCell_other _ _ _ _ (off_ne (by omega)), World.cell?_setCell_other _ _ _ _ (off_ne (by omega)), World.cell?_setCell_other _ _ _ _ (off_ne (by omega))]
        exact World.cell?_setCell_same _ _ _ z0
      · rw [World.cell?_setCell_other _ _ _ _ (off_ne (by omega)), World.cell?_setCell_other _ _ _ _ (off_ne (by omega))]
        exact World.cell?_setCell_same _ _ _ (by rw [World.cell?_setCell_other _ _ _ _ (off_ne (by omega))]; exact z1)
      · rw [World.cell?_setCell_other _ _ _ _ (off_ne (by omega))]
        exact World.cell?_setCell_same _ _ _ (by rw [World.cell?_setCell_other _ _ _ _ (off_ne (by omega)), World.cell?_setCell_other _ _ _ _ (off_ne (by omega))]; exact z2)
      · exact World.cell?_setCell_same _ _ _ (by rw [World.cell?_setCell_other _ _ _ _ (off_ne (by omega)), World.cell?_setCell_other _ _ _ _ (off_ne (by omega)), World.cell?_setCell_other _ _ _ _ (off_ne (by omega))]; exact z3)
    · rw [List.getElem?_set_ne e] at hq
      intro j v hv
      have hj : j < 4 := (List.getElem?_eq_some_iff.1 hv).1
      rw [hel _ (by omega) (by omega) (by omega) (by omega)]
      exact h.el k q hq j v hv
  · rw [List.length_set, hel _ (by omega) (by omega) (by omega) (by omega)]; exact h.mrk
  · rw [World.frozen?_setCell, World.frozen?_setCell, World.frozen?_setCell, World.frozen?_setCell]; exact h.fr j
/-- WHAT make, copy AND THE MARK LEAVE. -/
def w3W (w1 : World) (ws : List Wd) : World := ((w1.alloc (.cells (madeCells #[.int .i64 0, .string ⟨#[]⟩, .int .i64 0, .string ⟨#[]⟩] ((ws.length + 1) * 4)) 28)).setCells w1.heap.size 0 (flW ws))
theorem wk_start (w1 : World) (ws : List Wd) : Wk ((w3W w1 ws).setCell ⟨w1.heap.size, ws.length * 4, none⟩ (.int .i64 99)) w1.heap.size ws ∧ (∃ z, (w3W w1 ws).cell? ⟨w1.heap.size, ws.length * 4, none⟩ = some z) ∧ (w3W w1 ws).frozen? ⟨w1.heap.size, ws.length * 4, none⟩ = false ∧ RowKit.Below w1.heap.size w1 ((w3W w1 ws).setCell ⟨w1.heap.size, ws.length * 4, none⟩ (.int .i64 99)) := by
  have hk := blk_of w1 #[.int .i64 0, .string ⟨#[]⟩, .int .i64 0, .string ⟨#[]⟩] ((ws.length + 1) * 4) 28 (flW ws) (by rw [flW_len]; omega)
  obtain ⟨z, hz⟩ := Option.isSome_iff_exists.1 (hk.spot (ws.length * 4) (by omega))
  refine ⟨⟨fun i x hx j v hv => ?_, World.cell?_setCell_same _ _ _ hz, fun j => ?_, ?_⟩, ⟨z, hz⟩, hk.fr _, ?_⟩
  · have hj : j < 4 := (List.getElem?_eq_some_iff.1 hv).1
    have hi := (List.getElem?_eq_some_iff.1 hx).1
    rw [World.cell?_setCell_other _ _ _ _ (off_ne (by omega))]
    refine hk.elem (i * 4 + j) v ?_
    rw [flW_get, show (i * 4 + j) / 4 = i by omega, show (i * 4 + j) % 4 = j by omega, hx]
    exact hv
  · rw [World.frozen?_setCell]; exact hk.fr j
  · have := hk.lt
    unfold w3W
    simpa using this
  · unfold w3W
    exact (below_setCells w1.heap.size (Nat.le_refl _) (flW ws) 0 _ ((Below.refl w1.heap.size w1).alloc (Nat.le_refl _) _)).setCell (p := ⟨w1.heap.size, _, none⟩) (Nat.le_refl _) _
end Go.Proofs.YtjcemfegkefdeaaDoor
namespace Go.Proofs.YtjcemfegkefdeaaDoor
open Go.RowKit Go.Maps Go.Shelf

theorem owns_form {W : World} {base e size n : Nat} {v : Value} {xs : List Value} (h : W.ownsRow base e size v n xs) : ∃ a c, v = .slice a n c := by
  obtain ⟨f, rfl, hn⟩ := slice_hd h
  exact ⟨f.a, f.c, by rw [← hn]; rfl⟩
theorem row_low {W W2 : World} {base e size n : Nat} {v : Value} {xs : List Value} (h : W.ownsRow base e size v n xs) (hb : RowKit.Below W.heap.size W W2) : W2.ownsRow base e size v n xs := own_same h fun b e => hb.block b (World.ownsRow.lt h b e).2
/-- AN ANSWER THAT IS WRITTEN OVER. -/
structure Ra (w wr : World) (v : Value) (n : Nat) : Prop where
  row : ∃ xs, wr.ownsRow 0 3 1 v n xs
  fx : Fx (fun g => v.ownBlock = some g) w wr
theorem Ra.set {w wr : World} {a : Option Addr} {n c i : Nat} (h : Ra w wr (.slice a n c) n) (hi : i < n) (u : Value) : ∃ g, a = some ⟨g, 0, none⟩ ∧ (∃ z, wr.cell? ⟨g, i, none⟩ = some z) ∧ wr.frozen? ⟨g, i, none⟩ = false ∧ Ra w (wr.setCell ⟨g, i, none⟩ u) (.slice a n c) n := by
  obtain ⟨xs, hr⟩ := h.row
  rcases hr.2 with ⟨_, q⟩ | ⟨g, cap, cur, e, hg, hh, h1, h2, h3, h4⟩
  · omega
  · injection e with e _ ec
    subst e
    subst ec
    have hic : i < cur.size := by omega
    refine ⟨g, rfl, ⟨cur[i], ?_⟩, (cell_blk hh i).2, ⟨xs.set i u, by rw [List.length_set]; exact hr.1, .inr ⟨g, c, cur.setIfInBounds i u, rfl, hg, set_blk hh i u, h1, h2, by simpa using h3, ?_⟩⟩, h.fx.set (g := g) rfl i u⟩
    · rw [(cell_blk hh i).1]; exact Array.getElem?_eq_getElem hic
    · rw [Array.toList_setIfInBounds, List.take_set, h4]
/-- THE WISHES WHILE THEY ARE TURNED OVER. -/
structure Rb2 (w wr : World) (B : Nat) (ws : List Wd) : Prop where
  fx : Fx (fun g => g = B) w wr
  wk : Wk wr B ws
theorem Rb2.drew {w wr : World} {B : Nat} {ws : List Wd} (h : Rb2 w wr B ws) : Rb2 w wr.drew B ws := ⟨h.fx.trans (Fx.of (Below.refl _ wr).drew), h.wk.later (Below.refl _ wr).drew⟩
theorem Rb2.write {w wr : World} {B : Nat} {ws : List Wd} (h : Rb2 w wr B ws) {i : Nat} (hi : i < ws.length) (y : Wd) : Rb2 w ((((wr.setCell ⟨B, i * 4, none⟩ (.int .i64 y.kd)).setCell ⟨B, i * 4 + 1, none⟩ (.string y.an)).setCell ⟨B, i * 4 + 2, none⟩ (.int .i64 y.op)).setCell ⟨B, i * 4 + 3, none⟩ (.string y.bd)) B (ws.set i y) :=
  ⟨(((h.fx.set rfl _ _).set rfl _ _).set rfl _ _).set rfl _ _, h.wk.write hi y⟩
/-- WHAT THE LAST LOOP KEEPS. -/
def LpC (w wr : World) (N B : Nat) (wz : List Wd) : Prop := ∃ ps : List Pk, ps.length = N ∧ SmK ps ∧ (∀ p ∈ ps, PkZ p) ∧ PRow w.heap.size wr w.heap.size ps N ∧ RowKit.Below w.heap.size w wr ∧ Wk wr B wz
theorem LpC.write {w wr : World} {N B : Nat} {wz : List Wd} (h : LpC w wr N B wz) (hB : w.heap.size < B) (i : Nat) (hi : i < N) : LpC w (wr.setCell ⟨w.heap.size, i * 43, none⟩ (.string ⟨#[122, 122]⟩)) N B wz := by
  obtain ⟨ps, rfl, sm, hz, hp, hb, hk⟩ := h
  obtain ⟨p, hpi⟩ : ∃ p, ps[i]? = some p := ⟨_, List.getElem?_eq_getElem hi⟩
  have hmem := List.mem_of_getElem? hpi
  refine ⟨ps.set i (zzP p), by simp, sm.zz i hpi, fun q hq => ?_, hp.name hi (Nat.le_refl _) hpi, hb.setCell (p := ⟨w.heap.size, _, none⟩) (Nat.le_refl _) _, hk.same (set_other wr w.heap.size (i * 43) _ B (by omega))⟩
  rcases List.mem_or_eq_of_mem_set hq with hq | rfl
  · exact hz q hq
  · exact zzP_ok (hz p hmem)
theorem LpC.spot {w wr : World} {N B : Nat} {wz : List Wd} (h : LpC w wr N B wz) (i : Nat) (hi : i < N) : (∃ z, wr.cell? ⟨w.heap.size, i * 43, none⟩ = some z) ∧ wr.frozen? ⟨w.heap.size, i * 43, none⟩ = false := by
  obtain ⟨ps, rfl, _, _, hp, _⟩ := h
  exact ⟨Option.isSome_iff_exists.1 (hp.spot _ (by omega)), hp.fr _⟩
end Go.Proofs.YtjcemfegkefdeaaDoor

namespace Go.Proofs.YtjcemfegkefdeaaDoor
open Go.RowKit Go.Maps Go.Shelf

set_option maxRecDepth 100000 in
set_option maxHeartbeats 16000000 in
theorem validUnmet_walk (ps : List Pk) (s : Value) (ws : List Wd) (wa : Option Addr) (wcap : Nat) (w : World) (sm : SmK ps) (hz : ∀ p ∈ ps, PkZ p) (h : Pkl w s ps) (hw : Wis w wa ws) (hok : ∀ x ∈ ws, WdOk x) (hl : ws.length ≤ 1000000000) :
    Calls Tryd.prog 3 #[s, .slice wa ws.length wcap] w fun e w' => e = .returned (.bool true) ∧ RowKit.Below w.heap.size w w' := by
  have cL := hide (lent_any ps s w (by have := sm.l; omega) hz h)
  have HSM := hide sm
  have HZ := hide hz
  have HOK := hide hok
  go_enter Tryd.func3, Tryd.ntmps3
  go_wp2_with fail
  refine (unhide cL).mono ?_
  rintro e w1 ⟨rfl, hb1, l1⟩
  have H1 := hide (h.later hb1)
  have HW1 := hide (hw.later hb1)
  have HL1 := hide l1
  have HB1 := hide hb1
  have HLl : w.heap.size < w1.heap.size := l1.row.lt
  have mkW := makeW ws.length (by omega) w1
  obtain ⟨v', hcp⟩ := copy_wis ws wa wcap 3 w1.heap.size (ws.length + 1) (w1.alloc (.cells (madeCells #[.int .i64 0, .string ⟨#[]⟩, .int .i64 0, .string ⟨#[]⟩] ((ws.length + 1) * 4)) 28)) (hw.later (bl_t hb1 ((Below.refl _ _).alloc (Nat.le_refl _) _))) (fun j hj => by rw [World.cell?_alloc_at _ _ _ _ rfl]; exact made_some _ _ _ (by omega)) (fun j => by rw [World.frozen?_alloc_at _ _ _ _ rfl])
  obtain ⟨k3, ⟨z3, cz3⟩, fz3, b3⟩ := wk_start w1 ws
  unfold w3W at k3 cz3 fz3 b3
  have HK3 := hide (And.intro k3 b3)
  have hN2 : (ws.length : Int) < (ws.length : Int) + 1 := by omega
  clear cL h hw l1 hb1 sm hz hok k3 b3
  go_wp2_with fail
  generalize ((w1.alloc (.cells (madeCells #[.int .i64 0, .string ⟨#[]⟩, .int .i64 0, .string ⟨#[]⟩] ((ws.length + 1) * 4)) 28)).setCells w1.heap.size 0 (flW ws)).setCell ⟨w1.heap.size, ws.length * 4, none⟩ (.int .i64 99) = w3 at HK3 ⊢
  clear mkW hcp cz3 fz3
  have HIN := hide (show ∀ X, RowKit.Below w1.heap.size w1 X → ∀ (B : Nat) (ws2 : List Wd), ws2.length = ws.length → Wk X B ws2 → (∀ x ∈ ws2, WdOk x) → Calls Tryd.prog 6 #[.slice (some ⟨w.heap.size, 0, none⟩) ps.length (ps.length + 1), .slice (some ⟨B, 0, none⟩) ws.length (ws.length + 1)] X fun e w' => ∃ r, e = .returned r ∧ w'.ownsRow X.heap.size 3 1 r (unK ps ws2).length (ints (unK ps ws2)) ∧ RowKit.Below X.heap.size X w' from fun X hX B ws2 e2 k2 o2 => by
    have := (un_two ((unhide HL1).pkl (unhide HZ)) (unhide HSM) X hX (ws.length + 1) k2.wis o2 (by omega)).1
    rw [e2] at this
    exact this)
  have HSW := hide (show ∀ X, RowKit.Below w1.heap.size w1 X → ∀ (B : Nat) (ws2 : List Wd), ws2.length = ws.length → Wk X B ws2 → (∀ x ∈ ws2, WdOk x) → Calls Tryd.prog 5 #[s, .slice (some ⟨B, 0, none⟩) ws.length (ws.length + 1)] X fun e w' => ∃ r, e = .returned r ∧ w'.ownsRow X.heap.size 3 1 r (unK ps ws2).length (ints (unK ps ws2)) ∧ RowKit.Below X.heap.size X w' from fun X hX B ws2 e2 k2 o2 => by
    have := (un_two (unhide H1) (unhide HSM) X hX (ws.length + 1) k2.wis o2 (by omega)).2
    rw [e2] at this
    exact this)
  obtain ⟨U, hU⟩ : ∃ U, U = unK ps ws := ⟨_, rfl⟩
  obtain ⟨M, hM⟩ : ∃ M, M = U.length := ⟨_, rfl⟩
  have hlen : M ≤ ws.length := by rw [hM, hU]; exact unK_len ps ws
  have C0 := hide (un_two (unhide H1) (unhide HSM) w3 (unhide HK3).2 wcap ((unhide HW1).later (unhide HK3).2) (unhide HOK) (by omega)).2
  have C1 := hide (show ∀ X, RowKit.Below w1.heap.size w1 X → Wk X w1.heap.size ws → Calls Tryd.prog 6 #[.slice (some ⟨w.heap.size, 0, none⟩) ps.length (ps.length + 1), .slice (some ⟨w1.heap.size, 0, none⟩) ws.length (ws.length + 1)] X fun e w' => ∃ r, e = .returned r ∧ w'.ownsRow X.heap.size 3 1 r M (ints U) ∧ RowKit.Below X.heap.size X w' from fun X hX k => by
    rw [hM, hU]
    exact unhide HIN X hX w1.heap.size ws rfl k (unhide HOK))
  rw [← hU, ← hM] at C0
  have HUM := hide (And.intro hU hM)
  clear hU hM
  refine (unhide C0).mono ?_
  clear C0
  rintro e w4 ⟨r0, rfl, ro4, hb4⟩
  obtain ⟨a0, c0, rfl⟩ := owns_form ro4
  have HZ3 := hide (unhide HK3).1.lt
  have K4 := hide (And.intro ((unhide HK3).1.later hb4) (bl_t (unhide HK3).2 hb4))
  have RO4 := hide ro4
  clear ro4 hb4 HK3
  have hN3 : (0 : Int) ≤ (ws.length : Int) := by omega
  have hN4 : (ws.length : Int) ≤ (ws.length : Int) + 1 := by omega
  have hN5 : ws.length ≤ ws.length + 1 := by omega
  go_wp2_with fail
  refine (unhide C1 w4 (unhide K4).2 (unhide K4).1).mono ?_
  rintro e w5 ⟨r1, rfl, ro5, hb5⟩
  obtain ⟨a1, c1, rfl⟩ := owns_form ro5
  have HZ45 := hide hb5.size
  have K5 := hide (And.intro ((unhide K4).1.later hb5) (bl_t (unhide K4).2 hb5))
  have RO5 := hide (And.intro ro5 (row_low (unhide RO4) hb5))
  clear ro5 hb5
  go_wp2_with fail
  refine (unhide C1 w5 (unhide K5).2 (unhide K5).1).mono ?_
  rintro e w6 ⟨r2, rfl, ro6, hb6⟩
  obtain ⟨a2, c2, rfl⟩ := owns_form ro6
  have HLT := hide (show w1.heap.size < w4.heap.size ∧ (∀ g, (Value.slice a0 M c0).ownBlock = some g → g < w4.heap.size) ∧ (∀ g, (Value.slice a1 M c1).ownBlock = some g → g < w5.heap.size) from ⟨(unhide K4).1.lt, fun g e => (World.ownsRow.lt (unhide RO4) g e).2, fun g e => (World.ownsRow.lt (unhide RO5).1 g e).2⟩)
  have K6 := hide (And.intro ((unhide K5).1.later hb6) (bl_t (unhide K5).2 hb6))
  have RO6 := hide (And.intro ro6 (And.intro (row_low (unhide RO5).1 hb6) (row_low (unhide RO5).2 hb6)))
  clear ro6 hb6
  clear C1 RO4 RO5 K4 K5
  go_wp2_with fail
  refine (sameInts_yes (unhide RO6).2.1 (unhide RO6).2.2 (by omega)).mono ?_
  rintro e w7 ⟨rfl, hb7⟩
  have K7 := hide (And.intro ((unhide K6).1.later hb7) (bl_t (unhide K6).2 hb7))
  have RO7 := hide (And.intro (row_low (unhide RO6).1 hb7) (And.intro (row_low (unhide RO6).2.1 hb7) (row_low (unhide RO6).2.2 hb7)))
  clear hb7
  go_wp2_with fail
  have HRA := hide (show Ra w7 w7 (.slice a1 M c1) M from ⟨⟨_, row_lo (unhide RO7).2.1 (Nat.zero_le _)⟩, Fx.refl _ _⟩)
  clear K6 RO6
  have hM1 : M ≤ 1000000000 := by omega
  go_loopw [10] (fun iv wr => ∃ i : Nat, iv = .int .i64 i ∧ i ≤ M ∧ Hid (Ra w7 wr (.slice a1 M c1) M)) (fun iv _ => M - (intOf iv).toNat)
  case atStart => exact ⟨0, by go_num, Nat.zero_le _, HRA⟩
  case round =>
    clear HRA
    obtain ⟨i, rfl, hile, HR⟩ := hrel
    by_cases hlt : i < M
    · have hlt2 : (i : Int) < (M : Int) := by omega
      obtain ⟨g, rfl, ⟨z, cz⟩, fz, r2⟩ := (unhide HR).set hlt (.int .i64 (-1))
      have HR2 := hide r2
      clear r2
      go_wp2_with fail
      go_roundw
      case rel => exact ⟨i + 1, by go_num, by omega, HR2⟩
      case measure => simp [intOf]; omega
    · obtain rfl : i = M := by omega
      obtain ⟨xs8, hr8⟩ := (unhide HR).row
      have CL := hide (longer_any hr8 (Nat.zero_le _) (by omega))
      have hadd : (i : Int) + 100 = (i : Int) + 100 := rfl
      clear hr8 hadd
      go_wp2_with (go_at_call 8; refine (unhide CL).mono ?_; rintro e w9 ⟨rfl, hf9⟩; have HF9 := hide ((unhide HR).fx.trans hf9); clear hf9 CL)
      obtain ⟨B, hB⟩ : ∃ B, B = w1.heap.size := ⟨_, rfl⟩
      have hK9 : Wk w9 B ws ∧ RowKit.Below w1.heap.size w1 w9 := by
        have hne : ∀ g, (Value.slice a1 i c1).ownBlock = some g → w1.heap.size < g := fun g e => by
          have h1 := (World.ownsRow.lt (unhide RO7).2.1 g e).1
          have h2 := (unhide HLT).1
          omega
        obtain ⟨k7, b7⟩ := unhide K7
        have f := unhide HF9
        refine ⟨?_, ⟨f.bel.os.trans b7.os, f.bel.tape.trans b7.tape, f.bel.output.trans b7.output, Nat.le_trans b7.size f.size, fun j hj => ?_⟩⟩
        · rw [hB]
          exact k7.same (f.blk _ k7.lt fun e => by have := hne _ e; omega)
        · refine (f.blk j (by have := b7.size; omega) fun e => ?_).trans (b7.block j hj)
          have := hne j e
          omega
      have HR9 := hide (show w9.ownsRow w5.heap.size 3 1 (.slice a2 i c2) i (ints U) ∧ w9.ownsRow w3.heap.size 3 1 (.slice a0 i c0) i (ints U) from by
        have f := unhide HF9
        obtain ⟨r1, r2, r3⟩ := unhide RO7
        have hlt := unhide HLT
        refine ⟨own_same r1 fun b e => f.blk b (World.ownsRow.lt r1 b e).2 fun e2 => ?_, own_same r3 fun b e => f.blk b (World.ownsRow.lt r3 b e).2 fun e2 => ?_⟩
        · have h1 := (World.ownsRow.lt r1 b e).1
          have h2 := hlt.2.2 b e2
          omega
        · have h1 := hlt.2.1 b e
          have h2 := (World.ownsRow.lt r2 b e2).1
          omega)
      have HZ5 := hide (show w1.heap.size < w3.heap.size ∧ w1.heap.size < w5.heap.size from ⟨(unhide HZ3), by have := (unhide HLT).1; have := (unhide HZ45); omega⟩)
      have HST := hide (show Rb2 w9 w9 B (ngs ws 0) from ⟨Fx.refl _ _, by unfold ngs; simpa using hK9.1⟩)
      have HB9 := hide hK9.2
      have HBW := hide (show ∀ X ws2, Rb2 w9 X B ws2 → RowKit.Below w1.heap.size w1 X from fun X ws2 h => by
        have b9 := unhide HB9
        have f := h.fx
        exact ⟨f.bel.os.trans b9.os, f.bel.tape.trans b9.tape, f.bel.output.trans b9.output, Nat.le_trans b9.size f.size, fun j hj => (f.blk j (by have := b9.size; omega) (by omega)).trans (b9.block j hj)⟩)
      clear HF9 RO7 K7 hK9 HR HLT
      rw [← hB]
      have HEB := hide hB
      clear hB
      go_loopw [12] (fun jv wr => ∃ j : Nat, jv = .int .i64 j ∧ j ≤ ws.length ∧ Hid (Rb2 w9 wr B (ngs ws j))) (fun jv _ => ws.length - (intOf jv).toNat)
      case atStart => exact ⟨0, by go_num, Nat.zero_le _, HST⟩
      case round =>
        clear HST
        obtain ⟨j, rfl, hjle, HR⟩ := hrel
        by_cases hlt : j < ws.length
        · have hlt2 : (j : Int) < (ws.length : Int) := by omega
          have hlt3 : (j : Int) < (ws.length : Int) + 1 := by omega
          obtain ⟨x, hx⟩ : ∃ x, ws[j]? = some x := ⟨_, List.getElem?_eq_getElem hlt⟩
          obtain ⟨wr2, hwr2⟩ : ∃ y, y = wr.drew := ⟨_, rfl⟩
          have h1 : Rb2 w9 wr2 B (ngs ws j) := by rw [hwr2]; exact (unhide HR).drew
          obtain ⟨c0', c1', c2', c3'⟩ := h1.wk.cells (x := x) (by rw [ngs_at hlt]; exact hx)
          have hwis := (unhide HW1).later (unhide HBW _ _ h1)
          obtain ⟨bw, ow, rfl, hbw, q0, q1, q2, q3⟩ := hwis.cells hx
          obtain ⟨_, d1, d2, d3⟩ := h1.drew.wk.cells (x := x) (by rw [ngs_at hlt]; exact hx)
          have f0 := h1.wk.fr (j * 4)
          have f1 := h1.wk.fr (j * 4 + 1)
          have f2 := h1.wk.fr (j * 4 + 2)
          have f3 := h1.wk.fr (j * 4 + 3)
          have h3 := h1.write (i := j) (by rw [ngs_len]; exact hlt) (ngW x)
          rw [← ngs_next hx] at h3
          have h3 := h3.drew
          have HR3 := hide h3
          have HS18 := hide (And.intro c0' (And.intro c1' (And.intro c2' (And.intro c3' (And.intro q0 (And.intro q1 (And.intro q2 q3)))))))
          have HS20 := hide (And.intro d1 (And.intro d2 d3))
          have HC3 := hide (And.intro (h3.wk.cells (x := ngW x) (by rw [ngs_next hx]; exact List.getElem?_set_self (by rw [ngs_len]; exact hlt))).2.1 (h3.wk.cells (x := ngW x) (by rw [ngs_next hx]; exact List.getElem?_set_self (by rw [ngs_len]; exact hlt))).2.2)
          have HW2 := hide hwr2
          clear h1 h3 hwis hx q0 q1 q2 q3 d1 d2 d3 hwr2 HR
          go_wp2_with fail
          go_region_held3 (fun w' => w'.cell? ⟨B, j * 4, none⟩ = some (.int .i64 x.kd) ∧ w'.cell? ⟨B, j * 4 + 1, none⟩ = some (.string x.an) ∧ w'.cell? ⟨B, j * 4 + 2, none⟩ = some (.int .i64 x.op) ∧ w'.cell? ⟨B, j * 4 + 3, none⟩ = some (.string x.bd) ∧ w'.cell? ⟨bw, ow + j * 4, none⟩ = some (.int .i64 x.kd) ∧ w'.cell? ⟨bw, ow + j * 4 + 1, none⟩ = some (.string x.an) ∧ w'.cell? ⟨bw, ow + j * 4 + 2, none⟩ = some (.int .i64 x.op) ∧ w'.cell? ⟨bw, ow + j * 4 + 3, none⟩ = some (.string x.bd)) (exact (unhide HW2) ▸ unhide HS18) (fail)
          go_wp2_with fail
          rw [← unhide HW2]
          refine wp_region_held_drew (S := fun w' => w'.cell? ⟨B, j * 4 + 1, none⟩ = some (.string x.an) ∧ w'.cell? ⟨B, j * 4 + 2, none⟩ = some (.int .i64 x.op) ∧ w'.cell? ⟨B, j * 4 + 3, none⟩ = some (.string x.bd)) (by kernel_rfl) ?_ (fun hHeld => ?_)
          · exact unhide HS20
          refine wpAnyH_take (i := 0) (oi := { dst := some 77, op := Op.move (Operand.tmp 6), type := 23, pos := "law.go:265", after := #[], guard := none }) (v := ?_) rfl (by kernel_rfl) (by kernel_rfl) (by kernel_rfl) (fun _ _ _ h => h) (Or.inl ⟨by rfl, ?_⟩) (by assumption) ?_
          rotate_left
          · intro w hSw; (try dsimp only at hSw); go_simp; (try with_reducible rfl)
          try simp only [Act.put, List.setIfInBounds_toArray, List.set_cons_zero, List.set_cons_succ]
          refine wpAnyH_take (i := 1) (oi := { dst := some 78, op := Op.move (Operand.tmp 12), type := 3, pos := "law.go:265", after := #[], guard := none }) (v := ?_) rfl (by kernel_rfl) (by kernel_rfl) (by kernel_rfl) (fun _ _ _ h => h) (Or.inl ⟨by rfl, ?_⟩) (by assumption) ?_
          rotate_left
          · intro w hSw; (try dsimp only at hSw); go_simp; (try with_reducible rfl)
          try simp only [Act.put, List.setIfInBounds_toArray, List.set_cons_zero, List.set_cons_succ]
          refine wpAnyH_take (i := 2) (oi := { dst := some 79, op := Op.move (Operand.tmp 6), type := 23, pos := "law.go:265", after := #[], guard := none }) (v := ?_) rfl (by kernel_rfl) (by kernel_rfl) (by kernel_rfl) (fun _ _ _ h => h) (Or.inl ⟨by rfl, ?_⟩) (by assumption) ?_
          rotate_left
          · intro w hSw; (try dsimp only at hSw); go_simp; (try with_reducible rfl)
          try simp only [Act.put, List.setIfInBounds_toArray, List.set_cons_zero, List.set_cons_succ]
          refine wpAnyH_take (i := 3) (oi := { dst := some 80, op := Op.move (Operand.tmp 12), type := 3, pos := "law.go:265", after := #[], guard := none }) (v := ?_) rfl (by kernel_rfl) (by kernel_rfl) (by kernel_rfl) (fun _ _ _ h => h) (Or.inl ⟨by rfl, ?_⟩) (by assumption) ?_
          rotate_left
          · intro w hSw; (try dsimp only at hSw); go_simp; (try with_reducible rfl)
          try simp only [Act.put, List.setIfInBounds_toArray, List.set_cons_zero, List.set_cons_succ]
          refine wpAnyH_take (i := 4) (oi := { dst := some 81, op := Op.indexAddr 23 (Operand.tmp 79) (Operand.tmp 80), type := 0, pos := "law.go:265", after := #[{ on := 2, ground := Ground.data }, { on := 3, ground := Ground.data }], guard := none }) (v := ?_) rfl (by kernel_rfl) (by kernel_rfl) (by kernel_rfl) (fun _ _ _ h => h) (Or.inl ⟨by rfl, ?_⟩) (by assumption) ?_
          rotate_left
          · intro w hSw; (try dsimp only at hSw); go_simp; (try with_reducible rfl)
          try simp only [Act.put, List.setIfInBounds_toArray, List.set_cons_zero, List.set_cons_succ]
          refine wpAnyH_take (i := 5) (oi := { dst := some 82, op := Op.fieldAddr 28 (Operand.tmp 81) 0, type := 0, pos := "law.go:265", after := #[{ on := 4, ground := Ground.data }], guard := none }) (v := ?_) rfl (by kernel_rfl) (by kernel_rfl) (by kernel_rfl) (fun _ _ _ h => h) (Or.inl ⟨by rfl, ?_⟩) (by assumption) ?_
          rotate_left
          · intro w hSw; (try dsimp only at hSw); go_simp; (try with_reducible rfl)
          try simp only [Act.put, List.setIfInBounds_toArray, List.set_cons_zero, List.set_cons_succ]
          refine wpAnyH_take (i := 8) (oi := { dst := some 85, op := Op.move (Operand.tmp 6), type := 23, pos := "law.go:265", after := #[], guard := none }) (v := ?_) rfl (by kernel_rfl) (by kernel_rfl) (by kernel_rfl) (fun _ _ _ h => h) (Or.inl ⟨by rfl, ?_⟩) (by assumption) ?_
          rotate_left
          · intro w hSw; (try dsimp only at hSw); go_simp; (try with_reducible rfl)
          try simp only [Act.put, List.setIfInBounds_toArray, List.set_cons_zero, List.set_cons_succ]
          refine wpAnyH_take (i := 9) (oi := { dst := some 86, op := Op.move (Operand.tmp 12), type := 3, pos := "law.go:265", after := #[], guard := none }) (v := ?_) rfl (by kernel_rfl) (by kernel_rfl) (by kernel_rfl) (fun _ _ _ h => h) (Or.inl ⟨by rfl, ?_⟩) (by assumption) ?_
          rotate_left
          · intro w hSw; (try dsimp only at hSw); go_simp; (try with_reducible rfl)
          try simp only [Act.put, List.setIfInBounds_toArray, List.set_cons_zero, List.set_cons_succ]
          refine wpAnyH_take (i := 10) (oi := { dst := some 87, op := Op.indexAddr 23 (Operand.tmp 85) (Operand.tmp 86), type := 0, pos := "law.go:265", after := #[{ on := 8, ground := Ground.data }, { on := 9, ground := Ground.data }], guard := none }) (v := ?_) rfl (by kernel_rfl) (by kernel_rfl) (by kernel_rfl) (fun _ _ _ h => h) (Or.inl ⟨by rfl, ?_⟩) (by assumption) ?_
          rotate_left
          · intro w hSw; (try dsimp only at hSw); go_simp; (try with_reducible rfl)
          try simp only [Act.put, List.setIfInBounds_toArray, List.set_cons_zero, List.set_cons_succ]
          refine wpAnyH_take (i := 11) (oi := { dst := some 88, op := Op.fieldAddr 28 (Operand.tmp 87) 1, type := 0, pos := "law.go:265", after := #[{ on := 10, ground := Ground.data }], guard := none }) (v := ?_) rfl (by kernel_rfl) (by kernel_rfl) (by kernel_rfl) (fun _ _ _ h => h) (Or.inl ⟨by rfl, ?_⟩) (by assumption) ?_
          rotate_left
          · intro w hSw; (try dsimp only at hSw); go_simp; (try with_reducible rfl)
          try simp only [Act.put, List.setIfInBounds_toArray, List.set_cons_zero, List.set_cons_succ]
          refine wpAnyH_take (i := 12) (oi := { dst := some 89, op := Op.load 26 (Operand.tmp 88), type := 26, pos := "law.go:265", after := #[{ on := 11, ground := Ground.data }], guard := none }) (v := ?_) rfl (by kernel_rfl) (by kernel_rfl) (by kernel_rfl) (fun _ _ _ h => h) (Or.inl ⟨by rfl, ?_⟩) (by assumption) ?_
          rotate_left
          · intro w hSw; (try dsimp only at hSw); go_simp; (try with_reducible rfl)
          try simp only [Act.put, List.setIfInBounds_toArray, List.set_cons_zero, List.set_cons_succ]
          refine wpAnyH_ready (rs := [6]) (by kernel_rfl) (by simp) ?_
          refine AllReadyH.cons (o := { dst := some 83, op := Op.load 3 (Operand.tmp 82), type := 3, pos := "law.go:265", after := #[{ on := 5, ground := Ground.data }], guard := none }) rfl (fun K hK => ?_) AllReadyH.nil
          go_simp
          refine hK.out _ _ ?_ (fun hHeld0 => ?_)
          · exact unhide HS20
          clear hHeld
          clear hK K
          try simp only [Act.put, List.setIfInBounds_toArray, List.set_cons_zero, List.set_cons_succ]
          refine wpAnyH_take (i := 7) (oi := { dst := some 84, op := Op.binOp BinOp.sub 3 (Operand.const (Value.int IntKind.i64 1)) (Operand.tmp 83) 3, type := 3, pos := "law.go:265", after := #[{ on := 6, ground := Ground.data }], guard := none }) (v := ?_) rfl (by kernel_rfl) (by kernel_rfl) (by kernel_rfl) (fun _ _ _ h => h) (Or.inl ⟨by rfl, ?_⟩) (by assumption) ?_
          rotate_left
          · intro w hSw; (try dsimp only at hSw); go_simp; (try with_reducible rfl)
          try simp only [Act.put, List.setIfInBounds_toArray, List.set_cons_zero, List.set_cons_succ]
          refine wpAnyH_take (i := 13) (oi := { dst := some 90, op := Op.build 28 #[(0, Operand.tmp 84), (1, Operand.tmp 89)], type := 28, pos := "law.go:265", after := #[{ on := 7, ground := Ground.data }, { on := 12, ground := Ground.data }], guard := none }) (v := ?_) rfl (by kernel_rfl) (by kernel_rfl) (by kernel_rfl) (fun _ _ _ h => h) (Or.inl ⟨by rfl, ?_⟩) (by assumption) ?_
          rotate_left
          · intro w hSw; (try dsimp only at hSw); go_simp; (try with_reducible rfl)
          try simp only [Act.put, List.setIfInBounds_toArray, List.set_cons_zero, List.set_cons_succ]
          refine wpAnyH_take (i := 14) (oi := { dst := some 91, op := Op.indexAddr 23 (Operand.tmp 77) (Operand.tmp 78), type := 0, pos := "law.go:265", after := #[{ on := 0, ground := Ground.data }, { on := 1, ground := Ground.data }, { on := 0, ground := Ground.phase }, { on := 1, ground := Ground.phase }, { on := 2, ground := Ground.phase }, { on := 3, ground := Ground.phase }, { on := 4, ground := Ground.phase }, { on := 5, ground := Ground.phase }, { on := 6, ground := Ground.phase }, { on := 7, ground := Ground.phase }, { on := 8, ground := Ground.phase }, { on := 9, ground := Ground.phase }, { on := 10, ground := Ground.phase }, { on := 11, ground := Ground.phase }, { on := 12, ground := Ground.phase }, { on := 13, ground := Ground.phase }], guard := none }) (v := ?_) rfl (by kernel_rfl) (by kernel_rfl) (by kernel_rfl) (fun _ _ _ h => h) (Or.inl ⟨by rfl, ?_⟩) (by assumption) ?_
          rotate_left
          · intro w hSw; (try dsimp only at hSw); go_simp; (try with_reducible rfl)
          try simp only [Act.put, List.setIfInBounds_toArray, List.set_cons_zero, List.set_cons_succ]
          refine wpAnyH_ready (rs := [15]) (by kernel_rfl) (by simp) ?_
          refine AllReadyH.cons (o := { dst := none, op := Op.store 28 (Operand.tmp 91) (Operand.tmp 90), type := 0, pos := "law.go:265", after := #[{ on := 14, ground := Ground.data }, { on := 13, ground := Ground.data }, { on := 0, ground := Ground.phase }, { on := 1, ground := Ground.phase }, { on := 2, ground := Ground.phase }, { on := 3, ground := Ground.phase }, { on := 4, ground := Ground.phase }, { on := 5, ground := Ground.phase }, { on := 6, ground := Ground.phase }, { on := 7, ground := Ground.phase }, { on := 8, ground := Ground.phase }, { on := 9, ground := Ground.phase }, { on := 10, ground := Ground.phase }, { on := 11, ground := Ground.phase }, { on := 12, ground := Ground.phase }, { on := 13, ground := Ground.phase }], guard := none }) rfl (fun K hK => ?_) AllReadyH.nil
          go_simp
          rw [IntWalk.i64_left]
          refine hK.out _ _ ?_ (fun hHeld1 => ?_)
          · exact unhide HC3
          clear hHeld0
          clear hK K
          try simp only [Act.put, List.setIfInBounds_toArray, List.set_cons_zero, List.set_cons_succ]
          refine wpAnyH_done (by kernel_rfl) ?_ _
          go_wp2_with fail
          go_roundw
          case rel => exact ⟨j + 1, by go_num, by omega, HR3⟩
          case measure => simp [intOf]; omega
        · obtain rfl : j = ws.length := by omega
          have h1 := unhide HR
          have hmk := h1.wk.mrk
          rw [ngs_len] at hmk
          have hnl := ngs_len ws ws.length
          have hnok := ngs_ok (unhide HOK) ws.length
          generalize ngs ws ws.length = wz at *
          have HB10 := hide (unhide HBW _ _ h1)
          have HK10 := hide h1.wk
          have HR10 := hide (show wr.ownsRow w5.heap.size 3 1 (.slice a2 i c2) i (ints U) ∧ wr.ownsRow w3.heap.size 3 1 (.slice a0 i c0) i (ints U) from by
            have hne : ∀ g, w1.heap.size < g → g ≠ B := fun g hg => by have := unhide HEB; omega
            obtain ⟨r1, r3⟩ := unhide HR9
            have z5 := unhide HZ5
            exact ⟨own_same r1 fun b e => h1.fx.blk b (World.ownsRow.lt r1 b e).2 (hne b (by have := (World.ownsRow.lt r1 b e).1; omega)), own_same r3 fun b e => h1.fx.blk b (World.ownsRow.lt r3 b e).2 (hne b (by have := (World.ownsRow.lt r3 b e).1; omega))⟩)
          have HNOK := hide (And.intro hnl hnok)
          clear h1 hnl hnok HR9 HB9 HR HBW
          have CS := hide (sameInts_yes (unhide HR10).1 (unhide HR10).2 (by omega))
          go_wp2_with (first | (go_at_call 7; refine (unhide CS).mono ?_; rintro e w11 ⟨rfl, hb11⟩; have hmk2 := (hb11.cell (p := ⟨B, ws.length * 4, none⟩) (unhide HK10).lt).trans hmk; have HB11 := hide hb11; clear hb11 CS hmk) | (go_at_call 9; refine (still_any ps w.heap.size w.heap.size s w11 (by have := (unhide HSM).l; omega) (unhide HZ) ((unhide HL1).later (bl_t (unhide HB10) (unhide HB11))) ((unhide H1).later (bl_t (unhide HB10) (unhide HB11)))).mono ?_; rintro e w12 ⟨rfl, hb12⟩; have HB12 := hide (bl_t (unhide HB11) hb12); clear hb12))
          obtain ⟨V, hV⟩ : ∃ V, V = unK ps wz := ⟨_, rfl⟩
          obtain ⟨MM, hMM⟩ : ∃ M, M = V.length := ⟨_, rfl⟩
          have hMl : MM ≤ 1000000000 := by
            have h1 := unK_len ps wz
            have h2 := (unhide HNOK).1
            rw [hMM, hV]
            omega
          have HK12 := hide ((unhide HK10).later (unhide HB12))
          have HBB := hide (bl_t (unhide HB10) (unhide HB12))
          have CC0 := hide (show ∀ X, RowKit.Below w12.heap.size w12 X → Calls Tryd.prog 5 #[s, .slice (some ⟨B, 0, none⟩) ws.length (ws.length + 1)] X fun e w' => ∃ r, e = .returned r ∧ w'.ownsRow X.heap.size 3 1 r MM (ints V) ∧ RowKit.Below X.heap.size X w' from fun X hX => by
            rw [hMM, hV]
            exact unhide HSW X (bl_t (unhide HBB) hX) B wz (unhide HNOK).1 ((unhide HK12).later hX) (unhide HNOK).2)
          have CC1 := hide (show ∀ X, RowKit.Below w12.heap.size w12 X → Calls Tryd.prog 6 #[.slice (some ⟨w.heap.size, 0, none⟩) ps.length (ps.length + 1), .slice (some ⟨B, 0, none⟩) ws.length (ws.length + 1)] X fun e w' => ∃ r, e = .returned r ∧ w'.ownsRow X.heap.size 3 1 r MM (ints V) ∧ RowKit.Below X.heap.size X w' from fun X hX => by
            rw [hMM, hV]
            exact unhide HIN X (bl_t (unhide HBB) hX) B wz (unhide HNOK).1 ((unhide HK12).later hX) (unhide HNOK).2)
          have E0 := hide ((Below.refl w12.heap.size w12).drew)
          clear hV hMM hmk2 HB10 HB11 HB12 HR10 HIN HSW
          go_wp2_with fail
          refine wp_region_held_drew (S := fun _ => True) (by kernel_rfl) ?_ (fun hHeld => ?_)
          · exact trivial
          refine wpAnyH_take (i := 0) (oi := { dst := some 115, op := Op.move (Operand.tmp 0), type := 22, pos := "law.go:270", after := #[], guard := none }) (v := ?_) rfl (by kernel_rfl) (by kernel_rfl) (by kernel_rfl) (fun _ _ _ h => h) (Or.inl ⟨by rfl, ?_⟩) (by assumption) ?_
          rotate_left
          · intro w hSw; (try dsimp only at hSw); go_simp; (try with_reducible rfl)
          try simp only [Act.put, List.setIfInBounds_toArray, List.set_cons_zero, List.set_cons_succ]
          refine wpAnyH_take (i := 1) (oi := { dst := some 116, op := Op.move (Operand.tmp 6), type := 23, pos := "law.go:270", after := #[], guard := none }) (v := ?_) rfl (by kernel_rfl) (by kernel_rfl) (by kernel_rfl) (fun _ _ _ h => h) (Or.inl ⟨by rfl, ?_⟩) (by assumption) ?_
          rotate_left
          · intro w hSw; (try dsimp only at hSw); go_simp; (try with_reducible rfl)
          try simp only [Act.put, List.setIfInBounds_toArray, List.set_cons_zero, List.set_cons_succ]
          refine wpAnyH_take (i := 2) (oi := { dst := some 117, op := Op.move (Operand.tmp 1), type := 23, pos := "law.go:270", after := #[], guard := none }) (v := ?_) rfl (by kernel_rfl) (by kernel_rfl) (by kernel_rfl) (fun _ _ _ h => h) (Or.inl ⟨by rfl, ?_⟩) (by assumption) ?_
          rotate_left
          · intro w hSw; (try dsimp only at hSw); go_simp; (try with_reducible rfl)
          try simp only [Act.put, List.setIfInBounds_toArray, List.set_cons_zero, List.set_cons_succ]
          refine wpAnyH_take (i := 3) (oi := { dst := some 118, op := Op.call { callee := Callee.builtin Builtin.len, args := #[Operand.tmp 117], argTypes := #[23] }, type := 3, pos := "law.go:270", after := #[{ on := 2, ground := Ground.data }], guard := none }) (v := ?_) rfl (by kernel_rfl) (by kernel_rfl) (by kernel_rfl) (fun _ _ _ h => h) (Or.inl ⟨by rfl, ?_⟩) (by assumption) ?_
          rotate_left
          · intro w hSw; (try dsimp only at hSw); go_simp; (try with_reducible rfl)
          try simp only [Act.put, List.setIfInBounds_toArray, List.set_cons_zero, List.set_cons_succ]
          refine wpAnyH_take (i := 4) (oi := { dst := some 119, op := Op.slice 23 (Operand.tmp 116) none (some (Operand.tmp 118)) none, type := 23, pos := "law.go:270", after := #[{ on := 1, ground := Ground.data }, { on := 3, ground := Ground.data }], guard := none }) (v := ?_) rfl (by kernel_rfl) (by kernel_rfl) (by kernel_rfl) (fun _ _ _ h => h) (Or.inl ⟨by rfl, ?_⟩) (by assumption) ?_
          rotate_left
          · intro w hSw; (try dsimp only at hSw); go_simp; (try with_reducible rfl)
          try simp only [Act.put, List.setIfInBounds_toArray, List.set_cons_zero, List.set_cons_succ]
          refine wpAnyH_take (i := 6) (oi := { dst := some 121, op := Op.move (Operand.tmp 5), type := 22, pos := "law.go:270", after := #[], guard := none }) (v := ?_) rfl (by kernel_rfl) (by kernel_rfl) (by kernel_rfl) (fun _ _ _ h => h) (Or.inl ⟨by rfl, ?_⟩) (by assumption) ?_
          rotate_left
          · intro w hSw; (try dsimp only at hSw); go_simp; (try with_reducible rfl)
          try simp only [Act.put, List.setIfInBounds_toArray, List.set_cons_zero, List.set_cons_succ]
          refine wpAnyH_take (i := 7) (oi := { dst := some 122, op := Op.move (Operand.tmp 6), type := 23, pos := "law.go:270", after := #[], guard := none }) (v := ?_) rfl (by kernel_rfl) (by kernel_rfl) (by kernel_rfl) (fun _ _ _ h => h) (Or.inl ⟨by rfl, ?_⟩) (by assumption) ?_
          rotate_left
          · intro w hSw; (try dsimp only at hSw); go_simp; (try with_reducible rfl)
          try simp only [Act.put, List.setIfInBounds_toArray, List.set_cons_zero, List.set_cons_succ]
          refine wpAnyH_take (i := 8) (oi := { dst := some 123, op := Op.move (Operand.tmp 1), type := 23, pos := "law.go:270", after := #[], guard := none }) (v := ?_) rfl (by kernel_rfl) (by kernel_rfl) (by kernel_rfl) (fun _ _ _ h => h) (Or.inl ⟨by rfl, ?_⟩) (by assumption) ?_
          rotate_left
          · intro w hSw; (try dsimp only at hSw); go_simp; (try with_reducible rfl)
          try simp only [Act.put, List.setIfInBounds_toArray, List.set_cons_zero, List.set_cons_succ]
          refine wpAnyH_take (i := 9) (oi := { dst := some 124, op := Op.call { callee := Callee.builtin Builtin.len, args := #[Operand.tmp 123], argTypes := #[23] }, type := 3, pos := "law.go:270", after := #[{ on := 8, ground := Ground.data }], guard := none }) (v := ?_) rfl (by kernel_rfl) (by kernel_rfl) (by kernel_rfl) (fun _ _ _ h => h) (Or.inl ⟨by rfl, ?_⟩) (by assumption) ?_
          rotate_left
          · intro w hSw; (try dsimp only at hSw); go_simp; (try with_reducible rfl)
          try simp only [Act.put, List.setIfInBounds_toArray, List.set_cons_zero, List.set_cons_succ]
          refine wpAnyH_take (i := 10) (oi := { dst := some 125, op := Op.slice 23 (Operand.tmp 122) none (some (Operand.tmp 124)) none, type := 23, pos := "law.go:270", after := #[{ on := 7, ground := Ground.data }, { on := 9, ground := Ground.data }], guard := none }) (v := ?_) rfl (by kernel_rfl) (by kernel_rfl) (by kernel_rfl) (fun _ _ _ h => h) (Or.inl ⟨by rfl, ?_⟩) (by assumption) ?_
          rotate_left
          · intro w hSw; (try dsimp only at hSw); go_simp; (try with_reducible rfl)
          try simp only [Act.put, List.setIfInBounds_toArray, List.set_cons_zero, List.set_cons_succ]
          refine wpAnyH_ready (rs := [5]) (by kernel_rfl) (by simp) ?_
          refine AllReadyH.cons (o := { dst := some 120, op := Op.call { callee := Callee.value (Operand.func 5), args := #[Operand.tmp 115, Operand.tmp 119], argTypes := #[22, 23] }, type := 29, pos := "law.go:270", after := #[{ on := 0, ground := Ground.data }, { on := 4, ground := Ground.data }], guard := none }) rfl (fun K hK => ?_) AllReadyH.nil
          go_simp
          refine (unhide CC0 _ (unhide E0)).mono ?_
          rintro e y1 ⟨r, rfl, ro1, hv1⟩
          obtain ⟨ra1, rc1, rfl⟩ := owns_form ro1
          have E1 := hide (bl_t (unhide E0) hv1)
          have RR1 := hide (And.intro ro1 hv1)
          clear ro1 hv1
          go_wp2_with fail
          refine hK.out _ _ trivial (fun hHeld0 => ?_)
          clear hHeld
          clear hK K
          try simp only [Act.put, List.setIfInBounds_toArray, List.set_cons_zero, List.set_cons_succ]
          refine wpAnyH_ready (rs := [11]) (by kernel_rfl) (by simp) ?_
          refine AllReadyH.cons (o := { dst := some 126, op := Op.call { callee := Callee.value (Operand.func 6), args := #[Operand.tmp 121, Operand.tmp 125], argTypes := #[22, 23] }, type := 29, pos := "law.go:270", after := #[{ on := 6, ground := Ground.data }, { on := 10, ground := Ground.data }, { on := 5, ground := Ground.chain }], guard := none }) rfl (fun K hK => ?_) AllReadyH.nil
          go_simp
          refine (unhide CC1 _ (unhide E1)).mono ?_
          rintro e y2 ⟨r, rfl, ro2, hv2⟩
          obtain ⟨ra2, rc2, rfl⟩ := owns_form ro2
          have E2 := hide (bl_t (unhide E1) hv2)
          have RR2 := hide (And.intro ro2 hv2)
          clear ro2 hv2
          go_wp2_with fail
          refine hK.out _ _ trivial (fun hHeld1 => ?_)
          clear hHeld0
          clear hK K
          try simp only [Act.put, List.setIfInBounds_toArray, List.set_cons_zero, List.set_cons_succ]
          refine wpAnyH_ready (rs := [12]) (by kernel_rfl) (by simp) ?_
          refine AllReadyH.cons (o := { dst := some 127, op := Op.call { callee := Callee.value (Operand.func 7), args := #[Operand.tmp 120, Operand.tmp 126], argTypes := #[29, 29] }, type := 4, pos := "law.go:270", after := #[{ on := 5, ground := Ground.data }, { on := 11, ground := Ground.data }, { on := 11, ground := Ground.chain }], guard := none }) rfl (fun K hK => ?_) AllReadyH.nil
          go_simp
          refine (sameInts_yes (row_low (unhide RR1).1 (unhide RR2).2) (unhide RR2).1 (by omega)).mono ?_
          rintro e y3 ⟨rfl, hv3⟩
          have E3 := hide (bl_t (unhide E2) hv3)
          clear hv3
          go_wp2_with fail
          refine hK.out _ _ trivial (fun hHeld2 => ?_)
          clear hHeld1
          clear hK K
          try simp only [Act.put, List.setIfInBounds_toArray, List.set_cons_zero, List.set_cons_succ]
          refine wpAnyH_take (i := 13) (oi := { dst := some 128, op := Op.unOp UnOp.not 4 (Operand.tmp 127), type := 4, pos := "law.go:270", after := #[{ on := 12, ground := Ground.data }], guard := none }) (v := ?_) rfl (by kernel_rfl) (by kernel_rfl) (by kernel_rfl) (fun _ _ _ h => h) (Or.inl ⟨by rfl, ?_⟩) (by assumption) ?_
          rotate_left
          · intro w hSw; (try dsimp only at hSw); go_simp; (try with_reducible rfl)
          try simp only [Act.put, List.setIfInBounds_toArray, List.set_cons_zero, List.set_cons_succ]
          refine wpAnyH_done (by kernel_rfl) ?_ _
          go_wp2_with fail
          have HPS := hide (unhide HSM).l
          have LC := hide (show LpC w y3 ps.length B wz from ⟨ps, rfl, unhide HSM, unhide HZ, ((unhide HL1).later (bl_t (unhide HBB) (unhide E3))).row, bl_t (unhide HB1) (bl_t (unhide HBB) (unhide E3)), (unhide HK12).later (unhide E3)⟩)
          have hBw : w.heap.size < B := by have := unhide HEB; omega
          clear CC0 CC1 E0 E1 E2 E3 RR1 RR2 HBB HK12
          go_loopw [13] (fun vi wr => ∃ t : Nat, vi = .int .i64 t ∧ t ≤ ps.length ∧ Hid (LpC w wr ps.length B wz)) (fun vi _ => ps.length - (intOf vi).toNat)
          case atStart => exact ⟨0, by go_num, Nat.zero_le _, LC⟩
          case round =>
            clear LC
            obtain ⟨t, rfl, htle, LC⟩ := hrel
            have hpl := unhide HPS
            by_cases hlt : t < ps.length
            · have hiz : (t : Int) < (ps.length : Int) := by omega
              obtain ⟨⟨z, y1⟩, f1⟩ := (unhide LC).spot t hlt
              have LC2 := hide ((unhide LC).write hBw t hlt)
              go_wp2_with fail
              go_roundw
              case rel => exact ⟨t + 1, by go_num, by omega, LC2⟩
              case measure => simp [intOf]; omega
            · obtain ⟨ps2, hpl2, sm2, hz2, hp2, hb2, hk2⟩ := unhide LC
              have hpk : Pkl wr (.slice (some ⟨w.heap.size, 0, none⟩) ps.length (ps.length + 1)) ps2 := by rw [← hpl2]; rw [← hpl2] at hp2; exact hp2.pkl hz2
              obtain ⟨V2, hV⟩ : ∃ V, V = unK ps2 wz := ⟨_, rfl⟩
              obtain ⟨M2, hMM⟩ : ∃ M, M = V2.length := ⟨_, rfl⟩
              have hMl2 : M2 ≤ 1000000000 := by
                have h1 := unK_len ps2 wz
                have h2 := (unhide HNOK).1
                rw [hMM, hV]
                omega
              have hq : wz.length ≤ 1099511627776 := by have := (unhide HNOK).1; omega
              have hnn := (unhide HNOK).1
              have CC0 := hide (show ∀ X, RowKit.Below wr.heap.size wr X → Calls Tryd.prog 5 #[.slice (some ⟨w.heap.size, 0, none⟩) ps.length (ps.length + 1), .slice (some ⟨B, 0, none⟩) ws.length (ws.length + 1)] X fun e w' => ∃ r, e = .returned r ∧ w'.ownsRow X.heap.size 3 1 r M2 (ints V2) ∧ RowKit.Below X.heap.size X w' from fun X hX => by
                rw [hMM, hV]
                have := (un_two hpk sm2 X hX (ws.length + 1) (hk2.later hX).wis (unhide HNOK).2 hq).2
                rw [hnn] at this
                exact this)
              have CC1 := hide (show ∀ X, RowKit.Below wr.heap.size wr X → Calls Tryd.prog 6 #[.slice (some ⟨w.heap.size, 0, none⟩) ps.length (ps.length + 1), .slice (some ⟨B, 0, none⟩) ws.length (ws.length + 1)] X fun e w' => ∃ r, e = .returned r ∧ w'.ownsRow X.heap.size 3 1 r M2 (ints V2) ∧ RowKit.Below X.heap.size X w' from fun X hX => by
                rw [hMM, hV]
                have := (un_two hpk sm2 X hX (ws.length + 1) (hk2.later hX).wis (unhide HNOK).2 hq).1
                rw [hnn] at this
                exact this)
              have E0 := hide ((Below.refl wr.heap.size wr).drew)
              have HBZ := hide hb2
              clear hV hMM hpk hp2 hb2 hk2 sm2 hz2 hpl2 LC hq hnn
              go_wp2_with fail
              refine wp_region_held_drew (S := fun _ => True) (by kernel_rfl) ?_ (fun hHeld => ?_)
              · exact trivial
              refine wpAnyH_take (i := 0) (oi := { dst := some 139, op := Op.move (Operand.tmp 5), type := 22, pos := "law.go:276", after := #[], guard := none }) (v := ?_) rfl (by kernel_rfl) (by kernel_rfl) (by kernel_rfl) (fun _ _ _ h => h) (Or.inl ⟨by rfl, ?_⟩) (by assumption) ?_
              rotate_left
              · intro w hSw; (try dsimp only at hSw); go_simp; (try with_reducible rfl)
              try simp only [Act.put, List.setIfInBounds_toArray, List.set_cons_zero, List.set_cons_succ]
              refine wpAnyH_take (i := 1) (oi := { dst := some 140, op := Op.move (Operand.tmp 6), type := 23, pos := "law.go:276", after := #[], guard := none }) (v := ?_) rfl (by kernel_rfl) (by kernel_rfl) (by kernel_rfl) (fun _ _ _ h => h) (Or.inl ⟨by rfl, ?_⟩) (by assumption) ?_
              rotate_left
              · intro w hSw; (try dsimp only at hSw); go_simp; (try with_reducible rfl)
              try simp only [Act.put, List.setIfInBounds_toArray, List.set_cons_zero, List.set_cons_succ]
              refine wpAnyH_take (i := 2) (oi := { dst := some 141, op := Op.move (Operand.tmp 1), type := 23, pos := "law.go:276", after := #[], guard := none }) (v := ?_) rfl (by kernel_rfl) (by kernel_rfl) (by kernel_rfl) (fun _ _ _ h => h) (Or.inl ⟨by rfl, ?_⟩) (by assumption) ?_
              rotate_left
              · intro w hSw; (try dsimp only at hSw); go_simp; (try with_reducible rfl)
              try simp only [Act.put, List.setIfInBounds_toArray, List.set_cons_zero, List.set_cons_succ]
              refine wpAnyH_take (i := 3) (oi := { dst := some 142, op := Op.call { callee := Callee.builtin Builtin.len, args := #[Operand.tmp 141], argTypes := #[23] }, type := 3, pos := "law.go:276", after := #[{ on := 2, ground := Ground.data }], guard := none }) (v := ?_) rfl (by kernel_rfl) (by kernel_rfl) (by kernel_rfl) (fun _ _ _ h => h) (Or.inl ⟨by rfl, ?_⟩) (by assumption) ?_
              rotate_left
              · intro w hSw; (try dsimp only at hSw); go_simp; (try with_reducible rfl)
              try simp only [Act.put, List.setIfInBounds_toArray, List.set_cons_zero, List.set_cons_succ]
              refine wpAnyH_take (i := 4) (oi := { dst := some 143, op := Op.slice 23 (Operand.tmp 140) none (some (Operand.tmp 142)) none, type := 23, pos := "law.go:276", after := #[{ on := 1, ground := Ground.data }, { on := 3, ground := Ground.data }], guard := none }) (v := ?_) rfl (by kernel_rfl) (by kernel_rfl) (by kernel_rfl) (fun _ _ _ h => h) (Or.inl ⟨by rfl, ?_⟩) (by assumption) ?_
              rotate_left
              · intro w hSw; (try dsimp only at hSw); go_simp; (try with_reducible rfl)
              try simp only [Act.put, List.setIfInBounds_toArray, List.set_cons_zero, List.set_cons_succ]
              refine wpAnyH_take (i := 6) (oi := { dst := some 145, op := Op.move (Operand.tmp 5), type := 22, pos := "law.go:276", after := #[], guard := none }) (v := ?_) rfl (by kernel_rfl) (by kernel_rfl) (by kernel_rfl) (fun _ _ _ h => h) (Or.inl ⟨by rfl, ?_⟩) (by assumption) ?_
              rotate_left
              · intro w hSw; (try dsimp only at hSw); go_simp; (try with_reducible rfl)
              try simp only [Act.put, List.setIfInBounds_toArray, List.set_cons_zero, List.set_cons_succ]
              refine wpAnyH_take (i := 7) (oi := { dst := some 146, op := Op.move (Operand.tmp 6), type := 23, pos := "law.go:276", after := #[], guard := none }) (v := ?_) rfl (by kernel_rfl) (by kernel_rfl) (by kernel_rfl) (fun _ _ _ h => h) (Or.inl ⟨by rfl, ?_⟩) (by assumption) ?_
              rotate_left
              · intro w hSw; (try dsimp only at hSw); go_simp; (try with_reducible rfl)
              try simp only [Act.put, List.setIfInBounds_toArray, List.set_cons_zero, List.set_cons_succ]
              refine wpAnyH_take (i := 8) (oi := { dst := some 147, op := Op.move (Operand.tmp 1), type := 23, pos := "law.go:276", after := #[], guard := none }) (v := ?_) rfl (by kernel_rfl) (by kernel_rfl) (by kernel_rfl) (fun _ _ _ h => h) (Or.inl ⟨by rfl, ?_⟩) (by assumption) ?_
              rotate_left
              · intro w hSw; (try dsimp only at hSw); go_simp; (try with_reducible rfl)
              try simp only [Act.put, List.setIfInBounds_toArray, List.set_cons_zero, List.set_cons_succ]
              refine wpAnyH_take (i := 9) (oi := { dst := some 148, op := Op.call { callee := Callee.builtin Builtin.len, args := #[Operand.tmp 147], argTypes := #[23] }, type := 3, pos := "law.go:276", after := #[{ on := 8, ground := Ground.data }], guard := none }) (v := ?_) rfl (by kernel_rfl) (by kernel_rfl) (by kernel_rfl) (fun _ _ _ h => h) (Or.inl ⟨by rfl, ?_⟩) (by assumption) ?_
              rotate_left
              · intro w hSw; (try dsimp only at hSw); go_simp; (try with_reducible rfl)
              try simp only [Act.put, List.setIfInBounds_toArray, List.set_cons_zero, List.set_cons_succ]
              refine wpAnyH_take (i := 10) (oi := { dst := some 149, op := Op.slice 23 (Operand.tmp 146) none (some (Operand.tmp 148)) none, type := 23, pos := "law.go:276", after := #[{ on := 7, ground := Ground.data }, { on := 9, ground := Ground.data }], guard := none }) (v := ?_) rfl (by kernel_rfl) (by kernel_rfl) (by kernel_rfl) (fun _ _ _ h => h) (Or.inl ⟨by rfl, ?_⟩) (by assumption) ?_
              rotate_left
              · intro w hSw; (try dsimp only at hSw); go_simp; (try with_reducible rfl)
              try simp only [Act.put, List.setIfInBounds_toArray, List.set_cons_zero, List.set_cons_succ]
              refine wpAnyH_ready (rs := [5]) (by kernel_rfl) (by simp) ?_
              refine AllReadyH.cons (o := { dst := some 144, op := Op.call { callee := Callee.value (Operand.func 5), args := #[Operand.tmp 139, Operand.tmp 143], argTypes := #[22, 23] }, type := 29, pos := "law.go:276", after := #[{ on := 0, ground := Ground.data }, { on := 4, ground := Ground.data }], guard := none }) rfl (fun K hK => ?_) AllReadyH.nil
              go_simp
              refine (unhide CC0 _ (unhide E0)).mono ?_
              rintro e y1 ⟨r, rfl, ro1, hv1⟩
              obtain ⟨ra1, rc1, rfl⟩ := owns_form ro1
              have E1 := hide (bl_t (unhide E0) hv1)
              have RR1 := hide (And.intro ro1 hv1)
              clear ro1 hv1
              go_wp2_with fail
              refine hK.out _ _ trivial (fun hHeld0 => ?_)
              clear hHeld
              clear hK K
              try simp only [Act.put, List.setIfInBounds_toArray, List.set_cons_zero, List.set_cons_succ]
              refine wpAnyH_ready (rs := [11]) (by kernel_rfl) (by simp) ?_
              refine AllReadyH.cons (o := { dst := some 150, op := Op.call { callee := Callee.value (Operand.func 6), args := #[Operand.tmp 145, Operand.tmp 149], argTypes := #[22, 23] }, type := 29, pos := "law.go:276", after := #[{ on := 6, ground := Ground.data }, { on := 10, ground := Ground.data }, { on := 5, ground := Ground.chain }], guard := none }) rfl (fun K hK => ?_) AllReadyH.nil
              go_simp
              refine (unhide CC1 _ (unhide E1)).mono ?_
              rintro e y2 ⟨r, rfl, ro2, hv2⟩
              obtain ⟨ra2, rc2, rfl⟩ := owns_form ro2
              have E2 := hide (bl_t (unhide E1) hv2)
              have RR2 := hide (And.intro ro2 hv2)
              clear ro2 hv2
              go_wp2_with fail
              refine hK.out _ _ trivial (fun hHeld1 => ?_)
              clear hHeld0
              clear hK K
              try simp only [Act.put, List.setIfInBounds_toArray, List.set_cons_zero, List.set_cons_succ]
              refine wpAnyH_ready (rs := [12]) (by kernel_rfl) (by simp) ?_
              refine AllReadyH.cons (o := { dst := some 151, op := Op.call { callee := Callee.value (Operand.func 7), args := #[Operand.tmp 144, Operand.tmp 150], argTypes := #[29, 29] }, type := 4, pos := "law.go:276", after := #[{ on := 5, ground := Ground.data }, { on := 11, ground := Ground.data }, { on := 11, ground := Ground.chain }], guard := none }) rfl (fun K hK => ?_) AllReadyH.nil
              go_simp
              refine (sameInts_yes (row_low (unhide RR1).1 (unhide RR2).2) (unhide RR2).1 (by omega)).mono ?_
              rintro e y3 ⟨rfl, hv3⟩
              have E3 := hide (bl_t (unhide E2) hv3)
              clear hv3
              go_wp2_with fail
              refine hK.out _ _ trivial (fun hHeld2 => ?_)
              clear hHeld1
              clear hK K
              try simp only [Act.put, List.setIfInBounds_toArray, List.set_cons_zero, List.set_cons_succ]
              refine wpAnyH_take (i := 13) (oi := { dst := some 4, op := Op.assign (Operand.tmp 151), type := 4, pos := "law.go:276", after := #[{ on := 12, ground := Ground.data }, { on := 12, ground := Ground.chain }, { on := 0, ground := Ground.phase }, { on := 1, ground := Ground.phase }, { on := 2, ground := Ground.phase }, { on := 3, ground := Ground.phase }, { on := 4, ground := Ground.phase }, { on := 5, ground := Ground.phase }, { on := 6, ground := Ground.phase }, { on := 7, ground := Ground.phase }, { on := 8, ground := Ground.phase }, { on := 9, ground := Ground.phase }, { on := 10, ground := Ground.phase }, { on := 11, ground := Ground.phase }, { on := 12, ground := Ground.phase }], guard := none }) (v := ?_) rfl (by kernel_rfl) (by kernel_rfl) (by kernel_rfl) (fun _ _ _ h => h) (Or.inl ⟨by rfl, ?_⟩) (by assumption) ?_
              rotate_left
              · intro w hSw; (try dsimp only at hSw); go_simp; (try with_reducible rfl)
              try simp only [Act.put, List.setIfInBounds_toArray, List.set_cons_zero, List.set_cons_succ]
              refine wpAnyH_done (by kernel_rfl) ?_ _
              go_wp2_with fail
              go_ret
              exact ⟨rfl, bl_t (unhide HBZ) (unhide E3)⟩
end Go.Proofs.YtjcemfegkefdeaaDoor

