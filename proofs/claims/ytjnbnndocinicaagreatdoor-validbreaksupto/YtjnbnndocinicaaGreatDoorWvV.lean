import Derived.Test.YtjnbnndocinicaaGreatDoorWvP
namespace Go.Proofs.YtjnbnndocinicaaGreatDoor
open Go.RowKit Go.Maps

/-- A MAP OF VALUES BY NAME, AS IT LIES. -/
structure RepV (D : DataW Value) (H : Nm → Option Value) : Prop where
  has : ∀ x : Nm, x.size ≤ maxLen → Maps.has D (kl x) = (H x).isSome
  at_ : ∀ x : Nm, x.size ≤ maxLen → ∀ z, D.atKey (kl x) z = match H x with | some h => .held h | none => z
theorem RepV.start : RepV (.map []) (fun _ => none) := ⟨fun _ _ => rfl, fun _ _ _ => rfl⟩
theorem RepV.put {D : DataW Value} {H : Nm → Option Value} (r : RepV D H) (hD : IsMap D) {x : Nm} (h : Value) : RepV (D.put (kl x) (.held h)) (up H x (some h)) := by
  refine ⟨fun y hy => ?_, fun y hy z => ?_⟩
  · by_cases e : y = x
    · subst e
      rw [has_put_same hD (show WideAt.IsKeyLit (kl y) from trivial), up_same]
      rfl
    · rw [has_put_other (fun q => e (kl_inj q)), up_other _ _ e, r.has y hy]
  · by_cases e : y = x
    · subst e
      rw [atKey_put_same hD (show WideAt.IsKeyLit (kl y) from trivial), up_same]
    · rw [atKey_put_other (fun q => e (kl_inj q)), up_other _ _ e, r.at_ y hy]
def Dv (W : World) (b : Nat) (H : Nm → Option Value) (k : Nat) : Prop := ∃ D, W.ownsMap Tryz.prog 9 raw b k D ∧ RepV D H
theorem Dv.lt {W : World} {b : Nat} {H : Nm → Option Value} {k : Nat} (h : Dv W b H k) : b < W.heap.size := let ⟨_, o, _⟩ := h; o.lt
theorem Dv.same {W W2 : World} {b : Nat} {H : Nm → Option Value} {k : Nat} (h : Dv W b H k) (hb : W2.heap[b]? = W.heap[b]?) : Dv W2 b H k := by
  obtain ⟨D, ⟨es, clock, h1, h2⟩, r⟩ := h
  exact ⟨D, ⟨es, clock, hb.trans h1, h2⟩, r⟩
theorem Dv.later {W W2 : World} {b : Nat} {H : Nm → Option Value} {k : Nat} (h : Dv W b H k) (hb : Below W.heap.size W W2) : Dv W2 b H k := h.same (hb.block b h.lt)
theorem Dv.make (W : World) : Dv (W.alloc (.map #[] 0)) W.heap.size (fun _ => none) 0 := ⟨_, World.ownsMap_made W Tryz.prog 9 raw, RepV.start⟩
/-- WHERE A FILE STANDS. -/
def spV (t : Nat × Nat) : Value := .agg #[.int .i64 (t.1 : Int), .int .i64 (t.2 : Int)]
def sp0 : Value := .agg #[.int .i64 0, .int .i64 0]
theorem zeroSP (w : World) : (zeroValue 81).run Tryz.prog w = .ok sp0 w := by kernel_rfl
theorem Dv.look {W : World} {b : Nat} {H : Nm → Option Value} {k : Nat} (h : Dv W b H k) {x : Nm} (hx : x.size ≤ maxLen) : (Instr.lookup 60 (.map (some b)) (.string x) true).run Tryz.prog W = .ok (.tuple #[(H x).getD sp0, .bool (H x).isSome]) W := by
  obtain ⟨D, ho, r⟩ := h
  obtain ⟨v, ps, hr, hv2⟩ := ho.look_ok law9 Tryz.underlying60 (zeroSP W) (zd := .held sp0) (zp := []) rfl (key9 hx)
  rw [hr, r.has x hx]
  have e := raw_inv hv2
  rw [r.at_ x hx] at e
  cases hH : H x with
  | none => simp only [hH] at e; cases e; rfl
  | some h => simp only [hH] at e; cases e; rfl
theorem Dv.look1 {W : World} {b : Nat} {H : Nm → Option Value} {k : Nat} (h : Dv W b H k) {x : Nm} (hx : x.size ≤ maxLen) : (Instr.lookup 60 (.map (some b)) (.string x) false).run Tryz.prog W = .ok ((H x).getD sp0) W := by
  obtain ⟨D, ho, r⟩ := h
  obtain ⟨v, ps, hr, hv2⟩ := ho.lookup law9 Tryz.underlying60 (zeroSP W) (zd := .held sp0) (zp := []) rfl (key9 hx)
  rw [hr]
  have e := raw_inv hv2
  rw [r.at_ x hx] at e
  cases hH : H x with
  | none => simp only [hH] at e; cases e; rfl
  | some h => simp only [hH] at e; cases e; rfl
theorem Dv.put {W : World} {b k : Nat} {H : Nm → Option Value} (h : Dv W b H k) (hk : k < maxLen) {x : Nm} (hx : x.size ≤ maxLen) (f : Value) :
    ∃ W2, (Instr.mapUpdate 60 (.map (some b)) (.string x) f).run Tryz.prog W = .ok () W2 ∧ Dv W2 b (up H x (some f)) (k + 1) ∧ Fx (fun c => c = b) W W2 := by
  obtain ⟨D, ho, r⟩ := h
  obtain ⟨W2, hr, ho2, ht⟩ := ho.store law9 Tryz.underlying60 hk (key9 (x := x) hx) (val := f) (d := .held f) (ps := []) rfl
  have hg := ht.grown
  exact ⟨W2, hr, ⟨_, ho2, r.put ho.isMap f⟩, ⟨hg.1, hg.2, hg.3, hg.size, fun _ h => absurd h (Nat.not_lt_zero _)⟩, fun c hc hn => hg.block c hc (by intro q; cases q; exact hn rfl)⟩
/-- THE PATH OF A FILE. -/
def pathC (cs : List Value) : Nm := match (cs[0]? : Option Value) with | some (.string s) => s | _ => ⟨#[]⟩
/-- A PACKAGE'S SPOTS, AND THOSE OF ALL. -/
def spQ (p : Nat) (fs : List (List Value)) : List (Nm × Nat × Nat) := fs.zipIdx.map fun x => (pathC x.1, p, x.2)
def spL (ps : List Pk) : Nat → List (Nm × Nat × Nat)
  | 0 => []
  | i + 1 => spL ps i ++ (match ps[i]? with | some q => spQ i q.fs | none => [])
def fst1 (L : List (Nm × Nat × Nat)) (x : Nm) : Option (Nat × Nat) := (L.find? fun t => decide (t.1 = x)).map (·.2)
def fsH (L : List (Nm × Nat × Nat)) (x : Nm) : Option Value := (fst1 L x).map spV
theorem fst1_snoc (L : List (Nm × Nat × Nat)) (t : Nm × Nat × Nat) (x : Nm) : fst1 (L ++ [t]) x = match fst1 L x with | some s => some s | none => if t.1 = x then some t.2 else none := by
  unfold fst1
  rw [List.find?_append]
  cases L.find? fun t => decide (t.1 = x) with
  | some s => rfl
  | none =>
    by_cases e : t.1 = x
    · simp [e]
    · simp [e]
theorem fsH_old {L : List (Nm × Nat × Nat)} {t : Nm × Nat × Nat} (h : (fsH L t.1).isSome = true) : fsH (L ++ [t]) = fsH L := by
  funext x
  unfold fsH
  rw [fst1_snoc]
  cases e : fst1 L x with
  | some s => rfl
  | none =>
    by_cases q : t.1 = x
    · subst q
      unfold fsH at h
      rw [e] at h
      cases h
    · rw [if_neg q]
theorem fsH_new {L : List (Nm × Nat × Nat)} {t : Nm × Nat × Nat} (h : (fsH L t.1).isSome = false) : fsH (L ++ [t]) = up (fsH L) t.1 (some (spV t.2)) := by
  funext x
  by_cases q : x = t.1
  · subst q
    rw [up_same]
    unfold fsH at h ⊢
    rw [fst1_snoc]
    cases e : fst1 L t.1 with
    | some s => rw [e] at h; cases h
    | none => simp
  · rw [up_other _ _ q]
    unfold fsH
    rw [fst1_snoc, if_neg (fun e => q e.symm)]
    cases fst1 L x <;> rfl
end Go.Proofs.YtjnbnndocinicaaGreatDoor
