import Derived.Test.YtokgegbodbnimaaMsP
import Derived.Sort.KeysCollected
namespace Go.Proofs.Ytokgegbodbnimaa
open Go.RowKit Go.Maps

def nmOf (l : List UInt8) : Nm := ⟨l.toArray⟩
theorem nmOf_inj {a b : List UInt8} (h : nmOf a = nmOf b) : a = b := by
  unfold nmOf at h
  injection h with h
  simpa using h
theorem nmOf_data (x : Nm) : nmOf x.data.toList = x := by
  cases x
  simp [nmOf]
theorem kl_of (l : List UInt8) : kl (nmOf l) = .string l := by simp [kl, nmOf]
/-- THE NAMES OF A MAP. -/
theorem Rep.keys {W : World} {b k : Nat} {D : DataW Value} {H : Nm → Option Hd} (ho : W.ownsMap Try.prog 9 raw b k D) (r : Rep D H) : (strKeys D).Nodup ∧ (∀ x : Nm, x.data.toList ∈ strKeys D ↔ H x ≠ none) ∧ (strKeys D).length = Maps.size D := by
  obtain ⟨es, rfl, hpw, hkl⟩ := ho.entries law9
  obtain ⟨es2, e2, hk2⟩ := ho.keysOf
  cases e2
  have hs : ∀ p ∈ es, ∃ l, p.1 = .string l ∧ l.length ≤ maxLen := fun p hp => by
    obtain ⟨key, hkey⟩ := hk2 p hp
    obtain ⟨x, _, e, hx⟩ := Maps.keyOf_str Try.underlying9 hkey
    exact ⟨x, e, hx⟩
  have hmem : ∀ l : List UInt8, l ∈ strKeys (DataW.map es) ↔ ∃ p ∈ es, p.1 = .string l := fun l => by
    unfold strKeys
    rw [List.mem_map]
    refine ⟨fun ⟨p, hp, e⟩ => ?_, fun ⟨p, hp, e⟩ => ⟨p, hp, by rw [e]; rfl⟩⟩
    obtain ⟨l2, e2, _⟩ := hs p hp
    rw [e2] at e
    exact ⟨p, hp, by rw [e2]; exact congrArg _ e⟩
  refine ⟨?_, fun x => ?_, by simp [strKeys, Maps.size]⟩
  · unfold strKeys
    rw [List.Nodup, List.pairwise_map]
    refine hpw.imp_of_mem fun {p q} hp hq hne e => hne ?_
    obtain ⟨l1, e1, _⟩ := hs p hp
    obtain ⟨l2, e2, _⟩ := hs q hq
    rw [e1, e2] at e ⊢
    exact congrArg _ e
  · rw [hmem]
    by_cases hx : x.size ≤ maxLen
    · have h1 := r.has x hx
      rw [has_eq] at h1
      constructor
      · rintro ⟨p, hp, e⟩ hH
        rw [hH] at h1
        have h2 : es.any (fun p => p.1.sameKey (kl x)) = true := List.any_eq_true.2 ⟨p, hp, by rw [e]; simp [kl, Lit.sameKey]⟩
        rw [h2] at h1
        cases h1
      · intro hH
        have h3 : (H x).isSome = true := by cases hh : H x with | none => exact absurd hh hH | some f => rfl
        rw [h3] at h1
        obtain ⟨p, hp, e⟩ := List.any_eq_true.1 h1
        obtain ⟨l2, e2, _⟩ := hs p hp
        rw [e2] at e
        refine ⟨p, hp, ?_⟩
        rw [e2]
        simpa [kl, Lit.sameKey] using e
    · constructor
      · rintro ⟨p, hp, e⟩
        obtain ⟨l2, e2, h2⟩ := hs p hp
        rw [e2] at e
        injection e with e
        subst e
        exact absurd (by simpa using h2) hx
      · intro hH
        exact absurd (Nat.le_trans (r.lim x hH) (by decide)) hx
/-- HOW MANY FILES. -/
noncomputable def cnt (m : Cn) : Nat := @dite _ (∃ l : List (List UInt8), l.Nodup ∧ ∀ x : Nm, x.data.toList ∈ l ↔ m x ≠ none) (Classical.propDecidable _) (fun h => (Classical.choose h).length) (fun _ => 0)
theorem perm_nodup {α : Type} : ∀ {a b : List α}, a.Nodup → b.Nodup → (∀ x, x ∈ a ↔ x ∈ b) → a.Perm b := fun ha hb h => (List.perm_ext_iff_of_nodup ha hb).2 h
theorem cnt_eq {m : Cn} {l : List (List UInt8)} (hl : l.Nodup) (h : ∀ x : Nm, x.data.toList ∈ l ↔ m x ≠ none) : cnt m = l.length := by
  have hx : ∃ l : List (List UInt8), l.Nodup ∧ ∀ x : Nm, x.data.toList ∈ l ↔ m x ≠ none := ⟨l, hl, h⟩
  unfold cnt
  rw [dif_pos hx]
  obtain ⟨h1, h2⟩ := Classical.choose_spec hx
  refine (perm_nodup h1 hl fun y => ?_).length_eq
  have e : (nmOf y).data.toList = y := by simp [nmOf]
  rw [← e, h2, h]
/-- THE FILES' NAMES, AS A LIST. -/
theorem Sd.keys {W : World} {d : Value} {H : Nm → Option Hd} {m : Cn} {k : Nat} (s : Sd W d H m k) : (d = .map none ∧ ∀ x, m x = none) ∨ ∃ b D, d = .map (some b) ∧ W.ownsMap Try.prog 9 raw b k D ∧ Rep D H ∧ (strKeys D).Nodup ∧ (∀ x : Nm, x.data.toList ∈ strKeys D ↔ m x ≠ none) ∧ (strKeys D).length = Maps.size D := by
  have hm : ∀ x, H x ≠ none ↔ m x ≠ none := fun x => by
    cases h : H x with
    | none => simp [s.sc.non x h]
    | some f =>
      obtain ⟨bs, e, _⟩ := s.sc.con x f h
      rw [e]
      simp
  rcases s.dm with ⟨rfl, h⟩ | ⟨b, D, rfl, ho, r⟩
  · exact .inl ⟨rfl, fun x => s.sc.non x (h x)⟩
  · obtain ⟨h1, h2, h3⟩ := r.keys ho
    exact .inr ⟨b, D, rfl, ho, r, h1, fun x => (h2 x).trans (hm x), h3⟩
theorem Sd.len {W : World} {d : Value} {H : Nm → Option Hd} {m : Cn} {k : Nat} (s : Sd W d H m k) (ty : TypeId) : (Builtin.len_ #[70] ty #[d]).run Try.prog W = .ok (.int .i64 (cnt m)) W := by
  rcases s.keys with ⟨rfl, h⟩ | ⟨b, D, rfl, ho, r, h1, h2, h3⟩
  · rw [cnt_eq (m := m) (l := []) List.nodup_nil fun x => by rw [h x]; simp]
    exact Maps.len_nil Try.underlying70 ty
  · rw [cnt_eq h1 h2, h3]
    exact ho.len Try.underlying70 ty
/-- WHAT IS ANSWERED. -/
noncomputable def full (m : Cn) (u cap : Int) (x : Nm) (n : Nat) : Bool := ((m x).isNone && decide (1048576 ≤ cnt m)) || lks u cap (wrap64 ((n : Int) - (lnC (m x) : Int)))
noncomputable def wrR (m : Cn) (u cap : Int) (x : Nm) (n : Nat) : Int := if isNm x = true then (if full m u cap x n = true then 142 else 0) else 140
noncomputable def apR (m : Cn) (u cap : Int) (x : Nm) (n : Nat) : Int := if isNm x = true then (match m x with | none => 141 | some _ => if lks u cap (n : Int) = true then 142 else 0) else 140
noncomputable def trR (m : Cn) (x : Nm) (n : Int) : Int := if isNm x = true then (match m x with | none => 141 | some bs => if n < 0 ∨ (bs.length : Int) < n then 1 else 0) else 140
noncomputable def rnR (m : Cn) (x y : Nm) : Int := if isNm y = true then (if isNm x = true then (match m x with | none => 141 | some _ => if x = y then 1 else 0) else 140) else 140
noncomputable def rmR (m : Cn) (x : Nm) : Int := if isNm x = true then (match m x with | none => 141 | some _ => 0) else 140
/-- AN OPERATION THAT WAS DONE. -/
def Did (O : Nat → Prop) (B : Nat) (M : Mm) (m0 m1 : Cn) (K : Nat) (o : Ope) (W W2 : World) : Prop := ∃ M2 : Mm, Sto (Nw O W.heap.size) B M2 (o.cn m0) m1 (K + o.bytes + 2) W2 ∧ M2.ps.map Opn.e = M.ps.map Opn.e ++ [o] ∧ M2.cap = M.cap ∧ M2.u0 = (o.on (m0, M.u0)).2 ∧ Fx (Nw O W.heap.size) W W2
/-- WHAT A CALL LEAVES: the operation is done, or nothing has changed. -/
def Left (O : Nat → Prop) (B : Nat) (M : Mm) (m0 m1 : Cn) (K : Nat) (o : Ope) (r : Int) (W W2 : World) : Prop := (r = 0 ∧ Did O B M m0 m1 K o W W2) ∨ (r ≠ 0 ∧ Below W.heap.size W W2)
end Go.Proofs.Ytokgegbodbnimaa
