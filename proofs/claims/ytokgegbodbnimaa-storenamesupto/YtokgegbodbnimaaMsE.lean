import Derived.Test.YtokgegbodbnimaaMsD
namespace Go.Proofs.Ytokgegbodbnimaa
open Go.RowKit Go.Maps

/-- WHAT A DIRECTORY HOLDS. -/
abbrev Cn := Nm → Option (List Int)
def lnC : Option (List Int) → Nat
  | none => 0
  | some bs => bs.length
/-- THE OPERATIONS, AS THEY ARE MEANT. -/
inductive Ope where
  | wr (x : Nm) (bs : List Int)
  | ap (x : Nm) (bs : List Int)
  | tr (x : Nm) (n : Int)
  | rn (x y : Nm)
  | rm (x : Nm)
def tk (bs : List Int) (n : Int) : List Int := bs.take (min n (bs.length : Int)).toNat
noncomputable def Ope.on : Ope → Cn × Int → Cn × Int
  | .wr x bs, (m, u) => (up m x (some bs), usP u bs.length (lnC (m x)))
  | .ap x bs, (m, u) => match m x with | none => (m, u) | some o => (up m x (some (o ++ bs)), usP u (o ++ bs).length o.length)
  | .tr x n, (m, u) => match m x with | none => (m, u) | some o => (up m x (some (tk o n)), usP u (tk o n).length o.length)
  | .rn x y, (m, u) => match m x with | none => (m, u) | some o => (up (up m x none) y (some o), usP (usD u o.length) o.length (lnC (up m x none y)))
  | .rm x, (m, u) => (up m x none, usD u (lnC (m x)))
def Ope.nms : Ope → List Nm
  | .wr x _ => [x]
  | .ap x _ => [x]
  | .tr x _ => [x]
  | .rn x y => [x, y]
  | .rm x => [x]
def Ope.bytes : Ope → Nat
  | .wr _ bs => bs.length
  | .ap _ bs => bs.length
  | _ => 0
/-- AND AS THEY LIE. -/
inductive Opn where
  | wr (x : Nm) (f : Hd) (bs : List Int)
  | ap (x : Nm) (f : Hd) (bs : List Int)
  | tr (x : Nm) (n : Int)
  | rn (x y : Nm)
  | rm (x : Nm)
def Opn.ty : Opn → TypeId
  | .wr .. => 80
  | .ap .. => 87
  | .tr .. => 93
  | .rn .. => 95
  | .rm .. => 91
def Opn.ag : Opn → Value
  | .wr x f _ => .agg #[.string x, .slice f.a f.n f.c]
  | .ap x f _ => .agg #[.string x, .slice f.a f.n f.c]
  | .tr x n => .agg #[.string x, .int .i64 n]
  | .rn x y => .agg #[.string x, .string y]
  | .rm x => .agg #[.string x]
def Opn.val (o : Opn) : Value := .iface o.ty o.ag
def Opn.e : Opn → Ope
  | .wr x _ bs => .wr x bs
  | .ap x _ bs => .ap x bs
  | .tr x n => .tr x n
  | .rn x y => .rn x y
  | .rm x => .rm x
def Opn.od : Opn → Option Hd
  | .wr _ f _ => some f
  | .ap _ f _ => some f
  | _ => none
def Opn.nms (o : Opn) : List Nm := o.e.nms
/-- ITS BYTES LIE, ITS NAMES ARE SHORT. -/
def Opn.Ok (W : World) : Opn → Prop
  | .wr x f bs => x.size ≤ 258 ∧ Bt W f bs
  | .ap x f bs => x.size ≤ 258 ∧ Bt W f bs
  | .tr x n => x.size ≤ 258 ∧ 0 ≤ n
  | .rn x y => x.size ≤ 258 ∧ y.size ≤ 258 ∧ x ≠ y
  | .rm x => x.size ≤ 258
theorem Opn.Ok.names {W : World} {o : Opn} (h : o.Ok W) : ∀ x ∈ o.nms, x.size ≤ 258 := by
  cases o <;> simp [Opn.nms, Opn.e, Ope.nms] <;> simp [Opn.Ok] at h <;> simp_all
theorem Opn.Ok.same {W W2 : World} {o : Opn} (h : o.Ok W) (q : ∀ f bs, o.od = some f → Bt W f bs → Bt W2 f bs) : o.Ok W2 := by
  cases o with
  | wr x f bs => exact ⟨h.1, q f bs rfl h.2⟩
  | ap x f bs => exact ⟨h.1, q f bs rfl h.2⟩
  | tr x n => exact h
  | rn x y => exact h
  | rm x => exact h
/-- FILES AS THEY LIE. -/
structure Sc (W : World) (H : Nm → Option Hd) (m : Cn) : Prop where
  con : ∀ x f, H x = some f → ∃ bs, m x = some bs ∧ Bt W f bs
  non : ∀ x, H x = none → m x = none
  inj : ∀ x y f g b, H x = some f → H y = some g → bk f = some b → bk g = some b → x = y
/-- A DIRECTORY AS IT LIES. -/
structure Sd (W : World) (d : Value) (H : Nm → Option Hd) (m : Cn) (k : Nat) : Prop where
  dm : Dm W d H k
  sc : Sc W H m
/-- A HEADER THAT IS NO LONGER THAN THE FILE WHOSE BYTES IT SHARES. -/
def Blw (H : Nm → Option Hd) (g : Hd) : Prop := ∀ x f b, H x = some f → bk f = some b → bk g = some b → g.n ≤ f.n
theorem Sc.ln {W : World} {H : Nm → Option Hd} {m : Cn} (s : Sc W H m) (x : Nm) : ln0 (H x) = lnC (m x) := by
  cases h : H x with
  | none => rw [s.non x h]; rfl
  | some f =>
    obtain ⟨bs, e, b⟩ := s.con x f h
    rw [e]
    exact b.len.symm
theorem Sc.blw {W : World} {H : Nm → Option Hd} {m : Cn} (s : Sc W H m) {x : Nm} {f : Hd} (h : H x = some f) : Blw H f := fun y g b hy e1 e2 => by
  have := s.inj x y f g b h hy e2 e1
  subst this
  rw [h] at hy
  cases hy
  exact Nat.le_refl _
theorem Sc.same {W W2 : World} {H : Nm → Option Hd} {m : Cn} (s : Sc W H m) (q : ∀ x f bs, H x = some f → Bt W f bs → Bt W2 f bs) : Sc W2 H m :=
  ⟨fun x f h => by
    obtain ⟨bs, e, b⟩ := s.con x f h
    exact ⟨bs, e, q x f bs h b⟩, s.non, s.inj⟩
theorem Sc.later {W W2 : World} {H : Nm → Option Hd} {m : Cn} (s : Sc W H m) (hb : Below W.heap.size W W2) : Sc W2 H m := s.same fun _ _ _ _ b => b.later hb
theorem Sd.later {W W2 : World} {d : Value} {H : Nm → Option Hd} {m : Cn} {k : Nat} (s : Sd W d H m k) (hb : Below W.heap.size W W2) : Sd W2 d H m k := ⟨s.dm.later hb, s.sc.later hb⟩
theorem Sd.mono {W : World} {d : Value} {H : Nm → Option Hd} {m : Cn} {k k2 : Nat} (s : Sd W d H m k) (hk : k ≤ k2) : Sd W d H m k2 := ⟨s.dm.mono hk, s.sc⟩
/-- A file comes in, goes. -/
theorem Sc.put {W : World} {H : Nm → Option Hd} {m : Cn} (s : Sc W H m) {x : Nm} {f : Hd} {bs : List Int} (b : Bt W f bs) (hn : ∀ y g c, y ≠ x → H y = some g → bk g = some c → bk f = some c → False) : Sc W (up H x (some f)) (up m x (some bs)) := by
  refine ⟨fun y g h => ?_, fun y h => ?_, fun y z g1 g2 c h1 h2 e1 e2 => ?_⟩
  · by_cases e : y = x
    · subst e
      rw [up_same] at h ⊢
      cases h
      exact ⟨bs, rfl, b⟩
    · rw [up_other _ _ e] at h ⊢
      exact s.con y g h
  · by_cases e : y = x
    · subst e
      rw [up_same] at h
      cases h
    · rw [up_other _ _ e] at h ⊢
      exact s.non y h
  · by_cases ey : y = x
    · by_cases ez : z = x
      · rw [ey, ez]
      · subst ey
        rw [up_same] at h1
        rw [up_other _ _ ez] at h2
        cases h1
        exact (hn z g2 c ez h2 e2 e1).elim
    · by_cases ez : z = x
      · subst ez
        rw [up_same] at h2
        rw [up_other _ _ ey] at h1
        cases h2
        exact (hn y g1 c ey h1 e1 e2).elim
      · rw [up_other _ _ ey] at h1
        rw [up_other _ _ ez] at h2
        exact s.inj y z g1 g2 c h1 h2 e1 e2
theorem up_none {H : Nm → Option Hd} {x y : Nm} {g : Hd} (h : up H x none y = some g) : y ≠ x ∧ H y = some g := by
  by_cases e : y = x
  · subst e
    rw [up_same] at h
    cases h
  · exact ⟨e, by rw [up_other _ _ e] at h; exact h⟩
theorem up_some {H : Nm → Option Hd} {x y : Nm} {f g : Hd} (h : up H x (some f) y = some g) : (y = x ∧ g = f) ∨ (y ≠ x ∧ H y = some g) := by
  by_cases e : y = x
  · subst e
    rw [up_same] at h
    cases h
    exact .inl ⟨rfl, rfl⟩
  · exact .inr ⟨e, by rw [up_other _ _ e] at h; exact h⟩
theorem Sc.del {W : World} {H : Nm → Option Hd} {m : Cn} (s : Sc W H m) (x : Nm) : Sc W (up H x none) (up m x none) := by
  refine ⟨fun y g h => ?_, fun y h => ?_, fun y z g1 g2 c h1 h2 e1 e2 => s.inj y z g1 g2 c (up_none h1).2 (up_none h2).2 e1 e2⟩
  · obtain ⟨e, h⟩ := up_none h
    rw [up_other _ _ e]
    exact s.con y g h
  · by_cases e : y = x
    · subst e; exact up_same _ _ _
    · rw [up_other _ _ e] at h ⊢
      exact s.non y h
theorem Bt.neC {W : World} {h : Hd} {bs : List Int} (b : Bt W h bs) {g : Nat} (e : bk h = some g) {cur : Array Value} {t : TypeId} (ht : t ≠ 5) (hB : W.heap[g]? = some (.cells cur t (0, 0))) : False := by
  rcases b.form with ⟨e2, _⟩ | ⟨g2, c2, e2, hg, _⟩
  · rw [e2] at e; cases e
  · unfold bk at e
    rw [e2] at e
    cases e
    rw [hB] at hg
    injection hg with hg
    injection hg with _ hg _
    exact ht hg
theorem Bt.neM {W : World} {h : Hd} {bs : List Int} (b : Bt W h bs) {g : Nat} (e : bk h = some g) {d : Value} {H : Nm → Option Hd} {k : Nat} (hd : Dm W d H k) : mb d ≠ some g := by
  rcases b.form with ⟨e2, _⟩ | ⟨g2, c2, e2, hg, _⟩
  · rw [e2] at e; cases e
  · unfold bk at e
    rw [e2] at e
    cases e
    exact hd.ne hg
/-- WHAT AN OPERATION LEAVES OF A DIRECTORY. -/
structure On (W W2 : World) (B : Nat) (cur : Array Value) (d : Value) (u : Int) (H : Nm → Option Hd) (m : Cn) (k : Nat) (o : Opn) (d2 : Value) (H2 : Nm → Option Hd) : Prop where
  blk : W2.heap[B]? = some (.cells ((cur.setIfInBounds 0 d2).setIfInBounds 1 (.int .i64 (o.e.on (m, u)).2)) 75 (0, 0))
  dir : Sd W2 d2 H2 (o.e.on (m, u)).1 (k + 1)
  mbk : mb d2 = mb d ∨ ∃ b, mb d2 = some b ∧ W.heap.size ≤ b
  fx : Fx (fun c => c = B ∨ mb d = some c ∨ ∃ x f, H x = some f ∧ bk f = some c) W W2
  kept : ∀ g bs, Bt W g bs → Blw H g → Bt W2 g bs
  from_ : ∀ z h', H2 z = some h' → (∃ y h, H y = some h ∧ bk h' = bk h ∧ h.n ≤ h'.n) ∨ (∀ b, bk h' = some b → W.heap.size ≤ b) ∨ o.od = some h'
  other : ∀ z, z ∉ o.nms → H2 z = H z
end Go.Proofs.Ytokgegbodbnimaa
