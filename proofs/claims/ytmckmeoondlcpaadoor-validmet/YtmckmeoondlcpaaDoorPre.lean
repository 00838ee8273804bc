import Derived.Test.YtmckmeoondlcpaaDoorOrder
namespace Go.Proofs.YtmckmeoondlcpaaDoor

/-- A TOTAL PREORDER, TOLD AS -1, 0, 1. -/
structure IsPre {α : Type} (c : α → α → Int) : Prop where
  rng : ∀ x y, c x y = -1 ∨ c x y = 0 ∨ c x y = 1
  anti : ∀ x y, c y x = - c x y
  tr : ∀ x y z, c x y ≤ 0 → c y z ≤ 0 → c x z ≤ 0

theorem pre_ci : IsPre ci := by
  refine ⟨fun x y => ?_, fun x y => ?_, fun x y z => ?_⟩
  · unfold ci; split <;> (try split) <;> simp
  · unfold ci; split <;> split <;> (try split) <;> (try split) <;> omega
  · unfold ci
    by_cases h1 : x < y <;> by_cases h2 : y < x <;> by_cases h3 : y < z <;> by_cases h4 : z < y <;> by_cases h5 : x < z <;> by_cases h6 : z < x <;> simp [h1, h2, h3, h4, h5, h6] <;> omega

theorem pre_comap {α β : Type} {c : α → α → Int} (h : IsPre c) (f : β → α) : IsPre (fun x y => c (f x) (f y)) :=
  ⟨fun _ _ => h.rng _ _, fun _ _ => h.anti _ _, fun _ _ _ => h.tr _ _ _⟩

theorem pre_lex {α : Type} {c d : α → α → Int} (h : IsPre c) (k : IsPre d) : IsPre (fun x y => if c x y = 0 then d x y else c x y) := by
  refine ⟨fun x y => ?_, fun x y => ?_, fun x y z => ?_⟩
  · show (if c x y = 0 then d x y else c x y) = _ ∨ _
    split
    · exact k.rng x y
    · exact h.rng x y
  · show (if c y x = 0 then d y x else c y x) = - (if c x y = 0 then d x y else c x y)
    have := h.anti x y
    have := k.anti x y
    split <;> split <;> omega
  · show (if c x y = 0 then d x y else c x y) ≤ 0 → (if c y z = 0 then d y z else c y z) ≤ 0 → (if c x z = 0 then d x z else c x z) ≤ 0
    have t1 := h.tr x y z
    have t2 := h.tr z x y
    have t3 := h.tr y z x
    have a1 := h.anti x y
    have a2 := h.anti y z
    have a3 := h.anti x z
    have t4 := k.tr x y z
    intro e1 e2
    split at e1 <;> split at e2 <;> split <;> omega

theorem pre_zero {α : Type} : IsPre (fun _ _ : α => (0 : Int)) := ⟨fun _ _ => .inr (.inl rfl), fun _ _ => rfl, fun _ _ _ _ _ => Int.le_refl _⟩

theorem pre_sq {α : Type} (c : Nat → α → α → Int) (h : ∀ i, IsPre (c i)) : ∀ n, IsPre (fun x y => sq (fun i => c i x y) n)
  | 0 => pre_zero
  | n + 1 => pre_lex (pre_sq c h n) (h n)

theorem pre_seq {α : Type} (c : Nat → α → α → Int) (h : ∀ i, IsPre (c i)) (B : α → Nat) (C : α → α → Int) (hC : ∀ x y n, B x ≤ n → B y ≤ n → C x y = sq (fun i => c i x y) n) : IsPre C := by
  refine ⟨fun x y => ?_, fun x y => ?_, fun x y z => ?_⟩
  · rw [hC x y (B x + B y) (by omega) (by omega)]
    exact (pre_sq c h _).rng x y
  · rw [hC x y (B x + B y) (by omega) (by omega), hC y x (B x + B y) (by omega) (by omega)]
    exact (pre_sq c h _).anti x y
  · rw [hC x y (B x + B y + B z) (by omega) (by omega), hC y z (B x + B y + B z) (by omega) (by omega), hC x z (B x + B y + B z) (by omega) (by omega)]
    exact (pre_sq c h _).tr x y z

def csL (x y : List UInt8) : Int := if Op.bytesLess x y = true then -1 else if (x == y) = true then 0 else 1

theorem csL_cons (a b : UInt8) (x y : List UInt8) : csL (a :: x) (b :: y) = if ci (a.toNat : Int) (b.toNat : Int) = 0 then csL x y else ci (a.toNat : Int) (b.toNat : Int) := by
  unfold csL ci
  rcases Nat.lt_trichotomy a.toNat b.toNat with h | h | h
  · have h1 : a < b := h
    have h2 : (a.toNat : Int) < (b.toNat : Int) := by omega
    simp [Op.bytesLess, h1, h2]
  · have h1 : a = b := UInt8.toNat_inj.1 h
    subst h1
    simp [Op.bytesLess]
  · have h1 : ¬ a < b := by intro h'; have : a.toNat < b.toNat := h'; omega
    have h2 : ¬ (a.toNat : Int) < (b.toNat : Int) := by omega
    have h3 : (b.toNat : Int) < (a.toNat : Int) := by omega
    have h4 : a ≠ b := by intro e; rw [e] at h; omega
    simp [Op.bytesLess, h1, h2, h3, h4]

theorem pre_csL : IsPre csL := by
  have r : ∀ x y, csL x y = -1 ∨ csL x y = 0 ∨ csL x y = 1 := by
    intro x y; unfold csL; split <;> (try split) <;> simp
  have an : ∀ x y, csL y x = - csL x y := by
    intro x
    induction x with
    | nil => intro y; cases y <;> rfl
    | cons a x ih =>
      intro y
      cases y with
      | nil => rfl
      | cons b y =>
        rw [csL_cons, csL_cons]
        have := pre_ci.anti (a.toNat : Int) (b.toNat : Int)
        have := ih y
        split <;> split <;> omega
  refine ⟨r, an, ?_⟩
  intro x
  induction x with
  | nil =>
    intro y z _ _
    cases z
    · exact Int.le_refl _
    · exact (by decide : (-1 : Int) ≤ 0)
  | cons a x ih =>
    intro y z h1 h2
    cases y with
    | nil => exact absurd h1 (by have : csL (a :: x) [] = 1 := rfl
                                 omega)
    | cons b y =>
      cases z with
      | nil => exact absurd h2 (by have : csL (b :: y) [] = 1 := rfl
                                   omega)
      | cons c z =>
        rw [csL_cons] at h1 h2 ⊢
        have t1 := pre_ci.tr (a.toNat : Int) b.toNat c.toNat
        have t2 := pre_ci.tr (c.toNat : Int) a.toNat b.toNat
        have t3 := pre_ci.tr (b.toNat : Int) c.toNat a.toNat
        have a1 := pre_ci.anti (a.toNat : Int) b.toNat
        have a2 := pre_ci.anti (b.toNat : Int) c.toNat
        have a3 := pre_ci.anti (a.toNat : Int) c.toNat
        have t4 := ih y z
        split at h1 <;> split at h2 <;> split <;> omega

theorem cs_csL (a b : ByteArray) : cs a b = csL a.toList b.toList := rfl
theorem pre_cs : IsPre cs := pre_comap pre_csL ByteArray.toList

theorem pre_ordNum : IsPre ordNum := pre_lex (pre_comap pre_ci (fun s : ByteArray => ((stripB s).size : Int))) (pre_comap pre_cs stripB)

theorem rkAt_end (s : ByteArray) (i : Nat) (h : s.size ≤ i) : rkAt s i = 1 := by
  unfold rkAt; rw [dif_neg (by omega)]

theorem pre_ordWord : IsPre ordWord := by
  refine pre_seq (fun i a b => cw a b i) (fun i => pre_comap pre_ci (fun s : ByteArray => rkAt s i)) ByteArray.size ordWord ?_
  intro a b n h1 h2
  unfold ordWord
  refine (sq_tail (cw a b) (max a.size b.size) ?_ n (by omega)).symm
  intro i hi
  unfold cw
  rw [rkAt_end a i (by omega), rkAt_end b i (by omega)]
  rfl

theorem pre_cp (i : Nat) : IsPre (fun a b => cp a b i) := by
  cases h : odd i
  · have e : (fun a b => cp a b i) = fun a b => ordWord (runOf a i) (runOf b i) := by
      funext a b; unfold cp; rw [h]; rfl
    rw [e]; exact pre_comap pre_ordWord (fun s => runOf s i)
  · have e : (fun a b => cp a b i) = fun a b => ordNum (runOf a i) (runOf b i) := by
      funext a b; unfold cp; rw [h]; rfl
    rw [e]; exact pre_comap pre_ordNum (fun s => runOf s i)

theorem ordPart_any (a b : ByteArray) (n : Nat) (h1 : 2 * a.size ≤ n) (h2 : 2 * b.size ≤ n) : ordPart a b = sq (cp a b) n := by
  unfold ordPart
  have h : ∀ i, max (2 * a.size) (2 * b.size) ≤ i → cp a b i = 0 := fun i hi => cp_end a b i (ia_done a i (by omega)) (ia_done b i (by omega))
  rw [sq_tail (cp a b) _ h n (by omega), sq_tail (cp a b) _ h (bnd a b) (by unfold bnd; omega)]

theorem pre_ordPart : IsPre ordPart :=
  pre_seq (fun i a b => cp a b i) pre_cp (fun s => 2 * s.size) ordPart fun a b n h1 h2 => ordPart_any a b n h1 h2

/-- THE ORDER OF VERSIONS IS A TOTAL PREORDER. -/
theorem pre_ordV : IsPre ordV :=
  pre_lex (pre_comap pre_ordNum Ver.e) (pre_lex (pre_comap pre_ordPart Ver.u) (pre_comap pre_ordPart Ver.r))

end Go.Proofs.YtmckmeoondlcpaaDoor
