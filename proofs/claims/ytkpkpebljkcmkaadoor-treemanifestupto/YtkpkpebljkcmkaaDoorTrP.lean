import Derived.Test.YtkpkpebljkcmkaaDoorPthP
import Derived.Lib.ItoaNum
import Derived.Lib.AtoiAllCases
import Derived.Lib.Strings
namespace Go.Proofs.YtkpkpebljkcmkaaDoor
open Go

def dgt (b : UInt8) : Bool := decide (48 ≤ b.toNat) && decide (b.toNat ≤ 57)
/-- The digits' number, behind what stands ahead. -/
def vl (acc : Nat) : List UInt8 → Nat
  | [] => acc
  | c :: r => vl (acc * 10 + (c.toNat - 48)) r
/-- A number as it is written. -/
def cn (l : List UInt8) : Bool := decide (1 ≤ l.length) && decide (l.length ≤ 15) && !(decide (l.head? = some 48) && decide (1 < l.length)) && l.all dgt
def nb (most : Nat) (l : List UInt8) : Bool := cn l && decide (vl 0 l ≤ most)

theorem dgt_iff (b : UInt8) : dgt b = true ↔ 48 ≤ b.toNat ∧ b.toNat ≤ 57 := by unfold dgt; simp
theorem cn_iff (l : List UInt8) : cn l = true ↔ 1 ≤ l.length ∧ l.length ≤ 15 ∧ ¬ (l.head? = some 48 ∧ 1 < l.length) ∧ l.all dgt = true := by
  unfold cn
  simp only [Bool.and_eq_true, decide_eq_true_eq, Bool.not_eq_true', Bool.and_eq_false_iff, decide_eq_false_iff_not]
  constructor
  · rintro ⟨⟨⟨h1, h2⟩, h3⟩, h4⟩
    exact ⟨h1, h2, fun ⟨a, b⟩ => h3.elim (fun h => h a) (fun h => h b), h4⟩
  · rintro ⟨h1, h2, h3, h4⟩
    refine ⟨⟨⟨h1, h2⟩, ?_⟩, h4⟩
    by_cases a : l.head? = some 48
    · exact .inr fun b => h3 ⟨a, b⟩
    · exact .inl a
theorem nb_iff (most : Nat) (l : List UInt8) : nb most l = true ↔ cn l = true ∧ vl 0 l ≤ most := by unfold nb; simp

theorem vl_app (l r : List UInt8) : ∀ acc, vl acc (l ++ r) = vl (vl acc l) r := by
  induction l with
  | nil => intro acc; rfl
  | cons c l ih => intro acc; exact ih _
theorem vl_ge : ∀ (l : List UInt8) (acc : Nat), acc ≤ vl acc l
  | [], _ => Nat.le_refl _
  | c :: r, acc => by
    have := vl_ge r (acc * 10 + (c.toNat - 48))
    show acc ≤ vl (acc * 10 + (c.toNat - 48)) r
    omega
theorem vl_lt : ∀ (l : List UInt8) (acc : Nat), l.all dgt = true → vl acc l < (acc + 1) * 10 ^ l.length
  | [], acc, _ => by
    show acc < (acc + 1) * 10 ^ 0
    rw [Nat.pow_zero, Nat.mul_one]
    exact Nat.lt_succ_self _
  | c :: r, acc, h => by
    rw [List.all_cons, Bool.and_eq_true] at h
    obtain ⟨h1, h2⟩ := h
    have hd := (dgt_iff c).1 h1
    have := vl_lt r (acc * 10 + (c.toNat - 48)) h2
    have hm : (acc * 10 + (c.toNat - 48) + 1) * 10 ^ r.length ≤ (acc * 10 + 10) * 10 ^ r.length := Nat.mul_le_mul_right _ (by omega)
    show vl (acc * 10 + (c.toNat - 48)) r < (acc + 1) * 10 ^ (r.length + 1)
    have e : (acc + 1) * 10 ^ (r.length + 1) = (acc * 10 + 10) * 10 ^ r.length := by
      rw [Nat.pow_succ, show acc * 10 + 10 = (acc + 1) * 10 by omega, Nat.mul_assoc, Nat.mul_comm (10 ^ r.length) 10]
    omega

theorem of_nat (n : Nat) (h : n < 256) : (UInt8.ofNat n).toNat = n := by
  simp
  omega
theorem of_dg (u : Nat) : (UInt8.ofNat (48 + u % 10)).toNat = 48 + u % 10 := of_nat _ (by omega)
theorem vl_dec (u : Nat) : vl 0 (Lib.decDigits u) = u := by
  induction u using Nat.strongRecOn with
  | _ u ih =>
    rw [Lib.decDigits]
    by_cases h : u < 10
    · rw [dif_pos h]
      show 0 * 10 + ((UInt8.ofNat (48 + u)).toNat - 48) = u
      rw [of_nat _ (by omega)]
      omega
    · rw [dif_neg h, vl_app, ih (u / 10) (by omega)]
      show u / 10 * 10 + ((UInt8.ofNat (48 + u % 10)).toNat - 48) = u
      rw [of_dg]
      omega
theorem dec_all (u : Nat) : (Lib.decDigits u).all dgt = true := by
  induction u using Nat.strongRecOn with
  | _ u ih =>
    rw [Lib.decDigits]
    by_cases h : u < 10
    · rw [dif_pos h]
      simp only [List.all_cons, List.all_nil, Bool.and_true]
      rw [dgt_iff, of_nat _ (by omega)]
      omega
    · rw [dif_neg h, List.all_append, ih (u / 10) (by omega)]
      simp only [List.all_cons, List.all_nil, Bool.and_true, Bool.true_and]
      rw [dgt_iff, of_dg]
      omega
theorem dec_ne (u : Nat) : Lib.decDigits u ≠ [] := by
  intro h
  have := Lib.decDigits_length u
  rw [h] at this
  have := Lib.nDigits_pos u
  simp at *
  omega
theorem head_app {α : Type} {l r : List α} (h : l ≠ []) : (l ++ r).head? = l.head? := by
  cases l with
  | nil => exact absurd rfl h
  | cons a l => rfl
theorem dec_head (u : Nat) (h0 : 0 < u) : (Lib.decDigits u).head? ≠ some 48 := by
  induction u using Nat.strongRecOn with
  | _ u ih =>
    rw [Lib.decDigits]
    by_cases h : u < 10
    · rw [dif_pos h]
      intro e
      simp only [List.head?_cons, Option.some.injEq] at e
      have := congrArg UInt8.toNat e
      rw [of_nat _ (by omega)] at this
      have h48 : (48 : UInt8).toNat = 48 := rfl
      omega
    · rw [dif_neg h, head_app (dec_ne _)]
      exact ih (u / 10) (by omega) (by omega)
theorem nd_le : ∀ (k u : Nat), u < 10 ^ (k + 1) → Lib.nDigits u ≤ k + 1
  | 0, u, h => by rw [Lib.nDigits_small (by simpa using h)]; exact Nat.le_refl _
  | k + 1, u, h => by
    by_cases h10 : u < 10
    · rw [Lib.nDigits_small h10]; omega
    · rw [Lib.nDigits_big h10]
      have := nd_le k (u / 10) (by rw [Nat.pow_succ] at h; omega)
      omega
theorem cn_dec (u : Nat) (h : u < 1000000000000000) : cn (Lib.decDigits u) = true := by
  rw [cn_iff, Lib.decDigits_length]
  refine ⟨Lib.nDigits_pos u, nd_le 14 u h, fun ⟨h1, h2⟩ => ?_, dec_all u⟩
  by_cases h0 : 0 < u
  · exact dec_head u h0 h1
  · obtain rfl : u = 0 := by omega
    rw [Lib.nDigits_small (by decide)] at h2
    omega
theorem nb_dec (most u : Nat) (h : u < 1000000000000000) (hm : u ≤ most) : nb most (Lib.decDigits u) = true := by
  rw [nb_iff, vl_dec]
  exact ⟨cn_dec u h, hm⟩
theorem dec_vl : ∀ (n : Nat) (l : List UInt8), l.length = n → l.all dgt = true → l ≠ [] → ¬ (l.head? = some 48 ∧ 1 < l.length) → Lib.decDigits (vl 0 l) = l
  | 0, l, hn, _, hne, _ => absurd (List.length_eq_zero_iff.1 hn) hne
  | n + 1, l, hn, ha, hne, hh => by
    obtain ⟨r, c, rfl⟩ : ∃ r c, l = r ++ [c] := ⟨l.dropLast, l.getLast hne, (List.dropLast_concat_getLast hne).symm⟩
    rw [List.all_append, Bool.and_eq_true] at ha
    obtain ⟨hr, hc⟩ := ha
    simp only [List.all_cons, List.all_nil, Bool.and_true] at hc
    have hd := (dgt_iff c).1 hc
    have hlen : r.length = n := by simp at hn; omega
    have ec : UInt8.ofNat c.toNat = c := by simp
    rw [vl_app]
    show Lib.decDigits (vl 0 r * 10 + (c.toNat - 48)) = r ++ [c]
    by_cases h0 : r = []
    · subst h0
      show Lib.decDigits (0 * 10 + (c.toNat - 48)) = [c]
      rw [Lib.decDigits_one (by omega), show 48 + (0 * 10 + (c.toNat - 48)) = c.toNat by omega, ec]
    · rw [head_app h0] at hh
      have hl1 : 1 < (r ++ [c]).length := by
        have : 0 < r.length := List.length_pos_iff.2 h0
        simp
        omega
      have hh' : r.head? ≠ some 48 := fun e => hh ⟨e, hl1⟩
      have ih := dec_vl n r hlen hr h0 (fun e => hh' e.1)
      have hp : 0 < vl 0 r := by
        rcases Nat.eq_zero_or_pos (vl 0 r) with e | e
        · rw [e] at ih
          exfalso
          apply hh'
          rw [← ih, Lib.decDigits_one (by decide)]
          rfl
        · exact e
      rw [Lib.decDigits, dif_neg (by omega), show (vl 0 r * 10 + (c.toNat - 48)) / 10 = vl 0 r by omega, show 48 + (vl 0 r * 10 + (c.toNat - 48)) % 10 = c.toNat by omega, ih, ec]
theorem dec_cn (l : List UInt8) (h : cn l = true) : Lib.decDigits (vl 0 l) = l := by
  obtain ⟨h1, _, h3, h4⟩ := (cn_iff l).1 h
  exact dec_vl l.length l rfl h4 (fun e => by rw [e] at h1; simp at h1) h3
theorem vl_cn (l : List UInt8) (h : cn l = true) : vl 0 l < 1000000000000000 := by
  obtain ⟨_, h2, _, h4⟩ := (cn_iff l).1 h
  have := vl_lt l 0 h4
  have hp : 10 ^ l.length ≤ 10 ^ 15 := Nat.pow_le_pow_right (by decide) h2
  omega

theorem pu_vl : ∀ (l : List UInt8) (acc : Nat), l.all dgt = true → vl acc l < 1000000000000000 → Lib.parseUint10 acc l = .ok (vl acc l)
  | [], acc, _, _ => rfl
  | c :: r, acc, h, hv => by
    rw [List.all_cons, Bool.and_eq_true] at h
    obtain ⟨h1, h2⟩ := h
    have hd := (dgt_iff c).1 h1
    have hv' : vl (acc * 10 + (c.toNat - 48)) r < 1000000000000000 := hv
    have hg := vl_ge r (acc * 10 + (c.toNat - 48))
    simp only [Lib.parseUint10]
    rw [if_pos hd, if_neg (by omega), if_neg (by omega), pu_vl r _ h2 hv']
    rfl
/-- What Atoi answers beside its error. -/
def atv (l : List UInt8) : Int := match Lib.atoiAll l with | .ok v => v | .«syntax» => 0 | .range => Lib.atoiSat l
theorem atv_cn (l : List UInt8) (h : cn l = true) : atv l = (vl 0 l : Int) := by
  have hv := vl_cn l h
  obtain ⟨h1, _, _, h4⟩ := (cn_iff l).1 h
  cases l with
  | nil => simp at h1
  | cons c r =>
    have hd : 48 ≤ c.toNat ∧ c.toNat ≤ 57 := by
      rw [List.all_cons, Bool.and_eq_true] at h4
      exact (dgt_iff c).1 h4.1
    have hp : Lib.parseMag (c :: r) = .ok (vl 0 (c :: r)) := by
      unfold Lib.parseMag
      rw [if_neg (by simp)]
      exact pu_vl _ 0 h4 hv
    have ha : Lib.atoiAll (c :: r) = .ok (vl 0 (c :: r) : Int) := by
      simp only [Lib.atoiAll]
      rw [if_neg (by omega), hp]
      simp only
      rw [if_neg (by omega), if_neg (by omega), if_neg (by omega)]
    unfold atv
    rw [ha]
theorem atv_le (l : List UInt8) : -9223372036854775808 ≤ atv l ∧ atv l ≤ 9223372036854775807 := by
  unfold atv
  cases e : Lib.atoiAll l with
  | «syntax» => simp
  | range => exact Lib.atoiSat_bounds l
  | ok v =>
    simp only
    cases l with
    | nil => cases e
    | cons c r =>
      simp only [Lib.atoiAll] at e
      split at e
      · cases e
      · cases e
      · rename_i u hu
        split at e
        · cases e
        · split at e
          · cases e
          · injection e with e
            subst e
            split <;> omega

/-- A staged file's name. -/
def stT (a b : Nat) : List UInt8 := 110 :: 47 :: (Lib.decDigits a ++ 46 :: Lib.decDigits b)
def stOk (a b : Int) : Bool := decide (0 ≤ a) && decide (a ≤ 281474976710655) && decide (0 ≤ b) && decide (b ≤ 2147483647)
theorem stOk_iff (a b : Int) : stOk a b = true ↔ 0 ≤ a ∧ a ≤ 281474976710655 ∧ 0 ≤ b ∧ b ≤ 2147483647 := by
  unfold stOk
  simp only [Bool.and_eq_true, decide_eq_true_eq, and_assoc]
def cF (l : List UInt8) : List UInt8 := l.takeWhile (fun b => b != 46)
def cS (l : List UInt8) : List UInt8 := (l.dropWhile (fun b => b != 46)).tail
theorem c_hit (r : List UInt8) : ∀ a : List UInt8, (46 : UInt8) ∉ a → cF (a ++ 46 :: r) = a ∧ cS (a ++ 46 :: r) = r
  | [], _ => ⟨rfl, rfl⟩
  | x :: a, h => by
    have hx : (x != 46) = true := by
      rw [bne_iff_ne]
      exact fun e => h (e ▸ List.mem_cons_self)
    obtain ⟨i1, i2⟩ := c_hit r a (fun e => h (List.mem_cons_of_mem _ e))
    unfold cF cS at *
    constructor
    · rw [List.cons_append, List.takeWhile_cons_of_pos (p := fun b : UInt8 => b != 46) hx, i1]
    · rw [List.cons_append, List.dropWhile_cons_of_pos (p := fun b : UInt8 => b != 46) hx, i2]
theorem c_miss (l : List UInt8) (h : (46 : UInt8) ∉ l) : cF l = l ∧ cS l = [] := by
  induction l with
  | nil => exact ⟨rfl, rfl⟩
  | cons x l ih =>
    have hx : (x != 46) = true := by
      rw [bne_iff_ne]
      exact fun e => h (e ▸ List.mem_cons_self)
    obtain ⟨i1, i2⟩ := ih (fun e => h (List.mem_cons_of_mem _ e))
    unfold cF cS at *
    constructor
    · rw [List.takeWhile_cons_of_pos (p := fun b : UInt8 => b != 46) hx, i1]
    · rw [List.dropWhile_cons_of_pos (p := fun b : UInt8 => b != 46) hx, i2]
/-- What a staged file's name says. -/
def pst (n : List UInt8) : Option (Nat × Nat) :=
  if n.take 2 = [110, 47] ∧ (46 : UInt8) ∈ n.drop 2 ∧ nb 281474976710655 (cF (n.drop 2)) = true ∧ nb 2147483647 (cS (n.drop 2)) = true then some (vl 0 (cF (n.drop 2)), vl 0 (cS (n.drop 2))) else none
theorem dot_dec (u : Nat) : (46 : UInt8) ∉ Lib.decDigits u := by
  intro h
  have := List.all_eq_true.1 (dec_all u) _ h
  rw [dgt_iff] at this
  have h46 : (46 : UInt8).toNat = 46 := rfl
  omega
theorem pst_yes (a b : Nat) (ha : a ≤ 281474976710655) (hb : b ≤ 2147483647) : pst (stT a b) = some (a, b) := by
  obtain ⟨e1, e2⟩ := c_hit (Lib.decDigits b) (Lib.decDigits a) (dot_dec a)
  have hd : (stT a b).drop 2 = Lib.decDigits a ++ 46 :: Lib.decDigits b := rfl
  unfold pst
  rw [hd, e1, e2, vl_dec, vl_dec, if_pos ⟨rfl, by simp, nb_dec _ _ (by omega) ha, nb_dec _ _ (by omega) hb⟩]
theorem pst_is {n : List UInt8} {a b : Nat} (h : pst n = some (a, b)) : n = stT a b ∧ a ≤ 281474976710655 ∧ b ≤ 2147483647 := by
  unfold pst at h
  split at h
  · rename_i hc
    obtain ⟨h1, h2, h3, h4⟩ := hc
    obtain ⟨x, y, hxy, hnx⟩ := first_of h2
    obtain ⟨e1, e2⟩ := c_hit y x hnx
    rw [hxy, e1, e2] at h
    rw [hxy, e1] at h3
    rw [hxy, e2] at h4
    obtain ⟨c3, v3⟩ := (nb_iff _ _).1 h3
    obtain ⟨c4, v4⟩ := (nb_iff _ _).1 h4
    injection h with h
    injection h with h5 h6
    subst h5 h6
    refine ⟨?_, v3, v4⟩
    unfold stT
    rw [dec_cn x c3, dec_cn y c4, ← hxy]
    have := List.take_append_drop 2 n
    rw [h1] at this
    exact this.symm
  · cases h
/-- What the code makes of a name. -/
def tp (n : List UInt8) : List UInt8 := Lib.trimPrefix n [110, 47]
theorem pst_code (n : List UInt8) : pst n = if stOk (atv (cF (tp n))) (atv (cS (tp n))) = true ∧ stT (atv (cF (tp n))).toNat (atv (cS (tp n))).toNat = n then some ((atv (cF (tp n))).toNat, (atv (cS (tp n))).toNat) else none := by
  split
  · rename_i h
    obtain ⟨h1, h2⟩ := h
    have hk := (stOk_iff _ _).1 h1
    have := pst_yes (atv (cF (tp n))).toNat (atv (cS (tp n))).toNat (by omega) (by omega)
    rw [h2] at this
    exact this
  · rename_i h
    cases e : pst n with
    | none => rfl
    | some p =>
      exfalso
      obtain ⟨a, b⟩ := p
      obtain ⟨rfl, ha, hb⟩ := pst_is e
      have ht : tp (stT a b) = Lib.decDigits a ++ 46 :: Lib.decDigits b := by
        unfold tp Lib.trimPrefix Lib.hasPrefix
        rw [if_pos (by unfold stT; simp [List.isPrefixOf])]
        rfl
      obtain ⟨e1, e2⟩ := c_hit (Lib.decDigits b) (Lib.decDigits a) (dot_dec a)
      rw [ht, e1, e2, atv_cn _ (cn_dec a (by omega)), atv_cn _ (cn_dec b (by omega)), vl_dec, vl_dec] at h
      exact h ⟨(stOk_iff _ _).2 ⟨by omega, by omega, by omega, by omega⟩, by simp⟩

/-- What Parse tells. -/
def prs (s : ByteArray) : ByteArray × Int × Int × Int :=
  if s.data.toList.take 2 = [116, 47] ∧ okP (ba (s.data.toList.drop 2)) = true then (ba (s.data.toList.drop 2), 0, 0, 1) else
  match pst s.data.toList with
  | some (a, b) => (⟨#[]⟩, (a : Int), (b : Int), 2)
  | none => (⟨#[]⟩, 0, 0, 0)

end Go.Proofs.YtkpkpebljkcmkaaDoor
