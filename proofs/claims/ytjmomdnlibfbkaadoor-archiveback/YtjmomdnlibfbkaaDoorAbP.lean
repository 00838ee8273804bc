import Derived.Test.YtjmomdnlibfbkaaDoorPthP
namespace Go.Proofs.YtjmomdnlibfbkaaDoor
open Go

abbrev Bs := List UInt8
def zs (n : Nat) : Bs := List.replicate n 0
/-- BYTES LAID OVER OTHERS. -/
def put (l : Bs) (o : Nat) (t : Bs) : Bs := l.take o ++ t ++ l.drop (o + t.length)
/-- A FIELD. -/
def fld (a k : Nat) (l : Bs) : Bs := (l.drop a).take k
theorem put_len {l : Bs} {o : Nat} {t : Bs} (h : o + t.length ≤ l.length) : (put l o t).length = l.length := by
  unfold put
  rw [List.length_append, List.length_append, List.length_take, List.length_drop]
  omega
theorem put_get {l : Bs} {o : Nat} {t : Bs} (h : o + t.length ≤ l.length) (i : Nat) : (put l o t)[i]? = if o ≤ i ∧ i < o + t.length then t[i - o]? else l[i]? := by
  unfold put
  have h1 : (l.take o).length = o := by rw [List.length_take]; omega
  by_cases a : i < o
  · rw [if_neg (by omega), List.append_assoc, List.getElem?_append_left (by omega), List.getElem?_take_of_lt a]
  · by_cases b : i < o + t.length
    · rw [if_pos ⟨by omega, b⟩, List.append_assoc, List.getElem?_append_right (by omega), h1, List.getElem?_append_left (by omega)]
    · rw [if_neg (by omega), List.getElem?_append_right (by rw [List.length_append]; omega), List.length_append, h1, List.getElem?_drop]
      congr 1
      omega
theorem fld_get (a k : Nat) (l : Bs) (i : Nat) : (fld a k l)[i]? = if i < k then l[a + i]? else none := by
  unfold fld
  by_cases h : i < k
  · rw [if_pos h, List.getElem?_take_of_lt h, List.getElem?_drop]
  · rw [if_neg h, List.getElem?_eq_none]
    rw [List.length_take]
    omega
theorem fld_len {a k : Nat} {l : Bs} (h : a + k ≤ l.length) : (fld a k l).length = k := by
  unfold fld
  rw [List.length_take, List.length_drop]
  omega
theorem fld_other {a k o : Nat} {l t : Bs} (h : o + t.length ≤ l.length) (hd : a + k ≤ o ∨ o + t.length ≤ a) : fld a k (put l o t) = fld a k l := by
  refine List.ext_getElem? fun i => ?_
  rw [fld_get, fld_get]
  by_cases hi : i < k
  · rw [if_pos hi, if_pos hi, put_get h, if_neg (by omega)]
  · rw [if_neg hi, if_neg hi]
/-- A FIELD THAT WAS LAID, WITH WHAT IS LEFT OF IT. -/
theorem fld_front {o k : Nat} {l t : Bs} (h : o + t.length ≤ l.length) (hk : t.length ≤ k) : fld o k (put l o t) = t ++ fld (o + t.length) (k - t.length) l := by
  refine List.ext_getElem? fun i => ?_
  rw [fld_get]
  by_cases hi : i < k
  · rw [if_pos hi, put_get h]
    by_cases ht : i < t.length
    · rw [if_pos (by omega), List.getElem?_append_left ht]
      congr 1
      omega
    · rw [if_neg (by omega), List.getElem?_append_right (by omega), fld_get, if_pos (by omega)]
      congr 1
      omega
  · rw [if_neg hi, List.getElem?_append_right (by omega), fld_get, if_neg (by omega)]
theorem fld_same {o : Nat} {l t : Bs} (h : o + t.length ≤ l.length) : fld o t.length (put l o t) = t := by
  rw [fld_front h (Nat.le_refl _), Nat.sub_self]
  simp [fld]
theorem fld_zs {a k n : Nat} (h : a + k ≤ n) : fld a k (zs n) = zs k := by
  unfold fld zs
  rw [List.drop_replicate, List.take_replicate]
  congr 1
  omega
/-- OCTAL DIGITS. -/
def dig (n : Nat) : UInt8 := UInt8.ofNat (48 + n % 8)
def oct : Nat → Nat → Bs
  | 0, _ => []
  | k + 1, n => oct k (n / 8) ++ [dig n]
theorem oct_len : ∀ k n, (oct k n).length = k
  | 0, _ => rfl
  | k + 1, n => by rw [oct, List.length_append, oct_len k]; rfl
def rdO (l : Bs) : Nat := l.foldl (fun a b => a * 8 + b.toNat % 8) 0
theorem rdO_snoc (l : Bs) (b : UInt8) : rdO (l ++ [b]) = rdO l * 8 + b.toNat % 8 := by
  unfold rdO
  rw [List.foldl_append]
  rfl
theorem dig_nat (n : Nat) : (dig n).toNat = 48 + n % 8 := by
  unfold dig
  rw [UInt8.toNat_ofNat']
  omega
theorem rd_oct : ∀ k n, n < 8 ^ k → rdO (oct k n) = n
  | 0, n, h => by
    have : n = 0 := by simpa using h
    subst this
    rfl
  | k + 1, n, h => by
    rw [oct, rdO_snoc, rd_oct k (n / 8) (by rw [Nat.pow_succ] at h; omega), dig_nat]
    omega
theorem rdO_lt : ∀ (n : Nat) (l : Bs), l.length = n → rdO l < 8 ^ n
  | 0, l, h => by
    obtain rfl := List.length_eq_zero_iff.1 h
    decide
  | n + 1, l, h => by
    have hne : l ≠ [] := fun e => by rw [e] at h; simp at h
    rw [← List.dropLast_concat_getLast hne, rdO_snoc]
    have := rdO_lt n l.dropLast (by rw [List.length_dropLast, h]; rfl)
    rw [Nat.pow_succ]
    omega
/-- UP TO THE FIRST ZERO. -/
def upz (l : Bs) : Bs := l.takeWhile fun b => b != 0
theorem upz_app {l : Bs} (n : Nat) (h : ∀ b ∈ l, b ≠ 0) : upz (l ++ zs n) = l := by
  unfold upz
  rw [List.takeWhile_append_of_pos (fun b hb => by simpa using h b hb)]
  cases n with
  | zero => simp [zs]
  | succ n => simp [zs, List.replicate_succ]
/-! ### The header -/
def sumB (l : Bs) : Nat := l.foldl (fun a b => a + b.toNat) 0
def seven (b : UInt8) (n : Nat) : Bs := List.replicate n b
def hd0 (pre nm : Bs) (s : Nat) : Bs :=
  put (put (put (put (put (put (put (put (put (zs 512) 0 nm) 100 [48, 48, 48, 48, 54, 52, 52]) 108 (seven 48 7)) 116 (seven 48 7)) 124 (oct 11 s)) 136 (seven 48 11)) 156 [48]) 257 [117, 115, 116, 97, 114, 0, 48, 48]) 345 pre
def hd1 (pre nm : Bs) (s : Nat) : Bs := put (hd0 pre nm s) 148 (seven 32 8)
def hdr (pre nm : Bs) (s : Nat) : Bs := put (put (hd1 pre nm s) 148 (oct 6 (sumB (hd1 pre nm s)))) 154 [0]
section
variable {pre nm : Bs} (hn : nm.length ≤ 100) (hp : pre.length ≤ 155) (s : Nat)
theorem hd_lens : ∀ (l : Bs) (o : Nat) (t : Bs), l.length = 512 → o + t.length ≤ 512 → (put l o t).length = 512 := fun l o t h1 h2 => by rw [put_len (by omega), h1]
include hn hp in
theorem hd0_len : (hd0 pre nm s).length = 512 := by
  unfold hd0
  have h0 : (zs 512).length = 512 := List.length_replicate
  have l1 := hd_lens _ 0 nm h0 (by omega)
  have l2 := hd_lens _ 100 [48, 48, 48, 48, 54, 52, 52] l1 (by decide)
  have l3 := hd_lens _ 108 (seven 48 7) l2 (by decide)
  have l4 := hd_lens _ 116 (seven 48 7) l3 (by decide)
  have l5 := hd_lens _ 124 (oct 11 s) l4 (by rw [oct_len]; decide)
  have l6 := hd_lens _ 136 (seven 48 11) l5 (by decide)
  have l7 := hd_lens _ 156 [48] l6 (by decide)
  have l8 := hd_lens _ 257 [117, 115, 116, 97, 114, 0, 48, 48] l7 (by decide)
  exact hd_lens _ 345 pre l8 (by omega)
include hn hp in
theorem hd1_len : (hd1 pre nm s).length = 512 := hd_lens _ _ _ (hd0_len hn hp s) (by decide)
include hn hp in
theorem hdr_len : (hdr pre nm s).length = 512 := hd_lens _ _ _ (hd_lens _ _ _ (hd1_len hn hp s) (by rw [oct_len]; decide)) (by decide)
include hn hp in
/-- A FIELD AHEAD OF OR BEHIND THE SUM. -/
theorem hdr_fld {a k : Nat} (h : a + k ≤ 148 ∨ 156 ≤ a) : fld a k (hdr pre nm s) = fld a k (hd0 pre nm s) := by
  have l0 := hd0_len hn hp s
  have l1 := hd1_len hn hp s
  have l2 := hd_lens _ 148 (oct 6 (sumB (hd1 pre nm s))) l1 (by rw [oct_len]; decide)
  unfold hdr
  rw [fld_other (by rw [l2]; decide) (by simp; omega), fld_other (by rw [l1, oct_len]; decide) (by rw [oct_len]; omega)]
  unfold hd1
  rw [fld_other (by rw [l0]; decide) (by simp only [seven, List.length_replicate]; omega)]
include hn hp in
theorem hdr_parts : fld 0 100 (hdr pre nm s) = nm ++ zs (100 - nm.length) ∧ fld 124 11 (hdr pre nm s) = oct 11 s ∧ fld 345 155 (hdr pre nm s) = pre ++ zs (155 - pre.length) := by
  rw [hdr_fld hn hp s (.inl (by decide)), hdr_fld hn hp s (.inl (by decide)), hdr_fld hn hp s (.inr (by decide))]
  have h0 : (zs 512).length = 512 := List.length_replicate
  have l1 := hd_lens _ 0 nm h0 (by omega)
  have l2 := hd_lens _ 100 [48, 48, 48, 48, 54, 52, 52] l1 (by decide)
  have l3 := hd_lens _ 108 (seven 48 7) l2 (by decide)
  have l4 := hd_lens _ 116 (seven 48 7) l3 (by decide)
  have l5 := hd_lens _ 124 (oct 11 s) l4 (by rw [oct_len]; decide)
  have l6 := hd_lens _ 136 (seven 48 11) l5 (by decide)
  have l7 := hd_lens _ 156 [48] l6 (by decide)
  have l8 := hd_lens _ 257 [117, 115, 116, 97, 114, 0, 48, 48] l7 (by decide)
  have s7 : (seven 48 7).length = 7 := rfl
  have s11 : (seven 48 11).length = 11 := rfl
  have o11 := oct_len 11 s
  unfold hd0
  refine ⟨?_, ?_, ?_⟩
  · rw [fld_other (by omega) (by omega), fld_other (by simp; omega) (by simp), fld_other (by simp; omega) (by simp), fld_other (by omega) (by omega), fld_other (by omega) (by omega), fld_other (by omega) (by omega), fld_other (by omega) (by omega), fld_other (by simp; omega) (by simp), fld_front (by omega) hn, fld_zs (by omega)]
  · rw [fld_other (by omega) (by omega), fld_other (by simp; omega) (by simp), fld_other (by simp; omega) (by simp), fld_other (by omega) (by omega)]
    have := fld_same (o := 124) (t := oct 11 s) (l := put (put (put (put (zs 512) 0 nm) 100 [48, 48, 48, 48, 54, 52, 52]) 108 (seven 48 7)) 116 (seven 48 7)) (by omega)
    rw [o11] at this
    exact this
  · rw [fld_front (by omega) hp, fld_other (by simp; omega) (by simp; omega), fld_other (by simp; omega) (by simp; omega), fld_other (by omega) (by omega), fld_other (by omega) (by omega), fld_other (by omega) (by omega), fld_other (by omega) (by omega), fld_other (by simp; omega) (by simp; omega), fld_other (by omega) (by omega), fld_zs (by omega)]
end
end Go.Proofs.YtjmomdnlibfbkaaDoor
