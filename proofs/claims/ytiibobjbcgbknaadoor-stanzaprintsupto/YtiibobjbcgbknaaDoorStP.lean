import Derived.Lib.SlTrimSet
import Derived.Lib.IndexMore
import Derived.Lib.Strings
namespace Go.Proofs.YtiibobjbcgbknaaDoor
open Go

abbrev Bs := List UInt8
def ba (l : Bs) : ByteArray := ⟨l.toArray⟩
theorem ba_size (l : Bs) : (ba l).size = l.length := by simp [ba, ByteArray.size]
theorem ba_list (l : Bs) : (ba l).data.toList = l := rfl
theorem size_list (s : ByteArray) : s.data.toList.length = s.size := by simp
theorem ba_of (s : ByteArray) : ba s.data.toList = s := by cases s; simp [ba]
theorem ba_inj {a b : Bs} (h : ba a = ba b) : a = b := by have := congrArg (fun s => s.data.toList) h; simpa [ba_list] using this

/-- WHAT STANDS AHEAD OF THE FIRST BYTE c, AND BEHIND IT. -/
def bef (c : UInt8) : Bs → Bs
  | [] => []
  | b :: l => if b = c then [] else b :: bef c l
def aft (c : UInt8) : Bs → Bs
  | [] => []
  | b :: l => if b = c then l else aft c l
theorem bef_le (c : UInt8) : ∀ l : Bs, (bef c l).length ≤ l.length
  | [] => Nat.le_refl _
  | b :: l => by
    have := bef_le c l
    unfold bef
    split <;> simp
    omega
theorem aft_le (c : UInt8) : ∀ l : Bs, (aft c l).length ≤ l.length
  | [] => Nat.le_refl _
  | b :: l => by
    have := aft_le c l
    unfold aft
    split <;> simp
    omega
theorem aft_lt (c : UInt8) : ∀ l : Bs, l ≠ [] → (aft c l).length < l.length
  | [], h => absurd rfl h
  | b :: l, _ => by
    have := aft_le c l
    unfold aft
    split <;> simp
    omega
theorem idx1 (c : UInt8) : ∀ l : Bs, (c ∉ l → Lib.index l [c] = -1 ∧ bef c l = l ∧ aft c l = []) ∧ (c ∈ l → Lib.index l [c] = ((bef c l).length : Int) ∧ l.take (bef c l).length = bef c l ∧ l.drop ((bef c l).length + 1) = aft c l)
  | [] => by
    refine ⟨fun _ => ⟨rfl, rfl, rfl⟩, fun h => ?_⟩
    cases h
  | b :: l => by
    obtain ⟨h1, h2⟩ := idx1 c l
    by_cases hb : b = c
    · subst hb
      refine ⟨fun h => absurd List.mem_cons_self h, fun _ => ?_⟩
      unfold Lib.index bef aft
      simp [List.isPrefixOf]
    · have hp : ([c] : Bs).isPrefixOf (b :: l) = false := by
        simp [List.isPrefixOf]
        exact fun h => absurd h.symm hb
      constructor
      · intro h
        have hl : c ∉ l := fun h' => h (List.mem_cons_of_mem _ h')
        obtain ⟨a, b1, c1⟩ := h1 hl
        unfold Lib.index bef aft
        rw [hp, if_neg hb, if_neg hb, a, b1, c1]
        simp
      · intro h
        have hl : c ∈ l := by
          rcases List.mem_cons.1 h with h' | h'
          · exact absurd h'.symm hb
          · exact h'
        obtain ⟨a, b1, c1⟩ := h2 hl
        unfold Lib.index bef aft
        rw [hp, if_neg hb, if_neg hb, a]
        have hne : ((((bef c l).length : Int)) == -1) = false := by
          simp
        simp [b1, c1]
theorem cut1 (c : UInt8) (l : Bs) : Lib.cut l [c] = (bef c l, aft c l, decide (c ∈ l)) := by
  obtain ⟨h1, h2⟩ := idx1 c l
  unfold Lib.cut
  by_cases h : c ∈ l
  · obtain ⟨a, b, d⟩ := h2 h
    rw [a, if_pos (by omega)]
    simp [b, d, h]
  · obtain ⟨a, b, d⟩ := h1 h
    rw [a, if_neg (by omega), b, d]
    simp [h]

/-- A TEXT'S LINES. -/
def linesF : Nat → Bs → List Bs
  | 0, _ => []
  | _ + 1, [] => []
  | n + 1, b :: l => bef 10 (b :: l) :: linesF n (aft 10 (b :: l))
def linesL (l : Bs) : List Bs := linesF l.length l
theorem linesF_more : ∀ (n : Nat) (l : Bs), l.length ≤ n → linesF n l = linesL l := by
  intro n
  induction n using Nat.strongRecOn with
  | _ n ih =>
    intro l hl
    cases l with
    | nil => cases n <;> rfl
    | cons b l =>
      cases n with
      | zero => simp at hl
      | succ n =>
        have hlt := aft_lt 10 (b :: l) (by simp)
        simp only [List.length_cons] at hl hlt
        show bef 10 (b :: l) :: linesF n (aft 10 (b :: l)) = bef 10 (b :: l) :: linesF l.length (aft 10 (b :: l))
        rw [ih n (by omega) _ (by omega), ih l.length (by omega) _ (by omega)]
theorem linesL_nil : linesL [] = [] := rfl
theorem linesL_cons (l : Bs) (h : l ≠ []) : linesL l = bef 10 l :: linesL (aft 10 l) := by
  cases l with
  | nil => exact absurd rfl h
  | cons b l =>
    have hlt := aft_lt 10 (b :: l) (by simp)
    simp only [List.length_cons] at hlt
    show bef 10 (b :: l) :: linesF l.length (aft 10 (b :: l)) = _
    rw [linesF_more _ _ (by omega)]
theorem linesL_len (n : Nat) : ∀ l : Bs, l.length ≤ n → (linesL l).length ≤ l.length := by
  induction n with
  | zero =>
    intro l h
    have : l = [] := List.length_eq_zero_iff.1 (by omega)
    subst this
    simp [linesL_nil]
  | succ n ih =>
    intro l h
    by_cases hl : l = []
    · subst hl; simp [linesL_nil]
    · rw [linesL_cons l hl]
      have hlt := aft_lt 10 l hl
      have := ih (aft 10 l) (by omega)
      simp only [List.length_cons]
      omega

/-- THE LINES WITH THEIR NUMBERS, FROM k ON. -/
def numb : Nat → List Bs → List (Nat × Bs)
  | _, [] => []
  | k, s :: r => (k, s) :: numb (k + 1) r

structure Fd where
  nm : Bs
  ls : List Bs
  ns : List Nat

def bl2 : Bs := [32, 9]
def kd (s : Bs) : Nat := if Lib.trimS s bl2 = [] then 0 else match s with
  | [] => 0
  | b :: _ => if b = 35 then 1 else if b = 32 then 2 else if b = 9 then 2 else 3
def oddB (b : UInt8) : Bool := (decide (b.toNat < 32) && (decide (b.toNat ≠ 9) && decide (b.toNat ≠ 10))) || decide (b.toNat = 127)
def oddL (s : Bs) : Bool := s.any oddB
def nmB (b : UInt8) : Bool := decide (32 < b.toNat) && (decide (b.toNat ≤ 126) && decide (b.toNat ≠ 58))
def nameL (s : Bs) : Bool := match s with
  | [] => false
  | b :: r => decide (r.length < 128) && (decide (b.toNat ≠ 35) && (decide (b.toNat ≠ 45) && (b :: r).all nmB))
def lowB (b : UInt8) : UInt8 := if 65 ≤ b.toNat ∧ b.toNat ≤ 90 then b + 32 else b
def small (s : Bs) : Bs := s.map lowB

def extL (k : Nat) (s : Bs) : List Fd → List Fd
  | [] => []
  | [f] => [⟨f.nm, f.ls ++ [Lib.trimRightS (s.drop 1) bl2], f.ns ++ [k]⟩]
  | f :: r => f :: extL k s r
def goP (p : List Fd) (k : Nat) (s : Bs) : Nat × List Fd := if p.length = 0 then (32, p) else (0, extL k s p)
def hasN (p : List Fd) (n : Bs) : Bool := p.any fun f => decide (small f.nm = small n)
def beP (p : List Fd) (k : Nat) (s : Bs) : Nat × List Fd :=
  if decide (58 ∈ s) && nameL (bef 58 s) then
    if hasN p (bef 58 s) then (33, p) else (0, p ++ [⟨bef 58 s, [Lib.trimS (aft 58 s) bl2], [k]⟩])
  else (31, p)
def takeP (p : List Fd) (k : Nat) (s : Bs) : Nat × List Fd :=
  if oddL s then (30, p) else if kd s = 2 then goP p k s else if kd s = 3 then beP p k s else (0, p)

structure St where
  all : List (List Fd)
  p : List Fd
  err : Option (Nat × Nat)
def st0 : St := ⟨[], [], none⟩
def shut (st : St) : List (List Fd) := if st.p.length = 0 then st.all else st.all ++ [st.p]
def stp (st : St) (x : Nat × Bs) : St :=
  match st.err with
  | some _ => st
  | none => if kd x.2 = 0 then ⟨shut st, [], none⟩ else
    if (takeP st.p x.1 x.2).1 = 0 then ⟨st.all, (takeP st.p x.1 x.2).2, none⟩ else ⟨st.all, st.p, some (x.1, (takeP st.p x.1 x.2).1)⟩
def runL (xs : List (Nat × Bs)) : St := xs.foldl stp st0
theorem runL_snoc (xs : List (Nat × Bs)) (x : Nat × Bs) : runL (xs ++ [x]) = stp (runL xs) x := by simp [runL]
/-- WHAT Parse TELLS OF A TEXT. -/
def parseT (t : Bs) : St := runL (numb 1 (linesL t))

end Go.Proofs.YtiibobjbcgbknaaDoor
