import Derived.Test.YtcdajbfoneifaaaDoorSoP
namespace Go.Proofs.YtcdajbfoneifaaaDoor

/-- TWO RANGES CHANGE PLACES. -/
def swr (f : Nat → Nat) (a b n : Nat) : Nat → Nat := fun k => if a ≤ k ∧ k < a + n then f (b + (k - a)) else if b ≤ k ∧ k < b + n then f (a + (k - b)) else f k
theorem swr_zero (f : Nat → Nat) (a b : Nat) : swr f a b 0 = f := by
  funext k
  unfold swr
  rw [if_neg (by omega), if_neg (by omega)]
theorem swr_succ (f : Nat → Nat) (a b i n : Nat) (h : a + n ≤ b) (hi : i < n) : sw (swr f a b i) (a + i) (b + i) = swr f a b (i + 1) := by
  funext k
  by_cases e1 : k = a + i
  · subst e1
    show (if a + i = a + i then _ else _) = _
    rw [if_pos rfl]
    unfold swr
    rw [if_neg (by omega), if_neg (by omega), if_pos (by omega)]
    congr 1
    omega
  · by_cases e2 : k = b + i
    · subst e2
      show (if b + i = a + i then _ else if b + i = b + i then _ else _) = _
      rw [if_neg (by omega), if_pos rfl]
      unfold swr
      rw [if_neg (by omega), if_neg (by omega), if_neg (by omega), if_pos (by omega)]
      congr 1
      omega
    · show (if k = a + i then _ else if k = b + i then _ else _) = _
      rw [if_neg e1, if_neg e2]
      unfold swr
      by_cases c1 : a ≤ k ∧ k < a + i
      · rw [if_pos c1, if_pos (by omega)]
      · rw [if_neg c1]
        by_cases c2 : b ≤ k ∧ k < b + i
        · rw [if_pos c2, if_neg (by omega), if_pos (by omega)]
        · rw [if_neg c2, if_neg (by omega), if_neg (by omega)]
theorem rot_same (f : Nat → Nat) (s m e : Nat) (h1 : s ≤ m) (h2 : m ≤ e) (h : s = m ∨ m = e) : rot f s m e = f := by
  funext k
  unfold rot
  split
  · congr 1; omega
  · split
    · congr 1; omega
    · rfl
/-- A step of a rotation, the left part being the longer one. -/
theorem rot_left (f : Nat → Nat) (s m i j : Nat) (hs : s + i = m) (h : j < i) : rot f s m (m + j) = rot (swr f s m j) (s + j) m (m + j) := by
  funext k
  have g1 : ∀ x, s ≤ x → x < s + j → swr f s m j x = f (x + i) := fun x h1 h2 => by unfold swr; rw [if_pos (by omega)]; congr 1; omega
  have g2 : ∀ x, m ≤ x → x < m + j → swr f s m j x = f (x - i) := fun x h1 h2 => by unfold swr; rw [if_neg (by omega), if_pos (by omega)]; congr 1; omega
  have g3 : ∀ x, (x < s ∨ (s + j ≤ x ∧ x < m) ∨ m + j ≤ x) → swr f s m j x = f x := fun x h1 => by unfold swr; rw [if_neg (by omega), if_neg (by omega)]
  unfold rot
  by_cases c1 : s ≤ k ∧ k < s + j
  · rw [if_pos (by omega), if_neg (by omega), if_neg (by omega), g1 k (by omega) (by omega)]
    congr 1; omega
  · rw [if_neg (by omega)]
    by_cases c2 : s + j ≤ k ∧ k < m + j
    · rw [if_pos (by omega)]
      by_cases c3 : k < s + j + j
      · rw [if_pos (by omega), g2 _ (by omega) (by omega)]
        congr 1; omega
      · rw [if_neg (by omega), if_pos (by omega), g3 _ (by omega)]
    · rw [if_neg (by omega), if_neg (by omega), if_neg (by omega), g3 _ (by omega)]
/-- .. the right part being the longer one. -/
theorem rot_right (f : Nat → Nat) (s m i j : Nat) (hs : s + i = m) (h : i < j) : rot f s m (m + j) = rot (swr f s (m + j - i) i) s m (m + (j - i)) := by
  funext k
  have g1 : ∀ x, s ≤ x → x < m → swr f s (m + j - i) i x = f (x + j) := fun x h1 h2 => by unfold swr; rw [if_pos (by omega)]; congr 1; omega
  have g2 : ∀ x, m + j - i ≤ x → x < m + j → swr f s (m + j - i) i x = f (x - j) := fun x h1 h2 => by unfold swr; rw [if_neg (by omega), if_pos (by omega)]; congr 1; omega
  have g3 : ∀ x, (x < s ∨ (m ≤ x ∧ x < m + j - i) ∨ m + j ≤ x) → swr f s (m + j - i) i x = f x := fun x h1 => by unfold swr; rw [if_neg (by omega), if_neg (by omega)]
  unfold rot
  by_cases c1 : s ≤ k ∧ k < s + j
  · rw [if_pos (by omega)]
    by_cases c3 : k < s + j - i
    · rw [if_pos (by omega), g3 _ (by omega)]
    · rw [if_neg (by omega), if_pos (by omega), g1 _ (by omega) (by omega)]
      congr 1; omega
  · rw [if_neg (by omega)]
    by_cases c2 : s + j ≤ k ∧ k < m + j
    · rw [if_pos (by omega), if_neg (by omega), if_neg (by omega), g2 _ (by omega) (by omega)]
      congr 1; omega
    · rw [if_neg (by omega), if_neg (by omega), if_neg (by omega), g3 _ (by omega)]
theorem rot_even (f : Nat → Nat) (s m i : Nat) (hs : s + i = m) : rot f s m (m + i) = swr f s m i := by
  funext k
  unfold rot swr
  by_cases c1 : s ≤ k ∧ k < s + i
  · rw [if_pos (by omega), if_pos (by omega)]
    congr 1; omega
  · rw [if_neg (by omega)]
    by_cases c2 : m ≤ k ∧ k < m + i
    · rw [if_pos (by omega), if_neg (by omega), if_pos (by omega)]
      congr 1; omega
    · rw [if_neg (by omega), if_neg (by omega), if_neg (by omega)]
/-- One place is carried up, step by step. -/
theorem rot_up (f : Nat → Nat) (a k : Nat) (h : a ≤ k) : sw (rot f a (a + 1) (k + 1)) k (k + 1) = rot f a (a + 1) (k + 2) := by
  funext x
  unfold sw rot
  by_cases e1 : x = k
  · subst e1
    rw [if_pos rfl, if_neg (by omega), if_neg (by omega), if_pos (by omega)]
    congr 1; omega
  · rw [if_neg e1]
    by_cases e2 : x = k + 1
    · subst e2
      rw [if_pos rfl, if_neg (by omega), if_pos (by omega), if_neg (by omega), if_pos (by omega)]
      congr 1; omega
    · rw [if_neg e2]
      by_cases c1 : a ≤ x ∧ x < k
      · rw [if_pos (by omega), if_pos (by omega)]
      · rw [if_neg (by omega), if_neg (by omega), if_neg (by omega), if_neg (by omega)]
/-- .. and down. -/
theorem rot_down (f : Nat → Nat) (k m : Nat) (h : k < m) : sw (rot f (k + 1) m (m + 1)) (k + 1) k = rot f k m (m + 1) := by
  funext x
  unfold sw rot
  by_cases e1 : x = k + 1
  · subst e1
    rw [if_pos rfl, if_neg (by omega), if_neg (by omega), if_neg (by omega), if_pos (by omega)]
    congr 1; omega
  · rw [if_neg e1]
    by_cases e2 : x = k
    · subst e2
      rw [if_pos rfl, if_pos (by omega), if_pos (by omega)]
      congr 1; omega
    · rw [if_neg e2]
      by_cases c1 : k + 1 ≤ x ∧ x ≤ m
      · rw [if_neg (by omega), if_pos (by omega), if_neg (by omega), if_pos (by omega)]
      · rw [if_neg (by omega), if_neg (by omega), if_neg (by omega), if_neg (by omega)]

/-- ONE TAKEN IN FROM THE LEFT. -/
theorem one_left {S : Nat → Nat → Prop} {f : Nat → Nat} {a i b : Nat} (h : Srt S f (a + 1) b) (hi : a + 1 ≤ i) (hb : i ≤ b) (h1 : ∀ k, a + 1 ≤ k → k < i → S (f k) (f a)) (h2 : ∀ k, i ≤ k → k < b → S (f a) (f k)) : Srt S (rot f a (a + 1) i) a b := fun x y hx hxy hy => by
  have g1 : ∀ k, a ≤ k → k < i - 1 → rot f a (a + 1) i k = f (k + 1) := fun k p q => by unfold rot; rw [if_pos (by omega)]; congr 1; omega
  have g2 : rot f a (a + 1) i (i - 1) = f a := by unfold rot; rw [if_neg (by omega), if_pos (by omega)]; congr 1; omega
  have g3 : ∀ k, i ≤ k → rot f a (a + 1) i k = f k := fun k p => by unfold rot; rw [if_neg (by omega), if_neg (by omega)]
  by_cases c1 : x < i - 1
  · rw [g1 x hx c1]
    by_cases c2 : y < i - 1
    · rw [g1 y (by omega) c2]; exact h _ _ (by omega) (by omega) (by omega)
    · by_cases c3 : y = i - 1
      · subst c3; rw [g2]; exact h1 _ (by omega) (by omega)
      · rw [g3 y (by omega)]; exact h _ _ (by omega) (by omega) (by omega)
  · by_cases c3 : x = i - 1
    · subst c3; rw [g2, g3 y (by omega)]; exact h2 _ (by omega) hy
    · rw [g3 x (by omega), g3 y (by omega)]; exact h _ _ (by omega) hxy hy
/-- ONE TAKEN IN FROM THE RIGHT. -/
theorem one_right {S : Nat → Nat → Prop} {f : Nat → Nat} {a i m : Nat} (h : Srt S f a m) (hi : a ≤ i) (hm : i ≤ m) (h1 : ∀ k, a ≤ k → k < i → S (f k) (f m)) (h2 : ∀ k, i ≤ k → k < m → S (f m) (f k)) : Srt S (rot f i m (m + 1)) a (m + 1) := fun x y hx hxy hy => by
  have g1 : ∀ k, k < i → rot f i m (m + 1) k = f k := fun k p => by unfold rot; rw [if_neg (by omega), if_neg (by omega)]
  have g2 : rot f i m (m + 1) i = f m := by unfold rot; rw [if_pos (by omega)]; congr 1; omega
  have g3 : ∀ k, i < k → k < m + 1 → rot f i m (m + 1) k = f (k - 1) := fun k p q => by unfold rot; rw [if_neg (by omega), if_pos (by omega)]; congr 1; omega
  by_cases c1 : x < i
  · rw [g1 x c1]
    by_cases c2 : y < i
    · rw [g1 y c2]; exact h _ _ (by omega) (by omega) (by omega)
    · by_cases c3 : y = i
      · subst c3; rw [g2]; exact h1 _ (by omega) (by omega)
      · rw [g3 y (by omega) (by omega)]; exact h _ _ (by omega) (by omega) (by omega)
  · by_cases c3 : x = i
    · subst c3; rw [g2, g3 y (by omega) (by omega)]; exact h2 _ (by omega) (by omega)
    · rw [g3 x (by omega) (by omega), g3 y (by omega) (by omega)]; exact h _ _ (by omega) (by omega) (by omega)

/-- A TEST BY WHICH PLACES ARE PUT IN ORDER: less by c, or neither and the lesser place. -/
structure Ord (c : Nat → Nat → Int) (S : Nat → Nat → Prop) (V : Nat) : Prop where
  tr : ∀ x y z, S x y → S y z → S x z
  yes : ∀ x y, x < V → y < V → y < x → c x y < 0 → S x y
  no : ∀ x y, x < V → y < V → y < x → ¬ c x y < 0 → S y x

/-- WITHIN AN INSERTION: all but the one at j are in order; it comes ahead of all behind it. -/
structure Ins (S : Nat → Nat → Prop) (f : Nat → Nat) (a i j : Nat) : Prop where
  rest : ∀ x y, a ≤ x → x < y → y ≤ i → x ≠ j → y ≠ j → S (f x) (f y)
  ahead : ∀ y, j < y → y ≤ i → S (f j) (f y)
  great : ∀ x, a ≤ x → x ≤ i → x ≠ j → f x < f j
theorem Ins.start {S : Nat → Nat → Prop} {f : Nat → Nat} {a i : Nat} (h : Srt S f a i) (hg : ∀ x, a ≤ x → x < i → f x < f i) : Ins S f a i i :=
  ⟨fun x y h1 h2 h3 _ h5 => h x y h1 h2 (by omega), fun y h1 h2 => by omega, fun x h1 h2 h3 => hg x h1 (by omega)⟩
theorem Ins.stop {S : Nat → Nat → Prop} {f : Nat → Nat} {a i j : Nat} (h : Ins S f a i j) (ht : ∀ x y z, S x y → S y z → S x z) (haj : a ≤ j) (hji : j ≤ i) (hs : j = a ∨ S (f (j - 1)) (f j)) : Srt S f a (i + 1) := fun x y hx hxy hy => by
  by_cases e1 : x = j
  · subst e1; exact h.ahead y hxy (by omega)
  · by_cases e2 : y = j
    · subst e2
      rcases hs with hs | hs
      · omega
      · by_cases e3 : x = y - 1
        · subst e3; exact hs
        · exact ht _ _ _ (h.rest x (y - 1) hx (by omega) (by omega) (by omega) (by omega)) hs
    · exact h.rest x y hx hxy (by omega) e1 e2
theorem Ins.step {S : Nat → Nat → Prop} {f : Nat → Nat} {a i j : Nat} (h : Ins S f a i (j + 1)) (haj : a ≤ j) (hji : j + 1 ≤ i) (hs : S (f (j + 1)) (f j)) : Ins S (sw f (j + 1) j) a i j := by
  have g1 : sw f (j + 1) j (j + 1) = f j := by unfold sw; rw [if_pos rfl]
  have g2 : sw f (j + 1) j j = f (j + 1) := by unfold sw; rw [if_neg (by omega), if_pos rfl]
  have g3 : ∀ k, k ≠ j → k ≠ j + 1 → sw f (j + 1) j k = f k := fun k p q => by unfold sw; rw [if_neg q, if_neg p]
  refine ⟨fun x y h1 h2 h3 h4 h5 => ?_, fun y h1 h2 => ?_, fun x h1 h2 h3 => ?_⟩
  · by_cases e1 : x = j + 1
    · subst e1
      rw [g1, g3 y h5 (by omega)]
      exact h.rest j y haj (by omega) h3 (by omega) (by omega)
    · rw [g3 x h4 e1]
      by_cases e2 : y = j + 1
      · subst e2
        rw [g1]
        exact h.rest x j h1 (by omega) (by omega) e1 (by omega)
      · rw [g3 y h5 e2]
        exact h.rest x y h1 h2 h3 e1 e2
  · rw [g2]
    by_cases e2 : y = j + 1
    · subst e2; rw [g1]; exact hs
    · rw [g3 y (by omega) e2]; exact h.ahead y (by omega) h2
  · rw [g2]
    by_cases e2 : x = j + 1
    · subst e2; rw [g1]; exact h.great j haj (by omega) (by omega)
    · rw [g3 x h3 e2]; exact h.great x h1 h2 e2

/-- A PART THAT IS DONE: in order, and it holds none but its own places. -/
structure Ok (S : Nat → Nat → Prop) (f : Nat → Nat) (lo hi : Nat) : Prop where
  srt : Srt S f lo hi
  own : ∀ k, lo ≤ k → k < hi → lo ≤ f k ∧ f k < hi
theorem Ok.same {S : Nat → Nat → Prop} {f g : Nat → Nat} {lo hi : Nat} (h : Ok S f lo hi) (e : ∀ k, lo ≤ k → k < hi → g k = f k) : Ok S g lo hi :=
  ⟨h.srt.same e, fun k h1 h2 => by rw [e k h1 h2]; exact h.own k h1 h2⟩
theorem Ok.nil (S : Nat → Nat → Prop) (f : Nat → Nat) (lo hi : Nat) (h : hi ≤ lo) : Ok S f lo hi := ⟨fun i j h1 h2 h3 => by omega, fun k h1 h2 => by omega⟩
theorem Ok.of_pm {S : Nat → Nat → Prop} {f g : Nat → Nat} {lo hi : Nat} (hs : Srt S g lo hi) (hp : Pm f g lo hi) (ho : ∀ k, lo ≤ k → k < hi → lo ≤ f k ∧ f k < hi) : Ok S g lo hi := ⟨hs, hp.all (P := fun v => lo ≤ v ∧ v < hi) ho⟩

/-- THE PARTS OF LENGTH B FROM THE t'TH ON. -/
def Parts (S : Nat → Nat → Prop) (f : Nat → Nat) (B n t0 t1 : Nat) : Prop := ∀ t, t0 ≤ t → t < t1 → Ok S f (t * B) (min (t * B + B) n)
end Go.Proofs.YtcdajbfoneifaaaDoor
