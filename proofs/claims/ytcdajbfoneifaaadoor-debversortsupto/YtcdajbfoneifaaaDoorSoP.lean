import Derived.Test.YtcdajbfoneifaaaDoorProg
namespace Go.Proofs.YtcdajbfoneifaaaDoor

/-- WHAT STANDS IN A RANGE IS WHAT STOOD THERE, IN ANOTHER ORDER. -/
structure Pm (f g : Nat → Nat) (a b : Nat) : Prop where
  out : ∀ k, (k < a ∨ b ≤ k) → g k = f k
  ex : ∃ s t : Nat → Nat, ∀ k, a ≤ k → k < b → (a ≤ s k ∧ s k < b ∧ a ≤ t k ∧ t k < b ∧ t (s k) = k ∧ s (t k) = k ∧ g k = f (s k))
theorem Pm.refl (f : Nat → Nat) (a b : Nat) : Pm f f a b := ⟨fun _ _ => rfl, fun k => k, fun k => k, fun _ h1 h2 => ⟨h1, h2, h1, h2, rfl, rfl, rfl⟩⟩
theorem Pm.trans {f g h : Nat → Nat} {a b : Nat} (h1 : Pm f g a b) (h2 : Pm g h a b) : Pm f h a b := by
  obtain ⟨s, t, e1⟩ := h1.ex
  obtain ⟨s', t', e2⟩ := h2.ex
  refine ⟨fun k hk => (h2.out k hk).trans (h1.out k hk), fun k => s (s' k), fun k => t' (t k), fun k ha hb => ?_⟩
  obtain ⟨q1, q2, _, _, q5, _, q7⟩ := e2 k ha hb
  obtain ⟨p1, p2, _, _, p5, _, p7⟩ := e1 (s' k) q1 q2
  obtain ⟨_, _, r3, r4, _, r6, _⟩ := e1 k ha hb
  obtain ⟨_, _, v3, v4, _, v6, _⟩ := e2 (t k) r3 r4
  refine ⟨p1, p2, v3, v4, ?_, ?_, ?_⟩
  · show t' (t (s (s' k))) = k
    rw [p5, q5]
  · show s (s' (t' (t k))) = k
    rw [v6, r6]
  · show h k = f (s (s' k))
    rw [q7, p7]
theorem Pm.mono {f g : Nat → Nat} {a b a' b' : Nat} (h : Pm f g a b) (ha : a' ≤ a) (hb : b ≤ b') : Pm f g a' b' := by
  obtain ⟨s, t, e⟩ := h.ex
  refine ⟨fun k hk => h.out k (by omega), fun k => if a ≤ k ∧ k < b then s k else k, fun k => if a ≤ k ∧ k < b then t k else k, fun k h1 h2 => ?_⟩
  by_cases hk : a ≤ k ∧ k < b
  · obtain ⟨p1, p2, p3, p4, p5, p6, p7⟩ := e k hk.1 hk.2
    simp only [if_pos hk, if_pos (And.intro p1 p2), if_pos (And.intro p3 p4)]
    exact ⟨by omega, by omega, by omega, by omega, p5, p6, p7⟩
  · simp only [if_neg hk]
    exact ⟨h1, h2, h1, h2, trivial, trivial, h.out k (by omega)⟩
/-- TWO PLACES CHANGE WHAT THEY HOLD. -/
def sw (f : Nat → Nat) (i j : Nat) : Nat → Nat := fun k => if k = i then f j else if k = j then f i else f k
theorem Pm.sw {f : Nat → Nat} {a b i j : Nat} (hi : a ≤ i ∧ i < b) (hj : a ≤ j ∧ j < b) : Pm f (sw f i j) a b := by
  refine ⟨fun k hk => ?_, fun k => if k = i then j else if k = j then i else k, fun k => if k = i then j else if k = j then i else k, fun k h1 h2 => ?_⟩
  · unfold Go.Proofs.YtcdajbfoneifaaaDoor.sw
    rw [if_neg (by omega), if_neg (by omega)]
  · unfold Go.Proofs.YtcdajbfoneifaaaDoor.sw
    by_cases e1 : k = i
    · subst e1
      by_cases e2 : j = k
      · subst e2; simp; omega
      · simp [e2]; omega
    · by_cases e2 : k = j
      · subst e2; simp [e1]; omega
      · simp [e1, e2]; omega
theorem Pm.all {f g : Nat → Nat} {a b : Nat} (h : Pm f g a b) {P : Nat → Prop} (hP : ∀ k, a ≤ k → k < b → P (f k)) : ∀ k, a ≤ k → k < b → P (g k) := fun k h1 h2 => by
  obtain ⟨s, t, e⟩ := h.ex
  obtain ⟨p1, p2, _, _, _, _, p7⟩ := e k h1 h2
  rw [p7]
  exact hP _ p1 p2

/-- IN ORDER. -/
def Srt (S : Nat → Nat → Prop) (f : Nat → Nat) (a b : Nat) : Prop := ∀ i j, a ≤ i → i < j → j < b → S (f i) (f j)
/-- ALL OF ONE RANGE AHEAD OF ALL OF ANOTHER. -/
def Lss (S : Nat → Nat → Prop) (f : Nat → Nat) (a b c d : Nat) : Prop := ∀ i j, a ≤ i → i < b → c ≤ j → j < d → S (f i) (f j)
theorem Srt.join {S : Nat → Nat → Prop} {f : Nat → Nat} {a m b : Nat} (h1 : Srt S f a m) (h2 : Srt S f m b) (h3 : Lss S f a m m b) : Srt S f a b := fun i j hi hij hj => by
  by_cases e1 : j < m
  · exact h1 i j hi hij e1
  · by_cases e2 : i < m
    · exact h3 i j hi e2 (by omega) hj
    · exact h2 i j (by omega) hij hj
theorem Srt.sub {S : Nat → Nat → Prop} {f : Nat → Nat} {a b a' b' : Nat} (h : Srt S f a b) (ha : a ≤ a') (hb : b' ≤ b) : Srt S f a' b' := fun i j hi hij hj => h i j (by omega) hij (by omega)
theorem Srt.same {S : Nat → Nat → Prop} {f g : Nat → Nat} {a b : Nat} (h : Srt S f a b) (e : ∀ k, a ≤ k → k < b → g k = f k) : Srt S g a b := fun i j hi hij hj => by
  rw [e i hi (by omega), e j (by omega) hj]
  exact h i j hi hij hj

/-- A ROTATION: what stands in [s, m) and what stands in [m, e) change places. -/
def rot (f : Nat → Nat) (s m e : Nat) : Nat → Nat := fun k => if s ≤ k ∧ k < s + (e - m) then f (k + (m - s)) else if s + (e - m) ≤ k ∧ k < e then f (k - (e - m)) else f k
theorem Pm.rot {f : Nat → Nat} {a b s m e : Nat} (h1 : a ≤ s) (h2 : s ≤ m) (h3 : m ≤ e) (h4 : e ≤ b) : Pm f (rot f s m e) a b := by
  refine ⟨fun k hk => ?_, fun k => if s ≤ k ∧ k < s + (e - m) then k + (m - s) else if s + (e - m) ≤ k ∧ k < e then k - (e - m) else k, fun k => if s ≤ k ∧ k < m then k + (e - m) else if m ≤ k ∧ k < e then k - (m - s) else k, fun k g1 g2 => ?_⟩
  · unfold Go.Proofs.YtcdajbfoneifaaaDoor.rot
    rw [if_neg (by omega), if_neg (by omega)]
  · unfold Go.Proofs.YtcdajbfoneifaaaDoor.rot
    by_cases e1 : s ≤ k ∧ k < s + (e - m)
    · by_cases e3 : s ≤ k ∧ k < m
      · simp only [if_pos e1, if_pos e3]
        refine ⟨by omega, by omega, by omega, by omega, ?_, ?_, trivial⟩
        · rw [if_neg (by omega), if_pos (by omega)]; omega
        · rw [if_neg (by omega), if_pos (by omega)]; omega
      · simp only [if_pos e1, if_neg e3]
        rw [if_pos (show m ≤ k ∧ k < e by omega)]
        refine ⟨by omega, by omega, by omega, by omega, ?_, ?_, trivial⟩
        · rw [if_neg (by omega), if_pos (by omega)]; omega
        · rw [if_pos (by omega)]; omega
    · by_cases e2 : s + (e - m) ≤ k ∧ k < e
      · simp only [if_neg e1, if_pos e2]
        by_cases e3 : s ≤ k ∧ k < m
        · simp only [if_pos e3]
          refine ⟨by omega, by omega, by omega, by omega, ?_, ?_, trivial⟩
          · rw [if_pos (by omega)]; omega
          · rw [if_neg (by omega), if_pos (by omega)]; omega
        · simp only [if_neg e3]
          rw [if_pos (show m ≤ k ∧ k < e by omega)]
          refine ⟨by omega, by omega, by omega, by omega, ?_, ?_, trivial⟩
          · rw [if_pos (by omega)]; omega
          · rw [if_pos (by omega)]; omega
      · simp only [if_neg e1, if_neg e2]
        rw [if_neg (show ¬ (s ≤ k ∧ k < m) by omega), if_neg (show ¬ (m ≤ k ∧ k < e) by omega)]
        refine ⟨g1, g2, g1, g2, ?_, ?_, trivial⟩
        · rfl
        · rw [if_neg (by omega), if_neg (by omega)]

/-- THE MIDDLE OF A MERGE (symMerge): behind the rotation each of the first half comes ahead of each of the second. -/
theorem merge_mid {S : Nat → Nat → Prop} {f : Nat → Nat} {a m b mid st : Nat} (ht : ∀ x y z, S x y → S y z → S x z) (hL : Srt S f a m) (hR : Srt S f m b) (hm1 : a ≤ mid) (ham : a ≤ m)
    (hs1 : a ≤ st) (hs2 : st ≤ m) (he1 : m ≤ mid + m - st) (he2 : mid + m - st ≤ b)
    (hlo : ∀ c, a ≤ c → c < st → mid + m - 1 - c < b → m ≤ mid + m - 1 - c → S (f c) (f (mid + m - 1 - c)))
    (hhi : ∀ c, st ≤ c → c < m → a ≤ c → mid + m - 1 - c < b → m ≤ mid + m - 1 - c → S (f (mid + m - 1 - c)) (f c))  :
    Srt S (rot f st m (mid + m - st)) a st ∧ Srt S (rot f st m (mid + m - st)) st mid ∧ Srt S (rot f st m (mid + m - st)) mid (mid + m - st) ∧ Srt S (rot f st m (mid + m - st)) (mid + m - st) b ∧ Lss S (rot f st m (mid + m - st)) a mid mid b := by
  have hmid : st + (mid + m - st - m) = mid := by omega
  have r1 : ∀ k, k < st → rot f st m (mid + m - st) k = f k := fun k hk => by unfold rot; rw [if_neg (by omega), if_neg (by omega)]
  have r2 : ∀ k, st ≤ k → k < mid → rot f st m (mid + m - st) k = f (k + (m - st)) := fun k h1 h2 => by unfold rot; rw [if_pos (by omega)]
  have r3 : ∀ k, mid ≤ k → k < mid + m - st → rot f st m (mid + m - st) k = f (k - (mid - st)) := fun k h1 h2 => by
    unfold rot; rw [if_neg (by omega), if_pos (by omega), show mid + m - st - m = mid - st by omega]
  have r4 : ∀ k, mid + m - st ≤ k → rot f st m (mid + m - st) k = f k := fun k hk => by unfold rot; rw [if_neg (by omega), if_neg (by omega)]
  refine ⟨fun i j hi hij hj => ?_, fun i j hi hij hj => ?_, fun i j hi hij hj => ?_, fun i j hi hij hj => ?_, fun i j hi hi2 hj hj2 => ?_⟩
  · rw [r1 i (by omega), r1 j hj]; exact hL i j hi hij (by omega)
  · rw [r2 i hi (by omega), r2 j (by omega) hj]; exact hR _ _ (by omega) (by omega) (by omega)
  · rw [r3 i hi (by omega), r3 j (by omega) hj]; exact hL _ _ (by omega) (by omega) (by omega)
  · rw [r4 i hi, r4 j (by omega)]; exact hR _ _ (by omega) hij hj
  · have key1 : st ≤ a ∨ b ≤ mid + m - st ∨ S (f (st - 1)) (f (mid + m - st)) := by
      by_cases q1 : st ≤ a
      · exact Or.inl q1
      · by_cases q2 : b ≤ mid + m - st
        · exact Or.inr (Or.inl q2)
        · have := hlo (st - 1) (by omega) (by omega) (by omega) (by omega)
          rw [show mid + m - 1 - (st - 1) = mid + m - st by omega] at this
          exact Or.inr (Or.inr this)
    have key2 : m ≤ st ∨ mid + m - st ≤ m ∨ S (f (mid + m - st - 1)) (f st) := by
      by_cases q1 : m ≤ st
      · exact Or.inl q1
      · by_cases q2 : mid + m - st ≤ m
        · exact Or.inr (Or.inl q2)
        · have := hhi st (Nat.le_refl _) (by omega) hs1 (by omega) (by omega)
          rw [show mid + m - 1 - st = mid + m - st - 1 by omega] at this
          exact Or.inr (Or.inr this)
    have le : ∀ (x y lo hi : Nat), Srt S f lo hi → lo ≤ x → x ≤ y → y < hi → x = y ∨ S (f x) (f y) := fun x y lo hi hS h1 h2 h3 => by
      by_cases h : x < y
      · exact Or.inr (hS x y h1 h h3)
      · exact Or.inl (by omega)
    have chain : ∀ (x y u v : Nat), (x = y ∨ S (f x) (f y)) → S (f y) (f u) → (u = v ∨ S (f u) (f v)) → S (f x) (f v) := fun x y u v h1 h2 h3 => by
      have h4 : S (f x) (f u) := by
        rcases h1 with rfl | h1
        · exact h2
        · exact ht _ _ _ h1 h2
      rcases h3 with rfl | h3
      · exact h4
      · exact ht _ _ _ h4 h3
    by_cases c1 : i < st
    · rw [r1 i c1]
      by_cases c2 : j < mid + m - st
      · rw [r3 j hj c2]
        exact hL _ _ hi (by omega) (by omega)
      · rw [r4 j (by omega)]
        rcases key1 with q | q | q
        · omega
        · omega
        · exact chain _ _ _ _ (le _ _ _ _ hL hi (show i ≤ st - 1 by omega) (by omega)) q (le _ _ _ _ hR (by omega) (show mid + m - st ≤ j by omega) hj2)
    · rw [r2 i (by omega) hi2]
      by_cases c2 : j < mid + m - st
      · rw [r3 j hj c2]
        rcases key2 with q | q | q
        · omega
        · omega
        · exact chain _ _ _ _ (le _ _ _ _ hR (by omega) (show i + (m - st) ≤ mid + m - st - 1 by omega) (by omega)) q (le _ _ _ _ hL hs1 (show st ≤ j - (mid - st) by omega) (by omega))
      · rw [r4 j (by omega)]
        exact hR _ _ (by omega) (by omega) hj2

end Go.Proofs.YtcdajbfoneifaaaDoor
