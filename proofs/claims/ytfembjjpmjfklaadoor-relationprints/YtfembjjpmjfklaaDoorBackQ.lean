import Derived.Test.YtfembjjpmjfklaaDoorBackP
namespace Go.Proofs.YtfembjjpmjfklaaDoor
open Go.RowKit

/-! ### Pieces -/
theorem pre_one (c b : UInt8) (l : List UInt8) : [c].isPrefixOf (b :: l) = (c == b) := by simp [List.isPrefixOf]

theorem idx1_miss (c : UInt8) : ∀ l : List UInt8, c ∉ l → Lib.index l [c] = -1
  | [], _ => rfl
  | b :: l, h => by
    have hb : (c == b) = false := by
      have : c ≠ b := fun e => h (e ▸ List.mem_cons_self)
      simpa using this
    unfold Lib.index
    rw [pre_one, hb, idx1_miss c l (fun hm => h (List.mem_cons_of_mem _ hm))]
    rfl
theorem idx1_hit (c : UInt8) (r : List UInt8) : ∀ a : List UInt8, c ∉ a → Lib.index (a ++ c :: r) [c] = (a.length : Int)
  | [], _ => by
    show Lib.index (c :: r) [c] = 0
    unfold Lib.index
    rw [pre_one]
    simp
  | b :: a, h => by
    have hb : (c == b) = false := by
      have : c ≠ b := fun e => h (e ▸ List.mem_cons_self)
      simpa using this
    have ih := idx1_hit c r a (fun hm => h (List.mem_cons_of_mem _ hm))
    show Lib.index (b :: (a ++ c :: r)) [c] = _
    unfold Lib.index
    rw [pre_one, hb, ih]
    have : ((a.length : Int) == -1) = false := beq_eq_false_iff_ne.2 (by omega)
    rw [this]
    simp

theorem ba_self (s : ByteArray) : ba s.data.toList = s := pj_ba_ext rfl
theorem ba_extract (l : List UInt8) (i j : Nat) : (ba l).extract i j = ba ((l.drop i).take (j - i)) := by
  apply pj_ba_ext
  rw [pj_toList_extract]
  rfl

theorem pcs_miss (s : ByteArray) (c : UInt8) (h : c ∉ s.data.toList) : pcs s c = [s] := by
  unfold pcs
  rw [Lib.countB_miss s ⟨#[c]⟩ (idx1_miss c _ h)]
  rfl
theorem pcs_hit (a r : List UInt8) (c : UInt8) (h : c ∉ a) : pcs (ba (a ++ c :: r)) c = ba a :: pcs (ba r) c := by
  have hi : Lib.indexB (ba (a ++ c :: r)) ⟨#[c]⟩ = ((a.length : Nat) : Int) := idx1_hit c r a h
  have hs : (ba (a ++ c :: r)).extract (a.length + (⟨#[c]⟩ : ByteArray).size) (ba (a ++ c :: r)).size = ba r := by
    have e1 : (⟨#[c]⟩ : ByteArray).size = 1 := rfl
    rw [ba_extract, e1, ba_size]
    congr 1
    rw [show a ++ c :: r = (a ++ [c]) ++ r by simp, List.drop_append_of_le_length (by simp), List.take_of_length_le (by simp; omega)]
    simp
  have h0 : (ba (a ++ c :: r)).extract 0 (a.length + 0) = ba a := by
    rw [ba_extract]
    simp
  unfold pcs
  rw [Lib.countB_hit _ _ a.length (Nat.le_refl _) hi, hs, Nat.add_comm, Lib.splitB_hit _ 0 _ _ a.length hi, hs, h0]

theorem join_two (t u : List UInt8) (ts : List (List UInt8)) (sep : List UInt8) : Lib.join (t :: u :: ts) sep = t ++ sep ++ Lib.join (u :: ts) sep := by
  rw [Lib.join_cons, Lib.join_cons]
  simp [Lib.joinTail]

/-- THE PIECES OF A ROW THAT WAS JOINED: each with the blanks that the mark had about it. -/
def W (x y : List UInt8) : List UInt8 → List (List UInt8) → List (List UInt8)
  | y0, [] => [y0]
  | y0, [t] => [y0 ++ t]
  | y0, t :: u :: ts => (y0 ++ t ++ x) :: W x y y (u :: ts)

theorem pcs_join (c : UInt8) (x y : List UInt8) (hx : c ∉ x) (hy : c ∉ y) : ∀ (ts : List (List UInt8)) (y0 : List UInt8), ts ≠ [] → c ∉ y0 → (∀ t ∈ ts, c ∉ t) → pcs (ba (y0 ++ Lib.join ts (x ++ c :: y))) c = (W x y y0 ts).map ba
  | [], _, h, _, _ => absurd rfl h
  | [t], y0, _, h0, ht => by
    rw [Lib.join_one]
    have : c ∉ (ba (y0 ++ t)).data.toList := by
      rw [ba_list]
      intro h
      rcases List.mem_append.1 h with h | h
      · exact h0 h
      · exact ht t List.mem_cons_self h
    rw [pcs_miss _ _ this]
    rfl
  | t :: u :: ts, y0, _, h0, ht => by
    rw [join_two]
    have e : y0 ++ (t ++ (x ++ c :: y) ++ Lib.join (u :: ts) (x ++ c :: y)) = (y0 ++ t ++ x) ++ c :: (y ++ Lib.join (u :: ts) (x ++ c :: y)) := by simp
    rw [e, pcs_hit _ _ c (by
      intro h
      rcases List.mem_append.1 h with h | h
      · rcases List.mem_append.1 h with h | h
        · exact h0 h
        · exact ht t List.mem_cons_self h
      · exact hx h), pcs_join c x y hx hy (u :: ts) y (by simp) hy (fun t' h => ht t' (List.mem_cons_of_mem _ h))]
    rfl

theorem W_len (x y : List UInt8) : ∀ (ts : List (List UInt8)) (y0 : List UInt8), ts ≠ [] → (W x y y0 ts).length = ts.length
  | [], _, h => absurd rfl h
  | [t], _, _ => rfl
  | t :: u :: ts, y0, _ => by
    show (W x y y (u :: ts)).length + 1 = _
    rw [W_len x y (u :: ts) y (by simp)]
    rfl

/-- A ROW OF PIECES IS READ BACK. -/
theorem W_ok {β : Type} (p : ByteArray → β × Int) (tx : β → List UInt8) (x y : List UInt8) (hy : Blk y) : ∀ (al : List β) (y0 : List UInt8), al ≠ [] → Blk y0 →
    (∀ a ∈ al, ∀ u v, Blk u → (v = [] ∨ v = x) → (u ++ tx a ++ v).length ≤ 16777216 → p (ba (u ++ tx a ++ v)) = (a, 0)) → (∀ w ∈ W x y y0 (al.map tx), w.length ≤ 16777216) →
    errOf (fun t => (p t).2) ((W x y y0 (al.map tx)).map ba) = 0 ∧ ((W x y y0 (al.map tx)).map ba).map (fun t => (p t).1) = al
  | [], _, h, _, _, _ => absurd rfl h
  | [a], y0, _, h0, hp, hs => by
    have e : p (ba (y0 ++ tx a)) = (a, 0) := by
      have := hp a List.mem_cons_self y0 [] h0 (.inl rfl) (by have := hs (y0 ++ tx a) List.mem_cons_self; simpa using this)
      rwa [List.append_nil] at this
    show (if (p (ba (y0 ++ tx a))).2 ≠ 0 then _ else (0 : Int)) = 0 ∧ [(p (ba (y0 ++ tx a))).1] = [a]
    rw [e]
    exact ⟨rfl, rfl⟩
  | a :: b :: al, y0, _, h0, hp, hs => by
    have e : p (ba (y0 ++ tx a ++ x)) = (a, 0) := hp a List.mem_cons_self y0 x h0 (.inr rfl) (hs (y0 ++ tx a ++ x) List.mem_cons_self)
    obtain ⟨i1, i2⟩ := W_ok p tx x y hy (b :: al) y (by simp) hy (fun a' h => hp a' (List.mem_cons_of_mem _ h)) (fun w h => hs w (List.mem_cons_of_mem _ h))
    have hW : W x y y0 ((a :: b :: al).map tx) = (y0 ++ tx a ++ x) :: W x y y ((b :: al).map tx) := rfl
    rw [hW]
    refine ⟨?_, ?_⟩
    rotate_left
    · show (p (ba (y0 ++ tx a ++ x))).1 :: ((W x y y ((b :: al).map tx)).map ba).map (fun t => (p t).1) = _
      rw [i2, e]
    show (if (p (ba (y0 ++ tx a ++ x))).2 ≠ 0 then (p (ba (y0 ++ tx a ++ x))).2 else errOf (fun t => (p t).2) ((W x y y ((b :: al).map tx)).map ba)) = 0
    rw [e, if_neg (by simp)]
    exact i1

end Go.Proofs.YtfembjjpmjfklaaDoor
