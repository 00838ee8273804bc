import Derived.Test.YtmjdpddpphfpiaaOrK
namespace Go.Proofs.Ytmjdpddpphfpiaa
open Go.RowKit Go.Maps Go.Sort Go.Shelf

/-- ITS MARK TURNED. -/
def tm (m : Int) : Int := wrap64 (1 - m)
def turn (h : Hx) : Hx := { h with cs := h.cs.set 43 (.int .i64 (tm h.mr)), mr := tm h.mr }
theorem turn_ok {h : Hx} (o : h.ok) : (turn h).ok := by
  refine ⟨by show (h.cs.set 43 _).length = 44; rw [List.length_set]; exact o.len, fun x hx => ?_, ?_, ?_, ?_, o.sz⟩
  · rcases List.mem_or_eq_of_mem_set hx with q | q
    · exact o.one x q
    · subst q; rfl
  · show (h.cs.set 43 _)[0]? = _
    rw [List.getElem?_set_ne (by decide)]; exact o.c0
  · show (h.cs.set 43 _)[2]? = _
    rw [List.getElem?_set_ne (by decide)]; exact o.c2
  · show (h.cs.set 43 _)[43]? = _
    rw [List.getElem?_set_self (by rw [o.len]; decide)]
    rfl
def tk (hs : List Hx) (i : Nat) : List Hx := (hs.take i).map turn ++ hs.drop i
theorem tk_len (hs : List Hx) {i : Nat} (hi : i ≤ hs.length) : (tk hs i).length = hs.length := by
  unfold tk
  rw [List.length_append, List.length_map, List.length_take, List.length_drop]
  omega
theorem tk_ok {hs : List Hx} (o : ∀ h ∈ hs, h.ok) (i : Nat) : ∀ h ∈ tk hs i, h.ok := fun h hh => by
  rcases List.mem_append.1 hh with q | q
  · obtain ⟨x, hx, rfl⟩ := List.mem_map.1 q
    exact turn_ok (o x (List.mem_of_mem_take hx))
  · exact o h (List.mem_of_mem_drop q)
theorem tk_all (hs : List Hx) : tk hs hs.length = hs.map turn := by unfold tk; rw [List.take_length, List.drop_length, List.append_nil]
theorem hC_app (a b : List Hx) : hC (a ++ b) = hC a ++ hC b := List.flatMap_append
theorem tk_step {hs : List Hx} (o : ∀ h ∈ hs, h.ok) {i : Nat} (hi : i < hs.length) : hC (tk hs (i + 1)) = (hC (tk hs i)).set (i * 44 + 43) (.int .i64 (tm hs[i].mr)) := by
  have e1 : tk hs i = (hs.take i).map turn ++ hs[i] :: hs.drop (i + 1) := by
    unfold tk; rw [List.drop_eq_getElem_cons hi]
  have e2 : tk hs (i + 1) = (hs.take i).map turn ++ turn hs[i] :: hs.drop (i + 1) := by
    unfold tk
    rw [List.take_add_one, List.getElem?_eq_getElem hi, List.map_append, List.append_assoc]
    rfl
  have hl : (hC ((hs.take i).map turn)).length = i * 44 := by
    rw [hC_len fun h hh => by
      obtain ⟨x, hx, rfl⟩ := List.mem_map.1 hh
      exact turn_ok (o x (List.mem_of_mem_take hx))]
    rw [List.length_map, List.length_take]
    congr 1
    omega
  have c1 : hC (hs[i] :: hs.drop (i + 1)) = hs[i].cs ++ hC (hs.drop (i + 1)) := rfl
  have c2 : hC (turn hs[i] :: hs.drop (i + 1)) = hs[i].cs.set 43 (.int .i64 (tm hs[i].mr)) ++ hC (hs.drop (i + 1)) := rfl
  have h4 := (o _ (List.getElem_mem hi)).len
  rw [e1, e2, hC_app, hC_app, c1, c2, List.set_append_right _ _ (by omega), hl, List.set_append_left _ _ (by omega)]
  congr 3
  omega
theorem own_setH {W : World} {base e g n cap sz : Nat} {xs : List Value} (h : W.ownsRow base e sz (.slice (some ⟨g, 0, none⟩) n cap) n xs) (i : Nat) (u : Value) : (W.setCell ⟨g, i, none⟩ u).ownsRow base e sz (.slice (some ⟨g, 0, none⟩) n cap) n (xs.set i u) := by
  rcases h.2 with ⟨q, _⟩ | ⟨g2, cap2, cur, e, hg, hh, h1, h2, h3, h4⟩
  · cases q
  · cases e
    refine ⟨by rw [List.length_set]; exact h.1, .inr ⟨g, cap, cur.setIfInBounds i u, rfl, hg, set_blk hh i u, h1, h2, by simpa using h3, ?_⟩⟩
    rw [Array.toList_setIfInBounds, List.take_set, h4]
/-- THOSE THAT ARE HELD, WRITTEN OVER ONE BY ONE. -/
structure L7 (W wr : World) (g : Nat) (hs : List Hx) (G : Value) (lo i : Nat) : Prop where
  ok : ∀ h ∈ hs, h.ok
  fm : ∃ cap, G = .slice (some ⟨g, 0, none⟩) (hs.length + 1) cap
  le : i ≤ hs.length
  row : wr.ownsRow lo 31 44 G (hs.length + 1) (hC (tk hs i) ++ mkL)
  fx : Fx (fun b => b = g) W wr
theorem L7.start {W : World} {g cap lo : Nat} {hs : List Hx} (ok : ∀ h ∈ hs, h.ok) (h : W.ownsRow lo 31 44 (.slice (some ⟨g, 0, none⟩) (hs.length + 1) cap) (hs.length + 1) (hC hs ++ mkL)) : L7 W W g hs (.slice (some ⟨g, 0, none⟩) (hs.length + 1) cap) lo 0 :=
  ⟨ok, ⟨cap, rfl⟩, Nat.zero_le _, h, Fx.refl _ _⟩
theorem L7.write {W wr : World} {g lo i : Nat} {hs : List Hx} {G : Value} (h : L7 W wr g hs G lo i) (hi : i < hs.length) :
    ∃ m : Int, wr.cell? ⟨g, i * 44 + 43, none⟩ = some (.int .i64 m) ∧ wr.frozen? ⟨g, i * 44 + 43, none⟩ = false ∧ g < wr.heap.size ∧ L7 W (wr.setCell ⟨g, i * 44 + 43, none⟩ (.int .i64 (wrap64 (1 - m)))) g hs G lo (i + 1) := by
  obtain ⟨cap, rfl⟩ := h.fm
  have e1 : (tk hs i)[i]? = some hs[i] := by
    unfold tk
    rw [List.getElem?_append_right (by simp; omega)]
    simp [Nat.min_eq_left h.le, List.getElem?_eq_getElem hi]
  have e2 := hC_at (tk_ok h.ok i) e1 (h.ok _ (List.getElem_mem hi)).c43
  have hl := (List.getElem?_eq_some_iff.1 e2).1
  refine ⟨hs[i].mr, owns_at h.row _ _ (by rw [List.getElem?_append_left hl]; exact e2), owns_fro h.row _, (World.ownsRow.lt h.row g rfl).2, ⟨h.ok, ⟨cap, rfl⟩, hi, ?_, ?_⟩⟩
  · have q := own_setH h.row (i * 44 + 43) (.int .i64 (tm hs[i].mr))
    rw [List.set_append_left _ _ hl, ← tk_step h.ok hi] at q
    exact q
  · exact ⟨h.fx.bel.setCell (p := ⟨g, _, none⟩) (Nat.zero_le _) _, fun b hb hn => (set_other _ _ _ _ _ hn).trans (h.fx.blk b hb hn)⟩
/-- AND THE TEXTS. -/
abbrev nought : Nm := ⟨#[48]⟩
def tx (L : List Nm) (i : Nat) : List Nm := (L.take i).map (· ++ nought) ++ L.drop i
theorem tx_len (L : List Nm) {i : Nat} (hi : i ≤ L.length) : (tx L i).length = L.length := by
  unfold tx
  rw [List.length_append, List.length_map, List.length_take, List.length_drop]
  omega
theorem tx_all (L : List Nm) : tx L L.length = L.map (· ++ nought) := by unfold tx; rw [List.take_length, List.drop_length, List.append_nil]
theorem tx_at {L : List Nm} {i : Nat} (hi : i < L.length) : (tx L i)[i]? = some L[i] := by
  unfold tx
  rw [List.getElem?_append_right (by simp; omega)]
  simp [Nat.min_eq_left (Nat.le_of_lt hi), List.getElem?_eq_getElem hi]
theorem tx_step {L : List Nm} {i : Nat} (hi : i < L.length) : tx L (i + 1) = (tx L i).set i (L[i] ++ nought) := by
  have e1 : tx L i = (L.take i).map (· ++ nought) ++ L[i] :: L.drop (i + 1) := by unfold tx; rw [List.drop_eq_getElem_cons hi]
  have hl : ((L.take i).map (· ++ nought)).length = i := by simp; omega
  rw [e1, List.set_append_right _ _ (by omega), hl, Nat.sub_self]
  unfold tx
  rw [List.take_add_one, List.getElem?_eq_getElem hi, List.map_append, List.append_assoc]
  rfl
structure L8 (W wr : World) (g : Nat) (L : List Nm) (T : Value) (lo : Nat) (z : Value) (i : Nat) : Prop where
  fm : ∃ cap, T = .slice (some ⟨g, 0, none⟩) (L.length + 1) cap
  le : i ≤ L.length
  row : wr.ownsRow lo 9 1 T (L.length + 1) (sv (tx L i) ++ [z])
  fx : Fx (fun b => b = g) W wr
theorem L8.start {W : World} {g cap lo : Nat} {L : List Nm} {z : Value} (h : W.ownsRow lo 9 1 (.slice (some ⟨g, 0, none⟩) (L.length + 1) cap) (L.length + 1) (sv L ++ [z])) : L8 W W g L (.slice (some ⟨g, 0, none⟩) (L.length + 1) cap) lo z 0 :=
  ⟨⟨cap, rfl⟩, Nat.zero_le _, h, Fx.refl _ _⟩
theorem L8.write {W wr : World} {g lo i : Nat} {L : List Nm} {T z : Value} (h : L8 W wr g L T lo z i) (hi : i < L.length) :
    wr.cell? ⟨g, i, none⟩ = some (.string L[i]) ∧ wr.frozen? ⟨g, i, none⟩ = false ∧ g < wr.heap.size ∧ L8 W (wr.setCell ⟨g, i, none⟩ (.string (L[i] ++ nought))) g L T lo z (i + 1) := by
  obtain ⟨cap, rfl⟩ := h.fm
  have hl : i < (sv (tx L i)).length := by rw [sv_len, tx_len L h.le]; exact hi
  refine ⟨owns_at h.row _ _ (by rw [List.getElem?_append_left hl, sv_at, tx_at hi]; rfl), owns_fro h.row _, (World.ownsRow.lt h.row g rfl).2, ⟨⟨cap, rfl⟩, hi, ?_, ?_⟩⟩
  · have q := own_setH h.row i (.string (L[i] ++ nought))
    rw [List.set_append_left _ _ hl] at q
    rw [tx_step hi]
    unfold sv at q ⊢
    rw [List.map_set]
    exact q
  · exact ⟨h.fx.bel.setCell (p := ⟨g, _, none⟩) (Nat.zero_le _) _, fun b hb hn => (set_other _ _ _ _ _ hn).trans (h.fx.blk b hb hn)⟩
/-- A LIST BEHIND NOTHING. -/
theorem own_hls2 {W : World} {base : Nat} {v : Value} {hs : List Hx} (ok : ∀ h ∈ hs, h.ok) (h : W.ownsRow base 31 44 v hs.length (hC hs)) : Hls W v hs := by
  obtain ⟨a, c, rfl⟩ := owns_form h
  refine ⟨_, _, rfl, ok, fun h0 => ?_⟩
  rcases h.2 with ⟨_, q⟩ | ⟨g, cap, cur, e, hg, hh, _⟩
  · omega
  · cases e
    refine ⟨g, 0, rfl, blk_lt hh, fun i x hi j u hj => ?_⟩
    rw [Nat.zero_add]
    exact owns_at h _ _ (hC_at ok hi hj)
theorem now_run {W : World} {base g n cap : Nat} {hs : List Hx} {ys : List Value} (ok : ∀ h ∈ hs, h.ok) (hl : hs.length ≤ 586406201463) (h : W.ownsRow base 31 44 (.slice (some ⟨g, 0, none⟩) n cap) n (hC hs ++ ys)) (c2 : Nat) :
    ∃ v1 W1, (Builtin.append_ #[22, 22] 22 #[.slice none 0 0, .slice (some ⟨g, 0, none⟩) hs.length c2]).run Try.prog W = .ok v1 W1 ∧ W1.ownsRow W.heap.size 31 44 v1 hs.length (hC hs) ∧ Below W.heap.size W W1 := by
  obtain ⟨zc, hzc, hzl⟩ := infoH
  obtain ⟨ih, hih, hh0, hh1, hh2⟩ := info_parts2 hzc
  obtain ⟨v1, W1, hr, h2, h3, _, _⟩ := run_append_own_at (P := Try.prog) W W.heap.size 22 22 31 ih _ 44 240 Try.underlying22 hih hh0 hh1 hh2 (by show zc.toArray.size = 44; simpa using hzl) (by decide) (.slice none 0 0) 0 [] (World.ownsRow_nil _ _ _ _) ⟨g, 0, none⟩ hs.length c2 (hC hs) (hC_len ok)
    (fun j u hj => by
      rw [Addr.add_mid, Nat.zero_add]
      exact owns_at h j u (by rw [List.getElem?_append_left (List.getElem?_eq_some_iff.1 hj).1]; exact hj)) (hC_one ok) (by unfold maxLen; omega) (by omega) (Nat.le_refl _)
  rw [Nat.zero_add, List.nil_append] at h2
  exact ⟨v1, W1, hr, h2, (Below.refl _ _).grown h3 (Nat.le_refl _) fun k e => by cases e⟩
theorem txt_run {W : World} {base g n cap : Nat} {l : List Nm} {ys : List Value} (hl : l.length ≤ 8796093021952) (h : W.ownsRow base 9 1 (.slice (some ⟨g, 0, none⟩) n cap) n (sv l ++ ys)) (c2 : Nat) :
    ∃ v1 W1, (Builtin.append_ #[23, 23] 23 #[.slice (some ⟨W.heap.size, 0, none⟩) 0 0, .slice (some ⟨g, 0, none⟩) l.length c2]).run Try.prog (W.alloc (.cells #[] 9)) = .ok v1 W1 ∧ W1.ownsRow W.heap.size 9 1 v1 l.length (sv l) ∧ Below W.heap.size W W1 := by
  obtain ⟨i0, hi0, hz0, hz1, hz2⟩ := info_parts2 infoS
  obtain ⟨v1, W1, h1, h2, h3, _⟩ := app1 (P := Try.prog) 23 23 9 i0 _ 1 16 Try.underlying23 hi0 hz0 hz1 hz2 rfl (by decide) l.length (sv l) (by rw [sv_len]; omega) (sv_one l) (by omega) (by unfold maxLen; omega) (some ⟨g, 0, none⟩) c2 W (.inr ⟨g, 0, rfl, (World.ownsRow.lt h g rfl).2, fun j u hj => by
    rw [Nat.zero_add]
    exact owns_at h j u (by rw [List.getElem?_append_left (List.getElem?_eq_some_iff.1 hj).1]; exact hj)⟩)
  exact ⟨v1, W1, h1, h2, h3⟩
end Go.Proofs.Ytmjdpddpphfpiaa
