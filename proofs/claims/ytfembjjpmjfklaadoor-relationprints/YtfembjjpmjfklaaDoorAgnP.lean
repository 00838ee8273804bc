import Derived.Test.YtfembjjpmjfklaaDoorStlM
namespace Go.Proofs.YtfembjjpmjfklaaDoor
open Go.RowKit

/-- AN ATOM OF A LENT CLAUSE IS WRITTEN. -/
theorem LE.set {lo : Nat} {W : World} {C : Nat} {al : List Am} (h : LE lo W (.slice (some ⟨C, 0, none⟩) al.length (al.length + 1)) al) {j : Nat} (hj : j < al.length) (x : Am) :
    LE lo (((W.setCell ⟨C, j * 3, none⟩ (.string x.n)).setCell ⟨C, j * 3 + 1, none⟩ (.int .i64 x.op)).setCell ⟨C, j * 3 + 2, none⟩ (.string x.v)) (.slice (some ⟨C, 0, none⟩) al.length (al.length + 1)) (al.set j x) := by
  obtain ⟨C', e, h⟩ := h
  cases e
  have hl : (al ++ [mk1 77]).length = al.length + 1 := by simp
  have h2 := h.set hl j (by omega) x
  rw [List.set_append_left _ _ hj] at h2
  exact ⟨C, by rw [List.length_set], by rw [List.length_set]; exact h2⟩
theorem LF.setEl {lo : Nat} {W : World} {M : Nat} {ms : List Value} {cl : List (List Am)} {k : Nat} (h : LF lo W M ms cl k) {i C L : Nat} (hi : i < cl.length) (hik : i < k) (hx : ms[i]? = some (.slice (some ⟨C, 0, none⟩) L (L + 1))) {j : Nat} (hj : j < L) (x : Am) :
    LF lo (((W.setCell ⟨C, j * 3, none⟩ (.string x.n)).setCell ⟨C, j * 3 + 1, none⟩ (.int .i64 x.op)).setCell ⟨C, j * 3 + 2, none⟩ (.string x.v)) M ms (cl.set i (cl[i].set j x)) k := by
  have hM : (Value.slice (some ⟨M, 0, none⟩) (cl.length + 1) (cl.length + 1)).ownBlock ≠ some C := fun e => h.ar i _ hx hik (by cases e; rfl)
  refine ⟨?_, fun a ha hak => ?_, h.ap, h.ar⟩
  · rw [List.length_set]
    exact ownsRow_setCell_other (ownsRow_setCell_other (ownsRow_setCell_other h.row (a := ⟨C, _, none⟩) hM _) (a := ⟨C, _, none⟩) hM _) (a := ⟨C, _, none⟩) hM _
  · have ha' : a < cl.length := by rw [List.length_set] at ha; exact ha
    obtain ⟨y, h1, h2⟩ := h.el a ha' hak
    by_cases e : a = i
    · subst e
      rw [hx] at h1
      cases h1
      have hL : cl[a].length = L := by obtain ⟨_, e, _⟩ := h2; cases e; rfl
      subst hL
      have hg : (cl.set a (cl[a].set j x))[a]'ha = cl[a].set j x := by simp
      rw [hg]
      exact ⟨_, hx, h2.set hj x⟩
    · have hg : (cl.set i (cl[i].set j x))[a]'ha = cl[a] := List.getElem_set_ne (fun e' => e e'.symm) _
      rw [hg]
      have hy : y.ownBlock ≠ some C := fun e2 => h.ap i a _ y hx h1 hik hak (fun e' => e e'.symm) C rfl e2
      exact ⟨y, h1, ((h2.setOther hy _).setOther hy _).setOther hy _⟩

/-- WHAT HAS BEEN WRITTEN OVER. -/
def Ov (z : Am) (cl : List (List Am)) (i k : Nat) : Prop := ∀ (j m : Nat) (hj : j < cl.length) (hm : m < cl[j].length), (j < i ∨ j = i ∧ m < k) → cl[j][m] = z
theorem Ov.start (z : Am) (cl : List (List Am)) : Ov z cl 0 0 := fun j m hj hm h => by omega
theorem Ov.next {z : Am} {cl : List (List Am)} {i : Nat} (hil : i < cl.length) (h : Ov z cl i cl[i].length) : Ov z cl (i + 1) 0 := fun j m hj hm e => by
  by_cases e2 : j = i
  · subst e2
    exact h j m hj hm (.inr ⟨rfl, hm⟩)
  · exact h j m hj hm (.inl (by omega))
theorem Ov.put {z : Am} {cl : List (List Am)} {i k : Nat} (h : Ov z cl i k) (hi : i < cl.length) : Ov z (cl.set i (cl[i].set k z)) i (k + 1) := fun j m hj hm e => by
  have hj' : j < cl.length := by rw [List.length_set] at hj; exact hj
  by_cases e2 : j = i
  · subst e2
    have hg : (cl.set j (cl[j].set k z))[j]'hj = cl[j].set k z := by simp
    have hm' : m < cl[j].length := by rw [hg, List.length_set] at hm; exact hm
    have hq : ((cl.set j (cl[j].set k z))[j]'hj)[m]'hm = (cl[j].set k z)[m]'(by rw [List.length_set]; exact hm') := by simp
    rw [hq]
    by_cases e3 : m = k
    · subst e3; simp
    · rw [List.getElem_set_ne (fun e' => e3 e'.symm)]
      exact h j m hj' hm' (.inr ⟨rfl, by omega⟩)
  · have hg : (cl.set i (cl[i].set k z))[j]'hj = cl[j] := List.getElem_set_ne (fun e' => e2 e'.symm) _
    have hm' : m < cl[j].length := by rw [hg] at hm; exact hm
    have hq : ((cl.set i (cl[i].set k z))[j]'hj)[m]'hm = cl[j][m]'hm' := by simp [hg]
    rw [hq]
    exact h j m hj' hm' (.inl (by omega))
theorem Ov.szs {z : Am} {cl : List (List Am)} {i : Nat} (h : Ov z cl i 0) (hi : cl.length ≤ i) (h1 : z.n.size ≤ maxLen) (h2 : z.v.size ≤ maxLen) : ∀ j (hj : j < cl.length), Szs cl[j] := fun j hj m hm => by
  rw [h j m hj hm (.inl (by omega))]
  exact ⟨h1, h2⟩

/-- WHAT again WRITES AND ASKS: the lent clauses, the atoms, the names. -/
structure AG (lo sA sN : Nat) (W0 W : World) (M : Nat) (ms : List Value) (cl : List (List Am)) (va : Value) (al : List Am) (vn : Value) (nl : List ByteArray) : Prop where
  bel : Below lo W0 W
  lf : LF lo W M ms cl cl.length
  lm : M < sA
  lb : ∀ (i : Nat) (y : Value), ms[i]? = some y → i < cl.length → ∀ g, y.ownBlock = some g → g < sA
  a : OwnA lo W va al
  ab : ∀ g, va.ownBlock = some g → sA ≤ g ∧ g < sN
  n : OwnS lo W vn nl
  nb : ∀ g, vn.ownBlock = some g → sN ≤ g
  an : sA ≤ sN
theorem AG.later {lo sA sN : Nat} {W0 W W' : World} {M : Nat} {ms : List Value} {cl : List (List Am)} {va : Value} {al : List Am} {vn : Value} {nl : List ByteArray} (h : AG lo sA sN W0 W M ms cl va al vn nl) (hlo : lo ≤ W.heap.size) (hb : Below W.heap.size W W') : AG lo sA sN W0 W' M ms cl va al vn nl :=
  { h with bel := h.bel.trans (hb.mono hlo), lf := h.lf.later hb, a := h.a.later hb, n := h.n.later hb }
theorem AG.size {lo sA sN : Nat} {W0 W : World} {M : Nat} {ms : List Value} {cl : List (List Am)} {va : Value} {al : List Am} {vn : Value} {nl : List ByteArray} (h : AG lo sA sN W0 W M ms cl va al vn nl) : lo ≤ W.heap.size := Nat.le_of_lt (Nat.lt_of_le_of_lt h.lf.ltM.1 h.lf.ltM.2)
theorem AG.setL {lo sA sN : Nat} {W0 W : World} {M : Nat} {ms : List Value} {cl : List (List Am)} {va : Value} {al : List Am} {vn : Value} {nl : List ByteArray} (h : AG lo sA sN W0 W M ms cl va al vn nl) {i C L : Nat} (hi : i < cl.length) (hx : ms[i]? = some (.slice (some ⟨C, 0, none⟩) L (L + 1))) {j : Nat} (hj : j < L) (x : Am) :
    AG lo sA sN W0 (((W.setCell ⟨C, j * 3, none⟩ (.string x.n)).setCell ⟨C, j * 3 + 1, none⟩ (.int .i64 x.op)).setCell ⟨C, j * 3 + 2, none⟩ (.string x.v)) M ms (cl.set i (cl[i].set j x)) va al vn nl := by
  have hC := h.lb i _ hx hi C rfl
  have hlo : lo ≤ C := by
    obtain ⟨y, h1, h2⟩ := h.lf.el i hi hi
    rw [hx] at h1
    cases h1
    exact (h2.blk rfl).1
  have ha : va.ownBlock ≠ some C := fun e => by have := h.ab C e; omega
  have hn : vn.ownBlock ≠ some C := fun e => by have := h.nb C e; have := h.an; omega
  have hl : (cl.set i (cl[i].set j x)).length = cl.length := List.length_set
  exact { h with
    bel := ((h.bel.setCell (p := ⟨C, _, none⟩) hlo _).setCell (p := ⟨C, _, none⟩) hlo _).setCell (p := ⟨C, _, none⟩) hlo _
    lf := by rw [hl]; exact h.lf.setEl hi hi hx hj x
    lb := fun a y hy hak => h.lb a y hy (by rw [hl] at hak; exact hak)
    a := ownsRow_setCell_other (ownsRow_setCell_other (ownsRow_setCell_other h.a (a := ⟨C, _, none⟩) ha _) (a := ⟨C, _, none⟩) ha _) (a := ⟨C, _, none⟩) ha _
    n := ownsRow_setCell_other (ownsRow_setCell_other (ownsRow_setCell_other h.n (a := ⟨C, _, none⟩) hn _) (a := ⟨C, _, none⟩) hn _) (a := ⟨C, _, none⟩) hn _ }
theorem AG.setA {lo sA sN : Nat} {W0 W : World} {M : Nat} {ms : List Value} {cl : List (List Am)} {C n c : Nat} {al : List Am} {vn : Value} {nl : List ByteArray} (h : AG lo sA sN W0 W M ms cl (.slice (some ⟨C, 0, none⟩) n c) al vn nl) (hn : al.length = n) {j : Nat} (hj : j < n) (x : Am) :
    AG lo sA sN W0 (((W.setCell ⟨C, j * 3, none⟩ (.string x.n)).setCell ⟨C, j * 3 + 1, none⟩ (.int .i64 x.op)).setCell ⟨C, j * 3 + 2, none⟩ (.string x.v)) M ms cl (.slice (some ⟨C, 0, none⟩) n c) (al.set j x) vn nl := by
  have hC := h.ab C rfl
  have hlo : lo ≤ C := (World.ownsRow.lt h.a C rfl).1
  have hv : vn.ownBlock ≠ some C := fun e => by have := h.nb C e; omega
  exact { h with
    bel := ((h.bel.setCell (p := ⟨C, _, none⟩) hlo _).setCell (p := ⟨C, _, none⟩) hlo _).setCell (p := ⟨C, _, none⟩) hlo _
    lf := ((h.lf.setOther hC.1 h.lm h.lb _).setOther hC.1 h.lm h.lb _).setOther hC.1 h.lm h.lb _
    a := h.a.set hn j hj x
    n := ownsRow_setCell_other (ownsRow_setCell_other (ownsRow_setCell_other h.n (a := ⟨C, _, none⟩) hv _) (a := ⟨C, _, none⟩) hv _) (a := ⟨C, _, none⟩) hv _ }
theorem AG.setN {lo sA sN : Nat} {W0 W : World} {M : Nat} {ms : List Value} {cl : List (List Am)} {va : Value} {al : List Am} {Q n c : Nat} {nl : List ByteArray} (h : AG lo sA sN W0 W M ms cl va al (.slice (some ⟨Q, 0, none⟩) n c) nl) (hn : nl.length = n) {j : Nat} (hj : j < n) (x : ByteArray) :
    AG lo sA sN W0 (W.setCell ⟨Q, j, none⟩ (.string x)) M ms cl va al (.slice (some ⟨Q, 0, none⟩) n c) (nl.set j x) := by
  have hQ := h.nb Q rfl
  have hlo : lo ≤ Q := (World.ownsRow.lt h.n Q rfl).1
  have hv : va.ownBlock ≠ some Q := fun e => by have := h.ab Q e; omega
  have hsA : sA ≤ Q := Nat.le_trans h.an hQ
  exact { h with
    bel := h.bel.setCell (p := ⟨Q, _, none⟩) hlo _
    lf := h.lf.setOther hsA h.lm h.lb _
    a := ownsRow_setCell_other h.a (a := ⟨Q, _, none⟩) hv _
    n := h.n.set hn j hj x }

end Go.Proofs.YtfembjjpmjfklaaDoor
