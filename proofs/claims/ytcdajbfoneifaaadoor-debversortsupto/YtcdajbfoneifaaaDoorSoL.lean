import Derived.Test.YtcdajbfoneifaaaDoorSoK
import Derived.MakeChecks
import Derived.OwnWalk
import Derived.Deep.CutRange
namespace Go.Proofs.YtcdajbfoneifaaaDoor
open Go.RowKit

/-- THE ORDER OF PLACES: the lesser version first; of versions of which neither is ahead the lesser place. -/
def Sv (vs : Nat → Ver) (x y : Nat) : Prop := ordV (vs x) (vs y) < 0 ∨ (ordV (vs x) (vs y) = 0 ∧ x < y)
theorem ord_sv (vs : Nat → Ver) (n : Nat) : Ord (fun x y => ordV (vs x) (vs y)) (Sv vs) n := by
  have hP := pre_ordV
  refine ⟨fun x y z h1 h2 => ?_, fun x y _ _ _ h => Or.inl h, fun x y _ _ hlt h => ?_⟩
  · have t1 := hP.tr (vs x) (vs y) (vs z)
    have t2 := hP.tr (vs z) (vs x) (vs y)
    have t3 := hP.tr (vs y) (vs z) (vs x)
    have a1 := hP.anti (vs x) (vs y)
    have a2 := hP.anti (vs y) (vs z)
    have a3 := hP.anti (vs x) (vs z)
    unfold Sv at *
    omega
  · have a1 := hP.anti (vs x) (vs y)
    have h' : ¬ ordV (vs x) (vs y) < 0 := h
    unfold Sv
    omega
theorem cm_of (w0 : World) (b X V n : Nat) (vs : Nat → Ver) (hd : ∀ k, k < n → Dg (vs k)) (hX : X < w0.heap.size) (hV : V < w0.heap.size) (hXb : X ≠ b) (hVb : V ≠ b) (hb : w0.cell? ⟨X, 0, none⟩ = some (.slice (some ⟨V, 0, none⟩) n n)) (hv : ∀ k, k < n → Vr w0 V (vs k) k) :
    Cm w0 b (.pointer (some ⟨X, 0, none⟩)) (fun x y => ordV (vs x) (vs y)) n := fun W hB x y hx hy => by
  have e1 : ∀ j, W.cell? ⟨V, j, none⟩ = w0.cell? ⟨V, j, none⟩ := fun j => World.cell?_of_block (w := w0) (hB.block V hV hVb)
  exact sort1_any X V n n x y (vs x) (vs y) hx hy (hd x hx) (hd y hy) W (Nat.lt_of_lt_of_le hX hB.size) (Nat.lt_of_lt_of_le hV hB.size) ((World.cell?_of_block (w := w0) (hB.block X hX hXb)).trans hb) ((hv x hx).same e1) ((hv y hy).same e1)

set_option maxRecDepth 100000 in
set_option maxHeartbeats 4000000 in
theorem sortStable_any (w0 : World) (b o n cp : Nat) (pv : Value) (c : Nat → Nat → Int) (S : Nat → Nat → Prop) (hO : Ord c S n) (hC : Cm w0 b pv c n) (hn : n < 17592186044416) (w : World) (hS : Sw w0 b o n idn w) :
    Calls Tryd.prog 15 #[.slice (some ⟨b, o, none⟩) n cp, .func (.func 16) #[] #[pv]] w fun e w' => e = .returned (.tuple #[]) ∧ ∃ g, Sw w0 b o n g w' ∧ Pm idn g 0 n ∧ Srt S g 0 n := by
  have c1 := hide (stable_any w0 b o n cp pv c S hO hC hn w hS)
  clear hO hC hS
  go_enter Tryd.func15, Tryd.ntmps15
  go_wp2_with (go_at_call 22; refine (unhide c1).mono ?_; rintro e1 w1 ⟨rfl, hw1⟩)
  go_end0
  exact ⟨rfl, hw1⟩

/-- A LIST OF TEXTS AS IT LIES. -/
def Ls (W : World) (pa : Option Addr) (l : List ByteArray) : Prop := ∀ i, i < l.length → ∃ b o, pa = some ⟨b, o, none⟩ ∧ b < W.heap.size ∧ W.cell? ⟨b, o + i, none⟩ = some (.string (l.getD i nob))
theorem Ls.later {W W' : World} {pa : Option Addr} {l : List ByteArray} (h : Ls W pa l) (hb : Below W.heap.size W W') : Ls W' pa l := fun i hi => by
  obtain ⟨b, o, h1, h2, h3⟩ := h i hi
  exact ⟨b, o, h1, Nat.lt_of_lt_of_le h2 hb.size, (hb.cell (p := ⟨b, o + i, none⟩) h2).trans h3⟩

/-- WITHIN Sort: the first k versions and places are laid. -/
structure Fl (w : World) (V X B n : Nat) (vs : Nat → Ver) (k : Nat) (W : World) : Prop where
  ver : ∀ i, i < k → Vr W V (vs i) i
  verS : ∀ j, j < n * 5 → (W.cell? ⟨V, j, none⟩).isSome = true
  verF : ∀ j, W.frozen? ⟨V, j, none⟩ = false
  plc : ∀ i : Nat, i < k → W.cell? ⟨B, i, none⟩ = some (.int .i64 i)
  plcS : ∀ j, j < n → (W.cell? ⟨B, j, none⟩).isSome = true
  plcF : ∀ j, W.frozen? ⟨B, j, none⟩ = false
  plcO : ∃ xs, W.ownsRow B 3 1 (.slice (some ⟨B, 0, none⟩) n n) n xs
  box : W.cell? ⟨X, 0, none⟩ = some (.slice (some ⟨V, 0, none⟩) n n)
  ltV : V < W.heap.size
  ltX : X < W.heap.size
  ltB : B < W.heap.size
  bel : Below w.heap.size w W
theorem Fl.later {w : World} {V X B n : Nat} {vs : Nat → Ver} {k : Nat} {W W' : World} (h : Fl w V X B n vs k W) (hb : Below W.heap.size W W') (hw : w.heap.size ≤ W.heap.size) : Fl w V X B n vs k W' :=
  ⟨fun i hi => (h.ver i hi).same (fun j => hb.cell (p := ⟨V, j, none⟩) h.ltV), fun j hj => by rw [hb.cell (p := ⟨V, j, none⟩) h.ltV]; exact h.verS j hj, fun j => (hb.frozen (p := ⟨V, j, none⟩) h.ltV).trans (h.verF j),
    fun i hi => (hb.cell (p := ⟨B, i, none⟩) h.ltB).trans (h.plc i hi), fun j hj => by rw [hb.cell (p := ⟨B, j, none⟩) h.ltB]; exact h.plcS j hj, fun j => (hb.frozen (p := ⟨B, j, none⟩) h.ltB).trans (h.plcF j), h.plcO.elim fun xs hx => ⟨xs, owns_same hx (hb.block B h.ltB)⟩,
    (hb.cell (p := ⟨X, 0, none⟩) h.ltX).trans h.box, Nat.lt_of_lt_of_le h.ltV hb.size, Nat.lt_of_lt_of_le h.ltX hb.size, Nat.lt_of_lt_of_le h.ltB hb.size, h.bel.trans (hb.mono hw)⟩
theorem set_none {W : World} {a p : Addr} (v : Value) (h : (W.cell? a).isSome = true) : ((W.setCell p v).cell? a).isSome = true := by
  by_cases e : a = p
  · subst e
    obtain ⟨u, hu⟩ := Option.isSome_iff_exists.1 h
    rw [World.cell?_setCell_same _ _ _ hu]; rfl
  · rw [World.cell?_setCell_other _ _ _ _ (fun q => e q.symm)]; exact h
theorem set_at {W : World} {a : Addr} (v : Value) (h : (W.cell? a).isSome = true) : (W.setCell a v).cell? a = some v := by
  obtain ⟨u, hu⟩ := Option.isSome_iff_exists.1 h
  exact World.cell?_setCell_same _ _ _ hu
theorem set_ne {W : World} {b j b' j' : Nat} (v : Value) (h : b ≠ b' ∨ j ≠ j') : (W.setCell ⟨b', j', none⟩ v).cell? ⟨b, j, none⟩ = W.cell? ⟨b, j, none⟩ :=
  World.cell?_setCell_other _ _ _ _ (fun e => by simp only [Addr.mk.injEq] at e; omega)
/-- One more. -/
theorem Fl.put {w : World} {V X B n : Nat} {vs : Nat → Ver} {k : Nat} {W : World} (h : Fl w V X B n vs k W) (hk : k < n) (hVX : X ≠ V) (hBV : B ≠ V) (hBX : B ≠ X) (hV : w.heap.size ≤ V) (hB : w.heap.size ≤ B) :
    Fl w V X B n vs (k + 1) ((((((W.setCell ⟨V, k * 5, none⟩ (.string (vs k).e)).setCell ⟨V, k * 5 + 1, none⟩ (.string (vs k).u)).setCell ⟨V, k * 5 + 2, none⟩ (.string (vs k).r)).setCell ⟨V, k * 5 + 3, none⟩ (.bool (vs k).c)).setCell ⟨V, k * 5 + 4, none⟩ (.bool (vs k).d)).setCell ⟨B, k, none⟩ (.int .i64 k)) := by
  have hs : ∀ j, j < 5 → (W.cell? ⟨V, k * 5 + j, none⟩).isSome = true := fun j hj => h.verS _ (by omega)
  refine ⟨fun i hi => ?_, fun j hj => ?_, fun j => ?_, fun i hi => ?_, fun j hj => ?_, fun j => ?_, ?_, ?_, ?_, ?_, ?_, ?_⟩
  · by_cases e : i = k
    · subst e
      refine ⟨?_, ?_, ?_, ?_, ?_⟩
      · rw [set_ne _ (Or.inl hBV.symm), set_ne _ (Or.inr (by omega)), set_ne _ (Or.inr (by omega)), set_ne _ (Or.inr (by omega)), set_ne _ (Or.inr (by omega))]
        exact set_at _ (hs 0 (by omega))
      · rw [set_ne _ (Or.inl hBV.symm), set_ne _ (Or.inr (by omega)), set_ne _ (Or.inr (by omega)), set_ne _ (Or.inr (by omega))]
        exact set_at _ (set_none _ (hs 1 (by omega)))
      · rw [set_ne _ (Or.inl hBV.symm), set_ne _ (Or.inr (by omega)), set_ne _ (Or.inr (by omega))]
        exact set_at _ (set_none _ (set_none _ (hs 2 (by omega))))
      · rw [set_ne _ (Or.inl hBV.symm), set_ne _ (Or.inr (by omega))]
        exact set_at _ (set_none _ (set_none _ (set_none _ (hs 3 (by omega)))))
      · rw [set_ne _ (Or.inl hBV.symm)]
        exact set_at _ (set_none _ (set_none _ (set_none _ (set_none _ (hs 4 (by omega))))))
    · have g := h.ver i (by omega)
      have q : ∀ j, j < 5 → ((((((W.setCell ⟨V, k * 5, none⟩ (.string (vs k).e)).setCell ⟨V, k * 5 + 1, none⟩ (.string (vs k).u)).setCell ⟨V, k * 5 + 2, none⟩ (.string (vs k).r)).setCell ⟨V, k * 5 + 3, none⟩ (.bool (vs k).c)).setCell ⟨V, k * 5 + 4, none⟩ (.bool (vs k).d)).setCell ⟨B, k, none⟩ (.int .i64 k)).cell? ⟨V, i * 5 + j, none⟩ = W.cell? ⟨V, i * 5 + j, none⟩ := fun j hj => by
        rw [set_ne _ (Or.inl hBV.symm), set_ne _ (Or.inr (by omega)), set_ne _ (Or.inr (by omega)), set_ne _ (Or.inr (by omega)), set_ne _ (Or.inr (by omega)), set_ne _ (Or.inr (by omega))]
      exact ⟨(q 0 (by omega)).trans g.1, (q 1 (by omega)).trans g.2.1, (q 2 (by omega)).trans g.2.2.1, (q 3 (by omega)).trans g.2.2.2.1, (q 4 (by omega)).trans g.2.2.2.2⟩
  · exact set_none _ (set_none _ (set_none _ (set_none _ (set_none _ (set_none _ (h.verS j hj))))))
  · simp only [World.frozen?_setCell]; exact h.verF j
  · by_cases e : i = k
    · subst e
      exact set_at _ (set_none _ (set_none _ (set_none _ (set_none _ (set_none _ (h.plcS i hk))))))
    · rw [set_ne _ (Or.inr e), set_ne _ (Or.inl hBV), set_ne _ (Or.inl hBV), set_ne _ (Or.inl hBV), set_ne _ (Or.inl hBV), set_ne _ (Or.inl hBV)]
      exact h.plc i (by omega)
  · exact set_none _ (set_none _ (set_none _ (set_none _ (set_none _ (set_none _ (h.plcS j hj))))))
  · simp only [World.frozen?_setCell]; exact h.plcF j
  · obtain ⟨xs, hx⟩ := h.plcO
    refine ⟨_, (World.ownsRow.stored (owns_same hx ?_) k _).1⟩
    rw [Below.heap_setCell _ _ _ _ hBV, Below.heap_setCell _ _ _ _ hBV, Below.heap_setCell _ _ _ _ hBV, Below.heap_setCell _ _ _ _ hBV, Below.heap_setCell _ _ _ _ hBV]
  · rw [set_ne _ (Or.inl hBX.symm), set_ne _ (Or.inl hVX), set_ne _ (Or.inl hVX), set_ne _ (Or.inl hVX), set_ne _ (Or.inl hVX), set_ne _ (Or.inl hVX)]
    exact h.box
  · simpa [World.setCell] using h.ltV
  · simpa [World.setCell] using h.ltX
  · simpa [World.setCell] using h.ltB
  · exact (((((h.bel.setCell (p := ⟨V, _, none⟩) hV _).setCell (p := ⟨V, _, none⟩) hV _).setCell (p := ⟨V, _, none⟩) hV _).setCell (p := ⟨V, _, none⟩) hV _).setCell (p := ⟨V, _, none⟩) hV _).setCell (p := ⟨B, _, none⟩) hB _
end Go.Proofs.YtcdajbfoneifaaaDoor
