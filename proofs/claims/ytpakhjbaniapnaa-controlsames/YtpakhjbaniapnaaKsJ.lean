import Derived.Test.YtpakhjbaniapnaaKsI
namespace Go.Proofs.Ytpakhjbaniapnaa
open Go.RowKit

/-- THE MARK IN THE ROOM BEHIND A LIST. -/
def bhd : ByteArray := ⟨#[98, 101, 104, 105, 110, 100]⟩
/-- A SLICE OF n ELEMENTS OF s CELLS, THE MARK BEHIND THEM. -/
def Mk (s : Nat) (w : World) (x : Value) (n : Nat) : Prop :=
  ∃ b o c, x = .slice (some ⟨b, o, none⟩) n c ∧ n + 1 ≤ c ∧ n < 9223372036854775807 ∧ b < w.heap.size ∧ w.cell? ⟨b, o + n * s, none⟩ = some (.string bhd)
theorem Mk.later {s : Nat} {w w' : World} {x : Value} {n : Nat} (h : Mk s w x n) (hb : Below w.heap.size w w') : Mk s w' x n := by
  obtain ⟨b, o, c, h1, h2, h3, h4, h5⟩ := h
  exact ⟨b, o, c, h1, h2, h3, Nat.lt_of_lt_of_le h4 hb.size, (hb.cell (p := ⟨b, _, none⟩) h4).trans h5⟩
/-- CLAUSES, EACH WITH THE MARK BEHIND ITS ATOMS. -/
def ClM (w : World) (v : Value) (cl : List (List Am)) : Prop :=
  ∃ a c, v = .slice a cl.length c ∧ cl.length ≤ 9223372036854775807 ∧ ∀ i (h : i < cl.length), ∃ b o x, a = some ⟨b, o, none⟩ ∧ b < w.heap.size ∧ w.cell? ⟨b, o + i, none⟩ = some x ∧ Mk 3 w x cl[i].length
theorem ClM.later {w w' : World} {v : Value} {cl : List (List Am)} (h : ClM w v cl) (hb : Below w.heap.size w w') : ClM w' v cl := by
  obtain ⟨a, c, h1, h2, h3⟩ := h
  refine ⟨a, c, h1, h2, fun i hi => ?_⟩
  obtain ⟨b, o, x, e1, e2, e3, e4⟩ := h3 i hi
  exact ⟨b, o, x, e1, Nat.lt_of_lt_of_le e2 hb.size, (hb.cell (p := ⟨b, _, none⟩) e2).trans e3, e4.later hb⟩
theorem ClM.shape {w : World} {v : Value} {cl : List (List Am)} (h : ClM w v cl) : ∃ a c, v = .slice a cl.length c := by
  obtain ⟨a, c, e, _⟩ := h
  exact ⟨a, c, e⟩
theorem ClM.bigL {w : World} {v : Value} {cl : List (List Am)} (h : ClM w v cl) : cl.length ≤ 9223372036854775807 := by
  obtain ⟨a, c, e, h2, _⟩ := h
  exact h2
theorem ClM.elem {w : World} {va : Option Addr} {n vc : Nat} {al : List (List Am)} (h : ClM w (.slice va n vc) al) (k : Nat) (hk : k < al.length) : ∃ b o x, va = some ⟨b, o, none⟩ ∧ b < w.heap.size ∧ w.cell? ⟨b, o + k, none⟩ = some x ∧ Mk 3 w x al[k].length := by
  obtain ⟨a, c, e, _, h3⟩ := h
  cases e
  exact h3 k hk

set_option maxRecDepth 100000 in
set_option maxHeartbeats 4000000 in
theorem spared_any (cl : List (List Am)) (v : Value) (w : World) (h1 : ClM w v cl) :
    Calls Try.prog 14 #[v] w fun e w' => e = .returned (.bool true) ∧ Below w.heap.size w w' := by
  obtain ⟨va, vc, rfl⟩ := h1.shape
  have b1 := h1.bigL
  have H1 := hide h1
  clear h1
  obtain ⟨N, hN⟩ : ∃ N, cl.length = N := ⟨_, rfl⟩
  rw [hN] at H1 b1 ⊢
  go_enter Try.func14, Try.ntmps14
  go_wp2_with fail
  go_loopw [3, 4] (fun i _ wr => ∃ k : Nat, k ≤ N ∧ i = .int .i64 k ∧ Hid (Below w.heap.size w wr)) (fun i _ _ => N - (intOf i).toNat)
  case atStart => exact ⟨0, Nat.zero_le _, rfl, hide (Below.refl _ _)⟩
  case round =>
    obtain ⟨k, hk, rfl, HB⟩ := hrel
    by_cases hlt : k < N
    · have hka : k < cl.length := by omega
      obtain ⟨g, o, x, rfl, hg, p0, hx⟩ := ((unhide H1).later (unhide HB)).elem k hka
      obtain ⟨b, o2, C, rfl, hC, hb, hbl, q0⟩ := hx
      generalize cl[k].length = L at *
      have hn2 : wrap64 ((L : Int) + 1) = (L : Int) + 1 := by unfold wrap64; omega
      have j1 : (0 : Int) ≤ (L : Int) + 1 := by omega
      have j2 : (L : Int) + 1 ≤ (C : Int) := by omega
      have j3 : (L : Int) < (L : Int) + 1 := by omega
      have j4 : (0 : Int) ≤ (L : Int) := by omega
      unfold bhd at q0
      go_wp2_with fail
      go_roundw
      case rel => exact ⟨k + 1, by omega, by go_num, HB⟩
      case measure => simp [intOf]; omega
    · go_wp2_with fail
      go_ret
      exact ⟨rfl, unhide HB⟩

end Go.Proofs.Ytpakhjbaniapnaa
