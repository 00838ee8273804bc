import Derived.Test.YtjflnpcpnoccjaaGrE
import Derived.RangeFuncNested
import Derived.RangeFuncBound
import Derived.RangeFuncCalls
import Derived.RangeFuncLeaves
import Derived.RangeFuncBox
import Derived.Shelf.Abstract
import Derived.Shelf.RegionOpen
import Derived.WalkKit
import Derived.OwnWalkIn
import Derived.TacticsInMore
import Derived.LoopNIn
import Derived.LoopIn
import Derived.Sort.LoopGhostIn
import Derived.Sort.QuietIn
namespace Go.Proofs.Ytjflnpcpnoccjaa
open Go.RowKit

/-- WHAT IS GATHERED BY A KEY: for each key the things, none twice on end. -/
def gst (ls : Nat → List Nat) (t k : Nat) (j : Nat) : List Nat := if j = k then (if (ls k).getLast? = some t then ls k else ls k ++ [t]) else ls j
abbrev Ky (n : Nat) := { p : Nat × Nat // p.1 < 9007199254740992 ∧ p.2 < n }
def gth {n : Nat} (ps : List (Ky n)) : Nat → List Nat := ps.foldl (fun ls x => gst ls x.1.1 x.1.2) fun _ => []
theorem gth_snoc {n : Nat} (ps : List (Ky n)) (x : Ky n) : gth (ps ++ [x]) = gst (gth ps) x.1.1 x.1.2 := by simp [gth]
theorem gst_len (ls : Nat → List Nat) (t k j : Nat) : (gst ls t k j).length ≤ (ls j).length + 1 := by
  unfold gst
  by_cases e : j = k
  · subst e
    rw [if_pos rfl]
    split <;> simp
  · rw [if_neg e]
    omega
theorem gth_foldl {n : Nat} (ps : List (Ky n)) : ∀ (ls : Nat → List Nat) (j : Nat), (ps.foldl (fun ls x => gst ls x.1.1 x.1.2) ls j).length ≤ (ls j).length + ps.length := by
  induction ps with
  | nil => exact fun ls j => Nat.le_refl _
  | cons x r ih =>
    intro ls j
    have h1 := ih (gst ls x.1.1 x.1.2) j
    have h2 := gst_len ls x.1.1 x.1.2 j
    simp only [List.foldl_cons, List.length_cons]
    omega
theorem gth_len {n : Nat} (ps : List (Ky n)) (j : Nat) : (gth ps j).length ≤ ps.length := by
  have := gth_foldl ps (fun _ => []) j
  simpa [gth] using this
abbrev encK {n : Nat} (x : Ky n) : Array Value := #[.int .i64 (x.1.1 : Int), .int .i64 (x.1.2 : Int)]
def nI (l : List Nat) : List Int := l.map fun x : Nat => (x : Int)
theorem nI_len (l : List Nat) : (nI l).length = l.length := by simp [nI]
/-- LISTS OF THEIR OWN UNDER ONE ROW. -/
structure Gs (lo n R : Nat) (ls : Nat → List Nat) (ga : Nat → Option Addr) (gc : Nat → Nat) (W : World) : Prop where
  row : Mv R n 23 (fun k => .slice (ga k) (ls k).length (gc k)) W
  own : ∀ k, k < n → W.ownsRow lo 3 1 (.slice (ga k) (ls k).length (gc k)) (ls k).length (tV (nI (ls k)))
  ne : ∀ i j, i < n → j < n → i ≠ j → ∀ b, (Value.slice (ga i) (ls i).length (gc i)).ownBlock = some b → (Value.slice (ga j) (ls j).length (gc j)).ownBlock ≠ some b
  low : R < lo ∧ lo ≤ W.heap.size
theorem own_same {W W2 : World} {lo e size n : Nat} {v : Value} {xs : List Value} (h : W.ownsRow lo e size v n xs) (q : ∀ (b : Nat) (cur : Array Value) (t : TypeId), W.heap[b]? = some (Obj.cells cur t (0, 0)) → v.ownBlock = some b → W2.heap[b]? = W.heap[b]?) : W2.ownsRow lo e size v n xs := by
  refine ⟨h.1, ?_⟩
  rcases h.2 with h' | ⟨g, cap, cr, h1, h2, h3, h4⟩
  · exact .inl h'
  · exact .inr ⟨g, cap, cr, h1, h2, (q g cr e h3 (by rw [h1]; rfl)).trans h3, h4⟩
theorem Gs.same {lo n R : Nat} {ls : Nat → List Nat} {ga : Nat → Option Addr} {gc : Nat → Nat} {W W2 : World} (h : Gs lo n R ls ga gc W) (q : ∀ (b : Nat) (cur : Array Value) (t : TypeId), W.heap[b]? = some (Obj.cells cur t (0, 0)) → W2.heap[b]? = W.heap[b]?) (hs : W.heap.size ≤ W2.heap.size) : Gs lo n R ls ga gc W2 := by
  obtain ⟨cur, h1, h2⟩ := h.row
  exact ⟨⟨cur, (q _ _ _ h1).trans h1, h2⟩, fun k hk => own_same (h.own k hk) fun b c t hb _ => q b c t hb, h.ne, h.low.1, Nat.le_trans h.low.2 hs⟩
theorem cells_kept {X Y : World} {row : Option Nat} (hg : X.grownBy Y row) (hr : ∀ r, row = some r → ∃ o : Obj, X.heap[r]? = some o ∧ o.isCells = false) (b : Nat) (cur : Array Value) (t : TypeId) (h : X.heap[b]? = some (.cells cur t (0, 0))) : Y.heap[b]? = X.heap[b]? :=
  hg.block b (blk_lt h) fun e => by
    obtain ⟨o, ho, hc⟩ := hr b e.symm
    rw [h] at ho
    cases ho
    simp [Obj.isCells] at hc
theorem Gs.later {lo n R : Nat} {ls : Nat → List Nat} {ga : Nat → Option Addr} {gc : Nat → Nat} {W W2 : World} (h : Gs lo n R ls ga gc W) (hb : Below W.heap.size W W2) : Gs lo n R ls ga gc W2 :=
  h.same (fun b _ _ e => hb.block b (blk_lt e)) hb.size
def upd {α : Type} (f : Nat → α) (k : Nat) (x : α) (j : Nat) : α := if j = k then x else f j
/-- One more behind the list of a key. -/
theorem Gs.put {lo n R : Nat} {ls : Nat → List Nat} {ga : Nat → Option Addr} {gc : Nat → Nat} {W W1 : World} (h : Gs lo n R ls ga gc W) {k t : Nat} (hk : k < n) {g c : Nat}
    (ho : W1.ownsRow lo 3 1 (.slice (some ⟨g, 0, none⟩) ((ls k).length + 1) c) ((ls k).length + 1) (tV (nI (ls k)) ++ [.int .i64 (t : Int)])) (hg : W.grownBy W1 (Value.slice (ga k) (ls k).length (gc k)).ownBlock)
    (hgg : (Value.slice (ga k) (ls k).length (gc k)).ownBlock = some g ∨ W.heap.size ≤ g) :
    Gs lo n R (upd ls k (ls k ++ [t])) (upd ga k (some ⟨g, 0, none⟩)) (upd gc k c) (W1.setCell ⟨R, k, none⟩ (.slice (some ⟨g, 0, none⟩) ((ls k).length + 1) c)) := by
  have hrow : ∀ b, (Value.slice (ga k) (ls k).length (gc k)).ownBlock = some b → lo ≤ b := fun b e => ((h.own k hk).lt b e).1
  have hR1 : Mv R n 23 (fun k => .slice (ga k) (ls k).length (gc k)) W1 := h.row.same (hg.block R h.row.lt fun e => by have := hrow R e.symm; have := h.low.1; omega)
  refine ⟨?_, fun j hj => ?_, fun i j hi hj hij b hb => ?_, h.low.1, ?_⟩
  · refine (hR1.set hk _).congr fun j hj => ?_
    unfold upd
    by_cases e : j = k
    · subst e; simp
    · simp [e]
  · by_cases e : j = k
    · subst e
      have e1 : upd ls j (ls j ++ [t]) j = ls j ++ [t] := if_pos rfl
      have e2 : upd ga j (some ⟨g, 0, none⟩) j = some ⟨g, 0, none⟩ := if_pos rfl
      have e3 : upd gc j c j = c := if_pos rfl
      rw [e1, e2, e3]
      have e4 : tV (nI (ls j ++ [t])) = tV (nI (ls j)) ++ [.int .i64 (t : Int)] := by simp [tV, nI]
      rw [e4]
      have e5 : (ls j ++ [t]).length = (ls j).length + 1 := by simp
      rw [e5]
      exact own_far h.low.1 ho
    · have e1 : upd ls k (ls k ++ [t]) j = ls j := if_neg e
      have e2 : upd ga k (some ⟨g, 0, none⟩) j = ga j := if_neg e
      have e3 : upd gc k c j = gc j := if_neg e
      rw [e1, e2, e3]
      refine own_far h.low.1 (own_same (h.own j hj) fun b cur t hb eb => hg.block b (blk_lt hb) fun e2 => h.ne k j hk hj (fun q => e q.symm) b e2.symm eb)
  · have f1 : ∀ j, j ≠ k → (Value.slice (upd ga k (some ⟨g, 0, none⟩) j) (upd ls k (ls k ++ [t]) j).length (upd gc k c j)) = Value.slice (ga j) (ls j).length (gc j) := fun j e => by
      have e1 : upd ls k (ls k ++ [t]) j = ls j := if_neg e
      have e2 : upd ga k (some ⟨g, 0, none⟩) j = ga j := if_neg e
      have e3 : upd gc k c j = gc j := if_neg e
      rw [e1, e2, e3]
    have f2 : (Value.slice (upd ga k (some ⟨g, 0, none⟩) k) (upd ls k (ls k ++ [t]) k).length (upd gc k c k)).ownBlock = some g := by
      have e2 : upd ga k (some ⟨g, 0, none⟩) k = some ⟨g, 0, none⟩ := if_pos rfl
      rw [e2]
      rfl
    have f3 : ∀ j, j < n → j ≠ k → (Value.slice (ga j) (ls j).length (gc j)).ownBlock ≠ some g := fun j hj e q => by
      rcases hgg with z | z
      · exact h.ne k j hk hj (fun q => e q.symm) g z q
      · have := ((h.own j hj).lt g q).2
        omega
    by_cases ei : i = k
    · subst ei
      rw [f2] at hb
      cases hb
      rw [f1 j (fun q => hij q.symm)]
      exact f3 j hj (fun q => hij q.symm)
    · rw [f1 i ei] at hb
      by_cases ej : j = k
      · subst ej
        rw [f2]
        intro q
        cases q
        exact f3 i hi ei hb
      · rw [f1 j ej]
        exact h.ne i j hi hj hij b hb
  · rw [set_size]
    exact Nat.le_trans h.low.2 hg.size
end Go.Proofs.Ytjflnpcpnoccjaa
