import Derived.Test.YtmjdpddpphfpiaaOrH
namespace Go.Proofs.Ytmjdpddpphfpiaa
open Go.RowKit Go.Maps Go.Sort Go.Shelf

/-- FOUR ANSWERS, EACH IN ITS OWN STRETCH OF THE MEMORY. -/
structure Fr (B lb : Nat) (vv : Nat → Value) (lo : Nat → Nat) : Prop where
  own : ∀ i g, i < 4 → (vv i).ownBlock = some g → lo i ≤ g ∧ g < lo (i + 1)
  mono : ∀ i j, i ≤ j → j ≤ 4 → lo i ≤ lo j
  base : B ≤ lo 0
  top : lo 4 ≤ lb
theorem Fr.ne {B lb : Nat} {vv : Nat → Value} {lo : Nat → Nat} (f : Fr B lb vv lo) {i j g : Nat} (hi : i < 4) (hj : j < 4) (h : (vv i).ownBlock = some g) (k : (vv j).ownBlock = some g) : i = j := by
  obtain ⟨a1, a2⟩ := f.own i g hi h
  obtain ⟨b1, b2⟩ := f.own j g hj k
  rcases Nat.lt_trichotomy i j with q | q | q
  · have := f.mono (i + 1) j (by omega) (by omega); omega
  · exact q
  · have := f.mono (j + 1) i (by omega) (by omega); omega
theorem Fr.low {B lb : Nat} {vv : Nat → Value} {lo : Nat → Nat} (f : Fr B lb vv lo) {i g : Nat} (hi : i < 4) (h : (vv i).ownBlock = some g) : B ≤ g ∧ g < lb := by
  obtain ⟨a1, a2⟩ := f.own i g hi h
  have h1 := f.mono 0 i (by omega) (by omega)
  have h2 := f.mono (i + 1) 4 (by omega) (by omega)
  have := f.base
  have := f.top
  omega
def h4 (vv : Nat → Value) : Array Value := #[vv 0, vv 1, vv 2, vv 3]
theorem h4_at (vv : Nat → Value) {i : Nat} (hi : i < 4) : (h4 vv)[i]? = some (vv i) := by
  match i, hi with
  | 0, _ => rfl
  | 1, _ => rfl
  | 2, _ => rfl
  | 3, _ => rfl
structure R4 (W wr : World) (lb : Nat) (vv : Nat → Value) (lo : Nat → Nat) (X : Nat → List Nm) : Prop where
  row : ∀ i, i < 4 → wr.ownsRow (lo i) 9 1 (vv i) (X i).length (sv (X i))
  hd : wr.heap[lb]? = some (.cells (h4 vv) 23 (0, 0))
  bw : Below W.heap.size W wr
theorem R4.later {W wr w2 : World} {lb : Nat} {vv : Nat → Value} {lo : Nat → Nat} {X : Nat → List Nm} (h : R4 W wr lb vv lo X) (hb : Below wr.heap.size wr w2) : R4 W w2 lb vv lo X :=
  ⟨fun i hi => own_low (h.row i hi) hb, (hb.block _ (blk_lt h.hd)).trans h.hd, bl_t h.bw hb⟩
theorem R4.head {W wr : World} {lb : Nat} {vv : Nat → Value} {lo : Nat → Nat} {X : Nat → List Nm} (h : R4 W wr lb vv lo X) {i : Nat} (hi : i < 4) : ∃ a c, vv i = .slice a (X i).length c ∧ wr.cell? ⟨lb, i, none⟩ = some (.slice a (X i).length c) ∧ lb < wr.heap.size := by
  obtain ⟨a, c, e⟩ := owns_form (h.row i hi)
  exact ⟨a, c, e, by rw [(cell_blk h.hd i).1, h4_at vv hi, e], blk_lt h.hd⟩
def setX (X : Nat → List Nm) (i k : Nat) (c : Nm) : Nat → List Nm := fun j => if j = i then (X i).set k c else X j
theorem setX_same (X : Nat → List Nm) (i k : Nat) (c : Nm) : setX X i k c i = (X i).set k c := if_pos rfl
theorem setX_other (X : Nat → List Nm) {i j : Nat} (k : Nat) (c : Nm) (h : j ≠ i) : setX X i k c j = X j := if_neg h
theorem setX_len (X : Nat → List Nm) (i k : Nat) (c : Nm) (j : Nat) : (setX X i k c j).length = (X j).length := by
  by_cases e : j = i
  · subst e; rw [setX_same, List.length_set]
  · rw [setX_other X k c e]
/-- ONE CELL WRITTEN OVER. -/
theorem R4.write {W wr : World} {lb : Nat} {vv : Nat → Value} {lo : Nat → Nat} {X : Nat → List Nm} (f : Fr W.heap.size lb vv lo) (h : R4 W wr lb vv lo X) {i k : Nat} (hi : i < 4) (hk : k < (X i).length) :
    ∃ g cap, vv i = .slice (some ⟨g, 0, none⟩) (X i).length cap ∧ g < wr.heap.size ∧ (∃ z, wr.cell? ⟨g, k, none⟩ = some z) ∧ wr.frozen? ⟨g, k, none⟩ = false ∧ ∀ c, R4 W (wr.setCell ⟨g, k, none⟩ (.string c)) lb vv lo (setX X i k c) := by
  have hr := h.row i hi
  rcases hr.2 with ⟨_, q⟩ | ⟨g, cap, cur, e, hg, hh, _⟩
  · omega
  · have ho : (vv i).ownBlock = some g := by rw [e]; rfl
    refine ⟨g, cap, e, blk_lt hh, ?_, (cell_blk hh k).2, fun c => ⟨fun j hj => ?_, ?_, ?_⟩⟩
    · rw [e] at hr
      exact ⟨_, owns_at hr k _ (List.getElem?_eq_getElem (by rw [sv_len]; exact hk))⟩
    · by_cases q : j = i
      · subst q
        rw [setX_same, List.length_set]
        rw [e] at hr ⊢
        have := own_set hr k (.string c)
        unfold sv at this ⊢
        rw [List.map_set]
        exact this
      · rw [setX_other X k c q]
        exact own_same (h.row j hj) fun g2 e2 => set_other _ _ _ _ _ fun e3 => q (f.ne hj hi e2 (by rw [e3]; exact ho))
    · rw [set_other _ _ _ _ _ (by have := (f.low hi ho).2; omega)]
      exact h.hd
    · exact h.bw.setCell (p := ⟨g, k, none⟩) (f.low hi ho).1 _
/-- A LETTER. -/
def ch (c i : Nat) : Nm := ⟨#[UInt8.ofNat (c + i)]⟩
theorem ch_byte {c i : Nat} (h : c + i < 256) : ((UInt8.ofNat (c + i)).toNat : Int) = ((c + i : Nat) : Int) := by
  rw [UInt8.toNat_ofNat']
  omega
theorem conv_ch {X : World} {b c i : Nat} {v : Int} (h : c + i < 256) (hv : v = ((c + i : Nat) : Int)) (hc : X.cell? ⟨b, 0, none⟩ = some (.int .u8 v)) : Sem.run Try.prog (convert 35 9 (.slice (some ⟨b, 0, none⟩) 1 1)) X = .ok (.string (ch c i)) X :=
  run_convert_bytes_back (P := Try.prog) X 35 9 5 ⟨b, 0, none⟩ 1 [UInt8.ofNat (c + i)] Try.underlying35 Try.underlying5 Try.underlying9 (fun j hj => by
    have e : j = 0 := by simpa using hj
    subst e
    show X.cell? ⟨b, 0, none⟩ = _
    rw [hc, hv, ← ch_byte h]
    rfl)
theorem conv97 {w : World} {i : Nat} (hi : i < 4) (X : World) (hX : X.cell? ⟨w.heap.size, 0, none⟩ = (w.alloc (.cells #[.int .u8 (97 + (i : Int))] 5)).cell? ⟨w.heap.size, 0, none⟩) : Sem.run Try.prog (convert 35 9 (.slice (some ⟨w.heap.size, 0, none⟩) 1 1)) X = .ok (.string (ch 97 i)) X :=
  conv_ch (v := 97 + (i : Int)) (by omega) (by omega) (by rw [hX, World.cell?_alloc_new]; rfl)
theorem conv65 {w : World} {i : Nat} (hi : i < 4) (X : World) (hX : X.cell? ⟨w.heap.size, 0, none⟩ = (w.alloc (.cells #[.int .u8 (65 + (i : Int))] 5)).cell? ⟨w.heap.size, 0, none⟩) : Sem.run Try.prog (convert 35 9 (.slice (some ⟨w.heap.size, 0, none⟩) 1 1)) X = .ok (.string (ch 65 i)) X :=
  conv_ch (v := 65 + (i : Int)) (by omega) (by omega) (by rw [hX, World.cell?_alloc_new]; rfl)
theorem wrapA97 {i : Nat} (hi : i < 4) : IntKind.i64.wrap (97 + (i : Int)) = 97 + (i : Int) := by
  match i, hi with
  | 0, _ => rfl
  | 1, _ => rfl
  | 2, _ => rfl
  | 3, _ => rfl
theorem wrapB97 {i : Nat} (hi : i < 4) : IntKind.u8.wrap (97 + (i : Int)) = 97 + (i : Int) := by
  match i, hi with
  | 0, _ => rfl
  | 1, _ => rfl
  | 2, _ => rfl
  | 3, _ => rfl
theorem wrapA65 {i : Nat} (hi : i < 4) : IntKind.i64.wrap (65 + (i : Int)) = 65 + (i : Int) := by
  match i, hi with
  | 0, _ => rfl
  | 1, _ => rfl
  | 2, _ => rfl
  | 3, _ => rfl
theorem wrapB65 {i : Nat} (hi : i < 4) : IntKind.u8.wrap (65 + (i : Int)) = 65 + (i : Int) := by
  match i, hi with
  | 0, _ => rfl
  | 1, _ => rfl
  | 2, _ => rfl
  | 3, _ => rfl
end Go.Proofs.Ytmjdpddpphfpiaa
