import Derived.Test.YtjmomdnlibfbkaaDoorAbA
namespace Go.Proofs.YtjmomdnlibfbkaaDoor
open Go.RowKit

def cb (b : UInt8) : Value := .int .u8 (b.toNat : Int)
theorem cb_one (b : UInt8) : (cb b).oneCell' = true := rfl
theorem cb_inj {x y : UInt8} (h : cb x = cb y) : x = y := by
  unfold cb at h
  injection h with _ h
  exact UInt8.toNat_inj.1 (by omega)
/-- BYTES AS THEY READ. -/
def Rb (w : World) (v : Value) (l : Bs) : Prop := ∃ a c, v = .slice a l.length c ∧ l.length ≤ c ∧ (0 < l.length → ∃ b o, a = some ⟨b, o, none⟩ ∧ b < w.heap.size ∧ ∀ (i : Nat) (x : UInt8), l[i]? = some x → w.cell? ⟨b, o + i, none⟩ = some (cb x))
theorem Rb.form {w : World} {v : Value} {l : Bs} (h : Rb w v l) : ∃ a c, v = .slice a l.length c ∧ l.length ≤ c := let ⟨a, c, e, k, _⟩ := h; ⟨a, c, e, k⟩
theorem Rb.at {w : World} {a : Option Addr} {n c : Nat} {l : Bs} (h : Rb w (.slice a n c) l) (h0 : 0 < l.length) : ∃ b o, a = some ⟨b, o, none⟩ ∧ b < w.heap.size ∧ ∀ (i : Nat) (hi : i < l.length), w.cell? ⟨b, o + i, none⟩ = some (cb l[i]) := by
  obtain ⟨a2, c2, e, _, hr⟩ := h
  cases e
  obtain ⟨b, o, ea, hl, hc⟩ := hr h0
  exact ⟨b, o, ea, hl, fun i hi => hc i _ (List.getElem?_eq_getElem hi)⟩
theorem Rb.later {w w' : World} {v : Value} {l : Bs} (h : Rb w v l) (hb : Below w.heap.size w w') : Rb w' v l := by
  obtain ⟨a, c, e, k, hr⟩ := h
  refine ⟨a, c, e, k, fun h0 => ?_⟩
  obtain ⟨b, o, ea, hl, hc⟩ := hr h0
  exact ⟨b, o, ea, Nat.lt_of_lt_of_le hl hb.size, fun i x hi => (hb.cell (p := ⟨b, o + i, none⟩) hl).trans (hc i x hi)⟩
/-- A BLOCK OF BYTES. -/
structure By (w : World) (g : Nat) (L : Bs) : Prop where
  at_ : ∀ (i : Nat) (x : UInt8), L[i]? = some x → w.cell? ⟨g, i, none⟩ = some (cb x)
  fr : ∀ i, w.frozen? ⟨g, i, none⟩ = false
  lt : g < w.heap.size
theorem By.same {w w' : World} {g : Nat} {L : Bs} (h : By w g L) (e : w'.heap[g]? = w.heap[g]?) (hs : w.heap.size ≤ w'.heap.size) : By w' g L :=
  ⟨fun i x hi => (World.cell?_of_block (a := ⟨g, i, none⟩) e).trans (h.at_ i x hi), fun i => by have := h.fr i; unfold World.frozen? at this ⊢; rw [e]; exact this, Nat.lt_of_lt_of_le h.lt hs⟩
theorem By.later {w w' : World} {g : Nat} {L : Bs} (h : By w g L) (hb : Below w.heap.size w w') : By w' g L := h.same (hb.block g h.lt) hb.size
theorem By.set {w : World} {g : Nat} {L : Bs} (h : By w g L) {p : Nat} (hp : p < L.length) (x : UInt8) : By (w.setCell ⟨g, p, none⟩ (cb x)) g (L.set p x) := by
  refine ⟨fun i y hi => ?_, fun i => by rw [World.frozen?_setCell]; exact h.fr i, by simpa using h.lt⟩
  by_cases e : p = i
  · subst e
    rw [List.getElem?_set_self hp] at hi
    cases hi
    exact World.cell?_setCell_same _ _ _ (h.at_ p _ (List.getElem?_eq_getElem hp))
  · rw [List.getElem?_set_ne e] at hi
    rw [World.cell?_setCell_other _ _ _ _ (by intro q; injection q with _ q; exact e q)]
    exact h.at_ i y hi
/-- NOTHING BUT ONE BLOCK HAS CHANGED. -/
structure Ow (g : Nat) (w w' : World) : Prop where
  bel : Below g w w'
  oth : ∀ b, b ≠ g → w'.heap[b]? = w.heap[b]?
  size : w'.heap.size = w.heap.size
theorem Ow.refl (g : Nat) (w : World) : Ow g w w := ⟨Below.refl _ _, fun _ _ => rfl, rfl⟩
theorem Ow.trans {g : Nat} {w w1 w2 : World} (h : Ow g w w1) (k : Ow g w1 w2) : Ow g w w2 := ⟨h.bel.trans k.bel, fun b hb => (k.oth b hb).trans (h.oth b hb), k.size.trans h.size⟩
theorem Ow.set {g : Nat} {w w1 : World} (h : Ow g w w1) (p : Nat) (v : Value) : Ow g w (w1.setCell ⟨g, p, none⟩ v) :=
  ⟨h.bel.setCell (p := ⟨g, p, none⟩) (Nat.le_refl _) v, fun b hb => (Below.heap_setCell w1 ⟨g, p, none⟩ v b hb).trans (h.oth b hb), by simpa using h.size⟩
theorem Ow.sets {g : Nat} {w w1 : World} (h : Ow g w w1) (o : Nat) (vs : List Value) : Ow g w (w1.setCells g o vs) :=
  ⟨below_setCells g (Nat.le_refl _) vs o w1 h.bel, fun b hb => (heap_setCells g vs o w1 b hb).trans (h.oth b hb), (size_setCells g vs o w1).trans h.size⟩
theorem put_set {L t : Bs} {p : Nat} {x : UInt8} (h : p + 1 + t.length ≤ L.length) : (put L (p + 1) t).set p x = put L p (x :: t) := by
  refine List.ext_getElem? fun i => ?_
  rw [put_get (by rw [List.length_cons]; omega), List.getElem?_set, put_len h]
  by_cases e : p = i
  · subst e
    rw [if_pos rfl, if_pos (by omega), if_pos (by rw [List.length_cons]; omega), Nat.sub_self]
    rfl
  · rw [if_neg e, put_get h, List.length_cons]
    by_cases h1 : p + 1 ≤ i ∧ i < p + 1 + t.length
    · rw [if_pos h1, if_pos (by omega), show i - p = (i - (p + 1)) + 1 by omega, List.getElem?_cons_succ]
    · rw [if_neg h1, if_neg (by omega)]
theorem put_nil (L : Bs) (o : Nat) : put L o [] = L := by
  unfold put
  simp
theorem By.sets {w : World} {g : Nat} : ∀ {t L : Bs} {o : Nat}, By w g L → o + t.length ≤ L.length → By (w.setCells g o (t.map cb)) g (put L o t)
  | [], L, o, h, _ => by rw [put_nil]; exact h
  | x :: t, L, o, h, hl => by
    have hl' : o + (t.length + 1) ≤ L.length := hl
    have ih := By.sets (w := w.setCell ⟨g, o, none⟩ (cb x)) (t := t) (L := L.set o x) (o := o + 1) (h.set (by omega) x) (by rw [List.length_set]; omega)
    have e : put (L.set o x) (o + 1) t = put L o (x :: t) := by
      rw [← put_set (by omega)]
      refine List.ext_getElem? fun i => ?_
      rw [put_get (by rw [List.length_set]; omega), List.getElem?_set, List.getElem?_set, put_len (by omega), put_get (by omega)]
      by_cases e1 : o = i
      · subst e1
        rw [if_neg (by omega), if_pos rfl, if_pos rfl]
      · rw [if_neg e1, if_neg e1]
    rw [← e]
    exact ih
/-- A WINDOW. -/
theorem By.rb {w : World} {g : Nat} {L : Bs} (h : By w g L) {o n c : Nat} (hl : o + n ≤ L.length) (hc : n ≤ c) : Rb w (.slice (some ⟨g, o, none⟩) n c) (fld o n L) := by
  have hn := fld_len hl
  refine ⟨_, c, by rw [hn], by rw [hn]; exact hc, fun _ => ⟨g, o, rfl, h.lt, fun i x hi => h.at_ _ _ ?_⟩⟩
  rw [fld_get] at hi
  split at hi
  · exact hi
  · cases hi
/-- ARE ALL BYTES ZERO. -/
def allz (l : Bs) : Bool := l.all fun b => b == 0
theorem allz_iff (l : Bs) : allz l = true ↔ l = zs l.length := by
  unfold allz zs
  rw [List.all_eq_true]
  constructor
  · intro h
    exact List.eq_replicate_iff.2 ⟨rfl, fun b hb => by simpa using h b hb⟩
  · intro h b hb
    rw [h] at hb
    simpa using (List.mem_replicate.1 hb).2
theorem allz_bad {l : Bs} {i : Nat} (hi : i < l.length) (h : l[i] ≠ 0) : allz l = false := by
  cases e : allz l
  · rfl
  · exfalso
    have := List.all_eq_true.1 e _ (List.getElem_mem hi)
    simp at this
    exact h this
theorem allz_good {l : Bs} (h : ∀ i (hi : i < l.length), l[i] = 0) : allz l = true := by
  refine List.all_eq_true.2 fun b hb => ?_
  obtain ⟨i, hi, rfl⟩ := List.getElem_of_mem hb
  simpa using h i hi
set_option maxRecDepth 100000 in
set_option maxHeartbeats 4000000 in
theorem allZero_any {w : World} {v : Value} {l : Bs} (h : Rb w v l) (hl : l.length ≤ 2147483648) :
    Calls Tryd.prog 34 #[v] w fun e w' => e = .returned (.bool (allz l)) ∧ w' = w := by
  obtain ⟨a, c, rfl, hc⟩ := h.form
  have HA := hide (fun h0 => h.at h0)
  have HB := hide (fun i (hi : i < l.length) (hz : l[i] ≠ 0) => allz_bad hi hz)
  have HGd := hide (fun hz => allz_good (l := l) hz)
  obtain ⟨N, hN⟩ : ∃ N, l.length = N := ⟨_, rfl⟩
  have HN := hide hN
  rw [hN] at hl hc
  rw [hN]
  clear h hN
  go_enter Tryd.func34, Tryd.ntmps34
  go_wp2_with fail
  go_loopg [4, 7] N (fun gq _ iv wr => ∃ i : Nat, iv = .int .i64 i ∧ i ≤ N ∧ N - i ≤ gq ∧ wr = w ∧ Hid (∀ j (hj : j < l.length), j < i → l[j] = 0))
  case atStart => exact ⟨0, by go_num, by omega, by omega, rfl, hide fun j hj h => absurd h (Nat.not_lt_zero _)⟩
  case round =>
    obtain ⟨i, rfl, hi, hg, rfl, HZ⟩ := hrel
    by_cases hlt : i < N
    · have hin : (i : Int) < (N : Int) := by omega
      have hil : i < l.length := by have := unhide HN; omega
      obtain ⟨b, o, rfl, _, hcell⟩ := unhide HA (by omega)
      have c0 := hcell i hil
      unfold cb at c0
      clear hcell
      by_cases hz : l[i] = 0
      · have hz2 : ((l[i].toNat : Nat) : Int) = 0 := by rw [hz]; rfl
        rw [hz2] at c0
        have HZ2 := hide (show ∀ j (hj : j < l.length), j < i + 1 → l[j] = 0 from fun j hj hji => by
          by_cases e : j = i
          · subst e; exact hz
          · exact unhide HZ j hj (by omega))
        clear HZ hz hz2
        go_wp2_with fail
        go_roundg (N - (i + 1))
        case measure => omega
        case rel => exact ⟨i + 1, by go_num, by omega, by omega, rfl, HZ2⟩
      · have hz2 : ¬ ((l[i].toNat : Nat) : Int) = 0 := fun e => hz (UInt8.toNat_inj.1 (by have e0 : (0 : UInt8).toNat = 0 := rfl; omega))
        have HF := hide (unhide HB i hil hz)
        generalize ((l[i].toNat : Nat) : Int) = q at *
        clear HZ hz
        go_wp2_with fail
        go_ret
        exact ⟨ret_bool (unhide HF).symm, rfl⟩
    · obtain rfl : i = N := by omega
      have hge : ¬ (i : Int) < (i : Int) := by omega
      have HF := hide (unhide HGd fun j hj => unhide HZ j hj (by have := unhide HN; omega))
      clear HZ
      go_wp2_with fail
      go_ret
      exact ⟨ret_bool (unhide HF).symm, rfl⟩
end Go.Proofs.YtjmomdnlibfbkaaDoor
