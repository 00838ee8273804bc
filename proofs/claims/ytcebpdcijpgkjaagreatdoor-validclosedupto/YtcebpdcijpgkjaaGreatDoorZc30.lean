import Derived.Test.YtcebpdcijpgkjaaGreatDoorZc29
import Derived.Shelf.SlSortCmp.NoneTotal
import Derived.Deep.QuietTactic
import Derived.BigQuiet
import Derived.Laws.StructEq
import Derived.Test.YtcebpdcijpgkjaaGreatDoorZc27
import Derived.Test.YtcebpdcijpgkjaaGreatDoorZc26
namespace Go.Proofs.YtcebpdcijpgkjaaGreatDoor
open Go.RowKit Go.Maps Go.Sort Go.Shelf

theorem bl_eq {a b : Nm} : a.toList = b.toList ↔ a = b := by
  rw [← toList_eq]
  exact ⟨fun h => by rw [h]; exact beq_self_eq_true _, fun h => by simpa using h⟩
theorem cs_neg {a b : Nm} : cs a b < 0 ↔ a.toList < b.toList := by
  unfold cs
  rw [bytesLess_eq]
  by_cases h : a.toList < b.toList
  · rw [if_pos (decide_eq_true h)]; exact ⟨fun _ => h, fun _ => by decide⟩
  · rw [if_neg (by simpa using h)]
    split
    · exact ⟨fun q => absurd q (by decide), fun q => absurd q h⟩
    · exact ⟨fun q => absurd q (by decide), fun q => absurd q h⟩
theorem cs_zero {a b : Nm} : cs a b = 0 ↔ a.toList = b.toList := by
  unfold cs
  rw [bytesLess_eq]
  by_cases h : a.toList < b.toList
  · rw [if_pos (decide_eq_true h)]
    exact ⟨fun q => absurd q (by decide), fun q => absurd h (by rw [q]; exact List.lt_irrefl _)⟩
  · rw [if_neg (by simpa using h)]
    by_cases e : a.toList = b.toList
    · rw [if_pos (by rw [e]; exact beq_self_eq_true _)]; exact ⟨fun _ => e, fun _ => rfl⟩
    · rw [if_neg (by simpa using e)]; exact ⟨fun q => absurd q (by decide), fun q => absurd q e⟩
/-- ONE KEY AHEAD OF ANOTHER. -/
def lx (x y : Nm × Nm) : Prop := x.1.toList < y.1.toList ∨ (x.1.toList = y.1.toList ∧ x.2.toList < y.2.toList)
theorem ltK {x y : Nm × Nm} : ltOf cK x y = true ↔ lx x y := by
  unfold ltOf cK orI lx
  rw [decide_eq_true_eq]
  by_cases h : cs x.1 y.1 = 0
  · rw [if_pos h, cs_neg]
    have e := cs_zero.1 h
    refine ⟨fun q => .inr ⟨e, q⟩, fun q => ?_⟩
    rcases q with q | q
    · rw [e] at q; exact absurd q (List.lt_irrefl _)
    · exact q.2
  · rw [if_neg h, cs_neg]
    refine ⟨.inl, fun q => ?_⟩
    rcases q with q | q
    · exact q
    · exact absurd (cs_zero.2 q.1) h
theorem nlx {x y : Nm × Nm} : ¬ lx x y ↔ y.1.toList ≤ x.1.toList ∧ (x.1.toList = y.1.toList → y.2.toList ≤ x.2.toList) := by
  unfold lx
  constructor
  · intro h
    exact ⟨List.not_lt.1 fun q => h (.inl q), fun e => List.not_lt.1 fun q => h (.inr ⟨e, q⟩)⟩
  · rintro ⟨h1, h2⟩ (q | ⟨e, q⟩)
    · exact List.not_lt.2 h1 q
    · exact List.not_lt.2 (h2 e) q
theorem ltK_false {x y : Nm × Nm} : ltOf cK x y = false ↔ ¬ lx x y := by
  rw [← ltK]
  cases ltOf cK x y <;> simp
theorem swoK : SWO (ltOf cK) where
  irrefl x := ltK_false.2 (nlx.2 ⟨List.le_refl _, fun _ => List.le_refl _⟩)
  trans x y z h1 h2 := by
    rw [ltK] at *
    rcases h1 with h1 | ⟨e1, h1⟩
    · rcases h2 with h2 | ⟨e2, h2⟩
      · exact .inl (List.lt_trans h1 h2)
      · exact .inl (by rw [← e2]; exact h1)
    · rcases h2 with h2 | ⟨e2, h2⟩
      · exact .inl (by rw [e1]; exact h2)
      · exact .inr ⟨e1.trans e2, List.lt_trans h1 h2⟩
  ntrans x y z h1 h2 := by
    rw [ltK_false, nlx] at *
    refine ⟨List.le_trans h2.1 h1.1, fun e => ?_⟩
    have e1 : x.1.toList = y.1.toList := List.le_antisymm (by rw [e]; exact h2.1) h1.1
    exact List.le_trans (h2.2 (e1.symm.trans e)) (h1.2 e1)
/-- THE CELLS OF KEYS. -/
def encK (x : Nm × Nm) : List Value := [.string x.1, .string x.2]
def kyC (L : List (Nm × Nm)) : List Value := (L.map encK).flatten
theorem kyC_at {x : Nm × Nm} : ∀ (L : List (Nm × Nm)) (i : Nat), L[i]? = some x → (kyC L)[i * 2]? = some (.string x.1) ∧ (kyC L)[i * 2 + 1]? = some (.string x.2)
  | [], i, h => by simp at h
  | y :: L, 0, h => by simp at h; subst h; exact ⟨rfl, rfl⟩
  | y :: L, i + 1, h => by
    have ih := kyC_at L i (by simpa using h)
    rw [show kyC (y :: L) = encK y ++ kyC L from rfl, show (i + 1) * 2 = (encK y).length + i * 2 from by show (i + 1) * 2 = 2 + i * 2; omega]
    rw [List.getElem?_append_right (by omega), Nat.add_assoc, List.getElem?_append_right (by omega), Nat.add_sub_cancel_left, Nat.add_sub_cancel_left]
    exact ih
theorem row_kyl {lo : Nat} {w : World} {u : Value} {L : List (Nm × Nm)} (h : w.ownsRow lo 29 2 u L.length (kyC L)) : Kyl w u L := by
  rcases h.2 with ⟨q1, q2⟩ | ⟨g, cap, cur, q1, q2, q3, _⟩
  · have hl : L = [] := List.length_eq_zero_iff.1 q2
    subst hl
    exact ⟨none, 0, q1, fun i x hx => by simp at hx⟩
  · refine ⟨some ⟨g, 0, none⟩, cap, q1, fun i x hx => ⟨g, 0, rfl, blk_lt q3, ?_⟩⟩
    have hc := h.cells (g := g) (by rw [q1]; rfl)
    obtain ⟨a, b⟩ := kyC_at L i hx
    have ha := hc _ _ a
    have hb := hc _ _ b
    rw [Addr.add_mid] at ha hb
    exact ⟨ha, hb⟩
theorem flat_kyC (L : List (Nm × Nm)) (j : Nat) (h : j < L.length * 2) : (kyC L)[j]? = some (flatK encK 2 L.toArray)[j]! := by
  rw [get_flatK encK 2 L.toArray j (by simpa using h)]
  have hj : j / 2 < L.length := by omega
  obtain ⟨a, b⟩ := kyC_at L (j / 2) (List.getElem?_eq_getElem hj)
  have e : L.toArray[j / 2]! = L[j / 2] := by rw [getElem!_pos _ _ (by simpa using hj)]; simp
  rw [e]
  rcases Nat.mod_two_eq_zero_or_one j with h0 | h1
  · rw [h0, show (kyC L)[j]? = (kyC L)[j / 2 * 2]? from congrArg (fun t => (kyC L)[t]?) (by omega)]; exact a
  · rw [h1, show (kyC L)[j]? = (kyC L)[j / 2 * 2 + 1]? from congrArg (fun t => (kyC L)[t]?) (by omega)]; exact b
end Go.Proofs.YtcebpdcijpgkjaaGreatDoor

namespace Go.Proofs.YtcebpdcijpgkjaaGreatDoor
open Go.RowKit Go.Maps

theorem drewN_two (w : World) (a b : Nat) : (w.drewN a).drewN b = w.drewN (a + b) := by
  unfold World.drewN
  simp [Nat.add_assoc]
theorem guardK : Tryz.prog.eqGuardType Tryz.prog.depth 29 = false := by kernel_rfl
theorem eqK (x1 x2 y1 y2 : Nm) (w : World) : (Op.equalIn 10000 29 (.agg #[.string x1, .string x2]) (.agg #[.string y1, .string y2])).run Tryz.prog w = .ok (decide (x1 = y1) && decide (x2 = y2)) w := by
  have u9 := Tryz.underlying9
  have a9 := Tryz.isAgg9
  have z9 := Tryz.sizeOf9
  have hS : Tryz.prog.underlying 29 = some (.struct (Tryz.prog.fieldsOf 29)) := by kernel_rfl
  have hp : Tryz.prog.stoodInHeld 29 = false := by kernel_rfl
  rw [show (10000 : Nat) = 9999 + 1 from rfl, run_equalIn_agg w 9999 29 _ _ hS hp]
  simp only [Program.fieldsOf, Tryz.underlying29]
  go_simp
  by_cases h1 : x1 = y1 <;> by_cases h2 : x2 = y2 <;> simp [h1, h2, bl_eq]
set_option maxRecDepth 100000 in
set_option maxHeartbeats 2000000 in
/-- KEYS THAT DIFFER FROM THEIR NEIGHBOURS ARE LEFT. -/
theorem compactK_any {w : World} {u : Value} {L : List (Nm × Nm)} (hL : L.length ≤ 1048576) (h : Kyl w u L) (hd : ∀ i (hi : i + 1 < L.length), L[i + 1] ≠ L[i]) :
    Calls Tryz.prog 50 #[u] w fun e w' => e = .returned u ∧ RowKit.Below w.heap.size w w' := by
  obtain ⟨a, c, rfl⟩ : ∃ a c, u = .slice a L.length c := let ⟨a, c, e, _⟩ := h; ⟨a, c, e⟩
  have HP := hide (show ∀ i (hi : i < L.length), ∃ b o, a = some ⟨b, o, none⟩ ∧ w.cell? ⟨b, o + i * 2, none⟩ = some (.string L[i].1) ∧ w.cell? ⟨b, o + i * 2 + 1, none⟩ = some (.string L[i].2) from fun i hi => by
    obtain ⟨a2, c2, e, h2⟩ := h
    injection e with e
    obtain ⟨b, o, q1, _, q3, q4⟩ := h2 i L[i] (List.getElem?_eq_getElem hi)
    exact ⟨b, o, e.trans q1, q3, q4⟩)
  have HD := hide hd
  obtain ⟨N, hN⟩ : ∃ N, N = L.length := ⟨_, rfl⟩
  have HN := hide hN
  rw [← hN] at hL ⊢
  clear h hd hN
  go_enter Tryz.func50, Tryz.ntmps50
  by_cases h2 : N < 2
  · have h2i : (N : Int) < 2 := by omega
    go_wp2_with fail
    go_ret
    exact ⟨rfl, Below.refl _ _⟩
  · have h2i : ¬ (N : Int) < 2 := by omega
    go_wp2_with fail
    go_loopg [3] N (fun gq iv wr => ∃ i n : Nat, iv = .int .i64 i ∧ 1 ≤ i ∧ i ≤ N ∧ N - i ≤ gq ∧ wr = w.drewN n)
    case atStart => exact ⟨1, 0, by go_num, by omega, by omega, by omega, rfl⟩
    case round =>
      obtain ⟨i, n, rfl, hi1, hi, hg, rfl⟩ := hrel
      by_cases hlt : i < N
      · have hin : (i : Int) < (N : Int) := by omega
        have hil : i < L.length := by have := unhide HN; omega
        obtain ⟨k, hk⟩ : ∃ k, i = k + 1 := ⟨i - 1, by omega⟩
        have hkl : k < L.length := by omega
        obtain ⟨b, o, rfl, c0, c1⟩ := unhide HP i hil
        obtain ⟨b2, o2, e2, d0, d1⟩ := unhide HP k hkl
        cases e2
        have hne : L[i] ≠ L[k] := by subst hk; exact unhide HD k hil
        have hki : (k : Int) < (N : Int) := by omega
        have e1 : ((i : Int) - 1) = (k : Int) := by omega
        have hwk : IntKind.i64.wrap (k : Int) = (k : Int) := by rw [IntKind.wrap_i64]; omega
        generalize L[i] = x at *
        generalize L[k] = y at *
        obtain ⟨x1, x2⟩ := x
        obtain ⟨y1, y2⟩ := y
        simp only at c0 c1 d0 d1
        have heq : ∀ W, (Op.equalIn 10000 29 (.agg #[.string x1, .string x2]) (.agg #[.string y1, .string y2])).run Tryz.prog W = .ok false W := fun W => by
          rw [eqK]
          have : (decide (x1 = y1) && decide (x2 = y2)) = false := by
            by_cases h1 : x1 = y1
            · by_cases h3 : x2 = y2
              · exact absurd (by rw [h1, h3]) hne
              · rw [decide_eq_false h3, Bool.and_false]
            · rw [decide_eq_false h1, Bool.false_and]
          rw [this]
        have hgd := guardK
        clear hk hne
        go_wp2_with fail
        go_quiet (fail)
        clear heq hgd
        go_wp2_with fail
        go_roundg (N - (i + 1))
        case measure => omega
        case rel => exact ⟨i + 1, _, by go_num, by omega, by omega, by omega, by first | rfl | exact drewN_two w _ _⟩
      · obtain rfl : i = N := by omega
        go_wp2_with fail
        go_ret
        exact ⟨rfl, bl_drewN _ _⟩
end Go.Proofs.YtcebpdcijpgkjaaGreatDoor

namespace Go.Proofs.YtcebpdcijpgkjaaGreatDoor
open Go.RowKit Go.Maps

set_option maxHeartbeats 2000000 in
/-- THE REFERENCE'S KeyOf. -/
theorem rKeyOf_any (cs : List Value) (n v : ByteArray) (w : World) (h0 : cs[0]? = some (.string n)) (h1 : cs[1]? = some (.string v)) :
    Calls Tryz.prog 52 #[.agg cs.toArray] w fun e w' => e = .returned (.agg #[.string n, .string v]) ∧ Below w.heap.size w w' := by
  obtain ⟨W, hW, hc, hq, hB⟩ := one_new w cs 46
  have a0 := hc 0 _ h0
  have a1 := hc 1 _ h1
  have HB := hide hB
  clear hc hB h0 h1
  go_enter Tryz.func52, Tryz.ntmps52
  go_wp2_with fail
  have hb2 := (unhide HB).alloc (unhide HB).size (.cells #[.string n, .string v] 29)
  exact bodyPost_ret (v := .agg #[.string n, .string v]) (by simp [results, Tryz.results52, go_sem]) rfl ⟨rfl, hb2⟩
theorem eqlK (x1 x2 y1 y2 : Nm) (w : World) : (binOp .eql 29 (.agg #[.string x1, .string x2]) (.agg #[.string y1, .string y2])).run Tryz.prog w = .ok (.bool (decide (x1 = y1) && decide (x2 = y2))) w := by
  go_simp
  by_cases h1 : x1 = y1 <;> by_cases h2 : x2 = y2 <;> simp [h1, h2, bl_eq]
theorem neqK (x1 x2 y1 y2 : Nm) (w : World) : (binOp .neq 29 (.agg #[.string x1, .string x2]) (.agg #[.string y1, .string y2])).run Tryz.prog w = .ok (.bool (!(decide (x1 = y1) && decide (x2 = y2)))) w := by
  go_simp
  by_cases h1 : x1 = y1 <;> by_cases h2 : x2 = y2 <;> simp [h1, h2, bl_eq]
theorem Kyl.at {w : World} {a : Option Addr} {n c : Nat} {ks : List (Nm × Nm)} (h : Kyl w (.slice a n c) ks) {i : Nat} {x : Nm × Nm} (hx : ks[i]? = some x) : ∃ b o, a = some ⟨b, o, none⟩ ∧ b < w.heap.size ∧ w.cell? ⟨b, o + i * 2, none⟩ = some (.string x.1) ∧ w.cell? ⟨b, o + i * 2 + 1, none⟩ = some (.string x.2) := by
  obtain ⟨a', c', e, h2⟩ := h
  injection e with e1 _ _
  subst e1
  exact h2 i x hx

set_option maxRecDepth 100000 in
set_option maxHeartbeats 4000000 in
/-- THE REFERENCE'S Has. -/
theorem rHas_any {w : World} {u : Value} {ks : List (Nm × Nm)} (n v : Nm) (hl : ks.length ≤ 1048576) (h : Kyl w u ks) :
    Calls Tryz.prog 51 #[u, .agg #[.string n, .string v]] w fun e w' => e = .returned (.bool (mK ks n v)) ∧ RowKit.Below w.heap.size w w' := by
  obtain ⟨a, c, rfl⟩ : ∃ a c, u = .slice a ks.length c := let ⟨a, c, e, _⟩ := h; ⟨a, c, e⟩
  have H := hide h
  obtain ⟨N, hN⟩ : ∃ N, N = ks.length := ⟨_, rfl⟩
  have HN := hide hN
  rw [← hN] at hl H ⊢
  clear h hN
  have HA := hide ((Below.refl w.heap.size w).alloc (Nat.le_refl _) (.cells #[.string n, .string v] 29))
  obtain ⟨W1, hW1⟩ : ∃ W, W = w.alloc (.cells #[.string n, .string v] 29) := ⟨_, rfl⟩
  have HZ := hide (show W1.cell? ⟨w.heap.size, 0, none⟩ = some (.string n) ∧ W1.cell? ⟨w.heap.size, 1, none⟩ = some (.string v) ∧ w.heap.size < W1.heap.size from by
    rw [hW1]
    exact ⟨by rw [World.cell?_alloc_at _ _ _ _ rfl]; rfl, by rw [World.cell?_alloc_at _ _ _ _ rfl]; rfl, by simp⟩)
  rw [← hW1] at HA
  go_enter Tryz.func51, Tryz.ntmps51
  go_wp2_with fail
  rw [← hW1]
  clear hW1
  go_loopg [5] N (fun gq iv wr => ∃ i : Nat, iv = .int .i64 i ∧ i ≤ N ∧ N - i ≤ gq ∧ Hid (RowKit.Below W1.heap.size W1 wr) ∧ Hid ((n, v) ∉ ks.take i))
  case atStart => exact ⟨0, by go_num, by omega, by omega, hide (Below.refl _ _), hide (by simp)⟩
  case round =>
    obtain ⟨i, rfl, hi, hg, HB, HX⟩ := hrel
    by_cases hlt : i < N
    · have hin : (i : Int) < (N : Int) := by omega
      have hik : i < ks.length := by have := unhide HN; omega
      obtain ⟨b, o, rfl, hb, p0, p1⟩ := ((unhide H).later (bl_t (unhide HA) (unhide HB))).at (List.getElem?_eq_getElem hik)
      have z0 := ((unhide HB).cell (p := ⟨w.heap.size, 0, none⟩) (unhide HZ).2.2).trans (unhide HZ).1
      have z1 := ((unhide HB).cell (p := ⟨w.heap.size, 1, none⟩) (unhide HZ).2.2).trans (unhide HZ).2.1
      have HM := hide (List.getElem_mem hik)
      have HT := hide (List.take_succ_eq_append_getElem hik)
      generalize ks[i] = x at *
      obtain ⟨x1, x2⟩ := x
      simp only at p0 p1
      have ce := eqlK x1 x2 n v
      have HBd := hide (fun k => bl_t (unhide HB) (bl_drewN wr k))
      by_cases hx : x1 = n ∧ x2 = v
      · obtain ⟨rfl, rfl⟩ := hx
        have HF : Hid (mK ks x1 x2 = true) := hide (mK_iff.2 (unhide HM))
        rw [show (decide (x1 = x1) && decide (x2 = x2)) = true by simp] at ce
        clear HM HT HX
        go_wp2_with fail
        go_quiet (fail)
        go_wp2
        go_ret
        rw [unhide HF]
        exact ⟨rfl, bl_t (unhide HA) (unhide HBd _)⟩
      · have hf : (decide (x1 = n) && decide (x2 = v)) = false := by
          rw [Bool.and_eq_false_iff, decide_eq_false_iff_not, decide_eq_false_iff_not]
          by_cases q : x1 = n
          · exact .inr fun r => hx ⟨q, r⟩
          · exact .inl q
        rw [hf] at ce
        have HX' : Hid ((n, v) ∉ ks.take (i + 1)) := hide (by
          rw [unhide HT, List.mem_append, List.mem_singleton]
          rintro (q | q)
          · exact unhide HX q
          · injection q with q1 q2
            exact hx ⟨q1.symm, q2.symm⟩)
        clear HM HT HX hx hf
        go_wp2_with fail
        go_quiet (fail)
        go_wp2
        go_roundg (N - (i + 1))
        case measure => omega
        case rel => exact ⟨i + 1, by go_num, by omega, by omega, hide (unhide HBd _), HX'⟩
    · have HF : Hid (mK ks n v = false) := hide (by
        have hn := unhide HX
        rw [List.take_of_length_le (by have := unhide HN; omega)] at hn
        exact Bool.eq_false_iff.2 fun q => hn (mK_iff.1 q))
      clear HX
      go_wp2_with fail
      go_ret
      rw [unhide HF]
      exact ⟨rfl, bl_t (unhide HA) (unhide HB)⟩

end Go.Proofs.YtcebpdcijpgkjaaGreatDoor

namespace Go.Proofs.YtcebpdcijpgkjaaGreatDoor
open Go.RowKit Go.Maps

theorem lx_of {x y : Nm × Nm} (h : ¬ lx y x) (hne : x ≠ y) : lx x y := by
  rw [nlx] at h
  unfold lx
  by_cases e : x.1.toList = y.1.toList
  · refine .inr ⟨e, List.not_le.1 fun q => hne ?_⟩
    have e2 := List.le_antisymm (h.2 e.symm) q
    exact Prod.ext (bl_eq.1 e) (bl_eq.1 e2)
  · refine .inl (List.not_le.1 fun q => e (List.le_antisymm h.1 q))
theorem infoKY : (Tryz.prog.info? 29).map (fun i => (i.zero, i.size, i.bytes)) = some (some (.agg #[.string ⟨#[]⟩, .string ⟨#[]⟩]), 2, 32) := by kernel_rfl
/-- KEYS WHILE THEY ARE GATHERED. -/
structure Kw (W wr : World) (s : Value) (l : List (Nm × Nm)) : Prop where
  row : wr.ownsRow W.heap.size 29 2 s l.length (kyC l)
  bw : RowKit.Below W.heap.size W wr
theorem Kw.start (W : World) : Kw W W (.slice none 0 0) [] := ⟨⟨rfl, .inl ⟨rfl, rfl⟩⟩, Below.refl _ _⟩
theorem Kw.later {W wr w2 : World} {s : Value} {l : List (Nm × Nm)} (h : Kw W wr s l) (hb : RowKit.Below wr.heap.size wr w2) : Kw W w2 s l := ⟨own_same h.row fun b e => hb.block b (World.ownsRow.lt h.row b e).2, bl_t h.bw hb⟩
theorem kyC_snoc (l : List (Nm × Nm)) (x : Nm × Nm) : kyC (l ++ [x]) = kyC l ++ [.string x.1, .string x.2] := by
  unfold kyC
  rw [List.map_append, List.flatten_append]
  rfl
theorem Kw.grow {W wr w9 : World} {s v' : Value} {l : List (Nm × Nm)} {x : Nm × Nm} {o : Obj} (h : Kw W wr s l) (hown : w9.ownsRow W.heap.size 29 2 v' (l.length + 1) (kyC l ++ [.string x.1, .string x.2])) (hg : (wr.alloc o).grownBy w9 s.ownBlock) : Kw W w9 v' (l ++ [x]) := by
  refine ⟨?_, (h.bw.alloc h.bw.size o).grown hg ?_ fun j e => (World.ownsRow.lt h.row j e).1⟩
  · rw [List.length_append, kyC_snoc]
    exact hown
  · have := h.bw.size
    rw [World.size_alloc]
    omega
end Go.Proofs.YtcebpdcijpgkjaaGreatDoor

namespace Go.Proofs.YtcebpdcijpgkjaaGreatDoor
open Go.RowKit Go.Maps Go.Sort Go.Shelf

/-- Is a text behind another one? -/
def gtB (x k : Nm) : Bool := !Op.bytesLess x.toList k.toList && !(x.toList == k.toList)
theorem gtB_iff {x k : Nm} : gtB x k = true ↔ k.toList < x.toList := by
  unfold gtB
  rw [bytesLess_eq, Bool.and_eq_true, Bool.not_eq_true', Bool.not_eq_true', decide_eq_false_iff_not, beq_eq_false_iff_ne]
  constructor
  · rintro ⟨h1, h2⟩
    by_cases h : k.toList < x.toList
    · exact h
    · exact absurd (List.le_antisymm (List.not_lt.1 h) (List.not_lt.1 h1)) h2
  · intro h
    exact ⟨fun q => List.lt_irrefl _ (List.lt_trans h q), fun e => by rw [e] at h; exact List.lt_irrefl _ h⟩
/-- Does a key come ahead of another one? -/
def lxB (k x : Nm × Nm) : Bool := gtB x.1 k.1 || (x.1.toList == k.1.toList && gtB x.2 k.2)
theorem lxB_iff {x y : Nm × Nm} : lxB x y = true ↔ lx x y := by
  unfold lxB lx
  rw [Bool.or_eq_true, Bool.and_eq_true, gtB_iff, gtB_iff, beq_iff_eq]
  exact ⟨fun h => h.imp id fun q => ⟨q.1.symm, q.2⟩, fun h => h.imp id fun q => ⟨q.1.symm, q.2⟩⟩
/-- A KEY LAID AMONG OTHERS. -/
def insK (k : Nm × Nm) : List (Nm × Nm) → List (Nm × Nm)
  | [] => [k]
  | x :: r => if (decide (x.1 = k.1) && decide (x.2 = k.2)) = true then x :: r else if lxB k x = true then k :: x :: r else x :: insK k r
theorem insK_cons (k x : Nm × Nm) (r : List (Nm × Nm)) : insK k (x :: r) = if (decide (x.1 = k.1) && decide (x.2 = k.2)) = true then x :: r else if lxB k x = true then k :: x :: r else x :: insK k r := rfl
theorem eqB_iff {x k : Nm × Nm} : (decide (x.1 = k.1) && decide (x.2 = k.2)) = true ↔ x = k := by
  rw [Bool.and_eq_true, decide_eq_true_eq, decide_eq_true_eq]
  exact ⟨fun h => Prod.ext h.1 h.2, fun h => by rw [h]; exact ⟨rfl, rfl⟩⟩
theorem insK_len (k : Nm × Nm) : ∀ l : List (Nm × Nm), (insK k l).length ≤ l.length + 1
  | [] => Nat.le_refl _
  | x :: r => by
    unfold insK
    split
    · simp
    · split
      · simp
      · have := insK_len k r; simp; omega
theorem insK_mem (k y : Nm × Nm) : ∀ l : List (Nm × Nm), y ∈ insK k l ↔ y = k ∨ y ∈ l
  | [] => by simp [insK]
  | x :: r => by
    unfold insK
    split
    · rename_i h
      have := eqB_iff.1 h
      subst this
      rw [List.mem_cons]
      exact ⟨fun q => .inr q, fun q => q.elim .inl id⟩
    · split
      · rw [List.mem_cons]
      · rw [List.mem_cons, insK_mem k y r, List.mem_cons]
        exact ⟨fun q => q.elim (fun q => .inr (.inl q)) (fun q => q.elim .inl (fun q => .inr (.inr q))), fun q => q.elim (fun q => .inr (.inl q)) (fun q => q.elim .inl (fun q => .inr (.inr q)))⟩
theorem lx_trans {x y z : Nm × Nm} (p : lx x y) (q : lx y z) : lx x z := ltK.1 (swoK.trans x y z (ltK.2 p) (ltK.2 q))
theorem lx_tri (x y : Nm × Nm) (h1 : x ≠ y) (h2 : ¬ lx x y) : lx y x := by
  by_cases h : lx y x
  · exact h
  · exfalso
    obtain ⟨a1, a2⟩ := nlx.1 h2
    obtain ⟨b1, b2⟩ := nlx.1 h
    have e1 : x.1.toList = y.1.toList := List.le_antisymm b1 a1
    have e2 : x.2.toList = y.2.toList := List.le_antisymm (b2 e1.symm) (a2 e1)
    exact h1 (Prod.ext (bl_eq.1 e1) (bl_eq.1 e2))
theorem insK_rise (k : Nm × Nm) : ∀ l : List (Nm × Nm), l.Pairwise lx → (insK k l).Pairwise lx
  | [], _ => by simp [insK]
  | x :: r, h => by
    obtain ⟨h1, h2⟩ := List.pairwise_cons.1 h
    unfold insK
    split
    · exact h
    · rename_i hne
      split
      · rename_i hl
        have hkx := lxB_iff.1 hl
        refine List.pairwise_cons.2 ⟨fun y hy => ?_, h⟩
        rcases List.mem_cons.1 hy with rfl | hy
        · exact hkx
        · exact lx_trans hkx (h1 y hy)
      · rename_i hl
        refine List.pairwise_cons.2 ⟨fun y hy => ?_, insK_rise k r h2⟩
        rcases (insK_mem k y r).1 hy with rfl | hy
        · exact lx_tri _ _ (fun e => hne (eqB_iff.2 e.symm)) (fun e => hl (lxB_iff.2 e))
        · exact h1 y hy
/-- THE LIST WHILE IT IS MADE. -/
def InK (k : Nm × Nm) (l : List (Nm × Nm)) (i : Nat) (laid : Bool) (m : List (Nm × Nm)) : Prop := m ++ (if laid = true then l.drop i else insK k (l.drop i)) = insK k l
theorem InK.len {k : Nm × Nm} {l m : List (Nm × Nm)} {i : Nat} {b : Bool} (h : InK k l i b m) : m.length ≤ l.length + 1 := by
  have h1 := congrArg List.length h
  rw [List.length_append] at h1
  have := insK_len k l
  omega

theorem InK.start (k : Nm × Nm) (l : List (Nm × Nm)) : InK k l 0 false [] := rfl
theorem InK.skip {k x : Nm × Nm} {l m : List (Nm × Nm)} {i : Nat} (h : InK k l i true m) (hx : l[i]? = some x) : InK k l (i + 1) true (m ++ [x]) := by
  unfold InK at *
  rw [if_pos rfl] at *
  have hil := (List.getElem?_eq_some_iff.1 hx).1
  rw [List.drop_eq_getElem_cons hil, (List.getElem?_eq_some_iff.1 hx).2] at h
  simpa using h
theorem InK.same {k : Nm × Nm} {l m : List (Nm × Nm)} {i : Nat} (h : InK k l i false m) (hx : l[i]? = some k) : InK k l (i + 1) true (m ++ [k]) := by
  unfold InK at *
  rw [if_pos rfl]
  rw [if_neg (by simp)] at h
  have hil := (List.getElem?_eq_some_iff.1 hx).1
  rw [List.drop_eq_getElem_cons hil, (List.getElem?_eq_some_iff.1 hx).2] at h
  rw [insK_cons] at h
  rw [if_pos (eqB_iff.2 rfl)] at h
  rw [← h]
  simp
theorem InK.lay {k x : Nm × Nm} {l m : List (Nm × Nm)} {i : Nat} (h : InK k l i false m) (hx : l[i]? = some x) (hl : lxB k x = true) : x ≠ k ∧ InK k l (i + 1) true (m ++ [k] ++ [x]) := by
  have hne : x ≠ k := fun e => by
    rw [e] at hl
    exact nlx.2 ⟨List.le_refl _, fun _ => List.le_refl _⟩ (lxB_iff.1 hl)
  refine ⟨hne, ?_⟩
  unfold InK at *
  rw [if_pos rfl]
  rw [if_neg (by simp)] at h
  have hil := (List.getElem?_eq_some_iff.1 hx).1
  rw [List.drop_eq_getElem_cons hil, (List.getElem?_eq_some_iff.1 hx).2] at h
  rw [insK_cons] at h
  rw [if_neg (fun e => hne (eqB_iff.1 e)), if_pos hl] at h
  rw [← h]
  simp
theorem InK.pass {k x : Nm × Nm} {l m : List (Nm × Nm)} {i : Nat} (h : InK k l i false m) (hx : l[i]? = some x) (hl : lxB k x = false) (hne : x ≠ k) : InK k l (i + 1) false (m ++ [x]) := by
  unfold InK at *
  rw [if_neg (by simp)] at *
  have hil := (List.getElem?_eq_some_iff.1 hx).1
  rw [List.drop_eq_getElem_cons hil, (List.getElem?_eq_some_iff.1 hx).2] at h
  rw [insK_cons] at h
  rw [if_neg (fun e => hne (eqB_iff.1 e)), if_neg (by rw [hl]; simp)] at h
  rw [← h]
  simp
theorem InK.fin {k : Nm × Nm} {l m : List (Nm × Nm)} {i : Nat} {b : Bool} (h : InK k l i b m) (hi : l.length ≤ i) : (if b = true then m else m ++ [k]) = insK k l := by
  unfold InK at h
  rw [List.drop_eq_nil_of_le hi] at h
  cases b
  · simpa [insK] using h
  · simpa using h

end Go.Proofs.YtcebpdcijpgkjaaGreatDoor

