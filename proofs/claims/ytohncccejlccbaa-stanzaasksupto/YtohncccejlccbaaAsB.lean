import Derived.Test.YtohncccejlccbaaProg
import Derived.Lib.SlTrimSet
import Derived.Lib.IndexMore
import Derived.Lib.Strings
import Derived.Below
import Derived.WalkKit
import Derived.Deep.RegionHeld3
import Derived.Sort.BigQuietIn
import Derived.Handy
import Derived.Maps.AppendAt
import Derived.Maps.OwnIn
import Derived.RangeFuncBox
import Derived.Deep.MidRow
import Derived.Deep.RegionLaw
import Derived.StringKeys
import Derived.WalkSpells
import Derived.Laws.IdiomStrings
import Derived.Laws.BytesArg
import Derived.Lib.SlBytesConst
import Derived.Deep.Onto
namespace Go.Proofs.Ytohncccejlccbaa
open Go.RowKit

theorem hide {p : Prop} (h : p) : Hid p := h
theorem unhide {p : Prop} (h : Hid p) : p := h
abbrev Bs := List UInt8
def ba (l : Bs) : ByteArray := ⟨l.toArray⟩
def strs (l : List Bs) : List Value := l.map fun s => Value.string (ba s)
theorem bl_t {w w1 w2 : World} (h : Below w.heap.size w w1) (h2 : Below w1.heap.size w1 w2) : Below w.heap.size w w2 := h.trans (h2.mono h.size)
theorem bl_drewN (w : World) (n : Nat) : Below w.heap.size w (w.drewN n) := (Below.refl _ w).trans ⟨rfl, rfl, rfl, Nat.le_refl _, fun _ _ => rfl⟩
theorem cell_blk {W : World} {g : Nat} {cur : Array Value} {t : TypeId} (h : W.heap[g]? = some (.cells cur t (0, 0))) (j : Nat) : W.cell? ⟨g, j, none⟩ = cur[j]? ∧ W.frozen? ⟨g, j, none⟩ = false := by
  constructor
  · simp [World.cell?, h]
  · simp [World.frozen?, h]
theorem set_blk {W : World} {g : Nat} {cur : Array Value} {t : TypeId} (h : W.heap[g]? = some (.cells cur t (0, 0))) (j : Nat) (u : Value) : (W.setCell ⟨g, j, none⟩ u).heap[g]? = some (.cells (cur.setIfInBounds j u) t (0, 0)) := by
  obtain ⟨hlt, hk⟩ := Array.getElem?_eq_some_iff.1 h
  show (W.heap.modify g _)[g]? = _
  rw [Array.getElem?_eq_getElem (by rw [Array.size_modify]; exact hlt), Array.getElem_modify_self, hk]
  rfl
theorem set_other (W : World) (g j : Nat) (u : Value) (k : Nat) (hk : k ≠ g) : (W.setCell ⟨g, j, none⟩ u).heap[k]? = W.heap[k]? := Below.heap_setCell W ⟨g, j, none⟩ u k hk
theorem set_size (W : World) (g j : Nat) (u : Value) : (W.setCell ⟨g, j, none⟩ u).heap.size = W.heap.size := by
  show (W.heap.modify g _).size = _
  rw [Array.size_modify]
theorem take_get {cur : Array Value} {n : Nat} {xs : List Value} (h : cur.toList.take n = xs) {j : Nat} {u : Value} (hj : xs[j]? = some u) : cur[j]? = some u := by
  have hlt : j < n := by
    have := (List.getElem?_eq_some_iff.1 hj).1
    rw [← h, List.length_take] at this
    omega
  rw [← h, List.getElem?_take_of_lt hlt, Array.getElem?_toList] at hj
  exact hj
theorem take_get' {cur : Array Value} {n : Nat} {xs : List Value} (h : cur.toList.take n = xs) {j : Nat} {u : Value} (hj : xs[j]? = some u) : cur[j]? = some u := by
  have hlt : j < n := by
    have := (List.getElem?_eq_some_iff.1 hj).1
    rw [← h, List.length_take] at this
    omega
  rw [← h, List.getElem?_take_of_lt hlt, Array.getElem?_toList] at hj
  exact hj
/-- A ROW OF ITS OWN, WHERE ITS BLOCK HAS NOT TURNED. -/
theorem ownsRow_same {W W' : World} {base : Nat} {e : TypeId} {size : Nat} {v : Value} {n : Nat} {xs : List Value} (h : W.ownsRow base e size v n xs)
    (hs : ∀ g c, v.ownBlock = some g → W.heap[g]? = some (.cells c e (0, 0)) → W'.heap[g]? = W.heap[g]?) : W'.ownsRow base e size v n xs := by
  obtain ⟨h1, h2⟩ := h
  refine ⟨h1, ?_⟩
  rcases h2 with h2 | ⟨g, cap, cur, rfl, hb, hg, r1, r2, r3, r4⟩
  · exact .inl h2
  · exact .inr ⟨g, cap, cur, rfl, hb, by rw [hs g cur rfl hg]; exact hg, r1, r2, r3, r4⟩
theorem ownsRow_blk {W : World} {base : Nat} {e : TypeId} {size : Nat} {v : Value} {n : Nat} {xs : List Value} (h : W.ownsRow base e size v n xs) {g : Nat} (hv : v.ownBlock = some g) : ∃ c, W.heap[g]? = some (.cells c e (0, 0)) ∧ base ≤ g ∧ g < W.heap.size := by
  rcases h.2 with ⟨rfl, _⟩ | ⟨g', cap, cur, rfl, hb, hg, _⟩
  · simp [Value.ownBlock] at hv
  · obtain rfl : g' = g := by simpa [Value.ownBlock] using hv
    exact ⟨cur, hg, hb, (Array.getElem?_eq_some_iff.1 hg).1⟩
theorem ownsRow_bl {W W' : World} {base : Nat} {e : TypeId} {size : Nat} {v : Value} {n : Nat} {xs : List Value} (h : W.ownsRow base e size v n xs) (hb : Below W.heap.size W W') : W'.ownsRow base e size v n xs :=
  ownsRow_same h fun g _ _ hg => hb.block g (Array.getElem?_eq_some_iff.1 hg).1
theorem cells3_new (w : World) (a b c : Value) (t : TypeId) : ∀ j u, [a, b, c][j]? = some u → (w.alloc (.cells #[a, b, c] t)).cell? ((⟨w.heap.size, 0, none⟩ : Addr).add j) = some u := by
  intro j u hj
  have hb : (w.alloc (.cells #[a, b, c] t)).heap[w.heap.size]? = some (.cells #[a, b, c] t (0, 0)) := World.alloc_heap_new w _
  have e : (⟨w.heap.size, 0, none⟩ : Addr).add j = ⟨w.heap.size, j, none⟩ := by unfold Addr.add; split <;> simp_all
  rw [e, (cell_blk hb j).1, ← hj]
  simp
/-- A ROW AS IT LIES. -/
def Cl (W : World) (pa : Option Addr) (cs : List Value) : Prop := 0 < cs.length → ∃ b o, pa = some ⟨b, o, none⟩ ∧ ∀ i u, cs[i]? = some u → W.cell? ⟨b, o + i, none⟩ = some u
theorem Cl.later {W W2 : World} {pa : Option Addr} {cs : List Value} (h : Cl W pa cs) (hb : Below W.heap.size W W2) : Cl W2 pa cs := fun h0 => by
  obtain ⟨b, o, h1, h2⟩ := h h0
  refine ⟨b, o, h1, fun i u hi => ?_⟩
  have hc := h2 i u hi
  have hlt : b < W.heap.size := by
    by_cases hl : b < W.heap.size
    · exact hl
    · rw [World.cell?] at hc
      simp [Array.getElem?_eq_none (Nat.le_of_not_lt hl)] at hc
  exact (hb.cell (p := ⟨b, o + i, none⟩) hlt).trans hc
theorem Cl.of_owns {W : World} {base : Nat} {e : TypeId} {pa : Option Addr} {n m c : Nat} {cs : List Value} (h : W.ownsRow base e 1 (.slice pa n c) m cs) : Cl W pa cs := by
  rcases h.2 with ⟨h1, h2⟩ | ⟨g, cap, cur, h1, _, hg, _, _, _, h6⟩
  · intro h0
    have := h.1
    subst h2
    simp at this
    subst this
    simp at h0
  · cases h1
    intro _
    refine ⟨g, 0, rfl, fun i u hi => ?_⟩
    rw [Nat.zero_add]
    exact (cell_blk hg i).1.trans (take_get h6 hi)
theorem cell_later {W W2 : World} {p : Addr} {v : Value} (h : W.cell? p = some v) (hb : Below W.heap.size W W2) : W2.cell? p = some v := by
  have hlt : p.block < W.heap.size := by
    by_cases hl : p.block < W.heap.size
    · exact hl
    · rw [World.cell?] at h
      simp [Array.getElem?_eq_none (Nat.le_of_not_lt hl)] at h
  exact (hb.cell hlt).trans h
theorem own_cap {W : World} {base : Nat} {e : TypeId} {v : Value} {n : Nat} {cs : List Value} (h : W.ownsRow base e 1 v n cs) : ∃ pa c, v = .slice pa n c ∧ n ≤ c ∧ Cl W pa cs := by
  have h' := h
  rcases h.2 with ⟨h1, h2⟩ | ⟨g, cap, cur, h1, _, hg, hc, _⟩
  · subst h1 h2
    exact ⟨none, 0, rfl, Nat.le_refl _, Cl.of_owns h'⟩
  · subst h1
    exact ⟨some ⟨g, 0, none⟩, cap, rfl, hc, Cl.of_owns h'⟩
theorem info3 : (Try.prog.info? 3).map (fun i => (i.zero, i.size, i.bytes)) = some (some (.int .i64 0), 1, 8) := by kernel_rfl
theorem info9 : (Try.prog.info? 9).map (fun i => (i.zero, i.size, i.bytes)) = some (some (.string ⟨#[]⟩), 1, 16) := by kernel_rfl
theorem info39 : (Try.prog.info? 22).map (fun i => (i.zero, i.size, i.bytes)) = some (some (.slice none 0 0), 1, 24) := by kernel_rfl
theorem info49 : (Try.prog.info? 30).map (fun i => (i.zero, i.size, i.bytes)) = some (some (.agg #[.string ⟨#[]⟩, .slice none 0 0, .slice none 0 0]), 3, 64) := by kernel_rfl
/-- append ONTO A ROW OF ITS OWN, AS ONE STEP OF A REGION THAT DRAWS. -/
theorem step_append_own {P : Program} {ops : Array Oper} {o : Oper} {a : Act} {w : World} {K : Act → World → Prop} {Q : Exit → Act → World → Prop} {E : Prop}
    (hg : o.guard = none) (s x : Operand) (t : TypeId) (hop : o.op = Op.call { callee := Callee.builtin Builtin.append, args := #[s, x], argTypes := #[t, t] })
    (base : Nat) (e : TypeId) (i : TypeInfo) (z : Value) (size bytes : Nat) (ht : P.underlying t = some (.slice e)) (hi : P.info? e = some i) (hz : i.zero = some z)
    (hsize : i.size = size) (hby : i.bytes = bytes) (hzs : z.cells.size = size) (hsz : 0 < size)
    (v : Value) (n : Nat) (xs : List Value) (hs : a.eval s = v) (hown : w.ownsRow base e size v n xs)
    (ad : Addr) (m c : Nat) (news : List Value) (hx : a.eval x = .slice (some ad) m c) (hl : news.length = m * size) (hnews : ∀ j u, news[j]? = some u → w.cell? (ad.add j) = some u) (h1 : ∀ u ∈ news, u.oneCell' = true)
    (h63 : n + m ≤ maxLen) (hbytes : (n + m) * bytes ≤ 140737488355328) (hbase : base ≤ w.heap.size)
    (hK : ∀ v' w', w'.ownsRow base e size v' (n + m) (xs ++ news) → w.grownBy w' v.ownBlock → (v'.ownBlock = v.ownBlock ∨ v'.ownBlock = some w.heap.size) → K (a.put o.dst v') w') :
    if Region.wanted o (yielded ops a.tmps) = true then Oper.wp P o a w K Q else E := by
  have hw : Region.wanted o (yielded ops a.tmps) = true := by simp [Region.wanted, hg]
  rw [if_pos hw]
  obtain ⟨v', w', hr, h2, h3, _, h5⟩ := run_append_own_at (P := P) w base t o.type e i z size bytes ht hi hz hsize hby hzs hsz v n xs hown ad m c news hl hnews h1 h63 hbytes hbase
  unfold Oper.wp
  simp [execOp, hop, resolve, invoke, builtin, hs, hx, hr, Result.andThen]
  exact hK v' w' h2 h3 h5
/-- 'append(nil, xs...)' IN A REGION THAT DRAWS: WHATEVER xs IS. -/
theorem step_app {P : Program} {ops : Array Oper} {o : Oper} {a : Act} {w : World} {K : Act → World → Prop} {Q : Exit → Act → World → Prop} {E : Prop}
    (hg : o.guard = none) (s x : Operand) (t : TypeId) (hop : o.op = Op.call { callee := Callee.builtin Builtin.append, args := #[s, x], argTypes := #[t, t] })
    (base : Nat) (e : TypeId) (i : TypeInfo) (z : Value) (bytes : Nat) (ht : P.underlying t = some (.slice e)) (hi : P.info? e = some i) (hz : i.zero = some z)
    (hsize : i.size = 1) (hby : i.bytes = bytes) (hzs : z.cells.size = 1) (hs : a.eval s = .slice none 0 0)
    (pa : Option Addr) (m c : Nat) (news : List Value) (hx : a.eval x = .slice pa m c) (hl : news.length = m) (hC : Cl w pa news) (h1 : ∀ u ∈ news, u.oneCell' = true)
    (h63 : m ≤ maxLen) (hbytes : m * bytes ≤ 140737488355328) (hbase : base ≤ w.heap.size)
    (hK : ∀ v' w', w'.ownsRow base e 1 v' m news → w.grownBy w' none → (v'.ownBlock = none ∨ v'.ownBlock = some w.heap.size) → K (a.put o.dst v') w') :
    if Region.wanted o (yielded ops a.tmps) = true then Oper.wp P o a w K Q else E := by
  have hown : w.ownsRow base e 1 (.slice none 0 0) 0 [] := World.ownsRow_nil _ _ _ _
  cases pa with
  | none =>
    have hm : m = 0 := by
      rcases Nat.eq_zero_or_pos m with h | h
      · exact h
      · obtain ⟨b, q, h2, _⟩ := hC (by omega)
        cases h2
    subst hm
    obtain rfl : news = [] := List.length_eq_zero_iff.1 hl
    have hw : Region.wanted o (yielded ops a.tmps) = true := by simp [Region.wanted, hg]
    rw [if_pos hw]
    have hr : (Builtin.append_ #[t, t] o.type #[.slice none 0 0, .slice none 0 c]).run P w = .ok (.slice none 0 0) w := by
      simp [Builtin.append_, run_underlying ht, sizeOf, typeInfo, hi, Builtin.lenOf, Builtin.firstCells]
    unfold Oper.wp
    simp [execOp, hop, resolve, invoke, builtin, hs, hx, hr, Result.andThen]
    exact hK _ _ hown ⟨rfl, rfl, rfl, Nat.le_refl _, fun _ _ _ => rfl⟩ (Or.inl rfl)
  | some ad =>
    refine step_append_own hg s x t hop base e i z 1 bytes ht hi hz hsize hby hzs (by decide) (.slice none 0 0) 0 [] hs hown ad m c news hx (by omega) ?_ h1 (by omega) (by rw [Nat.zero_add]; exact hbytes) hbase (fun v' w' h2 h3 h4 => hK v' w' (by simpa using h2) h3 h4)
    intro j u hj
    have h0 : 0 < news.length := by have := (List.getElem?_eq_some_iff.1 hj).1; omega
    obtain ⟨b, q, h2, h3⟩ := hC h0
    cases h2
    rw [show (⟨b, q, none⟩ : Addr).add j = ⟨b, q + j, none⟩ by unfold Addr.add; split <;> simp_all]
    exact h3 j u hj
set_option maxRecDepth 100000 in
set_option maxHeartbeats 2000000 in
theorem texts_same (l : List Bs) (pa qa : Option Addr) (pc qc : Nat) (w : World) (hl : l.length ≤ 16777216) (h1 : Cl w pa (strs l)) (h2 : Cl w qa (strs l)) :
    Calls Try.prog 13 #[.slice pa l.length pc, .slice qa l.length qc] w fun e w' => e = .returned (.bool true) ∧ Below w.heap.size w w' := by
  have H1 := hide h1
  have H2 := hide h2
  clear h1 h2
  go_enter Try.func13, Try.ntmps13
  go_wp2
  go_loopw [5] (fun iv wr => ∃ k : Nat, k ≤ l.length ∧ iv = .int .i64 k ∧ Hid (Below w.heap.size w wr)) (fun iv _ => l.length - (intOf iv).toNat)
  case atStart => exact ⟨0, Nat.zero_le _, rfl, hide (Below.refl _ _)⟩
  case round =>
    obtain ⟨k, hk, rfl, HB⟩ := hrel
    by_cases hlt : k < l.length
    · have hs : (strs l)[k]? = some (.string (ba l[k])) := by simp [strs, hlt]
      have h0 : 0 < (strs l).length := by simp [strs]; omega
      obtain ⟨b, o, rfl, hc1⟩ := (unhide H1).later (unhide HB) h0
      obtain ⟨b2, o2, rfl, hc2⟩ := (unhide H2).later (unhide HB) h0
      have d1 := hc1 k _ hs
      have d2 := hc2 k _ hs
      generalize ba l[k] = tk at *
      clear hc1 hc2 hs h0
      go_wp2
      go_region
      go_wp2
      go_roundw
      case rel => exact ⟨k + 1, by omega, by go_num, hide ((unhide HB).drew)⟩
      case measure => simp [intOf]; omega
    · go_wp2
      go_ret
      exact ⟨rfl, unhide HB⟩

end Go.Proofs.Ytohncccejlccbaa
