import Derived.Test.YtkpkpebljkcmkaaDoorGnB
import Derived.Great.BuildSlice
namespace Go.Proofs.YtkpkpebljkcmkaaDoor
open Go.RowKit

section
variable {ops : Array Oper} {rest : List Oper} {o : Oper} {a : Act} {w : World} {Q : Exit → Act → World → Prop}
/-- A SLICE OF SOME ROWS. -/
theorem g_sl {t e k : Nat} (hu : Tryd.prog.underlying t = some (.slice e)) (z0 : ∃ zc : List Value, (Tryd.prog.info? e).map (fun i => (i.zero, i.size)) = some (some (.agg zc.toArray), k) ∧ zc.length = k ∧ zc.all (·.oneCell') = true) (k0 : 0 < k) (k1 : k ≤ 1000) (L : List (List Value)) (hL : ∀ l ∈ L, l.length = k) (h0 : 0 < L.length) (h1 : L.length ≤ 1000) (parts : Array (Nat × Operand)) (ho : o.op = .buildSlice t L.length parts) (hw : Region.wanted o (yielded ops a.tmps) = true)
    (hp : (parts.map fun (i, x) => (i, a.eval x)).toList = ((L.map fun l => Value.agg l.toArray).zipIdx 0).map fun x => (x.2, x.1))
    (h : ∀ w2, (∀ j u, L.flatten[j]? = some u → w2.cell? ⟨w.heap.size, j, none⟩ = some u) → Below w.heap.size w w2 → w.heap.size + 1 ≤ w2.heap.size → wpList Tryd.prog ops Q rest (a.put o.dst (.slice (some ⟨w.heap.size, 0, none⟩) L.length L.length)) w2) : wpList Tryd.prog ops Q (o :: rest) a w := by
  refine BigFrame.wpList_want hw fun K hK => ?_
  obtain ⟨zc, i1, i2, i3⟩ := z0
  have hkk : L.length * k ≤ 1000 * 1000 := Nat.mul_le_mul h1 k1
  cases hie : Tryd.prog.info? e with
  | none => rw [hie] at i1; cases i1
  | some ie =>
    rw [hie] at i1
    simp only [Option.map_some, Option.some.injEq, Prod.mk.injEq] at i1
    obtain ⟨hz, hs⟩ := i1
    obtain ⟨r, hr, hsz, hk⟩ := Great.fill_dense (s := k) k0 (L.map fun l => Value.agg l.toArray) 0 ((Array.range (L.length * k)).map ((Value.agg zc.toArray).cells[· % (Value.agg zc.toArray).cells.size]!)) (fun v hv => by obtain ⟨l, hl, rfl⟩ := List.mem_map.1 hv; simp [Value.cells, hL l hl]) (by simp)
    refine wp_buildSlice t e L.length parts ho r ie (.agg zc.toArray) hu hie hz (by rw [hs]; omega) (by rw [hs]; have := Nat.mul_pos h0 k0; omega) (by rw [hp, hs]; exact hr) (hK _ _ ?_)
    refine h _ (fun q v ht => ?_) ((Below.refl _ _).alloc (Nat.le_refl _) _) (by simp)
    obtain ⟨i, l, j, hi, hj, rfl⟩ := flat_inv hL ht
    rw [World.cell?_alloc_new, hk]
    have hi2 := (List.getElem?_eq_some_iff.1 hi).1
    have hj2 := (List.getElem?_eq_some_iff.1 hj).1
    rw [hL l (List.mem_of_getElem? hi)] at hj2
    have e1 : (i * k + j) / k - 0 = i := by rw [Nat.sub_zero, Nat.mul_comm, Nat.mul_add_div k0, Nat.div_eq_of_lt hj2, Nat.add_zero]
    have e2 : (i * k + j) % k = j := by rw [Nat.mul_comm, Nat.mul_add_mod]; exact Nat.mod_eq_of_lt hj2
    have e3 : i * k + j < L.length * k := by
      have := Nat.mul_le_mul_right k (show i + 1 ≤ L.length by omega)
      rw [Nat.succ_mul] at this
      omega
    rw [if_pos ⟨by omega, by rw [List.length_map, Nat.zero_add]; exact e3⟩, e1, e2, List.getElem?_map, hi]
    simpa [Value.cells] using hj
theorem g_sl1 {t e k : Nat} (hu : Tryd.prog.underlying t = some (.slice e)) (z0 : ∃ zc : List Value, (Tryd.prog.info? e).map (fun i => (i.zero, i.size)) = some (some (.agg zc.toArray), k) ∧ zc.length = k ∧ zc.all (·.oneCell') = true) (k0 : 0 < k) (k1 : k ≤ 1000) (x : Operand) (ho : o.op = .buildSlice t 1 #[(0, x)]) (hw : Region.wanted o (yielded ops a.tmps) = true) (c1 : List Value) (hx : a.eval x = .agg c1.toArray) (h1 : c1.length = k)
    (h : ∀ w2, (∀ j u, c1[j]? = some u → w2.cell? ⟨w.heap.size, j, none⟩ = some u) → Below w.heap.size w w2 → w.heap.size + 1 ≤ w2.heap.size → wpList Tryd.prog ops Q rest (a.put o.dst (.slice (some ⟨w.heap.size, 0, none⟩) 1 1)) w2) : wpList Tryd.prog ops Q (o :: rest) a w :=
  g_sl hu z0 k0 k1 [c1] (fun l hl => by simp at hl; subst hl; exact h1) (by simp) (by simp) _ ho hw (by simp [hx]) fun w2 hr hb hs => h w2 (by simpa using hr) hb hs
theorem g_build {t : Nat} (parts : Array (Nat × Operand)) (ho : o.op = .build t parts) (hg : o.guard = none) (cs : List Value) (hb : Tryd.prog.built t (parts.map fun (i, x) => (i, a.eval x)).toList = some cs.toArray)
    (h : wpList Tryd.prog ops Q rest (a.put o.dst (.agg cs.toArray)) w) : wpList Tryd.prog ops Q (o :: rest) a w :=
  wpList_build hg _ parts ho (by rw [hb]; rfl) (by rw [hb]; exact h)
end
/-- MORE BEHIND A ROW OF ONE'S OWN, FROM WHEREVER IT LIES. -/
theorem row_app2 {t e k bytes : Nat} {z : Value} (T : Ty t e k bytes z) {wx : World} {lo n m B : Nat} {s : Value} {xs : List Value} (h : wx.ownsRow lo e k s n xs) (hlo : lo ≤ wx.heap.size) (news : List Value) (hnl : news.length = m * k) (hsrc : ∀ j u, news[j]? = some u → wx.cell? ⟨B, j, none⟩ = some u) (h1 : ∀ u ∈ news, u.oneCell' = true) (hm : 0 < m) (h63 : n + m ≤ maxLen) (hb : (n + m) * bytes ≤ 140737488355328) (ty : TypeId) :
    ∃ g cap w9, (Builtin.append_ #[t, t] ty #[s, .slice (some ⟨B, 0, none⟩) m m]).run Tryd.prog wx = .ok (.slice (some ⟨g, 0, none⟩) (n + m) cap) w9 ∧
      w9.ownsRow lo e k (.slice (some ⟨g, 0, none⟩) (n + m) cap) (n + m) (xs ++ news) ∧ Fx (fun b => s.ownBlock = some b) wx w9 ∧ (s.ownBlock = some g ∨ wx.heap.size ≤ g) := by
  obtain ⟨i0, hi0, hz0, hz1, hz2⟩ := info_parts2 T.inf
  obtain ⟨g, cap, w9, hr, ho, hg, hgg, _⟩ := run_append_lies (P := Tryd.prog) wx t ty lo e i0 z k bytes T.und hi0 hz0 hz1 hz2 T.zs T.pos s n xs h ⟨B, 0, none⟩ m m news hnl
    (fun j u hj => by rw [Addr.add_mid, Nat.zero_add]; exact hsrc j u hj) h1 hm h63 hb hlo _ rfl
  exact ⟨g, cap, w9, hr, ho, ⟨⟨hg.1, hg.2, hg.3, hg.size, fun _ h => absurd h (Nat.not_lt_zero _)⟩, fun c hc hn => hg.block c hc (fun q => hn q.symm)⟩, hgg.imp id fun e => by rw [e]; exact Nat.le_refl _⟩
theorem zeroF1 : ∃ zc : List Value, (Tryd.prog.info? 40).map (fun i => (i.zero, i.size)) = some (some (.agg zc.toArray), 34) ∧ zc.length = 34 ∧ zc.all (·.oneCell') = true :=
  ⟨((((Tryd.prog.info? 40).bind (·.zero)).map fun z => z.cells.toList).getD []), by kernel_rfl, by kernel_rfl, by kernel_rfl⟩
/-- A ROW OF ONE'S OWN THAT GROWS. -/
theorem own_grow {t e k bytes : Nat} {z : Value} (T : Ty t e k bytes z) {w wr wx : World} {n : Nat} {s : Value} {xs : List Value} (h : wr.ownsRow w.heap.size e k s n xs) (hb : Below w.heap.size w wr) (news : List Value) (hnl : news.length = k) (hsrc : ∀ j u, news[j]? = some u → wx.cell? ⟨wr.heap.size, j, none⟩ = some u) (hx : Below wr.heap.size wr wx) (h1 : ∀ u ∈ news, u.oneCell' = true) (h63 : n + 1 ≤ maxLen) (hbt : (n + 1) * bytes ≤ 140737488355328) (ty : TypeId) :
    ∃ v' w9, (Builtin.append_ #[t, t] ty #[s, .slice (some ⟨wr.heap.size, 0, none⟩) 1 1]).run Tryd.prog wx = .ok v' w9 ∧ w9.ownsRow w.heap.size e k v' (n + 1) (xs ++ news) ∧ Below w.heap.size w w9 := by
  obtain ⟨g, cap, w9, a1, a2, a3, _⟩ := row_app2 T (own_low h hx) (Nat.le_trans hb.size hx.size) news (by rw [Nat.one_mul]; exact hnl) hsrc h1 (m := 1) (by decide) h63 hbt ty
  refine ⟨_, w9, a1, a2, ?_⟩
  have hbx := bl_t hb hx
  exact hbx.trans (a3.below hbx.size fun b hb2 e => by have := (World.ownsRow.lt h b e).1; omega)
end Go.Proofs.YtkpkpebljkcmkaaDoor
