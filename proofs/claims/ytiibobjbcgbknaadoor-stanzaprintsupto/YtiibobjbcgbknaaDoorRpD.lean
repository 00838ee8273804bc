import Derived.Test.YtiibobjbcgbknaaDoorRpC
import Derived.Maps.AppendAt
import Derived.Laws.OwnMore
import Derived.Deep.AppendLies
namespace Go.Proofs.YtiibobjbcgbknaaDoor
open Go.RowKit

theorem wpList_append_run2 {P : Program} {ops : Array Oper} {rest : List Oper} {o : Oper} {a : Act} {w w' : World} {v' : Value} {Q : Exit → Act → World → Prop} (hgd : o.guard = none) (s x : Operand) (t : TypeId)
    (ho : o.op = .call { callee := .builtin .append, args := #[s, x], argTypes := #[t, t] }) (vs vx : Value) (hs : a.eval s = vs) (hx : a.eval x = vx)
    (hr : (Builtin.append_ #[t, t] o.type #[vs, vx]).run P w = .ok v' w') (h : wpList P ops Q rest (a.put o.dst v') w') : wpList P ops Q (o :: rest) a w :=
  wpList_plain hgd fun _ hK => by
    unfold Oper.wp execOp
    simp only [ho, resolve, invoke, builtin, Sem.run_bind, Sem.run_pure, Result.andThen_ok, List.map_toArray, List.map_cons, List.map_nil, hs, hx, hr]
    exact hK _ _ h
theorem append_zero2 {P : Program} (w : World) (t ty e : TypeId) (i : TypeInfo) (ht : P.underlying t = some (.slice e)) (hi : P.info? e = some i) (sa : Option Addr) (n c : Nat) (hnc : n ≤ c) (a : Option Addr) (c2 : Nat) :
    (Builtin.append_ #[t, t] ty #[.slice sa n c, .slice a 0 c2]).run P w = .ok (.slice sa n c) w := by
  have hl : ∀ (x : Addr), (loadCells x 0).run P w = .ok #[] w := fun x => by simpa using run_loadCells_list (P := P) w x [] (by simp)
  cases a <;> cases sa <;> simp [Builtin.append_, run_underlying ht, sizeOf, typeInfo, hi, Builtin.lenOf, Builtin.firstCells, storeCells, hl, hnc]
/-- A LIST BEHIND A ROW OF OUR OWN. -/
theorem app_src2 {P : Program} (t ty e : TypeId) (i : TypeInfo) (z : Value) (size bytes : Nat) (ht : P.underlying t = some (.slice e)) (hi : P.info? e = some i) (hz : i.zero = some z) (hsize : i.size = size) (hby : i.bytes = bytes) (hzs : z.cells.size = size) (hsz : 0 < size)
    (B n m : Nat) (v : Value) (xs ys : List Value) (W : World) (hB : B ≤ W.heap.size) (hown : W.ownsRow B e size v n xs) (hy : ys.length = m * size) (h1 : ∀ u ∈ ys, u.oneCell' = true) (hn : (n + m) * bytes ≤ 140737488355328) (h63 : n + m ≤ maxLen)
    (xa : Option Addr) (xc : Nat) (hsrc : m = 0 ∨ ∃ b o, xa = some ⟨b, o, none⟩ ∧ ∀ j u, ys[j]? = some u → W.cell? ⟨b, o + j, none⟩ = some u) :
    ∃ v1 W1, (Builtin.append_ #[t, t] ty #[v, .slice xa m xc]).run P W = .ok v1 W1 ∧ W1.ownsRow B e size v1 (n + m) (xs ++ ys) ∧ Below B W W1 := by
  have hk1 : ∀ k, v.ownBlock = some k → B ≤ k := fun k hk => (hown.lt k hk).1
  rcases hsrc with rfl | ⟨b, o, rfl, hc⟩
  · obtain rfl : ys = [] := List.length_eq_zero_iff.1 (by omega)
    rw [List.append_nil, Nat.add_zero]
    rcases hown.2 with ⟨rfl, h0⟩ | ⟨g, cap, cur, rfl, h2, h3, h4, h5⟩
    · exact ⟨_, _, append_zero2 W t ty e i ht hi none 0 0 (Nat.le_refl _) xa xc, hown, Below.refl _ _⟩
    · have hcap : n ≤ cap := by
        first | exact h4 | omega | exact h4.1 | (have := h5; omega)
      exact ⟨_, _, append_zero2 W t ty e i ht hi _ n cap hcap xa xc, hown, Below.refl _ _⟩
  · obtain ⟨v1, W1, hr, h2, h3, _, h5⟩ := run_append_own_at (P := P) W B t ty e i z size bytes ht hi hz hsize hby hzs hsz v n xs hown ⟨b, o, none⟩ m xc ys hy
      (fun j u hj => by rw [Addr.add_mid]; exact hc j u hj) h1 h63 hn hB
    exact ⟨v1, W1, hr, h2, (Below.refl B W).grown h3 hB hk1⟩


set_option maxRecDepth 100000 in
set_option maxHeartbeats 4000000 in
/-- b BEHIND a, IN NEW MEMORY. -/
theorem rjoined_any (t : Bs) (s : ByteArray) (pa : Option Addr) (c : Nat) (w : World) (ht : t.length + s.size ≤ 536870912) (hR : Rb w pa t) :
    Calls Tryd.prog 44 #[.slice pa t.length c, .string s] w fun e w' => ∃ qa qc, e = .returned (.slice qa (t.length + s.size) qc) ∧ w'.ownsRow w.heap.size 5 1 (.slice qa (t.length + s.size) qc) (t.length + s.size) (encB (t ++ s.data.toList)) ∧ Below w.heap.size w w' := by
  obtain ⟨i0, hi, hz0, hz1, hz2⟩ := info_parts info5
  have hb0 : Below w.heap.size w (w.alloc (.cells #[] 5)) := (Below.refl _ w).alloc (Nat.le_refl _) _
  have ho0 : (w.alloc (.cells #[] 5)).ownsRow w.heap.size 5 1 (.slice (some ⟨w.heap.size, 0, none⟩) 0 0) 0 [] := World.ownsRow_lit w #[] 0 (Nat.le_refl _) (Nat.zero_le _) (by simp)
  obtain ⟨v1, W1, r1, o1, b1⟩ := app_src2 (P := Tryd.prog) 22 22 5 i0 (.int .u8 0) 1 1 Tryd.underlying22 hi hz0 hz1 hz2 rfl (by decide) w.heap.size 0 t.length _ [] (encB t) _ hb0.size ho0 (by rw [encB_len]; omega) (fun u hu => by
    obtain ⟨x, _, rfl⟩ := List.mem_map.1 hu
    rfl) (by omega) (by unfold maxLen; omega) pa c (by
    rcases Nat.eq_zero_or_pos t.length with h | h
    · exact .inl h
    · obtain ⟨b, o, rfl, hc⟩ := hR h
      refine .inr ⟨b, o, rfl, fun j u hj => ?_⟩
      have hjl : j < t.length := by have := (List.getElem?_eq_some_iff.1 hj).1; rwa [encB_len] at this
      rw [encB, List.getElem?_map, List.getElem?_eq_getElem hjl] at hj
      cases hj
      exact cell_later (hc j hjl) hb0)
  have hbW := hb0.trans b1
  rw [Nat.zero_add, List.nil_append] at o1
  obtain ⟨qa, qc, rfl⟩ : ∃ qa qc, v1 = .slice qa t.length qc := by
    rcases o1.2 with ⟨e, e2⟩ | ⟨g, cap, cur, e, _⟩
    · exact ⟨none, 0, by rw [e, e2]⟩
    · exact ⟨_, _, e⟩
  have HO := hide o1
  have HBW := hide hbW
  clear o1 b1 hbW hb0 ho0 hR
  go_enter Tryd.func44, Tryd.ntmps44
  go_wp2_with ((with_reducible refine wpList_append_run2 (o := { dst := some 9, op := Op.call { callee := Callee.builtin Builtin.append, args := #[Operand.tmp 7, Operand.tmp 8], argTypes := #[22, 22] }, type := 22, pos := "ref.go:224", after := #[{ on := 0, ground := Ground.data }, { on := 1, ground := Ground.data }], guard := none }) ?m1a (.tmp 7) (.tmp 8) 22 ?m1b _ _ ?m1c ?m1d r1 ?m1e); (case m1a => rfl); (case m1b => rfl); (case m1c => rfl); (case m1d => rfl))
  clear r1
  go_loopw [5, 6] (fun lv iv wr => ∃ (k : Nat) (ra : Option Addr) (rc : Nat), k ≤ s.size ∧ iv = .int .i64 k ∧ lv = .slice ra (t.length + k) rc ∧ Hid (wr.ownsRow w.heap.size 5 1 (.slice ra (t.length + k) rc) (t.length + k) (encB (t ++ s.data.toList.take k))) ∧ Hid (Below w.heap.size w wr)) (fun _ iv _ => s.size - (intOf iv).toNat)
  case atStart => exact ⟨0, qa, qc, Nat.zero_le _, rfl, rfl, hide (by have := unhide HO; simpa using this), HBW⟩
  case round =>
    clear HO HBW
    obtain ⟨k, ra, rc, hk, rfl, rfl, HO, HB⟩ := hrel
    by_cases hlt : k < s.size
    · have hz := (unhide HB).size
      have hkl : k < s.data.toList.length := by simpa using hlt
      have HT := hide (show t ++ s.data.toList.take (k + 1) = (t ++ s.data.toList.take k) ++ [s[k]] by rw [List.take_succ_eq_append_getElem hkl, List.append_assoc]; rfl)
      go_wp2_with (at_builtin; go_must (refine wpList_append_own _ rfl _ _ 22 rfl w.heap.size 5 i0 (.int .u8 0) 1 1 Tryd.underlying22 hi hz0 hz1 hz2 rfl (by decide) _ _ _ rfl ((unhide HO).alloc _) ⟨wr.heap.size, 0, none⟩ 1 1 [.int .u8 (s[k].toNat : Int)] rfl rfl (cell_one_new _ _ _) (by simp [Value.oneCell']) (by unfold maxLen; omega) (by omega) (by simp; omega) ?_); intro v2 w2 hown2 hgrow2 _; have HO2 := hide hown2; have HB2 := hide (((unhide HB).alloc hz _).grown hgrow2 (by simp; omega) (fun j e => ((unhide HO).lt j e).1)); obtain ⟨g2, cap2, rfl⟩ := ownsRow_succ hown2; clear hown2 hgrow2)
      go_roundw
      case rel => exact ⟨k + 1, some ⟨g2, 0, none⟩, cap2, by omega, by go_num, rfl, hide (by rw [unhide HT, encB_snoc]; exact unhide HO2), HB2⟩
      case measure => simp [intOf]; omega
    · obtain rfl : k = s.size := by omega
      have HT := hide (show s.data.toList.take s.size = s.data.toList from List.take_of_length_le (by simp))
      go_wp2_with fail
      go_ret
      exact ⟨ra, rc, rfl, by have := unhide HO; rw [unhide HT] at this; exact this, unhide HB⟩
end Go.Proofs.YtiibobjbcgbknaaDoor
