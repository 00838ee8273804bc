import Derived.Test.YtijpcmplbpknlaaShF
import Derived.ChangeKeysEq
namespace Go.Proofs.Ytijpcmplbpknlaa
open Go.RowKit

theorem part_b (l : Bs) (i : Nat) (hi : i < l.length) (w : World) : (part 5 (encB l).toArray (i * Try.prog.cellsOf 5)).run Try.prog w = .ok (.int .u8 ((l[i]?.getD 0).toNat : Int)) w := by
  have hc : Try.prog.cellsOf 5 = 1 := by kernel_rfl
  simp [part, isAgg, run_underlying Try.underlying5, encB, hi, hc]

theorem items_b (l m : Bs) (hl : l.length = 32) (hm : m.length = 32) (d : Nat) (w : World) : ∀ is : List Nat, (∀ i ∈ is, i < 32) →
    (Op.eqItems (d + 1) 5 (Try.prog.cellsOf 5) (encB l).toArray (encB m).toArray is).run Try.prog w = .ok (is.all fun i => decide (l[i]?.getD 0 = m[i]?.getD 0)) w
  | [], _ => by simp [Op.eqItems]
  | i :: is, h => by
    have hi := h i (List.mem_cons_self ..)
    have ih := items_b l m hl hm d w is (fun j hj => h j (List.mem_cons_of_mem _ hj))
    have e : ((((l[i]?.getD 0).toNat : Int)) == (((m[i]?.getD 0).toNat : Int))) = decide (l[i]?.getD 0 = m[i]?.getD 0) := by
      rw [Bool.eq_iff_iff, decide_eq_true_iff, beq_iff_eq]
      constructor
      · intro h2
        exact UInt8.toNat_inj.1 (by omega)
      · intro h2
        rw [h2]
    simp only [Op.eqItems, Sem.run_bind, part_b l i (by omega), part_b m i (by omega), Result.andThen_ok, run_equalIn_int w d 5 .u8 .u8 _ _ Try.underlying5, e]
    cases hq : decide (l[i]?.getD 0 = m[i]?.getD 0)
    · simp only [Bool.not_false, if_true, Sem.run_pure, List.all_cons, hq, Bool.false_and]
    · simp only [Bool.not_true, Bool.false_eq_true, if_false, List.all_cons, hq, Bool.true_and]
      exact ih

theorem all_same (l m : Bs) (hl : l.length = 32) (hm : m.length = 32) : ((List.range 32).all fun i => decide (l[i]?.getD 0 = m[i]?.getD 0)) = decide (l = m) := by
  rw [Bool.eq_iff_iff, decide_eq_true_iff, List.all_eq_true]
  constructor
  · intro h
    refine List.ext_getElem (by omega) fun i h1 h2 => ?_
    have := h i (List.mem_range.2 (by omega))
    simpa [h1, h2] using this
  · rintro rfl i _
    simp

theorem eq_b (l m : Bs) (hl : l.length = 32) (hm : m.length = 32) (w : World) : (Op.equalIn 10000 22 (agB l) (agB m)).run Try.prog w = .ok (decide (l = m)) w := by
  obtain ⟨i0, hi, _⟩ := info_parts info5
  have h := run_equalIn_array (P := Try.prog) w 9999 (encB l).toArray (encB m).toArray Try.underlying22 hi
  refine h.trans ?_
  rw [items_b l m hl hm 9998 w _ (fun i hi => List.mem_range.1 hi), all_same l m hl hm]
theorem eql_b (l m : Bs) (hl : l.length = 32) (hm : m.length = 32) (w : World) : (binOp .eql 22 (agB l) (agB m)).run Try.prog w = .ok (.bool (decide (l = m))) w := by
  have h := run_eql_struct (P := Try.prog) w 22 (encB l).toArray (encB m).toArray
  have h2 := eq_b l m hl hm w
  unfold agB at h2 ⊢
  rw [h, h2]
  rfl
theorem neq_b (l m : Bs) (hl : l.length = 32) (hm : m.length = 32) (w : World) : (binOp .neq 22 (agB l) (agB m)).run Try.prog w = .ok (.bool (!decide (l = m))) w := by
  have h := run_neq_struct (P := Try.prog) w 22 (encB l).toArray (encB m).toArray
  have h2 := eq_b l m hl hm w
  unfold agB at h2 ⊢
  rw [h, h2]
  rfl
theorem gd_b (op : BinOp) (x y : Operand) (l m : Bs) (w : World) : (eqGuard op 22 x y (agB l) (agB m)).run Try.prog w = .ok () w :=
  run_eqGuard_agg w op 22 x y _ _ (by kernel_rfl)

theorem ex_load {x : Operand} {ρ : Operand → Value} {o : Oper} {w : World} {g : Nat} {l : Bs} (ho : o.op = .load 22 x) (hx : ρ x = pt g 0) (hb : Bk w g l) : (execOp ρ o).run Try.prog w = .ok (.value (agB l)) w := by
  unfold execOp
  simp only [ho, hx, pt, Instr.loadAt, Instr.sureAddr, Sem.run_bind, Sem.run_pure, Result.andThen_ok, run_loadVar_row w g 22 22 _ (0, 0) _ hb.at_ Try.underlying22 rfl (by rw [size22, List.size_toArray, encB_len, hb.len])]
  rfl

theorem num_any (n : Int) (w : World) :
    Calls Try.prog 8 #[.int .i64 n] w fun x w' => x = .returned (.int .i64 n) ∧ w' = w := by
  go_enter Try.func8, Try.ntmps8
  go_wp2
  go_ret
  exact ⟨rfl, rfl⟩

theorem bl_t {w w1 w2 : World} (h : Below w.heap.size w w1) (h2 : Below w1.heap.size w1 w2) : Below w.heap.size w w2 := h.trans (h2.mono h.size)

end Go.Proofs.Ytijpcmplbpknlaa
