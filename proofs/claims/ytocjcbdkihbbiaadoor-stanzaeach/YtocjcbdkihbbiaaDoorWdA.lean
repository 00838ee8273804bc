import Derived.Test.YtocjcbdkihbbiaaDoorAkA
namespace Go.Proofs.YtocjcbdkihbbiaaDoor
open Go.RowKit Go.Shelf

theorem wpList_conv_run {P : Program} {ops : Array Oper} {rest : List Oper} {o : Oper} {a : Act} {w : World} {v' : Value} {Q : Exit → Act → World → Prop} (hgd : o.guard = none) (x : Operand) (s d : TypeId)
    (ho : o.op = .convert s d x) (vx : Value) (hx : a.eval x = vx) (hr : (convert s d vx).run P w = .ok v' w) (h : wpList P ops Q rest (a.put o.dst v') w) : wpList P ops Q (o :: rest) a w :=
  wpList_plain hgd fun _ hK => by
    unfold Oper.wp execOp
    simp only [ho, Sem.run_bind, Sem.run_pure, Result.andThen_ok, hx, hr]
    exact hK _ _ h
theorem enc_one (x : Int) (h0 : 0 ≤ x) (h1 : x < 128) : (Utf8.encode x).size = 1 := by
  have hv : Utf8.valid x = true := by
    unfold Utf8.valid
    simp
    omega
  unfold Utf8.encode
  simp only [hv, if_true]
  rw [if_pos (by omega)]
  rfl
/-- WHAT word TELLS. -/
def wdR (acc : ByteArray) (k : Nat) : ByteArray := if h : k = 0 then acc else wdR (acc ++ Utf8.encode (97 + (k : Int) % 26)) (k / 26)
termination_by k
decreasing_by omega
def wd (n : Nat) : ByteArray := wdR ⟨#[119]⟩ n

set_option maxRecDepth 100000 in
set_option maxHeartbeats 1000000 in
theorem word_any (n : Nat) (hn : n ≤ 1099511627776) (w : World) :
    Calls Tryd.prog 53 #[.int .i64 n] w fun e w' => e = .returned (.string (wd n)) ∧ w' = w := by
  go_enter Tryd.func53, Tryd.ntmps53
  go_wp2_with fail
  go_loopw [0, 3] (fun nv sv wr => ∃ (k : Nat) (acc : ByteArray), k ≤ n ∧ acc.size + k ≤ n + 1 ∧ nv = .int .i64 k ∧ sv = .string acc ∧ wr = w ∧ Hid (wd n = wdR acc k)) (fun nv _ _ => (intOf nv).toNat)
  case atStart => exact ⟨n, _, Nat.le_refl _, by show 1 + n ≤ n + 1; omega, rfl, rfl, rfl, hide rfl⟩
  case round =>
    obtain ⟨k, acc, hk, hsz, rfl, rfl, rfl, HW⟩ := hrel
    by_cases h0 : 0 < k
    · have h0z : (0 : Int) < (k : Int) := by omega
      have HW2 := hide (show wd n = wdR (acc ++ Utf8.encode (97 + (k : Int) % 26)) (k / 26) by
        rw [unhide HW, wdR, dif_neg (by omega)])
      have e1 := enc_one (97 + (k : Int) % 26) (by omega) (by omega)
      have r1 : (convert 3 21 (.int .i64 (97 + (k : Int) % 26))).run Tryd.prog wr = .ok (.int .i32 (97 + (k : Int) % 26)) wr := by
        have : IntKind.i32.wrap (97 + (k : Int) % 26) = 97 + (k : Int) % 26 := by rw [IntKind.wrap_i32]; omega
        simp [convert, run_underlying Tryd.underlying3, run_underlying Tryd.underlying21, Conv.intToInt, this]
      have r2 := run_convert_int_string (P := Tryd.prog) wr 21 9 .i32 (97 + (k : Int) % 26) (by rw [Tryd.underlying21]; rfl) Tryd.underlying9
      generalize Utf8.encode (97 + (k : Int) % 26) = ch at *
      generalize hx : 97 + (k : Int) % 26 = x at *
      have hlt : k / 26 < k := by omega
      have hq : IntKind.i64.wrap ((k : Int).tdiv 26) = ((k / 26 : Nat) : Int) := by rw [Int.tdiv_eq_ediv_of_nonneg (by omega), IntKind.wrap_i64]; omega
      have hap : (acc ++ ch).size = acc.size + 1 := by rw [ByteArray.size_append, e1]
      clear HW
      go_wp2_with (first | ((with_reducible refine wpList_conv_run (o := { dst := some 10, op := Op.convert 3 21 (Operand.tmp 9), type := 21, pos := "law.go:164", after := #[{ on := 3, ground := Ground.data }], guard := none }) ?_ (.tmp 9) 3 21 ?_ _ ?_ r1 ?_); (next => rfl); (next => rfl); (next => rfl)) | ((with_reducible refine wpList_conv_run (o := { dst := some 11, op := Op.convert 21 9 (Operand.tmp 10), type := 9, pos := "law.go:164", after := #[{ on := 4, ground := Ground.data }], guard := none }) ?_ (.tmp 10) 21 9 ?_ _ ?_ r2 ?_); (next => rfl); (next => rfl); (next => rfl)))
      go_roundw
      case rel => exact ⟨k / 26, acc ++ ch, by omega, by omega, by simp, by simp, by simp, HW2⟩
      case measure => simp [intOf]; omega
    · have h0z : ¬ (0 : Int) < (k : Int) := by omega
      have HF := hide (show acc = wd n by rw [unhide HW, wdR, dif_pos (by omega)])
      clear HW
      go_wp2_with fail
      go_ret
      exact ⟨ret_str (unhide HF), rfl⟩
end Go.Proofs.YtocjcbdkihbbiaaDoor
