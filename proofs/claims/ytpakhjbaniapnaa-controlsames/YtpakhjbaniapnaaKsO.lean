import Derived.Test.YtpakhjbaniapnaaKsN
namespace Go.Proofs.Ytpakhjbaniapnaa
open Go.RowKit

theorem wpList_append_run {P : Program} {ops : Array Oper} {rest : List Oper} {o : Oper} {a : Act} {w w' : World} {v' : Value} {Q : Exit → Act → World → Prop} (hgd : o.guard = none) (s x : Operand) (t : TypeId)
    (ho : o.op = .call { callee := .builtin .append, args := #[s, x], argTypes := #[t, t] }) (vs vx : Value) (hs : a.eval s = vs) (hx : a.eval x = vx)
    (hr : (Builtin.append_ #[t, t] o.type #[vs, vx]).run P w = .ok v' w') (h : wpList P ops Q rest (a.put o.dst v') w') : wpList P ops Q (o :: rest) a w :=
  wpList_plain hgd fun _ hK => by
    unfold Oper.wp execOp
    simp only [ho, resolve, invoke, builtin, Sem.run_bind, Sem.run_pure, Result.andThen_ok, List.map_toArray, List.map_cons, List.map_nil, hs, hx, hr]
    exact hK _ _ h

set_option maxRecDepth 100000 in
set_option maxHeartbeats 4000000 in
theorem clauses_any (cl : List (List Am)) (v : Value) (w : World) (hv : Cls w v cl) (hN : cl.length ≤ 5864062014634) (hL : ∀ i (h : i < cl.length), cl[i].length ≤ 3518437208780) :
    Calls Try.prog 8 #[v] w fun e w' => ∃ x, e = .returned x ∧ Nw w.heap.size w' (fun W2 => Cls W2 x cl ∧ ClM W2 x cl) ∧ Below w.heap.size w w' := by
  obtain ⟨va, vc, rfl⟩ := hv.shape
  have HV := hide hv
  have HLL := hide hL
  have HD := hide (fun (W : World) (ov : Value) (xs : List Value) (h : Out w.heap.size W ov cl cl.length xs) => h.nw hN)
  have HO := hide (fun (wr : World) (ov : Value) (k : Nat) (xs : List Value) (h : Out w.heap.size wr ov cl k xs) (hlo : w.heap.size ≤ wr.heap.size) (hk : k < cl.length) => one_more h hlo hk hN (hL k hk))
  obtain ⟨N, hNe⟩ : ∃ N, cl.length = N := ⟨_, rfl⟩
  have hN' : N ≤ 5864062014634 := by omega
  rw [hNe] at HV HD ⊢
  clear hv hL hN
  go_enter Try.func8, Try.ntmps8
  go_wp2_with fail
  go_loopw [3, 4, 5] (fun ov i _ wr => ∃ (k : Nat) (xs : List Value), k ≤ N ∧ i = .int .i64 k ∧ Hid (Out w.heap.size wr ov cl k xs) ∧ Hid (Below w.heap.size w wr)) (fun _ i _ _ => N - (intOf i).toNat)
  case atStart => exact ⟨0, [], Nat.zero_le _, rfl, hide ⟨⟨rfl, .inl ⟨rfl, rfl⟩⟩, fun i _ h => absurd h (Nat.not_lt_zero _)⟩, hide (Below.refl _ _)⟩
  case round =>
    obtain ⟨k, xs, hk, rfl, HU, HB⟩ := hrel
    rename_i ov _
    by_cases hlt : k < N
    · have hkl : k < cl.length := by omega
      obtain ⟨b, o, xa, xc, rfl, hbl, q0, hx⟩ := ((unhide HV).later (unhide HB)).at k hkl
      obtain ⟨v1, W1, g, cap, W2, v3, W3, r1, r2, r3, hcap, hb1, hb2, hb3, xs', hu⟩ := unhide HO wr _ k xs (unhide HU) (unhide HB).size hkl xa xc hx
      have HU3 := hide hu
      have HB3 := hide ((unhide HB).trans hb3)
      have q2 := (hb2.cell (p := ⟨b, o + k, none⟩) hbl).trans q0
      have hbl2 := Nat.lt_of_lt_of_le hbl hb2.size
      have hLk := unhide HLL k hkl
      generalize cl[k].length = L at *
      have j1 : (0 : Int) ≤ (L : Int) := by omega
      have j2 : (L : Int) ≤ (cap : Int) := by omega
      have j3 : L ≤ cap := by omega
      clear hu hb1 hb2 hb3 hx HO HD
      go_wp2_with (first | ((with_reducible refine wpList_append_run (o := { dst := some 17, op := Op.call { callee := Callee.builtin Builtin.append, args := #[Operand.tmp 12, Operand.tmp 16], argTypes := #[42, 42] }, type := 42, pos := "law.go:96", after := #[{ on := 0, ground := Ground.data }, { on := 4, ground := Ground.data }], guard := none }) ?m1a (.tmp 12) (.tmp 16) 42 ?m1b _ _ ?m1c ?m1d r1 ?m1e); (case m1a => rfl); (case m1b => rfl); (case m1c => rfl); (case m1d => rfl)) | ((with_reducible refine wpList_append_run (o := { dst := some 20, op := Op.call { callee := Callee.builtin Builtin.append, args := #[Operand.tmp 17, Operand.tmp 19], argTypes := #[42, 42] }, type := 42, pos := "law.go:96", after := #[{ on := 5, ground := Ground.data }, { on := 7, ground := Ground.data }, { on := 5, ground := Ground.chain }], guard := none }) ?m2a (.tmp 17) (.tmp 19) 42 ?m2b _ _ ?m2c ?m2d r2 ?m2e); (case m2a => rfl); (case m2b => rfl); (case m2c => rfl); (case m2d => rfl)) | ((with_reducible refine wpList_append_run (o := { dst := some 30, op := Op.call { callee := Callee.builtin Builtin.append, args := #[Operand.tmp 21, Operand.tmp 29], argTypes := #[22, 22] }, type := 22, pos := "law.go:97", after := #[{ on := 0, ground := Ground.data }, { on := 8, ground := Ground.data }], guard := none }) ?m3a (.tmp 21) (.tmp 29) 22 ?m3b _ _ ?m3c ?m3d r3 ?m3e); (case m3a => rfl); (case m3b => rfl); (case m3c => rfl); (case m3d => rfl)))
      go_roundw
      case rel => exact ⟨k + 1, xs', by omega, by go_num, HU3, HB3⟩
      case measure => simp [intOf]; omega
    · obtain rfl : k = N := by omega
      have D1 := hide (unhide HD _ _ _ (unhide HU))
      clear HO HD
      go_wp2_with fail
      go_ret
      exact ⟨_, rfl, unhide D1, unhide HB⟩

end Go.Proofs.Ytpakhjbaniapnaa
