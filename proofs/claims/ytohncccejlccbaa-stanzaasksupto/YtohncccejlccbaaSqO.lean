import Derived.Test.YtohncccejlccbaaAsK
import Derived.Laws.OwnMore
import Derived.ArgAppend
import Derived.Deep.AppendLies
import Derived.Deep.LoopGhost
namespace Go.Proofs.Ytohncccejlccbaa
open Go.RowKit Go.Shelf

/-- A FIELD's THREE CELLS. -/
structure Tv where
  a : Value
  b : Value
  c : Value
def flat : List Tv → List Value
  | [] => []
  | t :: r => t.a :: t.b :: t.c :: flat r
theorem flat_len : ∀ ts : List Tv, (flat ts).length = ts.length * 3
  | [] => rfl
  | t :: r => by simp only [flat, List.length_cons, flat_len r]; omega
theorem flat_app : ∀ a b : List Tv, flat (a ++ b) = flat a ++ flat b
  | [], b => rfl
  | t :: r, b => by simp only [List.cons_append, flat, flat_app r b]
theorem flat_at : ∀ (ts : List Tv) (i : Nat) (t : Tv), ts[i]? = some t → (flat ts)[i * 3]? = some t.a ∧ (flat ts)[i * 3 + 1]? = some t.b ∧ (flat ts)[i * 3 + 2]? = some t.c
  | [], i, t, h => by simp at h
  | x :: r, 0, t, h => by
    simp at h
    subst h
    exact ⟨rfl, rfl, rfl⟩
  | x :: r, i + 1, t, h => by
    have h2 : r[i]? = some t := by simpa using h
    obtain ⟨h3, h4, h5⟩ := flat_at r i t h2
    refine ⟨?_, ?_, ?_⟩
    · rw [show (i + 1) * 3 = i * 3 + 3 by omega]; exact h3
    · rw [show (i + 1) * 3 + 1 = i * 3 + 1 + 3 by omega]; exact h4
    · rw [show (i + 1) * 3 + 2 = i * 3 + 2 + 3 by omega]; exact h5
theorem row_cells3 {W : World} {base b n c m : Nat} {e : TypeId} {xs : List Value} (h : W.ownsRow base e 1 (.slice (some ⟨b, 0, none⟩) n c) m xs) : b < W.heap.size ∧ m ≤ c ∧ ∀ i u, xs[i]? = some u → W.cell? ⟨b, i, none⟩ = some u := by
  refine ⟨(h.lt b rfl).2, ?_, fun i u hi => ?_⟩
  · rcases h.2 with ⟨e, _⟩ | ⟨g', cap', cur, e, _, _, h4, _⟩
    · cases e
    · cases e
      exact h4
  · have := h.cells (g := b) rfl i u hi
    rw [Addr.add_mid, Nat.zero_add] at this
    exact this
/-- THE REST OF THE WORLD. -/
structure Env (W W' : World) : Prop where
  os : W'.os = W.os
  tape : W'.tape = W.tape
  output : W'.output = W.output
theorem Env.refl (W : World) : Env W W := ⟨rfl, rfl, rfl⟩
theorem Env.trans {A B C : World} (h : Env A B) (k : Env B C) : Env A C := ⟨k.os.trans h.os, k.tape.trans h.tape, k.output.trans h.output⟩
theorem Env.bel {B : Nat} {W W' : World} (h : Below B W W') : Env W W' := ⟨h.os, h.tape, h.output⟩
theorem Env.grown {W W' : World} {row : Option Nat} (h : W.grownBy W' row) : Env W W' := ⟨h.os, h.tape, h.output⟩
theorem Env.set (W : World) (a : Addr) (v : Value) : Env W (W.setCell a v) := ⟨rfl, rfl, rfl⟩
theorem Env.al (W : World) (o : Obj) : Env W (W.alloc o) := ⟨rfl, rfl, rfl⟩
theorem Env.put (W : World) (l : Nat) (o : Obj) : Env W (W.putObj l o) := ⟨rfl, rfl, rfl⟩

theorem ownsRow_lower {W : World} {base base' : Nat} {e : TypeId} {size : Nat} {v : Value} {n : Nat} {xs : List Value} (h : W.ownsRow base e size v n xs) (hb : base' ≤ base) : W.ownsRow base' e size v n xs := by
  obtain ⟨h1, h2⟩ := h
  refine ⟨h1, ?_⟩
  rcases h2 with h2 | ⟨g, cap, cur, h0, h3, h4⟩
  · exact .inl h2
  · exact .inr ⟨g, cap, cur, h0, Nat.le_trans hb h3, h4⟩
theorem wpList_append_run {P : Program} {ops : Array Oper} {rest : List Oper} {o : Oper} {a : Act} {w w' : World} {v' : Value} {Q : Exit → Act → World → Prop} (hgd : o.guard = none) (s x : Operand) (t : TypeId)
    (ho : o.op = .call { callee := .builtin .append, args := #[s, x], argTypes := #[t, t] }) (vs vx : Value) (hs : a.eval s = vs) (hx : a.eval x = vx)
    (hr : (Builtin.append_ #[t, t] o.type #[vs, vx]).run P w = .ok v' w') (h : wpList P ops Q rest (a.put o.dst v') w') : wpList P ops Q (o :: rest) a w :=
  wpList_plain hgd fun _ hK => by
    unfold Oper.wp execOp
    simp only [ho, resolve, invoke, builtin, Sem.run_bind, Sem.run_pure, Result.andThen_ok, List.map_toArray, List.map_cons, List.map_nil, hs, hx, hr]
    exact hK _ _ h
theorem infoS46 : (Try.prog.info? 9).map (fun i => (i.zero, i.size, i.bytes)) = some (some (.string ⟨#[]⟩), 1, 16) := by kernel_rfl
theorem infoI47 : (Try.prog.info? 3).map (fun i => (i.zero, i.size, i.bytes)) = some (some (.int .i64 0), 1, 8) := by kernel_rfl
theorem infoF39 : (Try.prog.info? 30).map (fun i => (i.zero, i.size, i.bytes)) = some (some (.agg #[.string ⟨#[]⟩, .slice none 0 0, .slice none 0 0]), 3, 64) := by kernel_rfl
theorem wpList_conv_run {P : Program} {ops : Array Oper} {rest : List Oper} {o : Oper} {a : Act} {w : World} {v' : Value} {Q : Exit → Act → World → Prop} (hgd : o.guard = none) (x : Operand) (s d : TypeId)
    (ho : o.op = .convert s d x) (vx : Value) (hx : a.eval x = vx) (hr : (convert s d vx).run P w = .ok v' w) (h : wpList P ops Q rest (a.put o.dst v') w) : wpList P ops Q (o :: rest) a w :=
  wpList_plain hgd fun _ hK => by
    unfold Oper.wp execOp
    simp only [ho, Sem.run_bind, Sem.run_pure, Result.andThen_ok, hx, hr]
    exact hK _ _ h
theorem enc_one (x : Int) (h0 : 0 ≤ x) (h1 : x < 128) : (Utf8.encode x).size = 1 := by
  have hv : Utf8.valid x = true := by
    unfold Utf8.valid
    simp
    omega
  unfold Utf8.encode
  simp only [hv, if_true]
  rw [if_pos (by omega)]
  rfl
/-- WHAT word TELLS. -/
def wdR (acc : ByteArray) (k : Nat) : ByteArray := if h : k = 0 then acc else wdR (acc ++ Utf8.encode (97 + (k : Int) % 26)) (k / 26)
termination_by k
decreasing_by omega
def wd (n : Nat) : ByteArray := wdR ⟨#[119]⟩ n

set_option maxRecDepth 100000 in
set_option maxHeartbeats 1000000 in
theorem word_any (n : Nat) (hn : n ≤ 1099511627776) (w : World) :
    Calls Try.prog 30 #[.int .i64 n] w fun e w' => e = .returned (.string (wd n)) ∧ w' = w := by
  go_enter Try.func30, Try.ntmps30
  go_wp2_with fail
  go_loopw [0, 3] (fun nv sv wr => ∃ (k : Nat) (acc : ByteArray), k ≤ n ∧ acc.size + k ≤ n + 1 ∧ nv = .int .i64 k ∧ sv = .string acc ∧ wr = w ∧ Hid (wd n = wdR acc k)) (fun nv _ _ => (intOf nv).toNat)
  case atStart => exact ⟨n, _, Nat.le_refl _, by show 1 + n ≤ n + 1; omega, rfl, rfl, rfl, hide rfl⟩
  case round =>
    obtain ⟨k, acc, hk, hsz, rfl, rfl, rfl, HW⟩ := hrel
    by_cases h0 : 0 < k
    · have h0z : (0 : Int) < (k : Int) := by omega
      have HW2 := hide (show wd n = wdR (acc ++ Utf8.encode (97 + (k : Int) % 26)) (k / 26) by
        rw [unhide HW, wdR, dif_neg (by omega)])
      have e1 := enc_one (97 + (k : Int) % 26) (by omega) (by omega)
      have r1 : (convert 3 21 (.int .i64 (97 + (k : Int) % 26))).run Try.prog wr = .ok (.int .i32 (97 + (k : Int) % 26)) wr := by
        have : IntKind.i32.wrap (97 + (k : Int) % 26) = 97 + (k : Int) % 26 := by rw [IntKind.wrap_i32]; omega
        simp [convert, run_underlying Try.underlying3, run_underlying Try.underlying21, Conv.intToInt, this]
      have r2 := run_convert_int_string (P := Try.prog) wr 21 9 .i32 (97 + (k : Int) % 26) (by rw [Try.underlying21]; rfl) Try.underlying9
      generalize Utf8.encode (97 + (k : Int) % 26) = ch at *
      generalize hx : 97 + (k : Int) % 26 = x at *
      have hlt : k / 26 < k := by omega
      have hq : IntKind.i64.wrap ((k : Int).tdiv 26) = ((k / 26 : Nat) : Int) := by rw [Int.tdiv_eq_ediv_of_nonneg (by omega), IntKind.wrap_i64]; omega
      have hap : (acc ++ ch).size = acc.size + 1 := by rw [ByteArray.size_append, e1]
      clear HW
      go_wp2_with (first | ((with_reducible refine wpList_conv_run (o := { dst := some 10, op := Op.convert 3 21 (Operand.tmp 9), type := 21, pos := "law.go:164", after := #[{ on := 3, ground := Ground.data }], guard := none }) ?_ (.tmp 9) 3 21 ?_ _ ?_ r1 ?_); (next => rfl); (next => rfl); (next => rfl)) | ((with_reducible refine wpList_conv_run (o := { dst := some 11, op := Op.convert 21 9 (Operand.tmp 10), type := 9, pos := "law.go:164", after := #[{ on := 4, ground := Ground.data }], guard := none }) ?_ (.tmp 10) 21 9 ?_ _ ?_ r2 ?_); (next => rfl); (next => rfl); (next => rfl)))
      go_roundw
      case rel => exact ⟨k / 26, acc ++ ch, by omega, by omega, by simp, by simp, by simp, HW2⟩
      case measure => simp [intOf]; omega
    · have h0z : ¬ (0 : Int) < (k : Int) := by omega
      have HF := hide (show acc = wd n by rw [unhide HW, wdR, dif_pos (by omega)])
      clear HW
      go_wp2_with fail
      go_ret
      exact ⟨ret_str (unhide HF), rfl⟩
end Go.Proofs.Ytohncccejlccbaa
