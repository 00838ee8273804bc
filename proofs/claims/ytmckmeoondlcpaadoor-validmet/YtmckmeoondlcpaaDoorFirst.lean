import Derived.Test.YtmckmeoondlcpaaDoorMeetA
import Derived.Test.YtmckmeoondlcpaaDoorSame2
namespace Go.Proofs.YtmckmeoondlcpaaDoor
open Go.RowKit

/-- WHICH ATOM IS SATISFIED FIRST? -/
def firstA (al : List At) (nm vr : ByteArray) (pl : List ByteArray) : Int × Bool :=
  match al.findIdx? (fun a => meetsA a.n a.op a.v nm vr pl) with
  | some i => ((i : Int), true)
  | none => (0, false)

theorem firstA_hit (al : List At) (nm vr : ByteArray) (pl : List ByteArray) (k : Nat) (h : k < al.length) (hk : meetsA al[k].n al[k].op al[k].v nm vr pl = true) (hb : ∀ j (hj : j < al.length), j < k → meetsA al[j].n al[j].op al[j].v nm vr pl = false) : firstA al nm vr pl = ((k : Int), true) := by
  unfold firstA
  have : al.findIdx? (fun a => meetsA a.n a.op a.v nm vr pl) = some k := by
    rw [List.findIdx?_eq_some_iff_getElem]
    exact ⟨h, hk, fun j hj => by rw [hb j (by omega) hj]; simp⟩
  rw [this]
theorem firstA_miss (al : List At) (nm vr : ByteArray) (pl : List ByteArray) (hb : ∀ j (hj : j < al.length), meetsA al[j].n al[j].op al[j].v nm vr pl = false) : firstA al nm vr pl = (0, false) := by
  unfold firstA
  have : al.findIdx? (fun a => meetsA a.n a.op a.v nm vr pl) = none := by
    rw [List.findIdx?_eq_none_iff]
    intro a ha
    obtain ⟨j, hj, rfl⟩ := List.getElem_of_mem ha
    exact hb j hj
  rw [this]

theorem wpList_load_p {P : Program} {ops : Array Oper} {rest : List Oper} {op : Oper} {a : Act} {w : World} {Q : Exit → Act → World → Prop} (hgd : op.guard = none) (ty : TypeId) (x : Operand) (ho : op.op = .load ty x)
    (b o : Nat) (hx : a.eval x = .pointer (some ⟨b, o, none⟩)) (cs : List Value) (d : TypeDesc) (hc : w.rangeAt b o cs)
    (hu : P.underlying ty = some d) (hd : d.isRow = true) (hi : (P.info? ty).map (·.size) = some cs.length)
    (h : wpList P ops Q rest (a.put op.dst (.agg cs.toArray)) w) : wpList P ops Q (op :: rest) a w :=
  wpList_load_mid hgd ty x ho b o hx cs d hc hu hd hi h

theorem range_of1 {W : World} {c : Nat} {cs : List Value} (h : ∀ i v, cs[i]? = some v → W.cell? ⟨c, i, none⟩ = some v) : W.rangeAt c 0 cs := fun j v hj => by rw [Nat.zero_add]; exact h j v hj
theorem range_later1 {W W' : World} {c : Nat} {cs : List Value} (h : W.rangeAt c 0 cs) (hc : c < W.heap.size) (hb : Below W.heap.size W W') : W'.rangeAt c 0 cs := fun j v hj => (hb.cell (p := ⟨c, _, none⟩) hc).trans (h j v hj)

set_option maxRecDepth 20000 in
set_option maxHeartbeats 2000000 in
theorem First_any (al : List At) (nm vr : ByteArray) (pv : Value) (pl : List ByteArray) (cs : List Value) (v : Value) (hsz : ∀ i (h : i < al.length), al[i].v.size ≤ maxLen) (hvr : vr.size ≤ maxLen) (w : World) (hp : Pkg cs nm vr pv) (h : Strs w pv pl) (ha : Ats w v al) :
    Calls Tryd.prog 12 #[v, .agg cs.toArray] w fun e w' => e = .returned (.tuple #[.int .i64 (firstA al nm vr pl).1, .bool (firstA al nm vr pl).2]) ∧ Below w.heap.size w w' := by
  obtain ⟨W, hW, hcells, hq, hB⟩ := pkgNew w cs 38
  have HR := hide (range_of1 hcells)
  have HI77 := hide (show (Tryd.prog.info? 38).map (·.size) = some cs.length by rw [hp.len]; kernel_rfl)
  have HM := hide (fun (i : Nat) (hi : i < al.length) (w' : World) (hb : Below w.heap.size w w') => Meets_any al[i].n al[i].op al[i].v nm vr pv pl cs (hsz i hi) hvr w' hp (h.later hb))
  have HA := hide ha
  obtain ⟨xa, xc, rfl, hxb, -⟩ := ha
  have HB := hide hB
  clear hcells hp h hsz hvr hB
  go_enter Tryd.func12, Tryd.ntmps12
  go_wp2_with fail
  go_loopw [6, 7, 10] (fun _ _ iv wr => ∃ k : Nat, k ≤ al.length ∧ iv = .int .i64 k ∧ Hid (Below W.heap.size W wr ∧ ∀ j (hj : j < al.length), j < k → meetsA al[j].n al[j].op al[j].v nm vr pl = false)) (fun _ _ iv _ => al.length - (intOf iv).toNat)
  case atStart => exact ⟨0, Nat.zero_le _, rfl, hide ⟨Below.refl _ _, fun j hj h => absurd h (Nat.not_lt_zero _)⟩⟩
  case round =>
    obtain ⟨k, hk, rfl, HQ⟩ := hrel
    by_cases hlt : k < al.length
    · have Bw := (unhide HB).trans ((unhide HQ).1.mono (unhide HB).size)
      have HBw := hide Bw
      obtain ⟨_, _, e0, -, hcc⟩ := (unhide HA).later Bw
      injection e0 with e1 e2 e3
      subst e1
      obtain ⟨b, o, rfl, hb, c0, c1, c2⟩ := hcc k hlt
      have HMk := hide (unhide HM k hlt)
      have hr1 := range_later1 (unhide HR) hq (unhide HQ).1
      have HR1 := hide hr1
      have hcl := Nat.lt_of_lt_of_le hq (unhide HQ).1.size
      clear hr1
      clear hcc e3
      rcases hak : al[k] with ⟨q0, q1, q2⟩
      rw [hak] at c0 c1 c2 HMk
      have HK := hide hak
      clear hak
      simp only at c0 c1 c2
      cases hm : meetsA q0 q1 q2 nm vr pl
      · have HMk1 := hide hm
        rw [show meetsA (At.mk q0 q1 q2).n (At.mk q0 q1 q2).op (At.mk q0 q1 q2).v nm vr pl = false from hm] at HMk
        clear hm
        go_wp2_with (first
          | (refine wpList_load_p (op := { dst := some 16, op := Op.load 38 (Operand.tmp 3), type := 38, pos := "relation.go:68", after := #[], guard := none }) rfl 38 (.tmp 3) rfl _ 0 rfl cs _ (range_later1 (unhide HR1) hcl ((Below.refl _ _).alloc (Nat.le_refl _) _)) Tryd.underlying38 rfl (unhide HI77) ?_)
          | (go_at_call 15; refine (unhide HMk _ ((unhide HBw).alloc (unhide HBw).size _)).mono ?_; rintro e w5 ⟨rfl, hb5⟩; have HB5 := hide hb5; clear hb5))
        have B6 := (unhide HQ).1.alloc (unhide HQ).1.size (.cells #[.string q0, .int .i64 q1, .string q2] 33)
        have HB6 := hide (B6.trans ((unhide HB5).mono B6.size))
        clear B6
        go_roundw
        case rel =>
          refine ⟨k + 1, by omega, by go_num, hide ⟨unhide HB6, fun j hj h => ?_⟩⟩
          by_cases e : j = k
          · subst e; rw [unhide HK]; exact unhide HMk1
          · exact (unhide HQ).2 j hj (by omega)
        case measure => simp [intOf]; omega
      · have HMk1 := hide hm
        rw [show meetsA (At.mk q0 q1 q2).n (At.mk q0 q1 q2).op (At.mk q0 q1 q2).v nm vr pl = true from hm] at HMk
        clear hm
        go_wp2_with (first
          | (refine wpList_load_p (op := { dst := some 16, op := Op.load 38 (Operand.tmp 3), type := 38, pos := "relation.go:68", after := #[], guard := none }) rfl 38 (.tmp 3) rfl _ 0 rfl cs _ (range_later1 (unhide HR1) hcl ((Below.refl _ _).alloc (Nat.le_refl _) _)) Tryd.underlying38 rfl (unhide HI77) ?_)
          | (go_at_call 15; refine (unhide HMk _ ((unhide HBw).alloc (unhide HBw).size _)).mono ?_; rintro e w5 ⟨rfl, hb5⟩; have HB5 := hide hb5; clear hb5))
        have B6 := (unhide HQ).1.alloc (unhide HQ).1.size (.cells #[.string q0, .int .i64 q1, .string q2] 33)
        have HB6 := hide (B6.trans ((unhide HB5).mono B6.size))
        clear B6
        exact bodyPost_ret (v := .tuple #[.int .i64 k, .bool true]) (by simp [results, Tryd.results12, go_sem]) rfl ⟨by rw [firstA_hit al nm vr pl k hlt (by rw [unhide HK]; exact unhide HMk1) (fun j hj h => (unhide HQ).2 j hj h)], (unhide HB).trans ((unhide HB6).mono (unhide HB).size)⟩
    · go_wp2
      exact bodyPost_ret (v := .tuple #[.int .i64 0, .bool false]) (by simp [results, Tryd.results12, go_sem]) rfl ⟨by rw [firstA_miss al nm vr pl fun j hj => (unhide HQ).2 j hj (by omega)], (unhide HB).trans ((unhide HQ).1.mono (unhide HB).size)⟩

end Go.Proofs.YtmckmeoondlcpaaDoor
