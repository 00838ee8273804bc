import Derived.Test.YtiibobjbcgbknaaDoorStC
import Derived.Test.YtiibobjbcgbknaaDoorStL
import Derived.Shelf.Abstract
import Derived.Shelf.RegionOpen
import Derived.OwnWalkIn
import Derived.TacticsInMore
import Derived.LoopNIn
import Derived.LoopIn
import Derived.Sort.QuietIn
namespace Go.Proofs.YtiibobjbcgbknaaDoor
open Go.RowKit Go.Shelf
attribute [local go_sem] Oper.semAt_some

theorem wide_fn (f : FuncId) : Fence.wide.fn f = True := rfl
attribute [local simp] wide_fn
attribute [local go_sem] wide_fn

/-- A LINE WITH ITS NUMBER. -/
abbrev Ln := { x : Nat × Bs // 1 ≤ x.1 ∧ x.1 ≤ 16777217 ∧ x.2.length ≤ 16777216 }
abbrev encL (x : Ln) : Array Value := #[.int .i64 x.1.1, .string (ba x.1.2)]
def KpL (W W2 : World) : Prop := W2.heap[0]? = W.heap[0]? ∧ W.heap.size ≤ W2.heap.size
theorem Glob.kp {W W2 : World} (h : Glob W) (hk : KpL W W2) : Glob W2 := by
  obtain ⟨m, hm⟩ := h.mx
  exact ⟨Nat.lt_of_lt_of_le h.big hk.2, m, (World.cell?_of_block (w := W) (w' := W2) (a := ⟨0, 0, none⟩) hk.1).trans hm⟩
theorem Glob.drewN {W : World} (h : Glob W) (m : Nat) : Glob (W.drewN m) := h.kp ⟨rfl, Nat.le_refl _⟩

theorem cCutN (s : Bs) (c : UInt8) (w : World) (hs : s.length < 4294967281) (hG : Glob w) :
    Calls Tryd.prog 71 #[.string (ba s), .string ⟨#[c]⟩] w fun e w' => e = .returned (.tuple #[.string (ba (bef c s)), .string (ba (aft c s)), .bool (decide (c ∈ s))]) ∧ ∃ n, w' = w.drewN n := by
  obtain ⟨m, hm⟩ := hG.mx
  refine (Any.strings_Cut Tryd.lays145 (ba s) ⟨#[c]⟩ m w (by rw [ba_size]; exact hs) hm).mono ?_
  rintro e w' ⟨rfl, n, rfl⟩
  refine ⟨?_, n, rfl⟩
  have h := cut1 c s
  show Ending.returned (.tuple #[.string ⟨(Lib.cut s [c]).1.toArray⟩, .string ⟨(Lib.cut s [c]).2.1.toArray⟩, .bool (Lib.cut s [c]).2.2]) = _
  rw [h]
  rfl

set_option maxHeartbeats 1000000 in
theorem lines_in (t : ByteArray) (n : Nat) (w : World) :
    CallsIn Fence.wide n Tryd.prog 54 #[.string t] w fun e w' => e = .returned (.func (.func 70) #[] #[.pointer (some ⟨w.heap.size, 0, none⟩)]) ∧ w' = w.alloc (.cells #[.string t] 9) := by
  refine callsIn_of_wp Tryd.func54 rfl trivial ?_ rfl
  simp only [Tryd.ntmps54, List.size_toArray, List.length_cons, List.length_nil, Nat.reduceAdd, Nat.reduceSub, Array.replicate_succ, Array.replicate_zero, List.push_toArray, List.append_toArray, List.nil_append, List.cons_append]
  gi_wp2
  go_ret
  exact ⟨rfl, rfl⟩

def strLen : Value → Nat
  | .string s => s.size
  | _ => 0
def lnsOf (t : Bs) : List (Nat × Bs) := numb 1 (linesL t)
theorem numb_cons (k : Nat) (s : Bs) (r : List Bs) : numb k (s :: r) = (k, s) :: numb (k + 1) r := rfl

set_option maxRecDepth 100000 in
set_option maxHeartbeats 2000000 in
theorem lines1_in (t : Bs) (ht : t.length ≤ 16777216) (n : Nat) (hn : 1 ≤ n) (l Bt : Nat) (J Jx : List Ln → World → Prop)
    (hJd : ∀ s W m, J s W → J s (W.drewN m))
    (hY : ∀ pre x W, J pre W → pre.length < 16777217 → YieldAt Fence.wide (n - 1) Tryd.prog l (encL x) W fun e W2 =>
      (e = .returned (.bool true) ∧ J (pre ++ [x]) W2 ∧ KpL W W2) ∨ (e = .returned (.bool false) ∧ Jx (pre ++ [x]) W2))
    (W : World) (hT : W.cell? ⟨Bt, 0, none⟩ = some (.string (ba t))) (hG : Glob W) (h0 : J [] W) :
    CallsIn Fence.wide n Tryd.prog 70 #[.func (.yield l) #[] #[], .pointer (some ⟨Bt, 0, none⟩)] W fun e W2 => (∃ v, e = .returned v) ∧
      ((∃ xs : List Ln, xs.map (·.1) = lnsOf t ∧ J xs W2) ∨ (∃ pre : List Ln, (∃ r, lnsOf t = pre.map (·.1) ++ r) ∧ Jx pre W2)) := by
  refine callsIn_of_wp Tryd.func70 rfl trivial ?_ rfl
  simp only [Tryd.ntmps70, List.size_toArray, List.length_cons, List.length_nil, Nat.reduceAdd, Nat.reduceSub, Array.replicate_succ, Array.replicate_zero, List.push_toArray, List.append_toArray, List.nil_append, List.cons_append]
  gi_wp2
  gi_loopw [3, 4, 5, 6, 7] (fun rv kv _ _ _ wr => ∃ (pre : List Ln) (rest : Bs), rv = .string (ba rest) ∧ kv = .int .i64 ((pre.length + 1 : Nat) : Int) ∧ Hid (lnsOf t = pre.map (·.1) ++ numb (pre.length + 1) (linesL rest)) ∧ pre.length + rest.length ≤ t.length ∧ Hid (J pre wr) ∧ Hid (Glob wr)) (fun rv _ _ _ _ _ => strLen rv)
  case atStart => exact ⟨[], t, rfl, rfl, hide rfl, by simp, hide h0, hide hG⟩
  case round =>
    obtain ⟨pre, rest, rfl, rfl, HE, hle, HJ, HG⟩ := hrel
    clear hT h0 hG
    by_cases hr : rest = []
    · subst hr
      have hb : (ba []).toList = [] := tl _
      have HF := hide (show pre.map (·.1) = lnsOf t by rw [unhide HE, linesL_nil]; simp [numb])
      clear hY hJd HE
      gi_wp2
      go_end0
      exact ⟨⟨_, rfl⟩, .inl ⟨pre, unhide HF, unhide HJ⟩⟩
    · have hb : (ba rest).toList.isEmpty = false := by rw [ba_tl]; cases rest with
        | nil => exact absurd rfl hr
        | cons _ _ => rfl
      have hlt := aft_lt 10 rest hr
      have hbl := bef_le 10 rest
      have hpos : 0 < rest.length := List.length_pos_iff.2 hr
      have c1 := hide (cCutN rest 10 wr (by omega) (unhide HG))
      obtain ⟨x, hx⟩ : ∃ x : Ln, x.1 = (pre.length + 1, bef 10 rest) := ⟨⟨(pre.length + 1, bef 10 rest), by simp; omega⟩, rfl⟩
      have HE2 := hide (show lnsOf t = (pre ++ [x]).map (·.1) ++ numb ((pre ++ [x]).length + 1) (linesL (aft 10 rest)) by
        rw [unhide HE, linesL_cons rest hr, numb_cons, List.map_append, List.length_append]
        simp [hx])
      have hYN : ∀ m, YieldAt Fence.wide (n - 1) Tryd.prog l #[.int .i64 ((pre.length : Int) + 1), .string (ba (bef 10 rest))] (wr.drewN m) fun e W2 =>
          ∃ bb : Bool, e = .returned (.bool bb) ∧ Hid ((bb = true ∧ J (pre ++ [x]) W2 ∧ KpL (wr.drewN m) W2) ∨ (bb = false ∧ Jx (pre ++ [x]) W2)) := by
        intro m
        have h := hY pre x (wr.drewN m) (hJd _ _ _ (unhide HJ)) (by omega)
        unfold encL at h
        rw [hx] at h
        have e0 : (((pre.length + 1, bef 10 rest) : Nat × Bs).1 : Int) = (pre.length : Int) + 1 := by simp
        rw [e0] at h
        obtain ⟨fn, tmps, assign, body, hy, hR⟩ := h
        refine ⟨fn, tmps, assign, body, hy, hR.mono ?_⟩
        rintro e W2 (⟨rfl, h1, h2⟩ | ⟨rfl, h1⟩)
        · exact ⟨true, rfl, hide (.inl ⟨rfl, h1, h2⟩)⟩
        · exact ⟨false, rfl, hide (.inr ⟨rfl, h1⟩)⟩
      have HYN := hide hYN
      have HX := hide hx
      have HLen := hide (show (pre ++ [x]).length = pre.length + 1 by simp)
      have sz : (ba (aft 10 rest)).size < (ba rest).size := by rw [ba_size, ba_size]; exact hlt
      clear hYN hY hJd hr hx HE
      have hcast : ((pre.length + 1 : Nat) : Int) = (pre.length : Int) + 1 := by omega
      gi_wp2_with (gi_at_call 71; refine (callsIn_wide.2 (unhide c1)).mono ?_; rintro e w1 ⟨rfl, q, rfl⟩; obtain ⟨fn, tmps, assign, body, hy, hR⟩ := unhide HYN q; have HR := hide hR; clear hR HYN c1)
      refine (unhide HR).mono ?_
      rintro e W3 ⟨bb, rfl, hq⟩
      rcases unhide hq with ⟨rfl, hJ3, hk3⟩ | ⟨rfl, hJx3⟩
      · have HJ3 := hide hJ3
        have HG3 := hide (((unhide HG).drewN q).kp hk3)
        clear hJ3 hk3 hq HR
        gi_wp2
        go_roundw
        case rel => exact ⟨pre ++ [x], aft 10 rest, rfl, congrArg (Value.int .i64) (by rw [unhide HLen]; omega), HE2, by rw [unhide HLen]; omega, HJ3, HG3⟩
        case measure => exact sz
      · have HJx := hide hJx3
        clear hJx3 hq HR
        gi_wp2
        refine bodyPost_ret (results_none rfl _ _ _) rfl ?_
        exact ⟨⟨_, rfl⟩, .inr ⟨pre ++ [x], ⟨_, unhide HE2⟩, unhide HJx⟩⟩

/-- A TEXT'S LINES, AS AN ITERATOR. -/
theorem lines_seq (t : Bs) (ht : t.length ≤ 16777216) (n : Nat) (hn : 1 ≤ n) (Bt : Nat) (w : World) (hBt : Bt < w.heap.size) (hT : w.cell? ⟨Bt, 0, none⟩ = some (.string (ba t))) (hG : Glob w) :
    SeqD Fence.wide n Tryd.prog 70 #[.pointer (some ⟨Bt, 0, none⟩)] encL KpL (fun xs => xs.map (·.1) = lnsOf t) (fun pre => ∃ r, lnsOf t = pre.map (·.1) ++ r) 16777217 w := fun l J Jx W hW hJ hY h0 =>
  lines1_in t ht n hn l Bt J Jx hJ hY W ((hW.cell (p := ⟨Bt, 0, none⟩) hBt).trans hT) (hG.later (n := w.heap.size) hG.big hW) h0

end Go.Proofs.YtiibobjbcgbknaaDoor
