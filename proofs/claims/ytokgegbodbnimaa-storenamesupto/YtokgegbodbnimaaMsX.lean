import Derived.Test.YtokgegbodbnimaaMsW
import Derived.Test.YtokgegbodbnimaaNlB
namespace Go.Proofs.Ytokgegbodbnimaa
open Go.RowKit Go.Maps

/-- A NEW STORE. -/
theorem Sto_new (W : World) (c : Int) : ∃ M : Mm, Sto (fun b => b = W.heap.size) W.heap.size M (fun _ => none) (fun _ => none) 0 (W.alloc (.cells (st0 c) 75)) ∧ M.ps = [] ∧ M.cap = c ∧ M.u0 = 0 := by
  refine ⟨⟨.map none, 0, .map none, 0, .slice none 0 0, c, 0, 0, fun _ => none, fun _ => none, []⟩, ?_, rfl, rfl, rfl⟩
  have sd : Sd (W.alloc (.cells (st0 c) 75)) (.map none) (fun _ => none) (fun _ => none) 0 := ⟨.inl ⟨rfl, fun _ => rfl⟩, ⟨fun x f h => (by cases h), fun _ _ => rfl, fun x y f g b h => (by cases h)⟩⟩
  exact ⟨heap_new _ _, sd, ⟨0, sd, Nat.le_refl _⟩, fun b e => (by cases e), ⟨rfl, .inl ⟨rfl, rfl⟩⟩, fun o ho => (by cases ho), ⟨fun x g hx => (by cases hx), fun o ho => (by cases ho), fun o ho => (by cases ho), List.Pairwise.nil⟩, fun x _ => rfl, fun x bs e => (by cases e), fun x bs e => (by cases e), by simp [bytesL], by decide, rfl, fun b e => (by cases e), fun b e => (by cases e), fun b e => (by cases e), fun x f b hx => (by cases hx), fun x f b hx => (by cases hx), fun o ho => (by cases ho)⟩
def Ob (B n0 : Nat) : Nat → Prop := fun b => b = B ∨ n0 ≤ b
theorem Ob_nw {B n0 n : Nat} (h : n0 ≤ n) (b : Nat) (q : Nw (Ob B n0) n b) : Ob B n0 b := by
  rcases q with q | q
  · exact q
  · exact .inr (Nat.le_trans h q)
/-- READ. -/
noncomputable def rdR (m : Cn) (x : Nm) : Int := if isNm x = true then (match m x with | none => 141 | some _ => 0) else 140
set_option maxRecDepth 100000 in
set_option maxHeartbeats 4000000 in
theorem Read_some {O : Nat → Prop} {B : Nat} {M : Mm} {m0 m1 : Cn} {K : Nat} {W : World} (h : Sto O B M m0 m1 K W) {x : Nm} (hn : isNm x = true) {bs : List Int} (e : m0 x = some bs) :
    Calls Try.prog 16 #[.pointer (some ⟨B, 0, none⟩), .string x] W fun v W' => ∃ f : Hd, v = .returned (.tuple #[.slice f.a f.n f.c, .int .i64 0]) ∧ Bt W' f bs ∧ Below W.heap.size W W' := by
  have cF := h.find x (Nat.le_trans (isNm_yes hn).2.1 (by decide))
  have hKK := h.hK
  obtain ⟨f, hf, bf⟩ : ∃ f, M.H0 x = some f ∧ Bt W f bs := by
    cases hh : M.H0 x with
    | none => rw [h.s0.sc.non x hh] at e; cases e
    | some f =>
      obtain ⟨cs, e2, b⟩ := h.s0.sc.con x f hh
      rw [e2] at e
      cases e
      exact ⟨f, rfl, b⟩
  rw [fnd_some hn hf] at cF
  have hl := h.l0 x bs e
  have C := clone_any f.c bf.rb (fun q => by
    rcases bf.form with ⟨_, e2⟩ | ⟨g, cur, e2, _⟩
    · exact e2
    · rw [e2] at q; cases q) (by omega)
  rw [bf.len] at C
  have e1 : ∀ f : Hd, hv f = .slice f.a f.n f.c := fun _ => rfl
  clear h bf hf e hl
  go_enter Try.func16, Try.ntmps16
  go_wp2_with (first | (go_at_call 38; refine cF.mono ?_; rintro x1 w1 ⟨rfl, rfl⟩) | (go_at_call 41; refine C.mono ?_; rintro x2 w2 ⟨f2, rfl, q1, q2, q3⟩; have HE := hide (And.intro q1 q3); rw [e1]; clear q1 q2 q3))
  go_ret2
  exact ⟨f2, rfl, unhide HE⟩
set_option maxRecDepth 100000 in
set_option maxHeartbeats 4000000 in
theorem Read_none {O : Nat → Prop} {B : Nat} {M : Mm} {m0 m1 : Cn} {K : Nat} {W : World} (h : Sto O B M m0 m1 K W) {x : Nm} (hn : isNm x = true) (e : m0 x = none) :
    Calls Try.prog 16 #[.pointer (some ⟨B, 0, none⟩), .string x] W fun v W' => v = .returned (.tuple #[.slice none 0 0, .int .i64 141]) ∧ Below W.heap.size W W' := by
  have cF := h.find x (Nat.le_trans (isNm_yes hn).2.1 (by decide))
  have hf : M.H0 x = none := by
    cases hh : M.H0 x with
    | none => rfl
    | some f =>
      obtain ⟨cs, e2, b⟩ := h.s0.sc.con x f hh
      rw [e2] at e
      cases e
  rw [fnd_none hn hf] at cF
  have C := clone_nil W
  clear h hf e
  go_enter Try.func16, Try.ntmps16
  go_wp2_with (first | (go_at_call 38; refine cF.mono ?_; rintro x1 w1 ⟨rfl, rfl⟩) | (go_at_call 41; refine C.mono ?_; rintro x2 w2 ⟨rfl, rfl⟩))
  go_ret2
  exact ⟨rfl, Below.refl _ _⟩
set_option maxRecDepth 100000 in
set_option maxHeartbeats 4000000 in
theorem same_yes {W : World} {pa pb : Option Addr} {bs : List Int} (ca cb : Nat) (ha : Rb W pa bs) (hb : Rb W pb bs) (hz : bs.length ≤ 140737488355328) :
    Calls Try.prog 17 #[.slice pa bs.length ca, .slice pb bs.length cb] W fun x W' => x = .returned (.bool true) ∧ ∃ t, W' = W.drewN t := by
  obtain ⟨n, hn⟩ : ∃ n, n = bs.length := ⟨_, rfl⟩
  rw [← hn]
  rw [← hn] at hz
  have HA := hide ha
  have HB := hide hb
  have HN := hide hn
  clear ha hb hn
  go_enter Try.func17, Try.ntmps17
  go_wp2_with fail
  go_loopg [5] n (fun g1 vi wr => ∃ i d : Nat, vi = .int .i64 i ∧ i ≤ n ∧ n - i ≤ g1 ∧ wr = W.drewN d)
  case atStart => exact ⟨0, 0, by go_num, by omega, by omega, rfl⟩
  case round =>
    obtain ⟨i, d, rfl, hi, hg, rfl⟩ := hrel
    by_cases hlt : i < n
    · have hlt2 : (i : Int) < (n : Int) := by omega
      have hib : i < bs.length := by have := unhide HN; omega
      obtain ⟨b1, o1, e1, c1⟩ : ∃ b o, pa = some ⟨b, o, none⟩ ∧ W.cell? ⟨b, o + i, none⟩ = some (.int .u8 bs[i]) := by
        rcases unhide HA with q | ⟨b, o, q1, q2, q3⟩
        · rw [q] at hib; cases hib
        · exact ⟨b, o, q1, q3 i _ (u8_at bs i hib)⟩
      obtain ⟨b2, o2, e2, c2⟩ : ∃ b o, pb = some ⟨b, o, none⟩ ∧ W.cell? ⟨b, o + i, none⟩ = some (.int .u8 bs[i]) := by
        rcases unhide HB with q | ⟨b, o, q1, q2, q3⟩
        · rw [q] at hib; cases hib
        · exact ⟨b, o, q1, q3 i _ (u8_at bs i hib)⟩
      subst e1 e2
      generalize bs[i] = z at *
      go_upto_region 6 with fail
      go_quiet (fail)
      go_wp2_with fail
      go_roundg (n - (i + 1))
      case measure => omega
      case rel => exact ⟨i + 1, d + nq, by go_num, by omega, by omega, rfl⟩
    · obtain rfl : i = n := by omega
      go_wp2_with fail
      go_ret
      exact ⟨rfl, _, rfl⟩
end Go.Proofs.Ytokgegbodbnimaa
