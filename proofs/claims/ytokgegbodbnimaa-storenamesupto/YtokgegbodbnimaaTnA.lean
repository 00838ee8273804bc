import Derived.Test.YtokgegbodbnimaaMsZ
import Derived.Lib.SlBytesConst
namespace Go.Proofs.Ytokgegbodbnimaa
open Go.RowKit Go.Maps

theorem rb_lit (X : World) (z : Int) : Rb (X.alloc (.cells #[.int .u8 z] 5 (1, 2))) (some ⟨X.heap.size, 0, none⟩) [z] := by
  refine .inr ⟨X.heap.size, 0, rfl, by simp, fun j u hj => ?_⟩
  have : j = 0 := by
    have := (List.getElem?_eq_some_iff.1 hj).1
    simp [u8] at this
    exact this
  subst this
  cases hj
  have hn := heap_new X (.cells #[.int .u8 z] 5 (1, 2))
  unfold World.cell?
  show (match (X.alloc (.cells #[.int .u8 z] 5 (1, 2))).heap[X.heap.size]? with | some (.cells c _ _) => c[0]? | _ => none) = _
  rw [hn]
  rfl
set_option maxRecDepth 100000 in
theorem cvL (X : World) (z : Int) : (convert 22 22 (.slice (some ⟨X.heap.size, 0, none⟩) 1 1)).run Try.prog (X.alloc (.cells #[.int .u8 z] 5)) = .ok (.slice (some ⟨X.heap.size, 0, none⟩) 1 1) (X.alloc (.cells #[.int .u8 z] 5 (1, 2))) := Lib.run_convert_bytes_const X 22 5 #[.int .u8 z] 1 1 Try.underlying22 Try.underlying5
theorem little_from {W W0 : World} (e : W0 = W.alloc (.cells (st0 9) 75)) : ∀ W1, Below W0.heap.size W0 W1 → ∀ pa, Rb W1 pa [49] → pa ≠ none → ∀ pc,
    Calls Try.prog 12 #[.pointer (some ⟨W.heap.size, 0, none⟩), .string ⟨#[97, 97]⟩, .slice pa 1 pc] W1 fun v W2 => v = .returned (.int .i64 0) ∧
      Calls Try.prog 13 #[.pointer (some ⟨W.heap.size, 0, none⟩)] W2 fun v W3 => v = .returned (.int .i64 0) ∧ ∀ W4, Below W3.heap.size W3 W4 → ∀ pb, Rb W4 pb [50] → pb ≠ none → ∀ pd,
        Calls Try.prog 12 #[.pointer (some ⟨W.heap.size, 0, none⟩), .string ⟨#[98, 98]⟩, .slice pb 1 pd] W4 fun v W5 => v = .returned (.int .i64 0) ∧
          Calls Try.prog 14 #[.pointer (some ⟨W.heap.size, 0, none⟩), .agg #[.slice none 0 0]] W5 fun v W6 => v = .returned (.int .i64 0) ∧
            Calls Try.prog 16 #[.pointer (some ⟨W.heap.size, 0, none⟩), .string ⟨#[97, 97]⟩] W6 fun v W7 => ∃ f : Hd, v = .returned (.tuple #[.slice f.a f.n f.c, .int .i64 0]) ∧
              Calls Try.prog 16 #[.pointer (some ⟨W.heap.size, 0, none⟩), .string ⟨#[98, 98]⟩] W7 fun v W8 => v = .returned (.tuple #[.slice none 0 0, .int .i64 141]) ∧ Bt W8 f [49] ∧ Below W.heap.size W W8 := by
  rw [e]
  exact little_chain W
set_option maxRecDepth 100000 in
set_option maxHeartbeats 8000000 in
theorem little_any (W : World) : Calls Try.prog 9 #[] W fun v W' => v = .returned (.bool true) ∧ Below W.heap.size W W' := by
  have HC0 := hide (fun W0 (e : W0 = W.alloc (.cells (st0 9) 75)) => little_from e)
  have cv := cvL
  go_enter Try.func9, Try.ntmps9
  go_wp2_with (first
    | (go_at_call 10; refine (New_any 9 (by decide) _).mono ?_; rintro x0 w0 ⟨rfl, hw0⟩; have HC := hide (unhide HC0 w0 hw0); clear hw0 HC0)
    | (go_at_call 11; refine (num_any _ _).mono ?_; rintro x9 w9 ⟨rfl, rfl⟩)
    | (go_at_call 12; refine (unhide HC _ ((Below.refl _ _).alloc (Nat.le_refl _) _) _ (rb_lit _ 49) (by simp) _).mono ?_; rintro x1 w1 ⟨rfl, C1⟩; clear HC)
    | (go_at_call 13; refine C1.mono ?_; rintro x2 w2 ⟨rfl, C2⟩; have HC2 := hide C2; clear C2 C1)
    | (go_at_call 12; refine (unhide HC2 _ ((Below.refl _ _).alloc (Nat.le_refl _) _) _ (rb_lit _ 50) (by simp) _).mono ?_; rintro x3 w3 ⟨rfl, C3⟩; clear HC2)
    | (go_at_call 14; refine C3.mono ?_; rintro x4 w4 ⟨rfl, C4⟩; clear C3)
    | (go_at_call 16; refine C4.mono ?_; rintro x5 w5 ⟨f, rfl, C5⟩; clear C4)
    | (go_at_call 16; refine C5.mono ?_; rintro x6 w6 ⟨rfl, bt, bw⟩; have hl : f.n = 1 := bt.len.symm; have HB := hide (And.intro bt bw); clear bt bw C5)
    | (go_at_call 17; refine (same_yes (bs := [49]) _ _ (((unhide HB).1.later ((Below.refl _ _).alloc (Nat.le_refl _) _)).rb) (rb_lit _ 49) (by decide)).mono ?_; rintro x7 w7 ⟨rfl, t, rfl⟩; have HF := hide (bl_t (unhide HB).2 (((Below.refl _ _).alloc (Nat.le_refl _) (.cells #[.int .u8 49] 5 (1, 2))).trans (bl_drewN _ t |>.mono (by simp))))))
  go_ret
  exact ⟨rfl, unhide HF⟩
end Go.Proofs.Ytokgegbodbnimaa
