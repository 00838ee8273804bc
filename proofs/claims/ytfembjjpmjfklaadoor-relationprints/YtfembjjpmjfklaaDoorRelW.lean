import Derived.Test.YtfembjjpmjfklaaDoorRelP
import Derived.Test.YtfembjjpmjfklaaDoorIdxA
import Derived.Deep.DeepFit
namespace Go.Proofs.YtfembjjpmjfklaaDoor
open Go.RowKit

theorem cTrimB (s : ByteArray) (w : World) (hs : s.size ≤ 9223372036854775807) :
    Calls Tryd.prog 49 #[.string s, .string ⟨#[32, 9, 10]⟩] w fun e w' => e = .returned (.string (trimB s)) ∧ Below w.heap.size w w' :=
  Any.strings_Trim_laid Tryd.lays160 (by kernel_rfl) s ⟨#[32, 9, 10]⟩ w hs (by decide) (ascR_of_mem (by decide))
theorem cTrimL (s : ByteArray) (w : World) :
    Calls Tryd.prog 77 #[.string s, .string ⟨#[32, 9, 10]⟩] w fun e w' => e = .returned (.string (trimL s)) ∧ Below w.heap.size w w' :=
  Any.strings_TrimLeft_laid Tryd.lays161 (by kernel_rfl) s ⟨#[32, 9, 10]⟩ w (by decide) (ascR_of_mem (by decide))
theorem cTrimO (s : ByteArray) (w : World) :
    Calls Tryd.prog 77 #[.string s, .string ⟨#[60, 61, 62]⟩] w fun e w' => e = .returned (.string (trimO s)) ∧ Below w.heap.size w w' :=
  Any.strings_TrimLeft_laid Tryd.lays161 (by kernel_rfl) s ⟨#[60, 61, 62]⟩ w (by decide) (ascR_of_mem (by decide))
theorem cIdx (s : ByteArray) (w : World) (hs : s.size < 4294967281) (_ : asc s) :
    Calls Tryd.prog 76 #[.string s, .string ⟨#[32, 9, 10, 40]⟩] w fun e w' => e = .returned (.int .i64 (idxN s)) ∧ Below w.heap.size w w' :=
  indexAny_all s ⟨#[32, 9, 10, 40]⟩ w hs (by decide) (by decide) (ascR_of_mem (by decide))
theorem cAny (s : ByteArray) (w : World) (hs : s.size < 4294967281) (_ : asc s) :
    Calls Tryd.prog 111 #[.string s, .string ⟨#[40, 41]⟩] w fun e w' => e = .returned (.bool (anyP s)) ∧ Below w.heap.size w w' :=
  containsAny_all s ⟨#[40, 41]⟩ w hs (by decide) (by decide) (ascR_of_mem (by decide))
theorem cPre (s : ByteArray) (w : World) :
    Calls Tryd.prog 109 #[.string s, .string ⟨#[40]⟩] w fun e w' => e = .returned (.tuple #[.string (preP s), .bool (hasP s)]) ∧ w' = w :=
  Any.strings_CutPrefix Tryd.lays103 s ⟨#[40]⟩ w
theorem cSuf (s : ByteArray) (w : World) (hs : s.size ≤ 9223372036854775807) :
    Calls Tryd.prog 110 #[.string s, .string ⟨#[41]⟩] w fun e w' => e = .returned (.tuple #[.string (sufP s), .bool (hasS s)]) ∧ w' = w :=
  Any.strings_CutSuffix Tryd.lays104 s ⟨#[41]⟩ w hs

theorem bl_d {w w1 w2 : World} (h : Below w.heap.size w w1) (h2 : Below w1.drew.heap.size w1.drew w2) : Below w.heap.size w w2 := (h.drew).trans (h2.mono h.drew.size)
theorem bl_t {w w1 w2 : World} (h : Below w.heap.size w w1) (h2 : Below w1.heap.size w1 w2) : Below w.heap.size w w2 := h.trans (h2.mono h.size)

set_option maxHeartbeats 2000000 in
theorem cutName_any (s : ByteArray) (w : World) (hs : s.size < 4294967281) (ha : asc s) :
    Calls Tryd.prog 48 #[.string s] w fun e w' => e = .returned (.tuple #[.string (cutN s).1, .string (cutN s).2]) ∧ Below w.heap.size w w' := by
  have c1 := hide (fun w => cIdx s w hs ha)
  have hlt := idxN_lt s
  by_cases h : idxN s < 0
  · have HF := hide (show cutN s = (s, nob) by unfold cutN; rw [if_pos h])
    generalize idxN s = z at *
    clear hs ha hlt
    go_enter Tryd.func48, Tryd.ntmps48
    go_wp2_with (go_at_call 76; refine (unhide c1 _).mono ?_; rintro e w1 ⟨rfl, hb1⟩)
    go_ret2
    exact ⟨by rw [unhide HF]; rfl, hb1⟩
  · obtain ⟨k, hk⟩ : ∃ k : Nat, idxN s = k := ⟨(idxN s).toNat, by omega⟩
    have HF := hide (show cutN s = (s.extract 0 k, trimL (s.extract k s.size)) by unfold cutN; rw [if_neg h, hk]; rfl)
    rw [hk] at c1 hlt
    have c2 := hide (fun w => cTrimL (s.extract k s.size) w)
    have hks : k < s.size := by omega
    clear hs ha hlt h hk
    go_enter Tryd.func48, Tryd.ntmps48
    go_wp2_with (first | (go_at_call 76; refine (unhide c1 _).mono ?_; rintro e w1 ⟨rfl, hb1⟩))
    have HB1 := hide hb1
    clear hb1
    go_region_with (first | (go_at_call 77; refine (unhide c2 _).mono ?_; rintro x w2 ⟨rfl, hb2⟩))
    all_goals
      have HB2 := hide (bl_d (unhide HB1) hb2)
      clear hb2
      go_wp2_with fail
      go_ret2
      first | exact ⟨by rw [unhide HF]; rfl, unhide HB2⟩ | exact ⟨by rw [unhide HF]; rfl, (unhide HB2).drew⟩


theorem ret_s2 {a b c d : ByteArray} (h1 : a = c) (h2 : b = d) : Ending.returned (.tuple #[.string a, .string b]) = .returned (.tuple #[.string c, .string d]) := by rw [h1, h2]

set_option maxHeartbeats 2000000 in
theorem cutBrackets_any (s : ByteArray) (w : World) (hs : s.size < 4294967281) (ha : asc s) :
    Calls Tryd.prog 87 #[.string s] w fun e w' => e = .returned (.tuple #[.string (cutB s).1, .bool (cutB s).2]) ∧ Below w.heap.size w w' := by
  have z1 := preP_size s
  have z2 := sufP_size (preP s)
  have c1 := hide (fun w => cPre s w)
  have c2 := hide (fun w => cSuf (preP s) w (by omega))
  have c3 := hide (fun w => cAny (sufP (preP s)) w (by omega) (asc_sufP (asc_preP ha)))
  have c4 := hide (fun w => cTrimB (sufP (preP s)) w (by omega))
  have HF := hide (show cutB s = if hasP s = false ∨ hasS (preP s) = false ∨ anyP (sufP (preP s)) = true then (nob, false) else (trimB (sufP (preP s)), true) from rfl)
  generalize trimB (sufP (preP s)) = r at *
  generalize anyP (sufP (preP s)) = b3 at *
  generalize hasS (preP s) = b2 at *
  generalize sufP (preP s) = s2 at *
  generalize preP s = s1 at *
  generalize hasP s = b1 at *
  clear hs ha z1 z2
  cases b1
  · have HG := hide (show cutB s = (nob, false) by rw [unhide HF, if_pos (Or.inl rfl)])
    go_enter Tryd.func87, Tryd.ntmps87
    go_wp2_with (first | (go_at_call 109; refine (unhide c1 _).mono ?_; rintro e w1 ⟨rfl, rfl⟩) | (go_at_call 110; refine (unhide c2 _).mono ?_; rintro e w1 ⟨rfl, rfl⟩))
    go_ret2
    exact ⟨by rw [unhide HG]; rfl, Below.refl _ _⟩
  · cases b2
    · have HG := hide (show cutB s = (nob, false) by rw [unhide HF, if_pos (Or.inr (Or.inl rfl))])
      go_enter Tryd.func87, Tryd.ntmps87
      go_wp2_with (first | (go_at_call 109; refine (unhide c1 _).mono ?_; rintro e w1 ⟨rfl, rfl⟩) | (go_at_call 110; refine (unhide c2 _).mono ?_; rintro e w1 ⟨rfl, rfl⟩))
      go_ret2
      exact ⟨by rw [unhide HG]; rfl, Below.refl _ _⟩
    · cases b3
      · have HG := hide (show cutB s = (r, true) by rw [unhide HF, if_neg (by simp)])
        go_enter Tryd.func87, Tryd.ntmps87
        go_wp2_with (first | (go_at_call 109; refine (unhide c1 _).mono ?_; rintro e w1 ⟨rfl, rfl⟩) | (go_at_call 110; refine (unhide c2 _).mono ?_; rintro e w1 ⟨rfl, rfl⟩) | (go_at_call 111; refine (unhide c3 _).mono ?_; rintro e w3 ⟨rfl, hb3⟩; have HB3 := hide hb3; clear hb3) | (go_at_call 49; refine (unhide c4 _).mono ?_; rintro e w4 ⟨rfl, hb4⟩; have HB4 := hide hb4; clear hb4))
        go_ret2
        exact ⟨by rw [unhide HG]; rfl, bl_t (unhide HB3) (unhide HB4)⟩
      · have HG := hide (show cutB s = (nob, false) by rw [unhide HF, if_pos (Or.inr (Or.inr rfl))])
        go_enter Tryd.func87, Tryd.ntmps87
        go_wp2_with (first | (go_at_call 109; refine (unhide c1 _).mono ?_; rintro e w1 ⟨rfl, rfl⟩) | (go_at_call 110; refine (unhide c2 _).mono ?_; rintro e w1 ⟨rfl, rfl⟩) | (go_at_call 111; refine (unhide c3 _).mono ?_; rintro e w3 ⟨rfl, hb3⟩; have HB3 := hide hb3; clear hb3))
        go_ret2
        exact ⟨by rw [unhide HG]; rfl, unhide HB3⟩

end Go.Proofs.YtfembjjpmjfklaaDoor
