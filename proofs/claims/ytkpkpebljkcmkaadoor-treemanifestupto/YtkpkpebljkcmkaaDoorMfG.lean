import Derived.Test.YtkpkpebljkcmkaaDoorMfF
import Derived.Lib.BufferMore
namespace Go.Proofs.YtkpkpebljkcmkaaDoor
open Go.RowKit

set_option maxRecDepth 100000 in
/-- FILES COPIED. -/
theorem clone_any {w : World} {lo : Nat} {v : Value} {L : List (List Value)} (h : w.ownsRow lo 40 34 v L.length L.flatten) (ok : ∀ r ∈ L, isT 40 34 r) (hl : L.length ≤ 1048576) :
    Calls Tryd.prog 28 #[v] w fun e w' => ∃ v', e = .returned v' ∧ w'.ownsRow w.heap.size 40 34 v' L.length L.flatten ∧ Below w.heap.size w w' := by
  rcases h.2 with ⟨e0, h0⟩ | ⟨g, cap, cur, e1, hlo, hh, _⟩
  · have e : L = [] := List.length_eq_zero_iff.1 h0
    subst e
    subst e0
    have hnil : ∀ w, (binOp .eql 24 (.slice none 0 0) (.slice none 0 0)).run Tryd.prog w = .ok (.bool true) w := fun w => run_eql_nil_slice w 24 40 none 0 0 0 0 Tryd.underlying24
    go_enter Tryd.func28, Tryd.ntmps28
    go_wp2_with fail
    go_ret
    exact ⟨_, rfl, World.ownsRow_nil _ _ _ _, Below.refl _ _⟩
  · obtain ⟨zF, TF⟩ := tyF
    obtain ⟨i0, hi0, hz0, hz1, hz2⟩ := info_parts2 TF.inf
    have hR := own_rws2 ok h
    obtain ⟨N, hN⟩ : ∃ N, L.length = N := ⟨_, rfl⟩
    rw [e1] at hR
    obtain ⟨v1, W1, a1, a2, a3, _⟩ := app1 (P := Tryd.prog) 24 24 40 i0 zF 34 56 TF.und hi0 hz0 hz1 hz2 TF.zs TF.pos L.length L.flatten (flat_len ok) (flat_one ok) (by omega) (by unfold maxLen; omega) (some ⟨g, 0, none⟩) cap w hR.src
    have HO := hide (And.intro a2 a3)
    rw [hN] at a1 e1
    rw [e1]
    have hnil : ∀ w, (binOp .eql 24 (.slice (some ⟨g, 0, none⟩) N cap) (.slice none 0 0)).run Tryd.prog w = .ok (.bool false) w := fun w => Go.Lib.run_eql_slice_some_nil w ⟨g, 0, none⟩ N cap Tryd.underlying24
    clear h hh hR hz0 a2 a3 e1
    go_enter Tryd.func28, Tryd.ntmps28
    go_wp2_with (at_builtin; refine wpList_append_run rfl _ _ 24 rfl _ _ rfl rfl a1 ?_; clear a1)
    go_ret
    exact ⟨_, rfl, (unhide HO).1, (unhide HO).2⟩
/-- WHAT IS ANSWERED. -/
def MnA (w : World) (L : List (List Value)) (e : Ending) (w' : World) : Prop := ∃ er M v', Mn L er M ∧ e = .returned (.tuple #[v', .int .i64 er]) ∧ w'.ownsRow w.heap.size 40 34 v' M.length M.flatten ∧ Below w.heap.size w w'
theorem mna {w w' : World} {L M : List (List Value)} {er : Int} {v' : Value} {e : Ending} (h1 : Mn L er M) (h2 : e = .returned (.tuple #[v', .int .i64 er])) (h3 : w'.ownsRow w.heap.size 40 34 v' M.length M.flatten) (h4 : Below w.heap.size w w') : MnA w L e w' := ⟨er, M, v', h1, h2, h3, h4⟩
theorem up_of : ∀ {M : List (List Value)}, (M.Pairwise fun x y => ¬ ltR y x) → (∀ j (h : j + 1 < M.length), pth (M[j]'(by omega)) ≠ pth M[j + 1]) → Up M
  | [], _, _ => List.Pairwise.nil
  | [x], _, _ => List.pairwise_singleton _ _
  | x :: y :: l, hp, hn => by
    have h1 := List.pairwise_cons.1 hp
    have hu : Up (y :: l) := up_of h1.2 fun j h => hn (j + 1) (by simp at h ⊢; omega)
    have hxy : ltR x y := lt_tri (h1.1 y List.mem_cons_self) fun e => hn 0 (by simp) e.symm
    refine List.pairwise_cons.2 ⟨fun z hz => ?_, hu⟩
    rcases List.mem_cons.1 hz with rfl | hz
    · exact hxy
    · exact lt_tr hxy ((List.pairwise_cons.1 hu).1 z hz)
theorem not_nodup {M : List (List Value)} {j : Nat} (h : j + 1 < M.length) (e : pth (M[j]'(by omega)) = pth M[j + 1]) : ¬ (M.map pth).Nodup := fun hn => by
  have := List.pairwise_iff_getElem.1 hn j (j + 1) (by simp; omega) (by simp; omega) (by omega)
  simp at this
  exact this e
set_option maxRecDepth 100000 in
set_option maxHeartbeats 4000000 in
theorem rising_any {w : World} {lo : Nat} {v : Value} {L : List (List Value)} (h : w.ownsRow lo 40 34 v L.length L.flatten) (ok : ∀ r ∈ L, isT 40 34 r) (hl : L.length ≤ 1048576) (hck : ∀ r ∈ L, chk (pth r) = 0) :
    Calls Tryd.prog 16 #[v] w fun e w' => MnA w L e w' := by
  obtain ⟨LT, hLT⟩ := raw_ex ok
  subst hLT
  have CL := hide (clone_any h ok hl)
  have hlt : LT.length ≤ 1048576 := by rw [rawL_len] at hl; exact hl
  have HSO := hide (fun (X : World) (u : Value) (hX : X.ownsRow w.heap.size 40 34 u (rawL LT).length (rawL LT).flatten) (hY : Below w.heap.size w X) => sortR_own (W := w) hlt (by rw [rawL_len] at hX; exact hX) hY)
  have HCK := hide hck
  clear h ok hck
  go_enter Tryd.func16, Tryd.ntmps16
  go_wp2_with (first
    | (go_at_call 28; refine (unhide CL).mono ?_; rintro e w1 ⟨v1, rfl, ho, hb⟩; have HS := hide (unhide HSO w1 v1 ho hb); clear ho hb CL)
    | (go_at_call 29; refine (unhide HS).mono ?_; rintro e w2 ⟨rfl, LT2, hperm, hpw, ho, hb⟩; have HP := hide hperm; have HW := hide hpw; have HO := hide ho; have HB := hide hb; clear hperm hpw ho hb HS))
  have hpm : (rawL LT2).Perm (rawL LT) := (unhide HP).map _
  have hpw2 : (rawL LT2).Pairwise fun x y => ¬ ltR y x := List.pairwise_map.2 (unhide HW)
  have hro : w2.ownsRow w.heap.size 40 34 v1 (rawL LT2).length (rawL LT2).flatten := by rw [rawL_len]; exact unhide HO
  have hok2 := rawL_ok LT2
  generalize rawL LT2 = M at *
  have hML : M.length ≤ 1048576 := by rw [hpm.length_eq]; exact hl
  have hRw := own_rws2 hok2 hro
  obtain ⟨a, c, rfl⟩ := owns_form hro
  have HC := hide (show ∀ k (hk : k < M.length), ∃ b o, a = some ⟨b, o, none⟩ ∧ ∀ n, (w2.drewN n).cell? ⟨b, o + k * 34, none⟩ = some (.string (pth M[k])) from fun k hk => by
    obtain ⟨b, o, e, hb2, hokk, hr⟩ := hRw.at hk
    obtain ⟨s, hs0, hsp, _⟩ := hokk.path2
    refine ⟨b, o, e, fun n => ?_⟩
    have := hr 0 _ hs0
    rw [Nat.add_zero] at this
    rw [hsp]
    exact this)
  have HRO := hide hro
  have HPM := hide hpm
  have HPW := hide hpw2
  obtain ⟨N, hN⟩ : ∃ N, M.length = N := ⟨_, rfl⟩
  have HN := hide hN
  rw [hN] at hML ⊢
  clear hro hpm hpw2 hRw hok2 hN HP HW HO HSO hlt
  go_wp2_with fail
  go_loopg [4] N (fun gq iv wr => ∃ k n : Nat, iv = .int .i64 ((k : Int) + 1) ∧ k ≤ N ∧ N - k ≤ gq ∧ wr = w2.drewN n ∧ Hid (∀ j (h : j + 1 < M.length), j < k → pth (M[j]'(by omega)) ≠ pth M[j + 1]))
  case atStart => exact ⟨0, 0, by go_num, by omega, by omega, rfl, hide fun j _ h => absurd h (Nat.not_lt_zero _)⟩
  case round =>
    obtain ⟨k, n, rfl, hk, hg, rfl, HJ⟩ := hrel
    by_cases hlt : k + 1 < N
    · have hin : (k : Int) + 1 < (N : Int) := by omega
      have hkN : (k : Int) < (N : Int) := by omega
      have hk0 : (0 : Int) ≤ (k : Int) + 1 := by omega
      have hw1 : IntKind.i64.wrap ((k : Int) + 1 + 1) = (k : Int) + 1 + 1 := IntWalk.i64_in _ (by omega)
      have hws : IntKind.i64.wrap ((k : Int) + 1 - 1) = (k : Int) := by rw [Int.add_sub_cancel]; exact IntWalk.i64_in _ (by omega)
      have hwk : IntKind.i64.wrap (k : Int) = (k : Int) := IntWalk.i64_in _ (by omega)
      have hkl : k + 1 < M.length := by have := unhide HN; omega
      obtain ⟨b, o, rfl, h1⟩ := unhide HC k (by omega)
      obtain ⟨b', o', e', h2⟩ := unhide HC (k + 1) hkl
      cases e'
      have HX := hide (show pth (M[k]'(by omega)) = pth M[k + 1] → ¬ (M.map pth).Nodup from fun e => not_nodup hkl e)
      have HJ2 := hide (show pth (M[k]'(by omega)) ≠ pth M[k + 1] → ∀ j (h : j + 1 < M.length), j < k + 1 → pth (M[j]'(by omega)) ≠ pth M[j + 1] from fun hn j h hj => by
        by_cases e : j = k
        · subst e; exact hn
        · exact unhide HJ j h (by omega))
      generalize pth (M[k]'(by omega)) = p1 at *
      generalize pth M[k + 1] = p2 at *
      have c1 := h1 n
      have c2 := h2 n
      clear h1 h2 HJ
      have HQ := hide (show ∀ m, Below w.heap.size w ((w2.drewN n).drewN m) from fun m => bl_t (bl_t (unhide HB) (bl_drewN w2 n)) (bl_drewN _ m))
      obtain ⟨X, hX⟩ : ∃ X, X = w2.drewN n := ⟨_, rfl⟩
      rw [← hX] at c1 c2 HQ ⊢
      have HXE := hide hX
      clear hX
      by_cases e : p1 = p2
      · subst e
        have q0 := bx_eq p1
        go_upto_region 6 with fail
        go_quiet (fail)
        clear c1 c2
        go_wp2_with fail
        go_ret2
        have hno : ¬ ((rawL LT).map pth).Nodup := fun q => unhide HX (by first | rfl | trivial) ((((unhide HPM).map pth).nodup_iff).2 q)
        exact mna (.twice (unhide HCK) hno) rfl (World.ownsRow_nil _ _ _ _) (unhide HQ nq)
      · have q0 : (ByteArray.toList p1 == ByteArray.toList p2) = false := by rw [ba_if, decide_eq_false e]
        have HJ3 := hide (unhide HJ2 e)
        go_upto_region 6 with fail
        go_quiet (fail)
        clear c1 c2 HJ2 HX
        have HD := hide (show X.drewN nq = w2.drewN (n + nq) from by rw [unhide HXE]; exact World.drewN_drewN _ _ _)
        go_wp2_with fail
        go_roundg (N - (k + 1))
        case measure => omega
        case rel => exact ⟨k + 1, n + nq, by go_num, by omega, by omega, unhide HD, HJ3⟩
    · have hge : ¬ (k : Int) + 1 < (N : Int) := by omega
      have HUP := hide (up_of (unhide HPW) fun j h => unhide HJ j h (by have := unhide HN; omega))
      have HZ := hide (show (w2.drewN n).ownsRow w.heap.size 40 34 (.slice a N c) M.length M.flatten from by have := own_low (unhide HRO) (bl_drewN w2 n); rw [unhide HN] at this ⊢; exact this)
      have HBB := hide (bl_t (unhide HB) (bl_drewN w2 n))
      have HM := hide (show Mn (rawL LT) 0 M from Mn.good M (unhide HCK) (unhide HPM) (unhide HUP))
      clear HJ HC
      go_wp2_with fail
      go_ret2
      exact mna (unhide HM) rfl (unhide HZ) (unhide HBB)
end Go.Proofs.YtkpkpebljkcmkaaDoor
