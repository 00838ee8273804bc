import Derived.Test.YtiibobjbcgbknaaDoorStF
import Derived.Maps.OwnSet
import Derived.Maps.Views
namespace Go.Proofs.YtiibobjbcgbknaaDoor
open Go.RowKit

/-- WHAT COMES LATER, WITH NOTHING TURNED BELOW w's END. -/
theorem PF.later {base : Nat} {W W' : World} {v : Value} {xs : List Fs} (h : PF base W v xs) (hb : Below W.heap.size W W') : PF base W' v xs :=
  h.k3 fun k _ _ _ hk => hb.block k (Array.getElem?_eq_some_iff.1 hk).1
theorem Par.later {base B : Nat} {W W' : World} {p : List Fd} (h : Par base B W p) (hb : Below W.heap.size W W') : Par base B W' p := by
  obtain ⟨v, mv, xs, h1, h2, h3, h4⟩ := h.sh
  exact ⟨⟨v, mv, xs, (hb.block B (Array.getElem?_eq_some_iff.1 h1).1).trans h1, h2, h3.later hb, Mp.same h4 rfl fun b es c hk => hb.block b (Array.getElem?_eq_some_iff.1 hk).1⟩, h.hB, Nat.le_trans h.hb hb.size⟩

theorem nm_len {n : Bs} (h : nameL n = true) : n.length ≤ 128 := by
  cases n with
  | nil => simp
  | cons b r =>
    unfold nameL at h
    simp at h
    simp
    omega

set_option maxRecDepth 100000 in
set_option maxHeartbeats 2000000 in
theorem begin_bad (B : Nat) (k : Nat) (s : Bs) (w : World) (hs2 : s.length ≤ 16777216) (hG : Glob w) (hbad : (decide (58 ∈ s) && nameL (bef 58 s)) = false) :
    Calls Tryd.prog 74 #[.pointer (some ⟨B, 0, none⟩), .int .i64 k, .string (ba s)] w fun e w' => e = .returned (.int .i64 31) ∧ Below w.heap.size w w' := by
  have c1 := hide (cCut s 58 w (by omega) hG)
  have hl := bef_le 58 s
  have c2 := hide (fun w => by have := isName_any (ba (bef 58 s)) w (by rw [ba_size]; omega); rw [ba_list] at this; exact this)
  by_cases h : 58 ∈ s
  · have hn : nameL (bef 58 s) = false := by simpa [h] using hbad
    have hd : decide (58 ∈ s) = true := by simp [h]
    rw [hn] at c2
    rw [hd] at c1
    generalize ba s = sb at *
    generalize ba (bef 58 s) = nb at *
    generalize ba (aft 58 s) = vb at *
    clear h hbad hd hn hl hs2 hG
    go_enter Tryd.func74, Tryd.ntmps74
    go_wp2_with (first | (go_at_call 71; refine (unhide c1).mono ?_; rintro e w1 ⟨rfl, hb1⟩) | (go_at_call 46; refine (unhide c2 _).mono ?_; rintro e w2 ⟨rfl, rfl⟩))
    go_ret
    exact ⟨rfl, hb1⟩
  · have hd : decide (58 ∈ s) = false := by simp [h]
    rw [hd] at c1
    generalize ba s = sb at *
    generalize ba (bef 58 s) = nb at *
    generalize ba (aft 58 s) = vb at *
    clear h hbad hd hl hs2 hG
    go_enter Tryd.func74, Tryd.ntmps74
    go_wp2_with (first | (go_at_call 71; refine (unhide c1).mono ?_; rintro e w1 ⟨rfl, hb1⟩))
    go_ret
    exact ⟨rfl, hb1⟩

theorem key9 : Maps.Keyed Tryd.prog 9 := Maps.string_keyed Tryd.underlying9
/-- THE NAME ASKED OF THE MAP. -/
theorem look_mp {base : Nat} {W : World} {mv : Value} {p : List Fd} (h : Mp base W mv p) (n : Bs) (hn : n.length ≤ 128) : ∃ c : Int, (Instr.lookup 74 mv (.string (ba n)) false).run Tryd.prog W = .ok (.int .i64 c) W ∧ (0 < c ↔ ∃ f ∈ p, small f.nm = n) := by
  have hk : keyOf Tryd.prog 9 (.string (ba n)) = some (.string n) := by
    have := WideMaps.keyOf_string_mk (P := Tryd.prog) Tryd.underlying9 (s := ba n) (by rw [ba_size]; unfold maxLen; omega)
    rw [ba_list] at this
    exact this
  rcases h with ⟨rfl, rfl⟩ | ⟨b, m, D, rfl, h2, h3, h4, h5⟩
  · have := Maps.look_nil (w := W) false key9 Tryd.underlying74 (Tryd.zeroValue3 W) hk
    exact ⟨0, by simpa using this, by simp⟩
  · obtain ⟨c, hrun, hat, _⟩ := h3.lookup_int key9 Tryd.underlying74 Tryd.underlying3 (Tryd.zeroValue3 W) hk
    exact ⟨c, hrun, h5 n c hat⟩

theorem small_len (n : Bs) : (small n).length = n.length := by simp [small]
theorem hasN_iff (p : List Fd) (n : Bs) : hasN p n = true ↔ ∃ f ∈ p, small f.nm = small n := by simp [hasN]

set_option maxRecDepth 100000 in
set_option maxHeartbeats 2000000 in
theorem begin_twice (base B : Nat) (p : List Fd) (k : Nat) (s : Bs) (w : World) (hs2 : s.length ≤ 16777216) (hP : Par base B w p) (hG : Glob w) (hc : 58 ∈ s) (hn : nameL (bef 58 s) = true) (ht : hasN p (bef 58 s) = true) :
    Calls Tryd.prog 74 #[.pointer (some ⟨B, 0, none⟩), .int .i64 k, .string (ba s)] w fun e w' => e = .returned (.int .i64 33) ∧ Below w.heap.size w w' := by
  have c1 := hide (cCut s 58 w (by omega) hG)
  have hl := bef_le 58 s
  have hn128 := nm_len hn
  have c2 := hide (fun w => by have := isName_any (ba (bef 58 s)) w (by rw [ba_size]; omega); rw [ba_list, hn] at this; exact this)
  have c3 := hide (fun w => by have := smallLetters_any (ba (bef 58 s)) w (by rw [ba_size]; omega); rw [ba_list] at this; exact this)
  have hd : decide (58 ∈ s) = true := by simp [hc]
  have ht2 := (hasN_iff p (bef 58 s)).1 ht
  rw [hd] at c1
  have hsm : (small (bef 58 s)).length ≤ 128 := by rw [small_len]; exact hn128
  have HP := hide (fun (W : World) (hb : Below w.heap.size w W) => hP.later hb)
  have hgo : ∀ W, Below w.heap.size w W → ∃ mv c, W.cell? ⟨B, 1, none⟩ = some mv ∧ (Instr.lookup 74 mv (.string (ba (small (bef 58 s)))) false).run Tryd.prog W = .ok (.int .i64 c) W ∧ 0 < c := fun W hb => by
    obtain ⟨v, mv, xs, h1, h2, h3, h4⟩ := (hP.later hb).sh
    obtain ⟨c, hr, hi⟩ := look_mp h4 (small (bef 58 s)) hsm
    exact ⟨mv, c, by simp [World.cell?, h1], hr, hi.2 ht2⟩
  have HGo := hide hgo
  clear hgo HP
  generalize ba s = sb at *
  generalize ba (bef 58 s) = nb at *
  generalize ba (aft 58 s) = vb at *
  generalize ba (small (bef 58 s)) = kb at *
  clear hc hd hl hs2 hG hn ht hsm ht2 hn128 hP
  go_enter Tryd.func74, Tryd.ntmps74
  go_wp2_with (first | (go_at_call 71; refine (unhide c1).mono ?_; rintro e w1 ⟨rfl, hb1⟩; have HB1 := hide hb1; clear hb1) | (go_at_call 46; refine (unhide c2 _).mono ?_; rintro e w2 ⟨rfl, rfl⟩) | (go_at_call 58; refine (unhide c3 _).mono ?_; rintro e w3 ⟨rfl, hb3⟩; have HB3 := hide (bl_t (unhide HB1) hb3); obtain ⟨mv, c, hcell, hlk, hpos⟩ := unhide HGo w3 (unhide HB3); clear hb3))
  go_ret
  exact ⟨rfl, unhide HB3⟩

end Go.Proofs.YtiibobjbcgbknaaDoor
