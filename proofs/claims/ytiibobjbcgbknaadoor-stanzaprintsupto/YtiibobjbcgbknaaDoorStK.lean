import Derived.Test.YtiibobjbcgbknaaDoorStJ
namespace Go.Proofs.YtiibobjbcgbknaaDoor
open Go.RowKit

theorem key_lit (s : Bs) : WideAt.IsKeyLit (.string s) := trivial
theorem put_names {D : DataW Unit} (hD : Go.Maps.IsMap D) (p : List Fd) (nm t : Bs) (k : Nat) (hk : 0 < k) (h5 : ∀ (s : Bs) (c : Int), D.atKey (.string s) (.lit (.int .i64 0)) = .lit (.int .i64 c) → (0 < c ↔ ∃ f ∈ p, small f.nm = s)) :
    ∀ (s : Bs) (c : Int), (D.put (.string (small nm)) (.lit (.int .i64 k))).atKey (.string s) (.lit (.int .i64 0)) = .lit (.int .i64 c) → (0 < c ↔ ∃ f ∈ p ++ [⟨nm, [t], [k]⟩], small f.nm = s) := by
  intro s c h
  by_cases e : s = small nm
  · subst e
    rw [Go.Maps.atKey_put_same hD (key_lit _)] at h
    have hc : (k : Int) = c := by
      have := DataW.lit.inj h
      exact (Lit.int.inj this).2
    constructor
    · intro _
      exact ⟨⟨nm, [t], [k]⟩, by simp, rfl⟩
    · intro _
      omega
  · rw [Go.Maps.atKey_put_other (by intro h2; exact e (Lit.string.inj h2))] at h
    rw [h5 s c h]
    constructor
    · rintro ⟨f, hf, hs⟩
      exact ⟨f, List.mem_append_left _ hf, hs⟩
    · rintro ⟨f, hf, hs⟩
      rcases List.mem_append.1 hf with hf | hf
      · exact ⟨f, hf, hs⟩
      · obtain rfl : f = _ := by simpa using hf
        exact absurd hs.symm e

theorem begin_any (base B : Nat) (p : List Fd) (k : Nat) (s : Bs) (w : World) (hs2 : s.length ≤ 16777216) (hP : Par base B w p) (hG : Glob w) (hbd : bd 16777216 p) (hk1 : 1 ≤ k) (hk2 : k ≤ 16777217) :
    Calls Tryd.prog 74 #[.pointer (some ⟨B, 0, none⟩), .int .i64 k, .string (ba s)] w fun e w' => e = .returned (.int .i64 (beP p k s).1) ∧ Par base B w' (beP p k s).2 ∧ FB base B w w' := by
  have hbw := hP.hb
  cases hok : (decide (58 ∈ s) && nameL (bef 58 s))
  · have hbe : beP p k s = (31, p) := by unfold beP; rw [hok]; rfl
    rw [hbe]
    refine (begin_bad B k s w hs2 hG hok).mono ?_
    rintro e w' ⟨rfl, hb⟩
    exact ⟨rfl, hP.later hb, FB.of_below hb hbw⟩
  · have hc : 58 ∈ s := by
      have := (Bool.and_eq_true _ _ |>.mp hok).1
      simpa using this
    have hn : nameL (bef 58 s) = true := (Bool.and_eq_true _ _ |>.mp hok).2
    cases ht : hasN p (bef 58 s)
    · have hbe : beP p k s = (0, p ++ [⟨bef 58 s, [Lib.trimS (aft 58 s) bl2], [k]⟩]) := by unfold beP; rw [hok, ht]; rfl
      rw [hbe]
      have hl := bef_le 58 s
      have hl2 := aft_le 58 s
      have hn128 := nm_len hn
      have hd : decide (58 ∈ s) = true := by simp [hc]
      have c1 := cCut s 58 w (by omega) hG
      rw [hd] at c1
      have c2 := fun w => by have := isName_any (ba (bef 58 s)) w (by rw [ba_size]; omega); rw [ba_list, hn] at this; exact this
      have c3 := fun w => by have := smallLetters_any (ba (bef 58 s)) w (by rw [ba_size]; omega); rw [ba_list] at this; exact this
      have c4 := fun w => cTrim (aft 58 s) w (by omega)
      have hkey : keyOf Tryd.prog 9 (.string (ba (small (bef 58 s)))) = some (.string (small (bef 58 s))) := by
        have := WideMaps.keyOf_string_mk (P := Tryd.prog) Tryd.underlying9 (s := ba (small (bef 58 s))) (by rw [ba_size, small_len]; unfold maxLen; omega)
        rw [ba_list] at this
        exact this
      have hno : ¬ ∃ f ∈ p, small f.nm = small (bef 58 s) := fun h => by
        have := (hasN_iff p (bef 58 s)).2 h
        rw [ht] at this
        cases this
      obtain ⟨v, mv, xs, hBx, hxs, hpf, hmp⟩ := hP.sh
      have hxl : xs.length = p.length := by rw [← hxs]; simp
      have hpl := hbd.1
      rcases hmp with ⟨rfl, hp0⟩ | ⟨b, m, D, rfl, h2, h3, h4, h5⟩
      · have hlook : ∀ W, (Instr.lookup 74 (.map none) (.string (ba (small (bef 58 s)))) false).run Tryd.prog W = .ok (.int .i64 0) W := fun W => by
          have := Maps.look_nil (w := W) false key9 Tryd.underlying74 (Tryd.zeroValue3 W) hkey
          simpa using this
        refine (begin_walkN base B xs.length k v (xs.flatMap cells3) (ba s) (ba (bef 58 s)) (ba (aft 58 s)) (ba (small (bef 58 s))) (ba (Lib.trimS (aft 58 s) bl2)) (small (bef 58 s)) w c1 c2 c3 c4 hkey hk2 (by omega) hbw hP.hB hBx hpf.row hlook).mono ?_
        rintro e w8 ⟨rfl, w3, w5, W, w7, v7, lg, ag, b3, g5, o5, two, g7, o7, rfl⟩
        have z3 := b3.size
        have zs : ((w3.alloc (.map #[] 0)).setCell ⟨B, 1, none⟩ (.map (some w3.heap.size))).heap.size = w3.heap.size + 1 := by rw [set_size, World.size_alloc]
        have hBl : B < w.heap.size := by have := hP.hB; omega
        have hX : ((w3.alloc (.map #[] 0)).setCell ⟨B, 1, none⟩ (.map (some w3.heap.size))).heap[B]? = some (.cells #[v, .map (some w3.heap.size)] 76 (0, 0)) := set_blk ((Below.heap_alloc w3 _ B (by omega)).trans ((b3.block B hBl).trans hBx)) 1 _
        refine ⟨rfl, begin_par base B w3.heap.size 1 v v7 (.map none) xs p (bef 58 s) (Lib.trimS (aft 58 s) bl2) k lg ag _ w w3 w5 W w7 hP.hB hbw hBx hxs hpf b3 ((g5.block B (by rw [zs]; omega) (by intro e; have := Option.some.inj e; omega)).trans hX) ((Env.al _ _).trans ((Env.set _ _ _).trans (Env.grown g5))) (by have := g5.size; omega) ?_ o5 (by omega) ?_ (by omega) (put_names Go.Maps.isMap_empty p (bef 58 s) _ k (by omega) ?_) two.bel two.l two.a o7 g7⟩
        · intro i hi h1 h2
          exact (g5.block i (by rw [zs]; omega) (by intro e; exact h2 (Option.some.inj e))).trans ((set_other _ _ _ _ _ h1).trans (Below.heap_alloc w3 _ i hi))
        · intro c t fr h
          rw [Array.getElem?_eq_none (Nat.le_refl _)] at h
          cases h
        · intro s c h
          subst hp0
          have : (DataW.lit (H := Unit) (.int .i64 0)) = .lit (.int .i64 c) := h
          have hc0 : (0 : Int) = c := (Lit.int.inj (DataW.lit.inj this)).2
          subst hc0
          simp
      · obtain ⟨es, cl, hmb⟩ := ownsMap_blk h3
        have hlook : ∀ W, Below w.heap.size w W → ∃ c : Int, (Instr.lookup 74 (.map (some b)) (.string (ba (small (bef 58 s)))) false).run Tryd.prog W = .ok (.int .i64 c) W ∧ c ≤ 0 := fun W hb => by
          obtain ⟨c, hr, hi⟩ := look_mp (base := base) (W := W) (mv := .map (some b)) (p := p) (.inr ⟨b, m, D, rfl, h2, ownsMap_same h3 (hb.block b (Array.getElem?_eq_some_iff.1 hmb).1), h4, h5⟩) (small (bef 58 s)) (by rw [small_len]; exact hn128)
          refine ⟨c, hr, ?_⟩
          have : ¬ 0 < c := fun h => hno (hi.1 h)
          omega
        refine (begin_walkS base B b m xs.length k v (xs.flatMap cells3) D (ba s) (ba (bef 58 s)) (ba (aft 58 s)) (ba (small (bef 58 s))) (ba (Lib.trimS (aft 58 s) bl2)) (small (bef 58 s)) w c1 c2 c3 c4 hkey hk2 (by omega) (by omega) hbw hP.hB hBx hpf.row h3 hlook).mono ?_
        rintro e w8 ⟨rfl, w3, w5, W, w7, v7, lg, ag, b3, g5, o5, two, g7, o7, rfl⟩
        have z3 := b3.size
        have hBl : B < w.heap.size := by have := hP.hB; omega
        have hneB : B ≠ b := fun e => by rw [e, hmb] at hBx; cases hBx
        have hmD : Go.Maps.IsMap D := by
          obtain ⟨_, _, _, _, _, rfl⟩ := h3
          exact ⟨_, rfl⟩
        refine ⟨rfl, begin_par base B b (m + 1) v v7 (.map (some b)) xs p (bef 58 s) (Lib.trimS (aft 58 s) bl2) k lg ag _ w w3 w5 W w7 hP.hB hbw hBx hxs hpf b3 ((g5.block B (by omega) (by intro e; exact hneB (Option.some.inj e))).trans ((b3.block B hBl).trans hBx)) (Env.grown g5) g5.size ?_ o5 h2 ?_ (by omega) (put_names hmD p (bef 58 s) _ k (by omega) h5) two.bel two.l two.a o7 g7⟩
        · intro i hi h1 h2
          exact g5.block i hi (by intro e; exact h2 (Option.some.inj e))
        · intro c t fr h
          rw [b3.block b (Array.getElem?_eq_some_iff.1 hmb).1, hmb] at h
          cases h
    · have hbe : beP p k s = (33, p) := by unfold beP; rw [hok, ht]; rfl
      rw [hbe]
      refine (begin_twice base B p k s w hs2 hP hG hc hn ht).mono ?_
      rintro e w' ⟨rfl, hb⟩
      exact ⟨rfl, hP.later hb, FB.of_below hb hbw⟩

end Go.Proofs.YtiibobjbcgbknaaDoor
