import Derived.Test.YtiibobjbcgbknaaDoorStH
namespace Go.Proofs.YtiibobjbcgbknaaDoor
open Go.RowKit
attribute [local go_sem] World.cell?_alloc_some

theorem cells3_newN (w : World) (a b c : Value) (t : TypeId) (N : Nat) (hN : w.heap.size = N) : ∀ j u, [a, b, c][j]? = some u → (w.alloc (.cells #[a, b, c] t)).cell? ((⟨N, 0, none⟩ : Addr).add j) = some u := by
  subst hN
  exact cells3_new w a b c t

set_option maxRecDepth 100000 in
set_option maxHeartbeats 8000000 in
theorem begin_walkS (base B b m n k : Nat) (v : Value) (cs : List Value) (D : DataW Unit) (sb nb vb kb tb : ByteArray) (key : Bs) (w : World)
    (c1 : Calls Tryd.prog 71 #[.string sb, .string ⟨#[58]⟩] w fun e w' => e = .returned (.tuple #[.string nb, .string vb, .bool true]) ∧ Below w.heap.size w w')
    (c2 : ∀ w, Calls Tryd.prog 46 #[.string nb] w fun e w' => e = .returned (.bool true) ∧ w' = w)
    (c3 : ∀ w, Calls Tryd.prog 58 #[.string nb] w fun e w' => e = .returned (.string kb) ∧ Below w.heap.size w w')
    (c4 : ∀ w, Calls Tryd.prog 63 #[.string vb, .string ⟨#[32, 9]⟩] w fun e w' => e = .returned (.string tb) ∧ Below w.heap.size w w')
    (hkey : keyOf Tryd.prog 9 (.string kb) = some (.string key)) (hk : k ≤ 16777217) (hm : m ≤ 16777216) (hn : n ≤ 16777216) (hb : base ≤ w.heap.size) (hB : B < base)
    (hBx : w.heap[B]? = some (.cells #[v, .map (some b)] 76 (0, 0))) (hrow : w.ownsRow base 49 3 v n cs) (hmap : w.ownsMap Tryd.prog 9 (plainElem Tryd.prog 3) b m D)
    (hlook : ∀ W, Below w.heap.size w W → ∃ c : Int, (Instr.lookup 74 (.map (some b)) (.string kb) false).run Tryd.prog W = .ok (.int .i64 c) W ∧ c ≤ 0) :
    Calls Tryd.prog 74 #[.pointer (some ⟨B, 0, none⟩), .int .i64 k, .string sb] w fun e w8 => e = .returned (.int .i64 0) ∧
      ∃ w3 w5 W w7 v7 lg ag, Below w.heap.size w w3 ∧ w3.grownBy w5 (some b) ∧ w5.ownsMap Tryd.prog 9 (plainElem Tryd.prog 3) b (m + 1) (D.put (.string key) (.lit (.int .i64 k))) ∧ Two w5 W tb k lg ag ∧ (W.alloc (.cells #[.string nb, .slice (some ⟨lg, 0, none⟩) 1 1, .slice (some ⟨ag, 0, none⟩) 1 1] 49)).grownBy w7 v.ownBlock ∧ w7.ownsRow base 49 3 v7 (n + 1) (cs ++ [.string nb, .slice (some ⟨lg, 0, none⟩) 1 1, .slice (some ⟨ag, 0, none⟩) 1 1]) ∧ w8 = w7.setCell ⟨B, 0, none⟩ v7 := by
  obtain ⟨i49, hi49, z49a, z49b, z49c⟩ := info_parts info49
  obtain ⟨es0, cl0, hmb⟩ := ownsMap_blk hmap
  have hne : B ≠ b := fun e => by rw [e, hmb] at hBx; cases hBx
  have hltB : B < w.heap.size := by omega
  have hltb : b < w.heap.size := (Array.getElem?_eq_some_iff.1 hmb).1
  have hgb : ∀ g, v.ownBlock = some g → g ≠ b ∧ base ≤ g ∧ g < w.heap.size := fun g hg => by
    obtain ⟨c, h1, h2, h3⟩ := ownsRow_blk hrow hg
    exact ⟨fun e => (by rw [e, hmb] at h1; cases h1), h2, h3⟩
  have HNB := hide (show some B ≠ v.ownBlock from fun e => by have := (hgb B e.symm).2.1; omega)
  have heq : ∀ w, (binOp .eql 74 (.map (some b)) (.map none)).run Tryd.prog w = .ok (.bool false) w := fun w => run_eql_map_nil w 74 9 3 (some b) Tryd.underlying74
  have hwf : (Lit.int .i64 (k : Int)).wf = true := by
    have h0 : IntKind.i64.min = -9223372036854775808 := rfl
    simp [Lit.wf]
    omega
  have c1 := hide c1
  have c2 := hide c2
  have c3 := hide c3
  have c4 := hide c4
  have HL := hide hlook
  have HM := hide hmap
  have HR := hide hrow
  have HG := hide hgb
  clear hlook hmap hrow hgb
  go_enter Tryd.func74, Tryd.ntmps74
  go_wp2_with (first | (go_at_call 71; refine (unhide c1).mono ?_; rintro e w1 ⟨rfl, hb1⟩; have HB1 := hide hb1; clear hb1) | (go_at_call 46; refine (unhide c2 _).mono ?_; rintro e w2 ⟨rfl, rfl⟩) | (go_at_call 58; refine (unhide c3 _).mono ?_; rintro e w3 ⟨rfl, hb3⟩; have HB3 := hide (bl_t (unhide HB1) hb3); obtain ⟨c, hlk, hpos⟩ := unhide HL w3 (unhide HB3); have HX3 := hide (((unhide HB3).block B hltB).trans hBx); have d0 := (cell_blk (unhide HX3) 0).1; have d1 := (cell_blk (unhide HX3) 1).1; have HZ3 := hide (unhide HB3).size; clear hb3) | (at_mapUpdate; go_must (refine wpList_mapUpdate_own _ rfl _ _ _ 74 rfl 9 3 key9 Tryd.underlying74 _ b m D rfl (ownsMap_same (unhide HM) ((unhide HB3).block b hltb)) (by unfold maxLen; omega) _ _ (.string key) rfl rfl hkey _ [] (plainElem_int Tryd.underlying3 hwf) ?_); intro w5 hown5 hgrow5; have HB5 := hide ((hgrow5.block B (by have := unhide HZ3; omega) (by simpa using hne)).trans (unhide HX3)); have HZ5 := hide (show w.heap.size ≤ w5.heap.size from Nat.le_trans (unhide HZ3) hgrow5.size); have HR5 := hide (show w5.ownsRow base 49 3 v n cs from ownsRow_same (unhide HR) fun g _ hg _ => (hgrow5.block g (by have := unhide HZ3; have := (unhide HG g hg).2.2; omega) (by have := (unhide HG g hg).1; simpa using this)).trans ((unhide HB3).block g (unhide HG g hg).2.2)); have HO5 := hide hown5; have HW5 := hide hgrow5; clear hown5 hgrow5))
  have c5 : w5.cell? ⟨B, 0, none⟩ = some v := (cell_blk (unhide HB5) 0).1
  have f5 : w5.frozen? ⟨B, 0, none⟩ = false := (cell_blk (unhide HB5) 0).2
  have hlt5 : B < w5.heap.size := (Array.getElem?_eq_some_iff.1 (unhide HB5)).1
  go_region_law (first | (go_simp; go_at_call 63; refine (unhide c4 _).mono ?_; rintro e w6 ⟨rfl, hb6⟩; first | (have HB6 := hide (show Below w5.heap.size w5 w6 from bl_d (w := w5) (w1 := w5) (Below.refl _ _) hb6); have HZ6 := hide (unhide HB6).size; have c6 := ((unhide HB6).cell (p := ⟨B, 0, none⟩) hlt5).trans c5; have c6a := (fun (o1 o2 o3 : Obj) => ca o3 (ca o2 (ca o1 c6))); clear hb6) | (have HB7 := hide hb6; have HB8 := hide (show Below w5.heap.size w5 w6 from ((Below.refl _ w5).drew.alloc (Nat.le_refl _) _).trans (hb6.mono (by simp))); have HZ6 := hide (unhide HB8).size; have c6 := ((unhide HB8).cell (p := ⟨B, 0, none⟩) hlt5).trans c5; have c6a := (fun (o1 o2 o3 : Obj) => ca o3 (ca o2 (ca o1 c6))); clear hb6)) | (refine step_append_own (by rfl) _ _ 39 (by rfl) base 49 i49 (.agg #[.string ⟨#[]⟩, .slice none 0 0, .slice none 0 0]) 3 64 Tryd.underlying39 hi49 z49a z49b z49c rfl (by decide) v n cs (by rfl) (by first | exact ownsRow_al (ownsRow_bl (unhide HR5) (Two.a1 (k := k) (t := tb) (unhide HB6)).bel) _ | exact ownsRow_al (ownsRow_bl (unhide HR5) (Two.a2 (k := k) (t := tb) (unhide HB6)).bel) _ | exact ownsRow_al (ownsRow_bl (unhide HR5) (Two.a3 (t := tb) (Below.refl _ w5).drew (unhide HB7)).bel) _) _ 1 1 [.string nb, _, _] (by rfl) (by rfl) (by exact cells3_newN _ _ _ _ _ _ (by simp)) (by simp [Value.oneCell']) (by unfold maxLen; omega) (by omega) (by first | (have h9 := unhide HZ6; simp; omega) | (have h9 := unhide HZ5; have h8 := unhide HZ6; simp; omega)) ?_; intro v7 w7 hown7 hgrow7 _; have HT : Hid (∃ W lg ag, Two w5 W tb k lg ag ∧ (W.alloc (.cells #[.string nb, .slice (some ⟨lg, 0, none⟩) 1 1, .slice (some ⟨ag, 0, none⟩) 1 1] 49)).grownBy w7 v.ownBlock ∧ w7.ownsRow base 49 3 v7 (n + 1) (cs ++ [.string nb, .slice (some ⟨lg, 0, none⟩) 1 1, .slice (some ⟨ag, 0, none⟩) 1 1])) := (by first | exact hide ⟨_, _, _, Two.a1 (unhide HB6), hgrow7, hown7⟩ | exact hide ⟨_, _, _, Two.a2 (unhide HB6), hgrow7, hown7⟩ | exact hide ⟨_, _, _, Two.a3 (Below.refl _ w5).drew (unhide HB7), hgrow7, hown7⟩); have e7 : w7.cell? ⟨B, 0, none⟩ = some v := (by first | exact (cell_blk ((hgrow7.block B (by have h9 := unhide HZ6; simp; omega) (unhide HNB)).trans ((Below.heap_alloc _ _ B (by have h9 := unhide HZ6; simp; omega)).trans ((Two.a1 (k := k) (t := tb) (unhide HB6)).bel.block B hlt5) |>.trans (unhide HB5))) 0).1 | exact (cell_blk ((hgrow7.block B (by have h9 := unhide HZ6; simp; omega) (unhide HNB)).trans ((Below.heap_alloc _ _ B (by have h9 := unhide HZ6; simp; omega)).trans ((Two.a2 (k := k) (t := tb) (unhide HB6)).bel.block B hlt5) |>.trans (unhide HB5))) 0).1 | exact (cell_blk ((hgrow7.block B (by have h9 := unhide HZ6; simp; omega) (unhide HNB)).trans ((Below.heap_alloc _ _ B (by have h9 := unhide HZ6; simp; omega)).trans ((Two.a3 (t := tb) (Below.refl _ w5).drew (unhide HB7)).bel.block B hlt5) |>.trans (unhide HB5))) 0).1); have f7 : w7.frozen? ⟨B, 0, none⟩ = false := (by first | exact (cell_blk ((hgrow7.block B (by have h9 := unhide HZ6; simp; omega) (unhide HNB)).trans ((Below.heap_alloc _ _ B (by have h9 := unhide HZ6; simp; omega)).trans ((Two.a1 (k := k) (t := tb) (unhide HB6)).bel.block B hlt5) |>.trans (unhide HB5))) 0).2 | exact (cell_blk ((hgrow7.block B (by have h9 := unhide HZ6; simp; omega) (unhide HNB)).trans ((Below.heap_alloc _ _ B (by have h9 := unhide HZ6; simp; omega)).trans ((Two.a2 (k := k) (t := tb) (unhide HB6)).bel.block B hlt5) |>.trans (unhide HB5))) 0).2 | exact (cell_blk ((hgrow7.block B (by have h9 := unhide HZ6; simp; omega) (unhide HNB)).trans ((Below.heap_alloc _ _ B (by have h9 := unhide HZ6; simp; omega)).trans ((Two.a3 (t := tb) (Below.refl _ w5).drew (unhide HB7)).bel.block B hlt5) |>.trans (unhide HB5))) 0).2); obtain ⟨g7, cap7, cur7, rfl, -⟩ := slice_of hown7; clear hown7 hgrow7))
  all_goals
    go_wp2
    go_ret
    obtain ⟨W, lg, ag, t1, t2, t3⟩ := unhide HT
    exact ⟨rfl, w3, w5, W, w7, _, lg, ag, unhide HB3, unhide HW5, unhide HO5, t1, t2, t3, rfl⟩

end Go.Proofs.YtiibobjbcgbknaaDoor
