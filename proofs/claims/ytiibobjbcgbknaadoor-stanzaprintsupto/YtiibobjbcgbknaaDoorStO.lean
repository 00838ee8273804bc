import Derived.Test.YtiibobjbcgbknaaDoorStN
namespace Go.Proofs.YtiibobjbcgbknaaDoor
open Go.RowKit

set_option maxRecDepth 100000 in
set_option maxHeartbeats 2000000 in
theorem handOn_none (base B : Nat) (y : Value) (w : World) (hP : Par base B w []) :
    Calls Tryd.prog 56 #[.pointer (some ⟨B, 0, none⟩), y] w fun e w' => e = .returned (.bool true) ∧ w' = w := by
  obtain ⟨v, mv, xs, hB, hx, hpf, _⟩ := hP.sh
  have hx0 : xs = [] := List.map_eq_nil_iff.1 hx
  subst hx0
  have hv : ∃ a c, v = .slice a 0 c := by
    rcases hpf.row.2 with ⟨h, _⟩ | ⟨g, cap, cur, h, _⟩
    · exact ⟨_, _, h⟩
    · exact ⟨_, _, h⟩
  obtain ⟨a, c, rfl⟩ := hv
  have c0 : w.cell? ⟨B, 0, none⟩ = some (.slice a 0 c) := by simp [World.cell?, hB]
  clear hpf hx hB hP
  go_enter Tryd.func56, Tryd.ntmps56
  go_wp2
  go_ret
  exact ⟨rfl, rfl⟩

set_option maxRecDepth 100000 in
set_option maxHeartbeats 4000000 in
theorem handOn_walk (B Bl g n cap ag ac N bl m : Nat) (k : Int) (lv : Value) (cs : List Value) (w : World) (hn : 1 ≤ n) (hN : 1 ≤ N)
    (hB : w.cell? ⟨B, 0, none⟩ = some (.slice (some ⟨g, 0, none⟩) n cap)) (hg : w.cell? ⟨g, 2, none⟩ = some (.slice (some ⟨ag, 0, none⟩) N ac)) (ha : w.cell? ⟨ag, 0, none⟩ = some (.int .i64 k))
    (hBl : w.heap[Bl]? = some (.cells #[lv] 24 (0, 0))) (hrow : w.ownsRow bl 39 1 lv m cs) (hm : m ≤ 16777216) (hbl : bl ≤ w.heap.size) :
    Calls Tryd.prog 56 #[.pointer (some ⟨B, 0, none⟩), .func (.func 36) #[] #[.pointer (some ⟨Bl, 0, none⟩)]] w fun e w' => e = .returned (.bool true) ∧
      ∃ w1 w2 lv2, Below w.heap.size w w1 ∧ w1.heap = w.heap ∧ (w1.alloc (.cells #[.slice (some ⟨g, 0, none⟩) n cap] 39)).grownBy w2 lv.ownBlock ∧ w2.ownsRow bl 39 1 lv2 (m + 1) (cs ++ [.slice (some ⟨g, 0, none⟩) n cap]) ∧ w2.heap[Bl]? = some (.cells #[lv] 24 (0, 0)) ∧ w' = w2.setCell ⟨Bl, 0, none⟩ lv2 := by
  have c1 := hide (Parse1_any bl Bl m lv cs k (some ⟨g, 0, none⟩) n cap w.drew hBl hrow hm hbl)
  have n1 : (1 : Int) ≤ (n : Int) := by omega
  have n2 : (1 : Int) ≤ (N : Int) := by omega
  have n3 : (0 : Int) < (n : Int) := by omega
  have n4 : (0 : Int) < (N : Int) := by omega
  have n5 : ¬ ((n : Int) = 0) := by omega
  clear hBl hrow
  go_enter Tryd.func56, Tryd.ntmps56
  go_wp2
  go_region_with (first | (go_at_call 36; refine (unhide c1).mono ?_; rintro e w' ⟨rfl, w2, lv2, h1, h2, h3, rfl⟩; have H1 := hide h1; have H2 := hide h2; have H3 := hide h3; clear h1 h2 h3))
  all_goals
    go_wp2
    go_ret
    exact ⟨rfl, w.drew, w2, lv2, (Below.refl _ _).drew, rfl, unhide H1, unhide H2, unhide H3, rfl⟩

end Go.Proofs.YtiibobjbcgbknaaDoor
