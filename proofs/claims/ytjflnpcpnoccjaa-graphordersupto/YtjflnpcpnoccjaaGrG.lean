import Derived.Test.YtjflnpcpnoccjaaGrF
namespace Go.Proofs.Ytjflnpcpnoccjaa
open Go.RowKit

/-- AN ANSWER IN A BLOCK OF ITS OWN, OR NOTHING. -/
def An (lo : Nat) (ga : Option Addr) (g n e : Nat) (F : Nat → Value) (W : World) : Prop := (ga = none ∧ n = 0) ∨ (ga = some ⟨g, 0, none⟩ ∧ lo ≤ g ∧ Mv g n e F W)
theorem An.later {lo : Nat} {ga : Option Addr} {g n e : Nat} {F : Nat → Value} {W W2 : World} (h : An lo ga g n e F W) (hb : Below W.heap.size W W2) : An lo ga g n e F W2 := by
  rcases h with h | ⟨h1, h2, h3⟩
  · exact .inl h
  · exact .inr ⟨h1, h2, h3.later hb⟩
theorem An.rv {lo : Nat} {ga : Option Addr} {g n e : Nat} {F : Nat → Value} {W : World} (h : An lo ga g n e F W) : Rv W ga n F := by
  rcases h with ⟨_, h⟩ | ⟨h1, h2, h3⟩
  · exact fun h0 => by omega
  · rw [h1]; exact h3.rv
/-- VALUES IN MEMORY FROM lo ON. -/
def Rn (lo : Nat) (W : World) (pa : Option Addr) (n : Nat) (F : Nat → Value) : Prop := 0 < n → ∃ b o, pa = some ⟨b, o, none⟩ ∧ lo ≤ b ∧ b < W.heap.size ∧ ∀ i, i < n → W.cell? ⟨b, o + i, none⟩ = some (F i)
theorem Rn.rv {lo : Nat} {W : World} {pa : Option Addr} {n : Nat} {F : Nat → Value} (h : Rn lo W pa n F) : Rv W pa n F := fun h0 => by
  obtain ⟨b, o, h1, _, h2, h3⟩ := h h0
  exact ⟨b, o, h1, h2, h3⟩
theorem Rn.later {lo : Nat} {W W2 : World} {pa : Option Addr} {n : Nat} {F : Nat → Value} (h : Rn lo W pa n F) (hb : Below W.heap.size W W2) : Rn lo W2 pa n F := fun h0 => by
  obtain ⟨b, o, h1, hG, hl, h2⟩ := h h0
  exact ⟨b, o, h1, hG, Nat.lt_of_lt_of_le hl hb.size, fun i hi => (hb.cell (p := ⟨b, o + i, none⟩) hl).trans (h2 i hi)⟩
theorem Rn.low {lo lo2 : Nat} {W : World} {pa : Option Addr} {n : Nat} {F : Nat → Value} (h : Rn lo W pa n F) (hl : lo2 ≤ lo) : Rn lo2 W pa n F := fun h0 => by
  obtain ⟨b, o, h1, hG, h2⟩ := h h0
  exact ⟨b, o, h1, Nat.le_trans hl hG, h2⟩
theorem Rn.nil {lo : Nat} {W : World} {pa : Option Addr} {F : Nat → Value} : Rn lo W pa 0 F := fun h0 => absurd h0 (Nat.lt_irrefl _)
theorem Rn.of_owns {W : World} {lo e n c : Nat} {a : Option Addr} {F : Nat → Value} (h : W.ownsRow lo e 1 (.slice a n c) n (vl n F)) : Rn lo W a n F := fun h0 => by
  rcases h.2 with ⟨_, e2⟩ | ⟨g, cap, cur, e1, hlo, hg, _⟩
  · omega
  · cases e1
    exact ⟨g, 0, rfl, hlo, blk_lt hg, fun i hi => by rw [Nat.zero_add]; exact owns_at h i _ (vl_at _ _ _ hi)⟩
theorem Rn.of_mv {lo g n e : Nat} {F : Nat → Value} {W : World} (h : Mv g n e F W) (hl : lo ≤ g) : Rn lo W (some ⟨g, 0, none⟩) n F := fun _ => by
  obtain ⟨cur, h1, h2⟩ := h
  exact ⟨g, 0, rfl, hl, blk_lt h1, fun i hi => by rw [Nat.zero_add, (cell_blk h1 i).1]; exact h2 i hi⟩
/-- WHO IS REACHED: the answer of Reach. -/
def Fr (q : Nat) (fs : Nat → Int) (v : Nat) : Prop := ∃ i, i < q ∧ fs i = (v : Int)
noncomputable def rb (N : Nat) (ln : Nat → Nat) (L : Nat → Nat → Int) (q : Nat) (fs : Nat → Int) (v : Nat) : Bool := ds (Eg N ln L) (Fr q fs) v != -1
def reO (N : Nat) (ln : Nat → Nat) (L : Nat → Nat → Int) (q : Nat) (fs : Nat → Int) : Bool := rgt N ln L && bAll q fun i => nd N (fs i)
def reN (N : Nat) (ln : Nat → Nat) (L : Nat → Nat → Int) (q : Nat) (fs : Nat → Int) : Nat := if reO N ln L q fs = true then N else 0
def reE (N : Nat) (ln : Nat → Nat) (L : Nat → Nat → Int) (q : Nat) (fs : Nat → Int) : Int := if reO N ln L q fs = true then 0 else 120
theorem reN_le (N : Nat) (ln : Nat → Nat) (L : Nat → Nat → Int) (q : Nat) (fs : Nat → Int) : reN N ln L q fs ≤ N := by
  unfold reN
  split <;> omega
set_option maxRecDepth 100000 in
set_option maxHeartbeats 4000000 in
theorem Reach_any {N : Nat} {ln : Nat → Nat} {L : Nat → Nat → Int} {q : Nat} {fs : Nat → Int} {na pa : Option Addr} {nc pc : Nat} {w : World} (hN : N ≤ 1048576) (hln : ∀ k, k < N → ln k ≤ 1048576) (hq2 : q ≤ 1048576) (hR : Rr w na N ln L) (hF : Ri w pa q fs) :
    Calls Try.prog 13 #[.slice na N nc, .slice pa q pc] w fun x w' => ∃ ga g, x = .returned (.tuple #[.slice ga (reN N ln L q fs) (reN N ln L q fs), .int .i64 (reE N ln L q fs)]) ∧ An w.heap.size ga g (reN N ln L q fs) 4 (bv (rb N ln L q fs)) w' ∧ Below w.heap.size w w' := by
  have c1 := hide (isRight_any N ln L na nc w (by omega) (fun k hk => by have := hln k hk; omega) hR)
  have c2 := hide (areNodes_any N q fs na pa nc pc w (by omega) (by omega) hF)
  unfold reN reE reO
  cases hr : rgt N ln L with
  | false =>
    rw [hr] at c1
    rw [if_neg (by simp), if_neg (by simp)]
    clear hR hF hln
    go_enter Try.func13, Try.ntmps13
    go_wp2_with (go_at_call 43; refine (unhide c1).mono ?_; rintro x1 w1 ⟨rfl, hw1⟩; rw [hw1]; clear hw1 w1)
    go_ret2
    exact ⟨none, 0, rfl, .inl ⟨rfl, rfl⟩, Below.refl _ _⟩
  | true =>
    rw [hr] at c1
    cases hb : (bAll q fun i => nd N (fs i)) with
    | false =>
      rw [hb] at c2
      rw [if_neg (by simp), if_neg (by simp)]
      clear hR hF hln
      go_enter Try.func13, Try.ntmps13
      go_wp2_with (first | (go_at_call 43; refine (unhide c1).mono ?_; rintro x1 w1 ⟨rfl, hw1⟩; rw [hw1]; clear hw1 w1) | (go_at_call 44; refine (unhide c2).mono ?_; rintro x1 w1 ⟨rfl, hw1⟩; rw [hw1]; clear hw1 w1))
      go_ret2
      exact ⟨none, 0, rfl, .inl ⟨rfl, rfl⟩, Below.refl _ _⟩
    | true =>
      rw [hb] at c2
      rw [if_pos (by simp), if_pos (by simp)]
      have HQ := hide ((bAll_iff _ _).1 hb)
      have HRG := hide hr
      have mk := makeT N (by omega) w
      have c3 := hide (fun (W : World) (hw : Below w.heap.size w W) => steps_any (nc := nc) (pc := pc) hr ((bAll_iff _ _).1 hb) hN hln hq2 (hR.later hw) (Ri.later hF hw))
      clear hR hF hr hb hln
      obtain ⟨W0, hW0⟩ : ∃ W, W = w.alloc (.cells (madeCells #[.bool false] N) 4) := ⟨_, rfl⟩
      have HM0 := hide (show Mv w.heap.size N 4 (fun _ => .bool false) W0 from by rw [hW0]; exact ⟨_, heap_new _ _, fun k hk => by rw [made_at _ _ _ hk]⟩)
      have HB0 := hide (show Below w.heap.size w W0 from by rw [hW0]; exact al w _)
      rw [← hW0] at mk
      obtain ⟨F, hF⟩ : ∃ F, F = ds (Eg N ln L) (Fr q fs) := ⟨_, rfl⟩
      have HFF := hide hF
      have HFD := hide (show rb N ln L q fs = fun v => F v != -1 from by rw [hF]; rfl)
      change Hid (∀ W, Below w.heap.size w W → Calls Try.prog 45 #[.slice na N nc, .slice pa q pc] W fun x w' => ∃ g, x = .returned (.slice (some ⟨g, 0, none⟩) N N) ∧ W.heap.size ≤ g ∧ Mv g N 3 (iv (ds (Eg N ln L) (Fr q fs))) w' ∧ Below W.heap.size W w') at c3
      rw [← hF] at c3
      clear hF hW0
      go_enter Try.func13, Try.ntmps13
      go_wp2_with (first | (go_at_call 43; refine (unhide c1).mono ?_; rintro x1 w1 ⟨rfl, hw1⟩; rw [hw1]; clear hw1 w1) | (go_at_call 44; refine (unhide c2).mono ?_; rintro x1 w1 ⟨rfl, hw1⟩; rw [hw1]; clear hw1 w1) | (go_at_call 45; refine (unhide c3 _ (unhide HB0)).mono ?_; rintro x2 w2 ⟨gf, rfl, hgf, hmf, hb2⟩; have HGF := hide hgf; have HMF := hide hmf; have HB2 := hide (bl_t (unhide HB0) hb2); have HM2 := hide ((unhide HM0).later hb2); clear hgf hmf hb2))
      have HNE := hide (show w.heap.size ≠ gf from by have := (unhide HM0).lt; have := unhide HGF; omega)
      obtain ⟨g, hg⟩ : ∃ x, x = w.heap.size := ⟨_, rfl⟩
      rw [← hg] at HM2 HNE ⊢
      have HG := hide (show w.heap.size ≤ g from by rw [hg]; exact Nat.le_refl _)
      clear hg mk HM0 HGF HB0
      go_loopg [7, 8, 25] N (fun g1 _ _ vi wr => ∃ k : Nat, vi = .int .i64 k ∧ k ≤ N ∧ N - k ≤ g1 ∧ Hid (Mv g N 4 (fun j => if j < k then .bool (F j != -1) else .bool false) wr) ∧ Hid (Mv gf N 3 (iv F) wr) ∧ Hid (Below w.heap.size w wr))
      case atStart => exact ⟨0, by go_num, by omega, by omega, hide ((unhide HM2).congr fun j _ => by rw [if_neg (by omega)]), HMF, HB2⟩
      case round =>
        clear HM2 HMF HB2
        obtain ⟨k, rfl, hk, hg1, HM, HMF, HB⟩ := hrel
        by_cases hlt : k < N
        · obtain ⟨ck, fk⟩ := (unhide HM).cell hlt
          obtain ⟨cf, _⟩ := (unhide HMF).cell hlt
          unfold iv at cf
          rw [if_neg (Nat.lt_irrefl k)] at ck
          have HM2 := hide (show Mv g N 4 (fun j => if j < k + 1 then .bool (F j != -1) else .bool false) (wr.setCell ⟨g, k, none⟩ (.bool (F k != -1))) from ((unhide HM).set hlt (.bool (F k != -1))).congr fun j hj => by
            by_cases e : j = k
            · subst e; rw [if_pos rfl, if_pos (by omega)]
            · rw [if_neg e]
              by_cases e2 : j < k
              · rw [if_pos e2, if_pos (by omega)]
              · rw [if_neg e2, if_neg (by omega)])
          have HMF2 := hide ((unhide HMF).same (set_other wr g k (.bool (F k != -1)) gf (fun e => unhide HNE e.symm)))
          have HB2 := hide ((unhide HB).setCell (p := ⟨g, k, none⟩) (unhide HG) (.bool (F k != -1)))
          clear HM HB HMF
          generalize F k = fv at *
          go_wp2_with fail
          generalize wr.setCell ⟨g, k, none⟩ (.bool (fv != -1)) = w2 at *
          go_wp2_with fail
          go_roundg (N - (k + 1))
          case measure => omega
          case rel => exact ⟨k + 1, by go_num, by omega, by omega, HM2, HMF2, HB2⟩
        · have HM2 := hide (show Mv g N 4 (bv (rb N ln L q fs)) wr from (unhide HM).congr fun j hj => by rw [if_pos (by omega), unhide HFD]; rfl)
          go_wp2
          go_ret2
          exact ⟨some ⟨g, 0, none⟩, g, rfl, .inr ⟨rfl, unhide HG, unhide HM2⟩, unhide HB⟩
end Go.Proofs.Ytjflnpcpnoccjaa
