import Derived.Test.YtjflnpcpnoccjaaTjH
namespace Go.Proofs.Ytjflnpcpnoccjaa
open Go.RowKit

theorem four (w : World) (o0 o1 o2 o3 : Obj) : ((((w.alloc o0).alloc o1).alloc o2).alloc o3).drew.heap[w.heap.size]? = some o0 ∧ ((((w.alloc o0).alloc o1).alloc o2).alloc o3).drew.heap[w.heap.size + 1]? = some o1 ∧ ((((w.alloc o0).alloc o1).alloc o2).alloc o3).drew.heap[w.heap.size + 1 + 1]? = some o2 ∧ ((((w.alloc o0).alloc o1).alloc o2).alloc o3).drew.heap[w.heap.size + 1 + 1 + 1]? = some o3 ∧ Below w.heap.size w ((((w.alloc o0).alloc o1).alloc o2).alloc o3).drew ∧ ((((w.alloc o0).alloc o1).alloc o2).alloc o3).drew.heap.size = w.heap.size + 4 := by
  have b1 := al w o0
  have b2 := al (w.alloc o0) o1
  have b3 := al ((w.alloc o0).alloc o1) o2
  have b4 := al (((w.alloc o0).alloc o1).alloc o2) o3
  have h0 := heap_new w o0
  have h1 := heap_new (w.alloc o0) o1
  have h2 := heap_new ((w.alloc o0).alloc o1) o2
  have h3 := heap_new (((w.alloc o0).alloc o1).alloc o2) o3
  have s1 : (w.alloc o0).heap.size = w.heap.size + 1 := World.size_alloc _ _
  have s2 : ((w.alloc o0).alloc o1).heap.size = w.heap.size + 1 + 1 := by rw [World.size_alloc, s1]
  have s3 : (((w.alloc o0).alloc o1).alloc o2).heap.size = w.heap.size + 1 + 1 + 1 := by rw [World.size_alloc, s2]
  have s4 : ((((w.alloc o0).alloc o1).alloc o2).alloc o3).heap.size = w.heap.size + 4 := by rw [World.size_alloc, s3]
  rw [s1] at h1 b2
  rw [s2] at h2 b3
  rw [s3] at h3 b4
  refine ⟨?_, ?_, ?_, h3, ?_, s4⟩
  · exact (b4.block _ (by omega)).trans ((b3.block _ (by omega)).trans ((b2.block _ (by omega)).trans h0))
  · exact (b4.block _ (by omega)).trans ((b3.block _ (by omega)).trans h1)
  · exact (b4.block _ (by omega)).trans h2
  · exact ((((Below.refl _ w).alloc (Nat.le_refl _) _).alloc (by rw [s1]; omega) _).alloc (by rw [s2]; omega) _ |>.alloc (by rw [s3]; omega) _).drew
theorem sg_of {N : Nat} {na : Option Addr} {nc : Nat} {w W : World} {sb rb lb hb lo : Nat} (h1 : W.heap[sb]? = some (.cells #[.slice na N nc, .slice none 0 0, .slice none 0 0, .int .i64 0, .slice (some ⟨rb, 0, none⟩) N N, .slice (some ⟨lb, 0, none⟩) N N, .slice (some ⟨hb, 0, none⟩) N N] 87 (0, 0)))
    (h2 : W.heap[rb]? = some (.cells (madeCells #[.int .i64 0] N) 3 (0, 0))) (h3 : W.heap[lb]? = some (.cells (madeCells #[.int .i64 0] N) 3 (0, 0))) (h4 : W.heap[hb]? = some (.cells (madeCells #[.int .i64 0] N) 3 (0, 0))) (hne : rb ≠ lb ∧ rb ≠ hb ∧ lb ≠ hb) (hlo : sb < lo ∧ rb < lo ∧ lb < lo ∧ hb < lo) (hge : w.heap.size ≤ sb ∧ w.heap.size ≤ rb ∧ w.heap.size ≤ lb ∧ w.heap.size ≤ hb) (hb1 : Below w.heap.size w W) (hs : lo ≤ W.heap.size) :
    Sg N na nc w sb rb lb hb lo ⟨fun _ => 0, fun _ => 0, fun _ => 0, [], [], 0⟩ (.slice none 0 0) (.slice none 0 0) W where
  str := h1
  rk := ⟨_, h2, fun k hk => by rw [made_at _ _ _ hk]; rfl⟩
  lw := ⟨_, h3, fun k hk => by rw [made_at _ _ _ hk]; rfl⟩
  hd := ⟨_, h4, fun k hk => by rw [made_at _ _ _ hk]; rfl⟩
  frs := World.ownsRow_nil _ _ _ _
  opn := World.ownsRow_nil _ _ _ _
  ne := hne
  low := hlo
  ge := hge
  bel := hb1
  siz := hs
theorem Sg.hdc {N : Nat} {na : Option Addr} {nc : Nat} {w0 : World} {sb rb lb hb lo : Nat} {rk lw : Nat → Nat} {hd hd2 : Nat → Int} {op : List Nat} {fr : List (Nat × Nat)} {sn : Nat} {fv ov : Value} {W : World} (h : Sg N na nc w0 sb rb lb hb lo ⟨rk, lw, hd, op, fr, sn⟩ fv ov W) (e : ∀ j, j < N → hd2 j = hd j) : Sg N na nc w0 sb rb lb hb lo ⟨rk, lw, hd2, op, fr, sn⟩ fv ov W :=
  ⟨h.str, h.rk, h.lw, h.hd.congr fun k hk => by unfold iv; dsimp only; rw [e k hk], h.frs, h.opn, h.ne, h.low, h.ge, h.bel, h.siz⟩
def hdk (k j : Nat) : Int := if j < k then -1 else 0
theorem hdk_next (k : Nat) : put (hdk k) k (-1) = hdk (k + 1) := by
  funext j
  unfold put hdk
  by_cases e : j = k
  · subst e; rw [if_pos rfl, if_pos (by omega)]
  · rw [if_neg e]
    by_cases e2 : j < k
    · rw [if_pos e2, if_pos (by omega)]
    · rw [if_neg e2, if_neg (by omega)]
set_option maxRecDepth 100000 in
set_option maxHeartbeats 8000000 in
theorem heads_any {N : Nat} {ln : Nat → Nat} {L : Nat → Nat → Int} {na : Option Addr} {nc : Nat} {w : World} (hr : rgt N ln L = true) (hN : N ≤ 1048576) (hln : ∀ k, k < N → ln k ≤ 1048576) (hR : Rr w na N ln L) :
    Calls Try.prog 64 #[.slice na N nc] w fun x w' => ∃ g hd, x = .returned (.slice (some ⟨g, 0, none⟩) N N) ∧ w.heap.size ≤ g ∧ Mv g N 3 (iv hd) w' ∧ Hds N ln L hd ∧ Below w.heap.size w w' := by
  have mk := makeI N (by omega)
  obtain ⟨i0, hi0, hz0, hz1, hz2⟩ := info_parts infoI
  have HR := hide hR
  have HLN := hide hln
  have HRG := hide hr
  clear hR hln hr
  go_enter Try.func64, Try.ntmps64
  go_upto_region 2 with fail
  rename_i Q K hK
  apply merge (T := ∀ (sb rb lb hb : Nat) (W : World), Hid (Sg N na nc w sb rb lb hb (w.heap.size + 4) ⟨fun _ => 0, fun _ => 0, fun _ => 0, [], [], 0⟩ (.slice none 0 0) (.slice none 0 0) W) → Exit.then K Q .normal { tmps := #[.slice na N nc, undef, .slice none 0 0, .int .i64 (N : Int), .pointer (some ⟨sb, 0, none⟩), undef, undef, .slice na N nc, .int .i64 (N : Int), .slice na N nc, .int .i64 (N : Int), .slice (some ⟨rb, 0, none⟩) N N, .int .i64 (N : Int), .slice (some ⟨lb, 0, none⟩) N N, .int .i64 (N : Int), .slice (some ⟨hb, 0, none⟩) N N, .agg #[.slice na N nc, .slice none 0 0, .slice none 0 0, .int .i64 0, .slice (some ⟨rb, 0, none⟩) N N, .slice (some ⟨lb, 0, none⟩) N N, .slice (some ⟨hb, 0, none⟩) N N], undef, undef, undef, undef, undef, undef, undef, undef, undef, undef, undef, undef, undef, undef, undef, undef, undef, undef, undef, undef, undef, undef, undef, undef, undef, undef, undef], defers := [] } W)
  case h =>
    intro KEY
    go_region
    all_goals
      refine KEY.out _ _ _ _ _ (hide (sg_of ?_ ?_ ?_ ?_ ⟨?_, ?_, ?_⟩ ⟨?_, ?_, ?_, ?_⟩ ⟨?_, ?_, ?_, ?_⟩ (four w _ _ _ _).2.2.2.2.1 (Nat.le_of_eq (four w _ _ _ _).2.2.2.2.2.symm)))
      all_goals first | omega | exact (four w _ _ _ _).1 | exact (four w _ _ _ _).2.1 | exact (four w _ _ _ _).2.2.1 | exact (four w _ _ _ _).2.2.2.1
  intro sb rb lb hb W HS
  clear mk
  have HS0 := hide (show Sg N na nc w sb rb lb hb (w.heap.size + 4) ⟨fun _ => 0, fun _ => 0, hdk 0, [], [], 0⟩ (.slice none 0 0) (.slice none 0 0) W from (unhide HS).hdc fun j _ => by unfold hdk; rw [if_neg (by omega)])
  clear HS
  obtain ⟨_, _, _, _, _, _, d6, _⟩ := (unhide HS0).cells
  go_wp2_with fail
  go_loopg [5, 20] N (fun g1 _ vi wr => ∃ k : Nat, vi = .int .i64 k ∧ k ≤ N ∧ N - k ≤ g1 ∧ Hid (Sg N na nc w sb rb lb hb (w.heap.size + 4) ⟨fun _ => 0, fun _ => 0, hdk k, [], [], 0⟩ (.slice none 0 0) (.slice none 0 0) wr))
  case atStart => exact ⟨0, by go_num, by omega, by omega, HS0⟩
  case round =>
    clear HS0 d6
    obtain ⟨k, rfl, hk, hg1, HS⟩ := hrel
    by_cases hlt : k < N
    · obtain ⟨_, _, _, _, _, _, d6, _⟩ := (unhide HS).cells
      obtain ⟨ck, fk⟩ := (unhide HS).hd.cell hlt
      have HS2 := hide ((unhide HS).setH hlt (-1))
      change Hid (Sg N na nc w sb rb lb hb (w.heap.size + 4) ⟨fun _ => 0, fun _ => 0, put (hdk k) k (-1), [], [], 0⟩ (.slice none 0 0) (.slice none 0 0) (wr.setCell ⟨hb, k, none⟩ (.int .i64 (-1)))) at HS2
      rw [hdk_next] at HS2
      have hlt2 : (k : Int) < (N : Int) := by omega
      clear HS
      go_wp2_with fail
      generalize wr.setCell ⟨hb, k, none⟩ (.int .i64 (-1)) = w2 at *
      go_wp2_with fail
      go_roundg (N - (k + 1))
      case measure => omega
      case rel => exact ⟨k + 1, by go_num, by omega, by omega, HS2⟩
    · obtain rfl : k = N := by omega
      have HS1 := hide (show Sg k na nc w sb rb lb hb (w.heap.size + 4) ⟨fun _ => 0, fun _ => 0, fun _ => -1, [], [], 0⟩ (.slice none 0 0) (.slice none 0 0) wr from (unhide HS).hdc fun j hj => by unfold hdk; rw [if_pos hj])
      have HT1 := hide (Tj.start k ln L)
      clear HS hg1
      go_wp2_with fail
      go_loopg [6, 30] k (fun g1 _ vi wr => ∃ (i : Nat) (s : Ts) (fv ov : Value), vi = .int .i64 i ∧ i ≤ k ∧ k - i ≤ g1 ∧ Hid (Sg k na nc w sb rb lb hb (w.heap.size + 4) s fv ov wr) ∧ Hid (Tj k ln L s) ∧ Hid (s.fr = []) ∧ Hid (∀ x, x < i → 0 < s.rk x))
      case atStart => exact ⟨0, _, _, _, by go_num, by omega, by omega, HS1, HT1, hide rfl, hide (fun x hx => by omega)⟩
      case round =>
        clear HS1 HT1
        obtain ⟨i, s, fv, ov, rfl, hi, hg1, HS, HT, HF, HX⟩ := hrel
        by_cases hlt2 : i < k
        · obtain ⟨_, _, _, _, d4, _, _, _⟩ := (unhide HS).cells
          obtain ⟨ck, _⟩ := (unhide HS).rk.cell hlt2
          unfold iv nf at ck
          have hlt3 : (i : Int) < (k : Int) := by omega
          by_cases h0 : s.rk i = 0
          · have ck2 : wr.cell? ⟨rb, i, none⟩ = some (.int .i64 0) := by rw [ck]; show some (Value.int .i64 ((s.rk i : Nat) : Int)) = _; rw [h0]; rfl
            have cE := hide (explore_any (unhide HRG) hN (unhide HLN) (unhide HR) (unhide HS) (unhide HT) (unhide HF) hlt2 h0)
            clear ck
            go_wp2_with (go_at_call 71; refine (unhide cE).mono ?_; rintro x5 w5 ⟨rfl, s5, fv5, ov5, hs5, ht5, hf5, hu5, hk5⟩; have HS5 := hide hs5; have HT5 := hide ht5; have HF5 := hide hf5; have HX5 := hide (show ∀ x, x < i + 1 → 0 < s5.rk x from fun x hx => by
              by_cases e : x = i
              · rw [e]; exact hu5
              · exact hk5 x (unhide HX x (by omega))); clear hs5 ht5 hf5 hu5 hk5)
            go_roundg (k - (i + 1))
            case measure => omega
            case rel => exact ⟨i + 1, s5, fv5, ov5, by go_num, by omega, by omega, HS5, HT5, HF5, HX5⟩
          · have hz : ((s.rk i : Int) == 0) = false := by simpa using h0
            have ck2 : wr.cell? ⟨rb, i, none⟩ = some (.int .i64 (s.rk i : Int)) := ck
            have HX5 := hide (show ∀ x, x < i + 1 → 0 < s.rk x from fun x hx => by
              by_cases e : x = i
              · rw [e]; omega
              · exact unhide HX x (by omega))
            clear ck h0
            generalize s.rk i = ri at ck2 hz
            go_wp2_with fail
            go_roundg (k - (i + 1))
            case measure => omega
            case rel => exact ⟨i + 1, s, fv, ov, by go_num, by omega, by omega, HS, HT, HF, HX5⟩
        · obtain rfl : i = k := by omega
          obtain ⟨_, _, _, _, _, _, d6, _⟩ := (unhide HS).cells
          go_wp2
          go_ret
          exact ⟨hb, s.hd, rfl, (unhide HS).ge.2.2.2, (unhide HS).hd, (unhide HT).end (unhide HF) (unhide HX), (unhide HS).bel⟩
end Go.Proofs.Ytjflnpcpnoccjaa
