import Derived.Test.YtjmomdnlibfbkaaDoorAbH
namespace Go.Proofs.YtjmomdnlibfbkaaDoor
open Go.RowKit

def noF : Value := .agg #[.string ⟨#[]⟩, .slice none 0 0]
theorem told_lt {h : Bs} (hl : h.length = 512) {p : ByteArray} {s : Nat} (ht : toldL h = some (p, s)) : s < 8589934592 := by
  unfold toldL at ht
  split at ht
  · cases ht
    exact rdO_lt 11 (fld 124 11 h) (fld_len (by omega))
  · cases ht
set_option maxRecDepth 100000 in
set_option maxHeartbeats 4000000 in
theorem takeFile_none {w : World} {g : Nat} {h d : Bs} {a : Option Addr} {c : Nat} (hB : By w g h) (hl : h.length = 512) (hg : Glob w) (ht : toldL h = none) :
    Calls Tryd.prog 19 #[.pointer (some ⟨g, 0, none⟩), .slice a d.length c] w fun e w' => e = .returned (.tuple #[noF, .slice none 0 0, .int .i64 72]) ∧ Below w.heap.size w w' := by
  have CT := hide (show ∀ X, Below w.heap.size w X → Calls Tryd.prog 33 #[.pointer (some ⟨g, 0, none⟩)] X fun e w' => e = .returned (.tuple #[.string ⟨#[]⟩, .int .i64 0, .bool false]) ∧ Below X.heap.size X w' from fun X hX => by
    have hV : toldV h = .tuple #[.string ⟨#[]⟩, .int .i64 0, .bool false] := by unfold toldV; rw [ht]
    rw [← hV]
    exact told_any (hB.later hX) hl (hg.later hX))
  clear hB hl hg ht
  go_enter Tryd.func19, Tryd.ntmps19
  go_wp2_with (first
    | ((with_reducible refine b_alloc (t := 40) (k := 2) zeroBl rfl rfl ?_); intro w1 q1 k1 z1; have P1 := hide q1; have K1 := hide k1; clear q1 k1 z1)
    | (go_at_call 33; refine (unhide CT w1 (unhide K1)).mono ?_; rintro e w2 ⟨rfl, b2⟩; have P2 := hide ((unhide P1).later b2); have K2 := hide (bl_t (unhide K1) b2); clear b2 CT P1 K1)
    | ((with_reducible refine b_store (t := 40) (k := 2) infoBl _ _ rfl rfl w.heap.size rfl [.string ⟨#[]⟩, .slice none 0 0] rfl rfl (two_one rfl) _ (unhide P2) ?_); intro w5 q5 o5 k5 z5; have P5 := hide q5; have K5 := hide (k5 w.heap.size (Nat.le_refl _)); clear q5 o5 k5 z5))
  have hld := run_loadVar_mid w5 w.heap.size 0 40 [.string ⟨#[]⟩, .slice none 0 0] _ (unhide P5).range Tryd.underlying40 rfl infoBl
  (try simp only [Exit.inBlock, Exit.then])
  refine bodyPost_ret (v := .tuple #[noF, .slice none 0 0, .int .i64 72]) ?_ rfl ⟨rfl, (unhide K2).trans (unhide K5)⟩
  rw [results_cell3 rfl]
  simp [asAddr, Result.andThen, hld, noF]
set_option maxRecDepth 100000 in
set_option maxHeartbeats 4000000 in
theorem takeFile_size {w : World} {g : Nat} {h d : Bs} {a : Option Addr} {c : Nat} {p : ByteArray} {s : Nat} (hB : By w g h) (hl : h.length = 512) (hg : Glob w) (ht : toldL h = some (p, s)) (h1 : 1048576 < s) :
    Calls Tryd.prog 19 #[.pointer (some ⟨g, 0, none⟩), .slice a d.length c] w fun e w' => e = .returned (.tuple #[noF, .slice none 0 0, .int .i64 78]) ∧ Below w.heap.size w w' := by
  have CT := hide (show ∀ X, Below w.heap.size w X → Calls Tryd.prog 33 #[.pointer (some ⟨g, 0, none⟩)] X fun e w' => e = .returned (.tuple #[.string p, .int .i64 (s : Int), .bool true]) ∧ Below X.heap.size X w' from fun X hX => by
    have hV : toldV h = .tuple #[.string p, .int .i64 (s : Int), .bool true] := by unfold toldV; rw [ht]
    rw [← hV]
    exact told_any (hB.later hX) hl (hg.later hX))
  have hc1 : (1048576 : Int) < (s : Int) := by omega
  clear hB hl hg ht
  go_enter Tryd.func19, Tryd.ntmps19
  go_wp2_with (first
    | ((with_reducible refine b_alloc (t := 40) (k := 2) zeroBl rfl rfl ?_); intro w1 q1 k1 z1; have P1 := hide q1; have K1 := hide k1; clear q1 k1 z1)
    | (go_at_call 33; refine (unhide CT w1 (unhide K1)).mono ?_; rintro e w2 ⟨rfl, b2⟩; have P2 := hide ((unhide P1).later b2); have K2 := hide (bl_t (unhide K1) b2); clear b2 CT P1 K1)
    | ((with_reducible refine b_store (t := 40) (k := 2) infoBl _ _ rfl rfl w.heap.size rfl [.string ⟨#[]⟩, .slice none 0 0] rfl rfl (two_one rfl) _ (unhide P2) ?_); intro w5 q5 o5 k5 z5; have P5 := hide q5; have K5 := hide (k5 w.heap.size (Nat.le_refl _)); clear q5 o5 k5 z5))
  have hld := run_loadVar_mid w5 w.heap.size 0 40 [.string ⟨#[]⟩, .slice none 0 0] _ (unhide P5).range Tryd.underlying40 rfl infoBl
  (try simp only [Exit.inBlock, Exit.then])
  refine bodyPost_ret (v := .tuple #[noF, .slice none 0 0, .int .i64 78]) ?_ rfl ⟨rfl, (unhide K2).trans (unhide K5)⟩
  rw [results_cell3 rfl]
  simp [asAddr, Result.andThen, hld, noF]
set_option maxRecDepth 100000 in
set_option maxHeartbeats 4000000 in
theorem takeFile_short {w : World} {g : Nat} {h d : Bs} {a : Option Addr} {c : Nat} {p : ByteArray} {s : Nat} (hB : By w g h) (hl : h.length = 512) (hg : Glob w) (ht : toldL h = some (p, s)) (h1 : s ≤ 1048576) (h2 : d.length < fill s) :
    Calls Tryd.prog 19 #[.pointer (some ⟨g, 0, none⟩), .slice a d.length c] w fun e w' => e = .returned (.tuple #[noF, .slice none 0 0, .int .i64 73]) ∧ Below w.heap.size w w' := by
  have CT := hide (show ∀ X, Below w.heap.size w X → Calls Tryd.prog 33 #[.pointer (some ⟨g, 0, none⟩)] X fun e w' => e = .returned (.tuple #[.string p, .int .i64 (s : Int), .bool true]) ∧ Below X.heap.size X w' from fun X hX => by
    have hV : toldV h = .tuple #[.string p, .int .i64 (s : Int), .bool true] := by unfold toldV; rw [ht]
    rw [← hV]
    exact told_any (hB.later hX) hl (hg.later hX))
  have hc1 : ¬ ((1048576 : Int) < (s : Int)) := by omega
  have hc2 : (d.length : Int) < ((fill s : Nat) : Int) := by omega
  clear hB hl hg ht
  go_enter Tryd.func19, Tryd.ntmps19
  go_wp2_with (first
    | ((with_reducible refine b_alloc (t := 40) (k := 2) zeroBl rfl rfl ?_); intro w1 q1 k1 z1; have P1 := hide q1; have K1 := hide k1; clear q1 k1 z1)
    | (go_at_call 33; refine (unhide CT w1 (unhide K1)).mono ?_; rintro e w2 ⟨rfl, b2⟩; have P2 := hide ((unhide P1).later b2); have K2 := hide (bl_t (unhide K1) b2); clear b2 CT P1 K1)
    | (go_at_call 18; refine (filled_any s _ (by omega)).mono ?_; rintro e wn ⟨rfl, hw⟩; rw [hw]; clear hw wn)
    | ((with_reducible refine b_store (t := 40) (k := 2) infoBl _ _ rfl rfl w.heap.size rfl [.string ⟨#[]⟩, .slice none 0 0] rfl rfl (two_one rfl) _ (unhide P2) ?_); intro w5 q5 o5 k5 z5; have P5 := hide q5; have K5 := hide (k5 w.heap.size (Nat.le_refl _)); clear q5 o5 k5 z5))
  have hld := run_loadVar_mid w5 w.heap.size 0 40 [.string ⟨#[]⟩, .slice none 0 0] _ (unhide P5).range Tryd.underlying40 rfl infoBl
  (try simp only [Exit.inBlock, Exit.then])
  refine bodyPost_ret (v := .tuple #[noF, .slice none 0 0, .int .i64 73]) ?_ rfl ⟨rfl, (unhide K2).trans (unhide K5)⟩
  rw [results_cell3 rfl]
  simp [asAddr, Result.andThen, hld, noF]
set_option maxRecDepth 100000 in
set_option maxHeartbeats 4000000 in
theorem takeFile_pad {w : World} {g : Nat} {h d : Bs} {a : Option Addr} {c : Nat} {p : ByteArray} {s : Nat} (hB : By w g h) (hl : h.length = 512) (hg : Glob w) (hR : Rb w (.slice a d.length c) d) (hd : d.length ≤ 1073741824) (ht : toldL h = some (p, s)) (h1 : s ≤ 1048576) (h2 : fill s ≤ d.length) (h3 : (d.drop s).take (fill s - s) ≠ zs (fill s - s)) :
    Calls Tryd.prog 19 #[.pointer (some ⟨g, 0, none⟩), .slice a d.length c] w fun e w' => e = .returned (.tuple #[noF, .slice none 0 0, .int .i64 74]) ∧ Below w.heap.size w w' := by
  have CT := hide (show ∀ X, Below w.heap.size w X → Calls Tryd.prog 33 #[.pointer (some ⟨g, 0, none⟩)] X fun e w' => e = .returned (.tuple #[.string p, .int .i64 (s : Int), .bool true]) ∧ Below X.heap.size X w' from fun X hX => by
    have hV : toldV h = .tuple #[.string p, .int .i64 (s : Int), .bool true] := by unfold toldV; rw [ht]
    rw [← hV]
    exact told_any (hB.later hX) hl (hg.later hX))
  have hge := fill_ge s
  obtain ⟨a0, c0, e0, hc⟩ := hR.form
  cases e0
  have hlen : ((d.drop s).take (fill s - s)).length = fill s - s := by rw [List.length_take, List.length_drop]; omega
  have AZ : allz ((d.drop s).take (fill s - s)) = false := by
    cases e : allz ((d.drop s).take (fill s - s)) with
    | false => rfl
    | true => exact absurd (by have q := (allz_iff _).1 e; rw [hlen] at q; exact q) h3
  have hlt : s < fill s := by
    rcases Nat.lt_or_ge s (fill s) with q | q
    · exact q
    · exact absurd (by rw [show fill s - s = 0 by omega]; rfl) h3
  have CZ := hide (show ∀ X, Below w.heap.size w X → Calls Tryd.prog 34 #[.slice (Option.map (fun x => x.add s) a) (fill s - s) (c - s)] X fun e w' => e = .returned (.bool false) ∧ w' = X from fun X hX => by
    have q := allZero_any ((hR.later hX).cutA (i := s) (j := fill s) hge h2) (by rw [hlen]; omega)
    rw [AZ] at q
    exact q)
  have hc1 : ¬ ((1048576 : Int) < (s : Int)) := by omega
  have hc2 : ¬ ((d.length : Int) < ((fill s : Nat) : Int)) := by omega
  have hc3 : (s : Int) ≤ ((fill s : Nat) : Int) := by omega
  have hc4 : ((fill s : Nat) : Int) ≤ (c : Int) := by omega
  have hcs : ¬ c = s := by omega
  have hsc : s ≤ c := by omega
  have hFc : fill s ≤ c := by omega
  clear hB hl hg ht hR h3 AZ hlen
  go_enter Tryd.func19, Tryd.ntmps19
  go_wp2_with (first
    | ((with_reducible refine b_alloc (t := 40) (k := 2) zeroBl rfl rfl ?_); intro w1 q1 k1 z1; have P1 := hide q1; have K1 := hide k1; clear q1 k1 z1)
    | (go_at_call 33; refine (unhide CT w1 (unhide K1)).mono ?_; rintro e w2 ⟨rfl, b2⟩; have P2 := hide ((unhide P1).later b2); have K2 := hide (bl_t (unhide K1) b2); clear b2 CT P1 K1)
    | (go_at_call 18; refine (filled_any s _ (by omega)).mono ?_; rintro e wn ⟨rfl, hw⟩; rw [hw]; clear hw wn)
    | (go_at_call 34; refine (unhide CZ w2 (unhide K2)).mono ?_; rintro e wn ⟨rfl, hw⟩; rw [hw]; clear hw wn CZ)
    | ((with_reducible refine b_store (t := 40) (k := 2) infoBl _ _ rfl rfl w.heap.size rfl [.string ⟨#[]⟩, .slice none 0 0] rfl rfl (two_one rfl) _ (unhide P2) ?_); intro w5 q5 o5 k5 z5; have P5 := hide q5; have K5 := hide (k5 w.heap.size (Nat.le_refl _)); clear q5 o5 k5 z5))
  have hld := run_loadVar_mid w5 w.heap.size 0 40 [.string ⟨#[]⟩, .slice none 0 0] _ (unhide P5).range Tryd.underlying40 rfl infoBl
  (try simp only [Exit.inBlock, Exit.then])
  refine bodyPost_ret (v := .tuple #[noF, .slice none 0 0, .int .i64 74]) ?_ rfl ⟨rfl, (unhide K2).trans (unhide K5)⟩
  rw [results_cell3 rfl]
  simp [asAddr, Result.andThen, hld, noF]
end Go.Proofs.YtjmomdnlibfbkaaDoor
