import Derived.Test.YtodlmbhlinpoeaaAuG
namespace Go.Proofs.Ytodlmbhlinpoeaa
open Go.RowKit

theorem own_src {W : World} {base e k n c : Nat} {a : Option Addr} {xs : List Value} (h : W.ownsRow base e k (.slice a n c) n xs) : n = 0 ∨ ∃ b o, a = some ⟨b, o, none⟩ ∧ b < W.heap.size ∧ ∀ j u, xs[j]? = some u → W.cell? ⟨b, o + j, none⟩ = some u := by
  rcases h.2 with ⟨_, h0⟩ | ⟨g, cap, cur, e1, _⟩
  · exact .inl h0
  · cases e1
    exact .inr ⟨g, 0, rfl, (World.ownsRow.lt h g rfl).2, fun j u hj => by rw [Nat.zero_add]; exact owns_at h j u hj⟩
/-- CLAUSES ON THEIR WAY. -/
structure Lc (w W : World) (cl : List (List (List Value))) (i : Nat) (mv : Value) (hd : List Value) : Prop where
  row : W.ownsRow w.heap.size 63 1 mv i hd
  each : ∀ j al, j < i → cl[j]? = some al → ∃ x, hd[j]? = some x ∧ Len 55 3 w.heap.size W al mkA 1 x
  one : ∀ x ∈ hd, x.oneCell' = true
  apart : ∀ x ∈ hd, ∀ g, x.ownBlock = some g → g < W.heap.size ∧ mv.ownBlock ≠ some g
  bw : Below w.heap.size w W
theorem Lc.len {w W : World} {cl : List (List (List Value))} {i : Nat} {mv : Value} {hd : List Value} (h : Lc w W cl i mv hd) : hd.length = i := by
  have := h.row.1
  omega
theorem Lc.start (w : World) (cl : List (List (List Value))) : Lc w w cl 0 (.slice none 0 0) [] := ⟨World.ownsRow_nil _ _ _ _, fun _ _ h => absurd h (Nat.not_lt_zero _), fun _ h => (by cases h), fun _ h => (by cases h), Below.refl _ _⟩
theorem Lc.step {w wr : World} {cl : List (List (List Value))} {i : Nat} {mv : Value} {hd : List Value} (h : Lc w wr cl i mv hd) {al : List (List Value)} (hal : cl[i]? = some al) (hi : i < 5864062014634) (hl : al.length ≤ 3518437208780) {xa : Option Addr} {xc : Nat} (hr : Rws 55 3 wr (.slice xa al.length xc) al) :
    ∃ v1 W1 g cap W2, (Builtin.append_ #[63, 63] 63 #[.slice (some ⟨wr.heap.size, 0, none⟩) 0 0, .slice xa al.length xc]).run Try.prog (wr.alloc (.cells #[] 55)) = .ok v1 W1 ∧
      (Builtin.append_ #[63, 63] 63 #[v1, .slice (some ⟨W1.heap.size, 0, none⟩) 1 1]).run Try.prog (W1.alloc (.cells mkA.toArray 55)) = .ok (.slice (some ⟨g, 0, none⟩) (al.length + 1) cap) W2 ∧ al.length ≤ cap ∧ (∀ p v, wr.cell? p = some v → W2.cell? p = some v) ∧
      ∃ mv2 W3, (Builtin.append_ #[39, 39] 39 #[mv, .slice (some ⟨W2.heap.size, 0, none⟩) 1 1]).run Try.prog (W2.alloc (.cells #[.slice (some ⟨g, 0, none⟩) al.length cap] 63)) = .ok mv2 W3 ∧ Lc w W3 cl (i + 1) mv2 (hd ++ [.slice (some ⟨g, 0, none⟩) al.length cap]) := by
  obtain ⟨v1, W1, g, cap, W2, h1, h2, h3, h4, h5⟩ := lend tyA2 hr mkA (m := 1) (by decide) rfl (by simp [mkA, Value.oneCell']) (by unfold maxLen; omega) (by omega) 63
  have hrow := own_low h.row h5
  obtain ⟨g2, cap2, W3, k1, k2, k3, k4⟩ := row_app tyL (wr := W2) hrow (Nat.le_trans h.bw.size h5.size) [.slice (some ⟨g, 0, none⟩) al.length cap] rfl (by simp [Value.oneCell']) (m := 1) (by decide) (by unfold maxLen; omega) (by omega) 39
  have hgl := h4.blk g rfl
  have hwr := h.bw.size
  have mvlt : ∀ b, mv.ownBlock = some b → b < wr.heap.size := fun b e => (World.ownsRow.lt h.row b e).2
  have hsz : W2.heap.size ≤ W3.heap.size := k3.size
  refine ⟨v1, W1, g, cap, W2, h1, h2, by omega, fun p v hp => cell_later hp h5, _, W3, k1, ⟨k2, fun j a hj ha => ?_, fun x hx => ?_, fun x hx b hb => ?_, ?_⟩⟩
  · by_cases e : j = i
    · subst e
      rw [hal] at ha; cases ha
      refine ⟨_, by rw [List.getElem?_append_right (by rw [h.len]; exact Nat.le_refl _), h.len, Nat.sub_self]; rfl, ?_⟩
      exact (h4.base hwr).keep fun b hb => by
        cases hb
        exact k3.blk g hgl.2 fun q => by have := mvlt g q; omega
    · obtain ⟨x, hx, hL⟩ := h.each j a (by omega) ha
      refine ⟨x, by rw [List.getElem?_append_left (by rw [h.len]; omega)]; exact hx, hL.keep fun b hb => ?_⟩
      obtain ⟨a1, a2⟩ := h.apart x (List.mem_of_getElem? hx) b hb
      rw [k3.blk b (Nat.lt_of_lt_of_le a1 h5.size) a2]
      exact h5.block b a1
  · rcases List.mem_append.1 hx with q | q
    · exact h.one x q
    · rw [List.mem_singleton] at q; subst q; rfl
  · rcases List.mem_append.1 hx with q | q
    · obtain ⟨a1, a2⟩ := h.apart x q b hb
      refine ⟨by have := h5.size; omega, fun e => ?_⟩
      rcases k4 with e4 | e4
      · exact a2 (by rw [e4]; exact e)
      · have e9 : g2 = b := by simpa [Value.ownBlock] using e
        have := h5.size
        omega
    · rw [List.mem_singleton] at q; subst q
      have e8 : g = b := by simpa [Value.ownBlock] using hb
      refine ⟨by omega, fun e => ?_⟩
      have e9 : g2 = b := by simpa [Value.ownBlock] using e
      rcases k4 with e4 | e4
      · have := mvlt _ e4; omega
      · omega
  · exact (h.bw.trans (h5.mono hwr)).trans (k3.below (Nat.le_trans hwr h5.size) fun b hb2 e => by have := (World.ownsRow.lt h.row b e).1; omega)
/-- CLAUSES THAT ARE LENT, AND THEIR HEADS ONCE MORE. -/
def LenC (lo : Nat) (W : World) (cl : List (List (List Value))) (v u : Value) : Prop :=
  ∃ g cap z hd, v = .slice (some ⟨g, 0, none⟩) cl.length cap ∧ W.ownsRow lo 63 1 (.slice (some ⟨g, 0, none⟩) (cl.length + 1) cap) (cl.length + 1) (hd ++ [.slice (some ⟨z, 0, none⟩) 1 1]) ∧ hd.length = cl.length ∧
    (∀ (j : Nat) (al : List (List Value)), cl[j]? = some al → ∃ x, hd[j]? = some x ∧ Len 55 3 lo W al mkA 1 x) ∧ (W.heap[z]? = some (.cells mkA.toArray 55 (0, 0)) ∧ lo ≤ z) ∧ W.ownsRow lo 63 1 u cl.length hd
theorem LenC.same {lo : Nat} {W W2 : World} {cl : List (List (List Value))} {v u : Value} (h : LenC lo W cl v u) (hb : ∀ b, lo ≤ b → b < W.heap.size → W2.heap[b]? = W.heap[b]?) : LenC lo W2 cl v u := by
  obtain ⟨g, cap, z, hd, e, h1, h2, h3, h4, h5⟩ := h
  exact ⟨g, cap, z, hd, e, own_same h1 fun b e => hb b (World.ownsRow.lt h1 b e).1 (World.ownsRow.lt h1 b e).2, h2, fun j al ha => by
    obtain ⟨x, k1, k2⟩ := h3 j al ha
    exact ⟨x, k1, k2.same hb⟩, ⟨(hb z h4.2 (blk_lt h4.1)).trans h4.1, h4.2⟩, own_same h5 fun b e => hb b (World.ownsRow.lt h5 b e).1 (World.ownsRow.lt h5 b e).2⟩
theorem LenC.base {l1 l2 : Nat} {W : World} {cl : List (List (List Value))} {v u : Value} (h : LenC l1 W cl v u) (hb : l2 ≤ l1) : LenC l2 W cl v u := by
  obtain ⟨g, cap, z, hd, e, h1, h2, h3, h4, h5⟩ := h
  exact ⟨g, cap, z, hd, e, own_base h1 hb, h2, fun j al ha => by
    obtain ⟨x, k1, k2⟩ := h3 j al ha
    exact ⟨x, k1, k2.base hb⟩, ⟨h4.1, Nat.le_trans hb h4.2⟩, own_base h5 hb⟩
theorem LenC.one {lo : Nat} {W : World} {cl : List (List (List Value))} {v u : Value} (h : LenC lo W cl v u) : v.oneCell' = true ∧ u.oneCell' = true := by
  obtain ⟨g, cap, z, hd, e, h1, h2, h3, h4, h5⟩ := h
  obtain ⟨a, c, e2⟩ := owns_form h5
  rw [e, e2]
  exact ⟨rfl, rfl⟩
theorem LenC.cls {lo : Nat} {W : World} {cl : List (List (List Value))} {v u : Value} (h : LenC lo W cl v u) (ok : ∀ al ∈ cl, ∀ r ∈ al, isT 55 3 r) : Cls W v cl := by
  obtain ⟨g, cap, z, hd, e, h1, h2, h3, h4, h5⟩ := h
  refine ⟨_, _, e, fun h0 => ⟨g, 0, rfl, (World.ownsRow.lt h1 g rfl).2, fun i al ha => ?_⟩⟩
  obtain ⟨x, k1, k2⟩ := h3 i al ha
  refine ⟨x, ?_, k2.rws (ok al (List.mem_of_getElem? ha))⟩
  rw [Nat.zero_add]
  exact owns_at h1 i x (by rw [List.getElem?_append_left (List.getElem?_eq_some_iff.1 k1).1]; exact k1)
theorem Lc.done {w wr : World} {cl : List (List (List Value))} {mv : Value} {hd : List Value} (h : Lc w wr cl cl.length mv hd) (hl : cl.length ≤ 5864062014634) :
    ∃ v1 W1, (Builtin.append_ #[39, 39] 39 #[.slice (some ⟨wr.heap.size, 0, none⟩) 0 0, mv]).run Try.prog (wr.alloc (.cells #[] 63)) = .ok v1 W1 ∧
      ∃ g cap W3, (Builtin.append_ #[39, 39] 39 #[mv, .slice (some ⟨W1.heap.size + 1, 0, none⟩) 1 1]).run Try.prog ((W1.alloc (.cells mkA.toArray 55)).alloc (.cells #[.slice (some ⟨W1.heap.size, 0, none⟩) 1 1] 63)) = .ok (.slice (some ⟨g, 0, none⟩) (cl.length + 1) cap) W3 ∧ cl.length ≤ cap ∧
        LenC w.heap.size W3 cl (.slice (some ⟨g, 0, none⟩) cl.length cap) v1 ∧ Below w.heap.size w W3 := by
  obtain ⟨a, c, e⟩ := owns_form h.row
  obtain ⟨i0, hi0, hz0, hz1, hz2⟩ := info_parts2 tyL.inf
  have hrow := h.row
  rw [e] at hrow
  obtain ⟨v1, W1, h1, h2, h3, h4⟩ := app1 (P := Try.prog) 39 39 63 i0 (.slice none 0 0) 1 24 tyL.und hi0 hz0 hz1 hz2 rfl (by decide) cl.length hd hrow.1 h.one (by omega) (by unfold maxLen; omega) a c wr (own_src hrow)
  have hb2 : Below W1.heap.size W1 (W1.alloc (.cells mkA.toArray 55)) := (Below.refl _ _).alloc (Nat.le_refl _) _
  have hz : (W1.alloc (.cells mkA.toArray 55)).heap[W1.heap.size]? = some (.cells mkA.toArray 55 (0, 0)) := World.alloc_heap_new W1 _
  have hs2 : (W1.alloc (.cells mkA.toArray 55)).heap.size = W1.heap.size + 1 := World.size_alloc _ _
  have hbw : Below wr.heap.size wr (W1.alloc (.cells mkA.toArray 55)) := bl_t h3 hb2
  generalize hY : W1.alloc (.cells mkA.toArray 55) = Y at *
  have hwr := h.bw.size
  obtain ⟨g, cap, W3, k1, k2, k3, k4⟩ := row_app tyL (wr := Y) (own_low h.row hbw) (Nat.le_trans hwr hbw.size) [.slice (some ⟨W1.heap.size, 0, none⟩) 1 1] rfl (by simp [Value.oneCell']) (m := 1) (by decide) (by unfold maxLen; omega) (by omega) 39
  have mvlt : ∀ b, mv.ownBlock = some b → b < wr.heap.size := fun b e => (World.ownsRow.lt h.row b e).2
  have h3s := h3.size
  rw [e] at k1
  rw [e]
  rw [hs2, ← hY] at k1
  refine ⟨v1, W1, h1, g, cap, W3, k1, by have := owns_cap k2; omega, ⟨g, cap, W1.heap.size, hd, rfl, k2, h.len, fun j al ha => ?_, ⟨?_, by omega⟩, ?_⟩, ?_⟩
  · obtain ⟨x, hx, hL⟩ := h.each j al (List.getElem?_eq_some_iff.1 ha).1 ha
    refine ⟨x, hx, hL.keep fun b hb => ?_⟩
    obtain ⟨a1, a2⟩ := h.apart x (List.mem_of_getElem? hx) b hb
    rw [k3.blk b (Nat.lt_of_lt_of_le a1 hbw.size) a2]
    exact hbw.block b a1
  · rw [k3.blk _ (by omega) fun q => by have := mvlt _ q; omega]
    exact hz
  · refine own_base (own_same (own_low h2 hb2) fun b hb => ?_) hwr
    have h9 := h4 b hb
    have h8 := (World.ownsRow.lt h2 b hb).2
    exact k3.blk b (by omega) fun q => by have := mvlt _ q; omega
  · exact (h.bw.trans (hbw.mono hwr)).trans (k3.below (Nat.le_trans hwr hbw.size) fun b hb2 e => by have := (World.ownsRow.lt h.row b e).1; omega)
set_option maxRecDepth 100000 in
set_option maxHeartbeats 4000000 in
theorem lentClauses_any {w : World} {v : Value} {cl : List (List (List Value))} (h : Cls w v cl) (hl : cl.length ≤ 5864062014634) (hls : ∀ al ∈ cl, al.length ≤ 3518437208780) :
    Calls Try.prog 13 #[v] w fun e w' => ∃ r u, e = .returned (.tuple #[r, u]) ∧ LenC w.heap.size w' cl r u ∧ Below w.heap.size w w' := by
  obtain ⟨a, c, rfl⟩ := h.form
  have HC := hide (show ∀ i (hi : i < cl.length) U, Below w.heap.size w U → ∃ b o xa xc, a = some ⟨b, o, none⟩ ∧ (cl[i]).length ≤ 3518437208780 ∧ U.cell? ⟨b, o + i, none⟩ = some (.slice xa (cl[i]).length xc) ∧ Rws 55 3 U (.slice xa (cl[i]).length xc) cl[i] from fun i hi U hU => by
    obtain ⟨b, o, xa, xc, e, l, h1, h2⟩ := h.at hi
    exact ⟨b, o, xa, xc, e, hls _ (List.getElem_mem hi), (hU.cell (p := ⟨b, _, none⟩) l).trans h1, h2.later hU⟩)
  obtain ⟨N, hN⟩ : ∃ N, cl.length = N := ⟨_, rfl⟩
  have HN := hide hN
  have HD := hide (fun (W : World) (mv : Value) (hd : List Value) (q : Lc w W cl cl.length mv hd) => q.done hl)
  rw [hN] at hl HD ⊢
  have HST := hide (Lc.start w cl)
  clear h hN hls
  go_enter Try.func13, Try.ntmps13
  go_wp2_with fail
  go_loopg [4, 5, 6] N (fun gq mv iv _ wr => ∃ (i : Nat) (hd : List Value), iv = .int .i64 i ∧ i ≤ N ∧ N - i ≤ gq ∧ Hid (Lc w wr cl i mv hd))
  case atStart => exact ⟨0, [], by go_num, by omega, by omega, HST⟩
  case round =>
    clear HST
    obtain ⟨i, hd, rfl, hi, hg, HL⟩ := hrel
    by_cases hlt : i < N
    · have hin : (i : Int) < (N : Int) := by omega
      have hil : i < cl.length := by have := unhide HN; omega
      obtain ⟨b, o, xa, xc, rfl, hal, c0, hr⟩ := unhide HC i hil wr (unhide HL).bw
      have hci : cl[i]? = some cl[i] := List.getElem?_eq_getElem hil
      generalize cl[i] = al at *
      obtain ⟨v1, W1, g, cap, W2, k1, k2, hcap, hcl, mv2, W3, k3, hL3⟩ := (unhide HL).step hci (by omega) hal hr
      have HL3 := hide hL3
      have HX := hide (show W2.cell? ⟨b, o + i, none⟩ = some (.slice xa al.length xc) from hcl _ _ c0)
      clear hL3 hr hci HC hcl
      obtain ⟨M, hM⟩ : ∃ M, al.length = M := ⟨_, rfl⟩
      rw [hM] at k1 k2 k3 hcap hal c0 HX HL3
      clear hM
      have c1 := cell_later c0 ((Below.refl wr.heap.size wr).alloc (Nat.le_refl _) (.cells #[] 55))
      clear c0
      go_wp2_with (first
        | (at_builtin; refine wpList_append_run rfl _ _ 63 rfl _ _ rfl rfl k1 ?_; clear c1 k1)
        | (at_builtin; refine wpList_append_run rfl _ _ 63 rfl _ _ rfl rfl k2 ?_; clear k2; have c9 := unhide HX)
        | (at_builtin; refine wpList_append_run rfl _ _ 39 rfl _ _ rfl rfl k3 ?_; clear k3 c9))
      go_roundg (N - (i + 1))
      case measure => omega
      case rel => exact ⟨i + 1, _, by go_num, by omega, by omega, HL3⟩
    · obtain rfl : i = N := by omega
      have hq := unhide HL
      obtain ⟨sa, sc, rfl⟩ := owns_form hq.row
      obtain ⟨v1, W1, k1, g, cap, W3, k2, hcap, hL, hb⟩ := unhide HD _ _ _ hq
      have HR := hide (And.intro hL hb)
      clear hq hL hb HC HD
      go_wp2_with (first
        | (at_builtin; refine wpList_append_run rfl _ _ 39 rfl _ _ rfl rfl k1 ?_; clear k1)
        | (at_builtin; refine wpList_append_run rfl _ _ 39 rfl _ _ rfl rfl k2 ?_; clear k2))
      go_ret2
      exact ⟨_, _, rfl, unhide HR⟩
end Go.Proofs.Ytodlmbhlinpoeaa
