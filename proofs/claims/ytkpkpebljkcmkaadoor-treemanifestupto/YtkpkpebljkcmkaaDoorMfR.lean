import Derived.Test.YtkpkpebljkcmkaaDoorMfQ
namespace Go.Proofs.YtkpkpebljkcmkaaDoor
open Go.RowKit

theorem Fb.same {W W2 : World} {B : Nat} {fs : List (List Value)} (h : Fb W B fs) (hs : W.heap.size ≤ W2.heap.size) (hb : W2.heap[B]? = W.heap[B]?) : Fb W2 B fs :=
  ⟨h.ok, h.blk.of (fun j => World.cell?_of_block (a := ⟨B, j, none⟩) hb) (fun j => by unfold World.frozen?; simp [hb]) hs⟩
theorem PkC.put {cs : List Value} {p : Pk} {x v : Value} (h : PkC cs p x) (hv : v.oneCell' = true) : PkC (cs.set 7 v) p v := by
  have hl := h.len
  refine ⟨by rw [List.length_set]; exact hl, fun u hu => ?_, by rw [List.getElem?_set_ne (by decide)]; exact h.c0, by rw [List.getElem?_set_ne (by decide)]; exact h.c1, List.getElem?_set_self (by omega)⟩
  rcases List.mem_or_eq_of_mem_set hu with q | rfl
  · exact h.one u q
  · exact hv
/-- PACKAGES WHILE THEY ARE LENT. -/
structure Lp (w wr : World) (g n : Nat) (ps : List Pk) (i : Nat) : Prop where
  spot : ∀ t, t < (n + 1) * 43 → (wr.cell? ⟨g, t, none⟩).isSome = true
  fr : ∀ t, wr.frozen? ⟨g, t, none⟩ = false
  lt : g < wr.heap.size
  ge : w.heap.size ≤ g
  bw : Below w.heap.size w wr
  each : ∀ j (hj : j < ps.length), j < i → ∃ cs B, wr.rangeAt g (j * 43) cs ∧ PkC cs ps[j] (.slice (some ⟨B, 0, none⟩) (ps[j]).fs.length ((ps[j]).fs.length + 1)) ∧ Fb wr B (ps[j]).fs ∧ g < B
theorem Lp.there {w wr : World} {g n i : Nat} {ps : List Pk} (h : Lp w wr g n ps i) {j : Nat} (hj : j ≤ n) : wr.there g (j * 43) 43 := fun t ht => ⟨h.spot _ (by have := Nat.mul_le_mul_right 43 (show j + 1 ≤ n + 1 by omega); omega), h.fr _⟩
/-- ONE MORE. -/
theorem Lp.next {w wr W2 : World} {g n i : Nat} {ps : List Pk} (h : Lp w wr g n ps i) (hi : i < ps.length) (hin : i < n) {cs : List Value} {x : Value} (hc : PkC cs ps[i] x) (hb : Below wr.heap.size (wr.setCells g (i * 43) cs) W2) {B : Nat} (hB : g < B) (hf : Fb W2 B (ps[i]).fs) : Lp w (W2.setCell ⟨g, i * 43 + 7, none⟩ (.slice (some ⟨B, 0, none⟩) (ps[i]).fs.length ((ps[i]).fs.length + 1))) g n ps (i + 1) := by
  have hs1 := size_setCells g cs (i * 43) wr
  have hb' : Below (wr.setCells g (i * 43) cs).heap.size (wr.setCells g (i * 43) cs) W2 := by rw [hs1]; exact hb
  have hg1 : g < (wr.setCells g (i * 43) cs).heap.size := by rw [hs1]; exact h.lt
  have hlen := hc.len
  have hr0 : (wr.setCells g (i * 43) cs).rangeAt g (i * 43) cs := World.rangeAt_setCells_same wr g (i * 43) cs (by rw [hlen]; exact h.there (by omega))
  have hr2 := rangeAt_later hr0 hg1 hb'
  have h7 := hr2 7 _ hc.c7
  refine ⟨fun t ht => ?_, fun t => ?_, ?_, h.ge, ?_, fun j hj hji => ?_⟩
  · have e1 := World.isSome_setCells g cs (i * 43) wr ⟨g, t, none⟩ (h.spot t ht)
    rw [← hb'.cell (p := ⟨g, t, none⟩) hg1] at e1
    by_cases e : (⟨g, i * 43 + 7, none⟩ : Addr) = ⟨g, t, none⟩
    · rw [← e, World.cell?_setCell_same _ _ _ h7]; rfl
    · rw [World.cell?_setCell_other _ _ _ _ e]; exact e1
  · rw [World.frozen?_setCell, hb'.frozen (p := ⟨g, t, none⟩) hg1, World.frozen?_setCells]; exact h.fr t
  · have := hb'.size
    simp
    omega
  · have hw := below_setCells g h.ge cs (i * 43) wr h.bw
    exact (hw.trans (hb'.mono (by rw [hs1]; exact h.bw.size))).setCell (p := ⟨g, i * 43 + 7, none⟩) h.ge _
  · by_cases e : j = i
    · subst e
      refine ⟨_, B, fun t u ht => ?_, hc.put (by simp [Value.oneCell']), hf.same (by simp) (Below.heap_setCell _ _ _ _ (by show B ≠ g; omega)), hB⟩
      by_cases e7 : t = 7
      · subst e7
        rw [List.getElem?_set_self (by omega)] at ht
        cases ht
        exact World.cell?_setCell_same _ _ _ h7
      · rw [List.getElem?_set_ne (Ne.symm e7)] at ht
        rw [World.cell?_setCell_other _ _ _ _ (by intro q; injection q with _ q2; omega)]
        exact hr2 t u ht
    · obtain ⟨cj, Bj, k1, k2, k3, k4⟩ := h.each j hj (by omega)
      have hlj := k2.len
      have hbl := k3.blk.lt
      refine ⟨cj, Bj, fun t u ht => ?_, k2, ?_, k4⟩
      · have htl := (List.getElem?_eq_some_iff.1 ht).1
        rw [World.cell?_setCell_other _ _ _ _ (by intro q; injection q with _ q2; omega)]
        exact rangeAt_later (World.rangeAt_setCells_apart k1 _ _ _ (.inr (by rw [hlj, hlen]; omega))) hg1 hb' t u ht
      · refine Fb.same k3 (by simp; have := hb'.size; omega) ?_
        rw [Below.heap_setCell _ _ _ _ (show Bj ≠ g by omega), hb'.block Bj (by rw [hs1]; exact hbl), heap_setCells g cs (i * 43) wr Bj (by omega)]
theorem Lp.start {w : World} {n : Nat} {ps : List Pk} (z : Array Value) : Lp w (w.alloc (.cells (madeCells z ((n + 1) * 43)) 49)) w.heap.size n ps 0 :=
  ⟨fun t ht => by rw [World.cell?_alloc_at _ _ _ _ rfl]; exact made_some _ _ _ ht, fun t => by rw [World.frozen?_alloc_at _ _ _ _ rfl], by simp, Nat.le_refl _, (Below.refl _ _).alloc (Nat.le_refl _) _, fun j _ h => absurd h (Nat.not_lt_zero _)⟩
/-- PACKAGES LENT, THE MARK BEHIND THEM. -/
structure Lm (w wr : World) (g : Nat) (ps : List Pk) : Prop where
  fr : ∀ t, wr.frozen? ⟨g, t, none⟩ = false
  lt : g < wr.heap.size
  ge : w.heap.size ≤ g
  bw : Below w.heap.size w wr
  mrk : wr.cell? ⟨g, ps.length * 43, none⟩ = some (.string mark)
  each : ∀ j (hj : j < ps.length), ∃ cs B, wr.rangeAt g (j * 43) cs ∧ PkC cs ps[j] (.slice (some ⟨B, 0, none⟩) (ps[j]).fs.length ((ps[j]).fs.length + 1)) ∧ Fb wr B (ps[j]).fs ∧ g < B
theorem Lp.done {w wr : World} {g : Nat} {ps : List Pk} (h : Lp w wr g ps.length ps ps.length) {ms : List Value} (hm : ms.length = 43) (h0 : ms[0]? = some (.string mark)) : Lm w (wr.setCells g (ps.length * 43) ms) g ps := by
  have hs1 := size_setCells g ms (ps.length * 43) wr
  refine ⟨fun t => by rw [World.frozen?_setCells]; exact h.fr t, by rw [hs1]; exact h.lt, h.ge, below_setCells g h.ge ms _ wr h.bw, ?_, fun j hj => ?_⟩
  · have := World.rangeAt_setCells_same wr g (ps.length * 43) ms (by rw [hm]; exact h.there (Nat.le_refl _)) 0 _ h0
    rw [Nat.add_zero] at this
    exact this
  · obtain ⟨cj, Bj, k1, k2, k3, k4⟩ := h.each j hj hj
    have hlj := k2.len
    exact ⟨cj, Bj, World.rangeAt_setCells_apart k1 _ _ _ (.inr (by rw [hlj, hm]; omega)), k2, Fb.same k3 (by rw [hs1]; exact Nat.le_refl _) (heap_setCells g ms _ wr Bj (by omega)), k4⟩
set_option maxRecDepth 100000 in
set_option maxHeartbeats 8000000 in
theorem lent_any {w : World} {v : Value} {ps : List Pk} (h : Pks w v ps) (hl : ps.length ≤ 1048576) (hs : (allF ps).length ≤ 1048576) :
    Calls Tryd.prog 4 #[v] w fun e w' => e = .returned (.slice (some ⟨w.heap.size, 0, none⟩) ps.length (ps.length + 1)) ∧ Lm w w' w.heap.size ps := by
  obtain ⟨a, c, rfl⟩ := h.form
  obtain ⟨zc, bb, hz, hzl, _, hbb⟩ := infoKz
  have mk := make_any Tryd.underlying22 hz hbb hl w
  have HP := hide (fun (i : Nat) (hi : i < ps.length) => h.at hi)
  have HLF := hide (fun (i : Nat) (hi : i < ps.length) (X : World) (x : Value) (hX : Rws 40 34 X x (ps[i]).fs) => lentFiles_any (Nat.le_trans (allF_le hi) hs) hX)
  have HST := hide (Lp.start (w := w) (n := ps.length) (ps := ps) zc.toArray)
  have HDN := hide (fun (X : World) (h : Lp w X w.heap.size ps.length ps ps.length) (ms : List Value) (hm : ms.length = 43) (h0 : ms[0]? = some (.string mark)) => h.done hm h0)
  obtain ⟨N, hN⟩ : ∃ N, ps.length = N := ⟨_, rfl⟩
  have HN := hide hN
  rw [hN] at mk hl HST HDN ⊢
  clear h hN hz
  generalize hW0 : w.alloc (.cells (madeCells zc.toArray ((N + 1) * 43)) 49) = W0 at *
  go_enter Tryd.func4, Tryd.ntmps4
  go_wp2_with fail
  clear mk
  go_loopg [4] N (fun gq iv wr => ∃ i : Nat, iv = .int .i64 i ∧ i ≤ N ∧ N - i ≤ gq ∧ Hid (Lp w wr w.heap.size N ps i))
  case atStart => exact ⟨0, by go_num, by omega, by omega, HST⟩
  case round =>
    clear HST
    obtain ⟨i, rfl, hi, hg, HL⟩ := hrel
    by_cases hlt : i < N
    · have hin : (i : Int) < (N : Int) := by omega
      have hin2 : (i : Int) < (N : Int) + 1 := by omega
      have hil : i < ps.length := by have := unhide HN; omega
      obtain ⟨b, o, cs, xa, xc, rfl, hbl, hr, hc, hf⟩ := unhide HP i hil
      have HRG := hide (rangeAt_later hr hbl (unhide HL).bw)
      have hcl := hc.len
      have HC1 := hide hc.one
      have a7w := hr 7 _ hc.c7
      have HTH := hide ((unhide HL).there (Nat.le_of_lt hlt))
      have BW1 := hide (below_setCells w.heap.size (Nat.le_refl _) cs (i * 43) wr (unhide HL).bw)
      have a7 := cell_later a7w (unhide BW1)
      have HCF := hide (unhide HLF i hil _ _ (hf.later (unhide BW1)))
      have HSZ := hide (size_setCells w.heap.size cs (i * 43) wr)
      have HNX := hide (fun (W2 : World) (hb : Below wr.heap.size (wr.setCells w.heap.size (i * 43) cs) W2) (hf2 : Fb W2 wr.heap.size (ps[i]).fs) => (unhide HL).next hil hlt hc hb (unhide HL).lt hf2)
      have HR7 := hide (show ∀ W2, Below wr.heap.size (wr.setCells w.heap.size (i * 43) cs) W2 → W2.cell? ⟨w.heap.size, i * 43 + 7, none⟩ = some (.slice xa (ps[i]).fs.length xc) ∧ W2.frozen? ⟨w.heap.size, i * 43 + 7, none⟩ = false from fun W2 hb => by
        have hr0 : (wr.setCells w.heap.size (i * 43) cs).rangeAt w.heap.size (i * 43) cs := World.rangeAt_setCells_same wr w.heap.size (i * 43) cs (by rw [hcl]; exact unhide HTH)
        have hg1 : w.heap.size < wr.heap.size := (unhide HL).lt
        exact ⟨(hb.cell (p := ⟨w.heap.size, i * 43 + 7, none⟩) hg1).trans (hr0 7 _ hc.c7), by rw [hb.frozen (p := ⟨w.heap.size, i * 43 + 7, none⟩) hg1, World.frozen?_setCells]; exact (unhide HL).fr _⟩)
      generalize hfl : (ps[i]).fs.length = M at *
      clear hr hc hf a7w
      go_wp2_with (first
        | ((with_reducible refine m_load (t := 49) (k := 43) Tryd.underlying49 rfl infoK _ rfl rfl b (o + i * 43) rfl cs (unhide HRG) hcl ?_))
        | ((with_reducible refine m_store (t := 49) (k := 43) infoK _ _ rfl rfl w.heap.size (i * 43) rfl cs rfl hcl (unhide HC1) (unhide HTH) ?_))
        | (go_at_call 14; refine (unhide HCF).mono ?_; rintro e w2 ⟨rfl, hfb, hbe⟩; rw [unhide HSZ] at hfb hbe ⊢; have HX := hide (unhide HNX w2 hbe hfb); obtain ⟨e7, f7⟩ := unhide HR7 w2 hbe; clear hfb hbe a7))
      go_roundg (N - (i + 1))
      case measure => omega
      case rel => exact ⟨i + 1, by go_num, by omega, by omega, HX⟩
    · obtain rfl : i = N := by omega
      have hge : ¬ (i : Int) < (i : Int) := by omega
      have hin2 : (i : Int) < (i : Int) + 1 := by omega
      have HTH := hide ((unhide HL).there (Nat.le_refl i))
      clear HLF HP
      go_wp2_with ((with_reducible refine m_store (t := 49) (k := 43) infoK _ _ rfl rfl w.heap.size (i * 43) rfl _ rfl ?se ?sf (unhide HTH) ?_); (case se => rfl); (case sf => exact List.all_eq_true.1 rfl))
      go_ret
      exact ⟨rfl, unhide HDN wr (unhide HL) _ rfl rfl⟩
end Go.Proofs.YtkpkpebljkcmkaaDoor
