import Derived.Test.YtiibobjbcgbknaaDoorStE
namespace Go.Proofs.YtiibobjbcgbknaaDoor
open Go.RowKit

theorem ownsMap_same {W W' : World} {b n : Nat} {D : DataW Unit} (h : W.ownsMap Tryd.prog 9 (plainElem Tryd.prog 3) b n D) (hs : W'.heap[b]? = W.heap[b]?) : W'.ownsMap Tryd.prog 9 (plainElem Tryd.prog 3) b n D := by
  obtain ⟨es, clock, hbk, F1, hle, hD⟩ := h
  exact ⟨es, clock, by rw [hs]; exact hbk, F1, hle, hD⟩
theorem ownsMap_blk {W : World} {b n : Nat} {D : DataW Unit} (h : W.ownsMap Tryd.prog 9 (plainElem Tryd.prog 3) b n D) : ∃ es c, W.heap[b]? = some (.map es c) := by
  obtain ⟨es, clock, hbk, _⟩ := h
  exact ⟨es, clock, hbk⟩
theorem Mp.same {base : Nat} {W W' : World} {mv : Value} {p p' : List Fd} (h : Mp base W mv p) (hn : p.map (·.nm) = p'.map (·.nm)) (hs : ∀ (b : Nat) (es : Array MapEntry) (c : Nat), W.heap[b]? = some (Obj.map es c) → W'.heap[b]? = W.heap[b]?) : Mp base W' mv p' := by
  have hl : p.length = p'.length := by have := congrArg List.length hn; simpa using this
  rcases h with ⟨h1, rfl⟩ | ⟨b, n, D, h1, h2, h3, h4, h5⟩
  · exact .inl ⟨h1, List.length_eq_zero_iff.1 hl.symm⟩
  · obtain ⟨es, c, hbk⟩ := ownsMap_blk h3
    refine .inr ⟨b, n, D, h1, h2, ownsMap_same h3 (hs b es c hbk), by omega, fun s c hc => ?_⟩
    rw [h5 s c hc]
    have key : ∀ q q' : List Fd, q.map (·.nm) = q'.map (·.nm) → (∃ f ∈ q, small f.nm = s) → ∃ f ∈ q', small f.nm = s := by
      rintro q q' hq ⟨f, hf, hs⟩
      have hm : f.nm ∈ q'.map (·.nm) := by rw [← hq]; exact List.mem_map_of_mem hf
      obtain ⟨f', hf', e⟩ := List.mem_map.1 hm
      exact ⟨f', hf', by rw [e]; exact hs⟩
    exact ⟨key p p' hn, key p' p hn.symm⟩
theorem ownsRow_set {W : World} {base : Nat} {e : TypeId} {z g n cap : Nat} {xs : List Value} (h : W.ownsRow base e z (.slice (some ⟨g, 0, none⟩) n cap) n xs) (k : Nat) (u : Value) :
    (W.setCell ⟨g, k, none⟩ u).ownsRow base e z (.slice (some ⟨g, 0, none⟩) n cap) n (xs.set k u) := by
  obtain ⟨h1, h2⟩ := h
  refine ⟨by rw [List.length_set]; exact h1, ?_⟩
  rcases h2 with ⟨h2, _⟩ | ⟨g', cap', cur, hv, hg, hh, r1, r2, r3, r4⟩
  · cases h2
  · cases hv
    exact Or.inr ⟨g, cap, cur.setIfInBounds k u, rfl, hg, set_blk hh k u, r1, r2, by simpa using r3, by rw [Array.toList_setIfInBounds, List.take_set, r4]⟩
theorem set_cells3 (ys : List Fs) (x : Fs) (a b : Value) : (((ys ++ [x]).flatMap cells3).set (ys.length * 3 + 1) a).set (ys.length * 3 + 2) b = ys.flatMap cells3 ++ [.string (ba x.f.nm), a, b] := by
  rw [List.flatMap_append, List.set_append_right _ _ (by rw [cells3_len]; omega), cells3_len, List.set_append_right _ _ (by rw [cells3_len]; omega), cells3_len]
  have e1 : ys.length * 3 + 1 - ys.length * 3 = 1 := by omega
  have e2 : ys.length * 3 + 2 - ys.length * 3 = 2 := by omega
  rw [e1, e2]
  rfl

/-- THE LAST FIELD GOES ON. -/
theorem goOn_par (base B g m cap : Nat) (x : Fs) (ys : List Fs) (mv : Value) (k : Nat) (tr : Bs) (w w1 w2 w4 : World) (v2 v4 : Value) (hm : ys.length = m)
    (hBx : w.heap[B]? = some (.cells #[.slice (some ⟨g, 0, none⟩) (m + 1) cap, mv] 76 (0, 0))) (hB : B < base) (hb : base ≤ w.heap.size)
    (hpf : PF base w (.slice (some ⟨g, 0, none⟩) (m + 1) cap) (ys ++ [x])) (hmp : Mp base w mv ((ys ++ [x]).map (·.f)))
    (hB1 : Below w.heap.size w w1) (hW2 : (w1.alloc (.cells #[.string (ba tr)] 9)).grownBy w2 (some x.lg)) (hO2 : w2.ownsRow base 9 1 v2 (x.f.ls.length + 1) (strs x.f.ls ++ [.string (ba tr)])) (hV2 : v2.ownBlock = some x.lg ∨ v2.ownBlock = some (w1.heap.size + 1))
    (hW4 : ((w2.setCell ⟨g, m * 3 + 1, none⟩ v2).alloc (.cells #[.int .i64 k] 3)).grownBy w4 (some x.ag)) (hO4 : w4.ownsRow base 3 1 v4 (x.f.ns.length + 1) (ints x.f.ns ++ [.int .i64 k])) (hV4 : v4.ownBlock = some x.ag ∨ v4.ownBlock = some (w2.heap.size + 1)) :
    Par base B (w4.setCell ⟨g, m * 3 + 2, none⟩ v4) (ys.map (·.f) ++ [⟨x.f.nm, x.f.ls ++ [tr], x.f.ns ++ [k]⟩]) ∧ Below base w (w4.setCell ⟨g, m * 3 + 2, none⟩ v4) := by
  subst hm
  have hx := hpf.ok x (by simp)
  obtain ⟨cg, hg, gb, glt⟩ := ownsRow_blk hpf.row (g := g) rfl
  obtain ⟨cl, hl, lb, llt⟩ := ownsRow_blk hx.l (g := x.lg) rfl
  obtain ⟨ca', ha, ab, alt⟩ := ownsRow_blk hx.a (g := x.ag) rfl
  have gl : g ≠ x.lg := fun e => by rw [e, hl] at hg; cases hg
  have ga : g ≠ x.ag := fun e => by rw [e, ha] at hg; cases hg
  have la : x.ag ≠ x.lg := fun e => by rw [e, hl] at ha; cases ha
  have z1 := hB1.size
  have z2 : w1.heap.size + 1 ≤ w2.heap.size := by have := hW2.size; simpa using this
  have z3 := set_size w2 g (ys.length * 3 + 1) v2
  have z4 : w2.heap.size + 1 ≤ w4.heap.size := by have := hW4.size; rw [World.size_alloc, z3] at this; exact this
  have z5 := set_size w4 g (ys.length * 3 + 2) v4
  -- WHAT HAS NOT TURNED
  have k2 : ∀ i, i < w.heap.size → i ≠ x.lg → w2.heap[i]? = w.heap[i]? := fun i hi h1 => (grown_at hW2 (by omega) h1).trans (hB1.block i hi)
  have k4 : ∀ i, i < w2.heap.size → i ≠ g → i ≠ x.ag → w4.heap[i]? = w2.heap[i]? := fun i hi h1 h2 => (grown_at hW4 (by rw [z3]; exact hi) h2).trans (set_other _ _ _ _ _ h1)
  have kf : ∀ i, i < w.heap.size → i ≠ x.lg → i ≠ g → i ≠ x.ag → (w4.setCell ⟨g, ys.length * 3 + 2, none⟩ v4).heap[i]? = w.heap[i]? := fun i hi h1 h2 h3 => (set_other _ _ _ _ _ h2).trans ((k4 i (by omega) h2 h3).trans (k2 i hi h1))
  obtain ⟨g2, cap2, cur2, rfl, hg2, g2b, -⟩ := slice_of hO2
  obtain ⟨g4, cap4, cur4, rfl, hg4, g4b, -⟩ := slice_of hO4
  have hV2' : g2 = x.lg ∨ g2 = w1.heap.size + 1 := by simpa [Value.ownBlock] using hV2
  have hV4' : g4 = x.ag ∨ g4 = w2.heap.size + 1 := by simpa [Value.ownBlock] using hV4
  have g2lt := (Array.getElem?_eq_some_iff.1 hg2).1
  have g4lt := (Array.getElem?_eq_some_iff.1 hg4).1
  have gn2 : g ≠ g2 := by rcases hV2' with e | e <;> omega
  have gn4 : g ≠ g4 := by rcases hV4' with e | e <;> omega
  have a2 : x.ag ≠ g2 := by rcases hV2' with e | e <;> omega
  -- THE ROW
  have r2 : w2.ownsRow base 49 3 (.slice (some ⟨g, 0, none⟩) (ys.length + 1) cap) (ys.length + 1) ((ys ++ [x]).flatMap cells3) := ownsRow_same (by have := hpf.row; rwa [List.length_append] at this) fun i _ hi _ => by
    obtain rfl : g = i := by simpa [Value.ownBlock] using hi
    exact k2 g glt gl
  have r3 := ownsRow_set r2 (ys.length * 3 + 1) (.slice (some ⟨g2, 0, none⟩) (x.f.ls.length + 1) cap2)
  have r4 := ownsRow_same (W' := w4) r3 fun i _ hi _ => by
    obtain rfl : g = i := by simpa [Value.ownBlock] using hi
    exact grown_at hW4 (by rw [z3]; omega) ga
  have r5 := ownsRow_set r4 (ys.length * 3 + 2) (.slice (some ⟨g4, 0, none⟩) (x.f.ns.length + 1) cap4)
  rw [set_cells3] at r5
  have hbel : Below base w (w4.setCell ⟨g, ys.length * 3 + 2, none⟩ (.slice (some ⟨g4, 0, none⟩) (x.f.ns.length + 1) cap4)) := by
    have b1 : Below base w w1 := hB1.mono hb
    have b2 : Below base w w2 := (b1.alloc (by omega) _).grown hW2 (by simp; omega) (fun j e => by cases e; exact lb)
    have b3 := b2.setCell (p := ⟨g, ys.length * 3 + 1, none⟩) gb (.slice (some ⟨g2, 0, none⟩) (x.f.ls.length + 1) cap2)
    have b4 : Below base w w4 := (b3.alloc (by rw [z3]; omega) _).grown hW4 (by rw [World.size_alloc, z3]; omega) (fun j e => by cases e; exact ab)
    exact b4.setCell (p := ⟨g, ys.length * 3 + 2, none⟩) gb _
  refine ⟨⟨⟨.slice (some ⟨g, 0, none⟩) (ys.length + 1) cap, mv, ys ++ [⟨⟨x.f.nm, x.f.ls ++ [tr], x.f.ns ++ [k]⟩, g2, cap2, g4, cap4⟩], ?_, ?_, ?_, ?_⟩, hB, ?_⟩, hbel⟩
  · exact (hbel.block B hB).trans hBx
  · simp
  · -- THE FIELDS
    have dl := hpf.dl
    have da := hpf.da
    rw [List.pairwise_append] at dl da
    refine ⟨?_, ?_, ?_, ?_⟩
    · rw [List.length_append, List.flatMap_append]
      simp only [List.length_cons, List.length_nil, List.flatMap_cons, List.flatMap_nil, List.append_nil]
      have e : cells3 ⟨⟨x.f.nm, x.f.ls ++ [tr], x.f.ns ++ [k]⟩, g2, cap2, g4, cap4⟩ = [.string (ba x.f.nm), .slice (some ⟨g2, 0, none⟩) (x.f.ls.length + 1) cap2, .slice (some ⟨g4, 0, none⟩) (x.f.ns.length + 1) cap4] := by
        simp [cells3, Fs.lv, Fs.av]
      rw [e]
      exact r5
    · intro y hy
      rcases List.mem_append.1 hy with hy | hy
      · have oy := hpf.ok y (List.mem_append_left _ hy)
        have n1 := dl.2.2 y hy x (by simp)
        have n2 := da.2.2 y hy x (by simp)
        obtain ⟨c1, q1, _, lt1⟩ := ownsRow_blk oy.l (g := y.lg) rfl
        obtain ⟨c2, q2, _, lt2⟩ := ownsRow_blk oy.a (g := y.ag) rfl
        refine ⟨ownsRow_same oy.l fun i _ hi _ => ?_, ownsRow_same oy.a fun i _ hi _ => ?_⟩
        · obtain rfl : y.lg = i := by simpa [Value.ownBlock] using hi
          exact kf _ lt1 n1 (fun e => by rw [e, hg] at q1; cases q1) (fun e => by rw [e, ha] at q1; cases q1)
        · obtain rfl : y.ag = i := by simpa [Value.ownBlock] using hi
          exact kf _ lt2 (fun e => by rw [e, hl] at q2; cases q2) (fun e => by rw [e, hg] at q2; cases q2) n2
      · obtain rfl : y = _ := by simpa using hy
        refine ⟨?_, ?_⟩
        · have e : strs (x.f.ls ++ [tr]) = strs x.f.ls ++ [.string (ba tr)] := by simp [strs]
          show World.ownsRow _ base 9 1 (.slice (some ⟨g2, 0, none⟩) (x.f.ls ++ [tr]).length cap2) (x.f.ls ++ [tr]).length (strs (x.f.ls ++ [tr]))
          rw [e, List.length_append]
          refine ownsRow_same hO2 fun i _ hi _ => ?_
          obtain rfl : g2 = i := by simpa [Value.ownBlock] using hi
          rw [set_other _ _ _ _ _ gn2.symm]
          exact k4 g2 g2lt gn2.symm a2.symm
        · have e : ints (x.f.ns ++ [k]) = ints x.f.ns ++ [.int .i64 k] := by simp [ints]
          show World.ownsRow _ base 3 1 (.slice (some ⟨g4, 0, none⟩) (x.f.ns ++ [k]).length cap4) (x.f.ns ++ [k]).length (ints (x.f.ns ++ [k]))
          rw [e, List.length_append]
          refine ownsRow_same hO4 fun i _ hi _ => ?_
          obtain rfl : g4 = i := by simpa [Value.ownBlock] using hi
          exact set_other _ _ _ _ _ gn4.symm
    · rw [List.pairwise_append]
      refine ⟨dl.1, by simp, fun y hy z hz => ?_⟩
      obtain rfl : z = _ := by simpa using hz
      show y.lg ≠ g2
      have n1 := dl.2.2 y hy x (by simp)
      obtain ⟨c1, q1, _, lt1⟩ := ownsRow_blk (hpf.ok y (List.mem_append_left _ hy)).l (g := y.lg) rfl
      rcases hV2' with e | e
      · rw [e]; exact n1
      · omega
    · rw [List.pairwise_append]
      refine ⟨da.1, by simp, fun y hy z hz => ?_⟩
      obtain rfl : z = _ := by simpa using hz
      show y.ag ≠ g4
      have n1 := da.2.2 y hy x (by simp)
      obtain ⟨c1, q1, _, lt1⟩ := ownsRow_blk (hpf.ok y (List.mem_append_left _ hy)).a (g := y.ag) rfl
      rcases hV4' with e | e
      · rw [e]; exact n1
      · omega
  · refine Mp.same hmp (by simp) fun b es c hbk => ?_
    have lt := (Array.getElem?_eq_some_iff.1 hbk).1
    exact kf b lt (fun e => by rw [e, hl] at hbk; cases hbk) (fun e => by rw [e, hg] at hbk; cases hbk) (fun e => by rw [e, ha] at hbk; cases hbk)
  · rw [z5]; omega

/-- HOW MANY THERE ARE AT MOST. -/
def bd (n : Nat) (p : List Fd) : Prop := p.length ≤ n ∧ ∀ f ∈ p, f.ls.length ≤ n ∧ f.ns.length ≤ n

theorem goOn_any (base B : Nat) (p : List Fd) (k : Nat) (s : Bs) (w : World) (hs1 : s ≠ []) (hs2 : s.length ≤ 16777216) (hP : Par base B w p) (hbd : bd 16777216 p) :
    Calls Tryd.prog 73 #[.pointer (some ⟨B, 0, none⟩), .int .i64 k, .string (ba s)] w fun e w' => e = .returned (.int .i64 (goP p k s).1) ∧ Par base B w' (goP p k s).2 ∧ Below base w w' := by
  have hsz : 0 < s.length := List.length_pos_iff.2 hs1
  rcases List.eq_nil_or_concat p with rfl | ⟨q, f, rfl⟩
  · refine (goOn_none base B k (ba s) w hP).mono ?_
    rintro e w' ⟨rfl, rfl⟩
    exact ⟨rfl, hP, Below.refl _ _⟩
  · obtain ⟨v, mv, xs, hBx, hx, hpf, hmp⟩ := hP.sh
    have hxl : xs.length = q.length + 1 := by have := congrArg List.length hx; simpa using this
    rcases List.eq_nil_or_concat xs with rfl | ⟨ys, x, rfl⟩
    · simp at hxl
    · simp only [List.concat_eq_append] at *
      rw [List.map_append] at hx
      have hq : ys.map (·.f) = q ∧ x.f = f := by
        have := List.append_inj' hx rfl
        exact ⟨this.1, by simpa using this.2⟩
      obtain ⟨rfl, rfl⟩ := hq
      have hpf' := hpf
      have hrow := hpf.row
      rw [List.length_append] at hrow
      obtain ⟨g, cap, cur, rfl, hg, gb, htk, -⟩ := slice_of hrow
      have hlen := hbd.1
      simp only [List.length_append, List.length_map, List.length_cons, List.length_nil] at hlen
      have hf := hbd.2 x.f (by simp)
      have c0 := fun w => cTrimR (s.drop 1) w (by simp; omega)
      rw [← drop1_ba] at c0
      have h1 := take_get htk ((cells3_at ys x [] 1 (by omega)).trans rfl)
      have h2 := take_get htk ((cells3_at ys x [] 2 (by omega)).trans rfl)
      refine (goOn_walk base B g ys.length cap cur x k (ba s) (ba (Lib.trimRightS (s.drop 1) bl2)) w (by rw [ba_size]; omega) c0 (by simp [World.cell?, hBx]) hg h1 h2 (hpf.ok x (by simp)) (by omega) hf.1 hf.2 hP.hb).mono ?_
      rintro e w5 ⟨rfl, w1, w2, w4, v2, v4, b1, b2, b3, b4, b5, b6, b7, rfl⟩
      have hh := goOn_par base B g ys.length cap x ys mv k (Lib.trimRightS (s.drop 1) bl2) w w1 w2 w4 v2 v4 rfl hBx hP.hB hP.hb hpf (by rw [List.map_append]; exact hmp) b1 b2 b3 b4 b5 b6 b7
      have hgp : goP (ys.map (·.f) ++ [x.f]) k s = (0, ys.map (·.f) ++ [⟨x.f.nm, x.f.ls ++ [Lib.trimRightS (s.drop 1) bl2], x.f.ns ++ [k]⟩]) := by
        unfold goP
        rw [if_neg (by simp), extL_snoc]
      rw [hgp]
      exact ⟨rfl, hh⟩

end Go.Proofs.YtiibobjbcgbknaaDoor
