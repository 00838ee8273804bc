import Derived.Test.YtmjdpddpphfpiaaOrJ
import Derived.Deep.Onto
import Derived.ChangeAgain
namespace Go.Proofs.Ytmjdpddpphfpiaa
open Go.RowKit Go.Maps Go.Sort Go.Shelf

def rep (n c i : Nat) : List Nm := List.replicate n (ch c i)
theorem rep_len (n c i : Nat) : (rep n c i).length = n := List.length_replicate
theorem rep_at {n c i t : Nat} (h : t < n) : (rep n c i)[t]? = some (ch c i) := by
  unfold rep
  rw [List.getElem?_replicate, if_pos h]
theorem rep_of {l : List Nm} {n c i : Nat} (hl : l.length = n) (h : ∀ t, t < n → l[t]? = some (ch c i)) : l = rep n c i := by
  refine List.ext_getElem? fun t => ?_
  by_cases e : t < n
  · rw [h t e, rep_at e]
  · rw [List.getElem?_eq_none (by omega), List.getElem?_eq_none (by rw [rep_len]; omega)]
theorem rep_succ (t c i : Nat) : rep (t + 1) c i = rep t c i ++ [ch c i] := List.replicate_succ'
/-- A LONGER ONE. -/
def Nw (wr : World) (lb : Nat) (v x : Value) (n j : Nat) : Prop := ∃ g o c, x = .slice (some ⟨g, o, none⟩) (n + 64) c ∧ g < wr.heap.size ∧ (v.ownBlock = some g ∨ (lb < g ∧ ∃ cur, wr.heap[g]? = some (.cells cur 9 (0, 0)))) ∧ ∀ t s, (rep n 97 j ++ rep 64 65 j)[t]? = some s → wr.cell? ⟨g, o + t, none⟩ = some (.string s)
structure S3 (W wr : World) (lb : Nat) (vv : Nat → Value) (lo nn : Nat → Nat) (i : Nat) (s : Value) (lv : Nat → Value) : Prop where
  rows : ∀ j, i ≤ j → j < 4 → wr.ownsRow (lo j) 9 1 (vv j) (nn j) (sv (rep (nn j) 97 j))
  olds : ∀ j, j < 4 → Sl wr (vv j) (rep (nn j) 97 j)
  news : ∀ j, j < i → Nw wr lb (vv j) (lv j) (nn j) j
  long : wr.ownsRow (lb + 1) 23 1 s i ((List.range i).map lv)
  hd : wr.heap[lb]? = some (.cells (h4 vv) 23 (0, 0))
  bw : Below W.heap.size W wr
theorem S3.start {W wr : World} {lb : Nat} {vv : Nat → Value} {lo nn : Nat → Nat} {X : Nat → List Nm} (h : R4 W wr lb vv lo X) (hl : ∀ j, (X j).length = nn j) (hx : ∀ j, j < 4 → ∀ t, t < nn j → (X j)[t]? = some (ch 97 j)) : S3 W wr lb vv lo nn 0 (.slice none 0 0) (fun _ => undef) := by
  have e : ∀ j, j < 4 → X j = rep (nn j) 97 j := fun j hj => rep_of (hl j) (hx j hj)
  have hr : ∀ j, j < 4 → wr.ownsRow (lo j) 9 1 (vv j) (nn j) (sv (rep (nn j) 97 j)) := fun j hj => by
    have q := h.row j hj
    rw [e j hj, rep_len] at q
    exact q
  refine ⟨fun j _ hj => hr j hj, fun j hj => own_sl (by have q := hr j hj; rw [rep_len]; exact q), fun j hj => absurd hj (Nat.not_lt_zero _), World.ownsRow_nil _ _ _ _, h.hd, h.bw⟩
/-- THE SLICE THAT IS APPENDED TO. -/
theorem S3.came {W wr : World} {lb : Nat} {vv : Nat → Value} {lo nn : Nat → Nat} {i : Nat} {s : Value} {lv : Nat → Value} (h : S3 W wr lb vv lo nn i s lv) (hi : i < 4) :
    ∃ a b c, vv i = .slice a (nn i) c ∧ Came wr 1 a b 0 (nn i) c (sv (rep (nn i) 97 i)) ∧ (∀ g, (vv i).ownBlock = some g → g = b) ∧ (0 < c → (vv i).ownBlock = some b) ∧ c ≤ maxLen := by
  have hr := h.rows i (Nat.le_refl _) hi
  rcases hr.2 with ⟨h1, h2⟩ | ⟨g, cap, cur, e, hg, hh, h1, h2, h3, h4⟩
  · refine ⟨none, 0, 0, by rw [h1, h2], ⟨by omega, fun q => by omega, fun q => by omega, by rw [sv_len, rep_len]; omega, fun j u hj => ?_, fun j hj => by omega⟩, fun g e => (by rw [h1] at e; cases e), fun q => by omega, Nat.zero_le _⟩
    rw [h2] at hj
    simp [rep, sv] at hj
  · refine ⟨some ⟨g, 0, none⟩, g, cap, e, ⟨h1, fun _ => rfl, fun _ => blk_lt hh, by rw [sv_len, rep_len]; omega, fun j u hj => ?_, fun j hj => ?_⟩, fun q e2 => ?_, fun _ => by rw [e]; rfl, h2⟩
    · rw [Nat.zero_add]
      rw [e] at hr
      exact owns_at hr j u hj
    · rw [(cell_blk hh _).1, (cell_blk hh _).2]
      refine ⟨?_, rfl⟩
      rw [Array.getElem?_eq_getElem (by omega)]
      rfl
    · rw [e] at e2
      cases e2
      rfl
/-- WHEN IT IS LONGER. -/
theorem S3.after {W wi wr : World} {lb : Nat} {vv : Nat → Value} {lo nn : Nat → Nat} {i : Nat} {s x : Value} {lv : Nat → Value} {a : Option Addr} {b c : Nat} (f : Fr W.heap.size lb vv lo) (h : S3 W wi lb vv lo nn i s lv) (hi : i < 4) (hc : Came wi 1 a b 0 (nn i) c (sv (rep (nn i) 97 i))) (hv : vv i = .slice a (nn i) c) (hb : ∀ g, (vv i).ownBlock = some g → g = b) (hb2 : 0 < c → (vv i).ownBlock = some b) (hm : c ≤ maxLen)
    (o : Onto wi 9 1 a b 0 (nn i) c (sv (rep (nn i) 97 i)) wr x 64 (sv (rep 64 65 i))) : (∀ j, i + 1 ≤ j → j < 4 → wr.ownsRow (lo j) 9 1 (vv j) (nn j) (sv (rep (nn j) 97 j))) ∧ (∀ j, j < 4 → Sl wr (vv j) (rep (nn j) 97 j)) ∧ (∀ j, j < i → Nw wr lb (vv j) (lv j) (nn j) j) ∧ Nw wr lb (vv i) x (nn i) i ∧ wr.ownsRow (lb + 1) 23 1 s i ((List.range i).map lv) ∧ wr.heap[lb]? = some (.cells (h4 vv) 23 (0, 0)) := by
  have hlw := blk_lt h.hd
  have hblk : ∀ k, k < wi.heap.size → (0 < c → k ≠ b) → wr.heap[k]? = wi.heap[k]? := fun k hk hn => o.kept.block hk fun p ⟨j, h1, h2, e⟩ => by
    subst e
    exact fun q => hn (by omega) q.symm
  have hbl : 0 < c → b < lb := fun q => (f.low hi (hb2 q)).2
  have hother : ∀ j, j < 4 → j ≠ i → ∀ g, (vv j).ownBlock = some g → wr.heap[g]? = wi.heap[g]? := fun j hj hji g e => by
    have hg := (f.low hj e).2
    exact hblk g (by omega) fun q eq => hji (f.ne hj hi e (by rw [eq]; exact hb2 q))
  refine ⟨fun j hj hj4 => own_same (h.rows j (by omega) hj4) (hother j hj4 (by omega)), fun j hj => ?_, fun j hj => ?_, ?_, ?_, ?_⟩
  · by_cases e : j = i
    · subst e
      refine ⟨a, c, by rw [hv, rep_len], fun h0 => ?_⟩
      rw [rep_len] at h0
      have hc0 : 0 < c := Nat.lt_of_lt_of_le h0 hc.le
      refine ⟨b, 0, hc.addr hc0, Nat.lt_of_lt_of_le (hc.lt hc0) o.kept.size, fun t u ht => ?_⟩
      have htn : t < nn j := by have := (List.getElem?_eq_some_iff.1 ht).1; rwa [rep_len] at this
      rw [o.old (hc.lt hc0) fun q _ _ e => by omega]
      exact hc.olds t _ (by rw [sv_at, ht]; rfl)
    · obtain ⟨a2, c2, e2, hr⟩ := h.olds j hj
      refine ⟨a2, c2, e2, fun h0 => ?_⟩
      obtain ⟨b2, o2, e3, h1, h2⟩ := hr h0
      refine ⟨b2, o2, e3, Nat.lt_of_lt_of_le h1 o.kept.size, fun t u ht => ?_⟩
      rw [World.cell?_of_block (a := ⟨b2, _, none⟩) (hblk b2 h1 fun q eq => ?_)]
      · exact h2 t u ht
      · exact e (f.ne hj hi (by rw [e2, e3]; rfl) (by rw [eq]; exact hb2 q))
  · obtain ⟨g, q, c9, e1, h1, h2, h3⟩ := h.news j hj
    have hk : wr.heap[g]? = wi.heap[g]? := by
      rcases h2 with h2 | ⟨h2, _⟩
      · exact hother j (by omega) (by omega) g h2
      · exact hblk g h1 fun z eq => by have := hbl z; omega
    exact ⟨g, q, c9, e1, Nat.lt_of_lt_of_le h1 o.kept.size, h2.imp id fun ⟨z, cur, ez⟩ => ⟨z, cur, hk.trans ez⟩, fun t u ht => (World.cell?_of_block (a := ⟨g, _, none⟩) hk).trans (h3 t u ht)⟩
  · obtain ⟨g, q, c9, e1, h1, h2, h3⟩ := o.value hc hm (.inr (by decide))
    have hcell : ∀ t u, (rep (nn i) 97 i ++ rep 64 65 i)[t]? = some u → wr.cell? ⟨g, q + t, none⟩ = some (.string u) := fun t u ht => by
      have hl := (List.getElem?_eq_some_iff.1 ht).1
      rw [List.length_append, rep_len, rep_len] at hl
      rw [h3 t (by omega)]
      have : sv (rep (nn i) 97 i) ++ sv (rep 64 65 i) = sv (rep (nn i) 97 i ++ rep 64 65 i) := by unfold sv; rw [List.map_append]
      rw [this, sv_at, ht]
      rfl
    rcases o.val with ⟨h5, h6⟩ | ⟨h5, h6⟩
    · have hc0 : 0 < c := by omega
      rw [hc.addr hc0, e1] at h6
      injection h6 with e7 _ _
      injection e7 with e7
      injection e7 with e8 _ _
      subst e8
      exact ⟨_, q, c9, e1, Nat.lt_of_lt_of_le (hc.lt hc0) o.kept.size, .inl (hb2 hc0), hcell⟩
    · rcases h6.2 with ⟨_, z⟩ | ⟨g9, cap9, cur9, e9, hg9, hh9, _⟩
      · omega
      · rw [e1] at e9
        injection e9 with e9 _ _
        injection e9 with e9
        injection e9 with e8 _ _
        subst e8
        exact ⟨g, q, c9, e1, blk_lt hh9, .inr ⟨by omega, cur9, hh9⟩, hcell⟩
  · exact own_same h.long fun g e => by
      have hg := World.ownsRow.lt h.long g e
      exact hblk g hg.2 fun z eq => by have := hbl z; omega
  · exact (hblk lb hlw fun z eq => by have := hbl z; omega).trans h.hd
theorem app_both {W wi wr : World} {a : Option Addr} {b n c i t : Nat} {x : Value} (hc : Came wi 1 a b 0 n c (sv (rep n 97 i))) (o : Onto wi 9 1 a b 0 n c (sv (rep n 97 i)) wr x t (sv (rep t 65 i))) (ho : wr.ownsRow W.heap.size 9 1 x (n + t) (sv (rep n 97 i ++ rep t 65 i))) (hb : Below W.heap.size W wr) (hn : n ≤ 586406201463) (ht : t < 64) (ob : Obj) (ty : TypeId) :
    ∃ x' w9, (Builtin.append_ #[23, 23] ty #[x, .slice (some ⟨wr.heap.size + 1, 0, none⟩) 1 1]).run Try.prog ((wr.alloc ob).alloc (.cells #[.string (ch 65 i)] 9)) = .ok x' w9 ∧ Onto wi 9 1 a b 0 n c (sv (rep n 97 i)) w9 x' (t + 1) (sv (rep (t + 1) 65 i)) ∧ w9.ownsRow W.heap.size 9 1 x' (n + (t + 1)) (sv (rep n 97 i ++ rep (t + 1) 65 i)) ∧ Below W.heap.size W w9 := by
  obtain ⟨i0, hi0, hz0, hz1, hz2⟩ := info_parts2 infoS
  have hl : (rep n 97 i ++ rep t 65 i).length = n + t := by rw [List.length_append, rep_len, rep_len]
  have hb2 : Below W.heap.size W (wr.alloc ob) := bl_t hb ((Below.refl _ _).alloc (Nat.le_refl _) _)
  obtain ⟨g, cap, w9, hr, h1, h2, _, _⟩ := row_app (w := W) (wr := wr.alloc ob) (l := rep n 97 i ++ rep t 65 i) (by rw [hl]; exact own_low ho ((Below.refl _ _).alloc (Nat.le_refl _) _)) hb2 hb2.size (by omega) (ch 65 i) ty
  obtain ⟨v', w', hr2, h3⟩ := run_append_onto (P := Try.prog) hc 23 ty i0 (.string ⟨#[]⟩) 16 Try.underlying23 hi0 hz0 hz1 hz2 rfl (by decide) ((o.alloc hc ob).alloc hc (.cells #[.string (ch 65 i)] 9)) ⟨(wr.alloc ob).heap.size, 0, none⟩ 1 [.string (ch 65 i)] rfl
    (fun j u hj => by rw [Addr.add_mid, Nat.zero_add, World.cell?_alloc_new]; simpa using hj) (fun u hu => by rw [List.mem_singleton] at hu; subst hu; rfl) (by unfold maxLen; omega) (by omega)
  rw [hr] at hr2
  injection hr2 with e1 e2
  subst e1 e2
  rw [show (wr.alloc ob).heap.size = wr.heap.size + 1 from World.size_alloc _ _] at hr
  refine ⟨_, _, hr, ?_, ?_, h2⟩
  · have e : sv (rep (t + 1) 65 i) = sv (rep t 65 i) ++ [.string (ch 65 i)] := by rw [rep_succ]; unfold sv; rw [List.map_append]; rfl
    rw [e]
    exact h3
  · rw [rep_succ, ← List.append_assoc]
    rw [hl] at h1 ⊢
    exact h1
theorem infoSL : (Try.prog.info? 23).map (fun i => (i.zero, i.size, i.bytes)) = some (some (.slice none 0 0), 1, 24) := by kernel_rfl
def setL (lv : Nat → Value) (i : Nat) (x : Value) : Nat → Value := fun j => if j = i then x else lv j
theorem range_setL (lv : Nat → Value) (i : Nat) (x : Value) : (List.range (i + 1)).map (setL lv i x) = (List.range i).map lv ++ [x] := by
  rw [List.range_succ, List.map_append]
  congr 1
  · refine List.map_congr_left fun j hj => ?_
    have := List.mem_range.1 hj
    exact if_neg (by omega)
  · simp [setL]
/-- IT IS LAID AMONG THE LONG ONES. -/
theorem S3.next {W wr : World} {lb : Nat} {vv : Nat → Value} {lo nn : Nat → Nat} {i : Nat} {s x : Value} {lv : Nat → Value} (f : Fr W.heap.size lb vv lo) (hi : i < 4) (hx : x.oneCell' = true)
    (q1 : ∀ j, i + 1 ≤ j → j < 4 → wr.ownsRow (lo j) 9 1 (vv j) (nn j) (sv (rep (nn j) 97 j))) (q2 : ∀ j, j < 4 → Sl wr (vv j) (rep (nn j) 97 j)) (q3 : ∀ j, j < i → Nw wr lb (vv j) (lv j) (nn j) j) (q4 : Nw wr lb (vv i) x (nn i) i) (q5 : wr.ownsRow (lb + 1) 23 1 s i ((List.range i).map lv)) (q6 : wr.heap[lb]? = some (.cells (h4 vv) 23 (0, 0))) (bw : Below W.heap.size W wr) (ty : TypeId) :
    ∃ s' w9, (Builtin.append_ #[34, 34] ty #[s, .slice (some ⟨wr.heap.size, 0, none⟩) 1 1]).run Try.prog (wr.alloc (.cells #[x] 23)) = .ok s' w9 ∧ S3 W w9 lb vv lo nn (i + 1) s' (setL lv i x) := by
  obtain ⟨i0, hi0, hz0, hz1, hz2⟩ := info_parts2 infoSL
  have hlw := blk_lt q6
  have hb2 : Below wr.heap.size wr (wr.alloc (.cells #[x] 23)) := (Below.refl _ wr).alloc (Nat.le_refl _) _
  obtain ⟨g, cap, w9, hr, ho, hg, hgg, _⟩ := run_append_lies (P := Try.prog) (wr.alloc (.cells #[x] 23)) 34 ty (lb + 1) 23 i0 (.slice none 0 0) 1 24 Try.underlying34 hi0 hz0 hz1 hz2 rfl (by decide) s i _ (own_low q5 hb2) ⟨wr.heap.size, 0, none⟩ 1 1 [x] rfl
    (fun j u hj => by rw [Addr.add_mid, Nat.zero_add, World.cell?_alloc_new]; simpa using hj) (fun u hu => by rw [List.mem_singleton] at hu; subst hu; exact hx) (by decide) (by unfold maxLen; omega) (by omega) (Nat.le_trans hlw hb2.size) _ rfl
  have hk : ∀ k, k < wr.heap.size → s.ownBlock ≠ some k → w9.heap[k]? = wr.heap[k]? := fun k hk hn => (hg.block k (Nat.lt_of_lt_of_le hk hb2.size) fun e => hn e.symm).trans (hb2.block k hk)
  have hlow : ∀ k, k ≤ lb → w9.heap[k]? = wr.heap[k]? := fun k hkl => hk k (by omega) fun e => by
    have := (World.ownsRow.lt q5 k e).1
    omega
  have hw9 : wr.heap.size ≤ w9.heap.size := Nat.le_trans hb2.size hg.size
  have hN : ∀ j y, j < 4 → Nw wr lb (vv j) y (nn j) j → Nw w9 lb (vv j) y (nn j) j := fun j y hj ⟨g2, o2, c2, e1, h1, h2, h3⟩ => by
    have hk2 : w9.heap[g2]? = wr.heap[g2]? := by
      rcases h2 with h2 | ⟨h2, cur, h4⟩
      · exact hlow g2 (by have := (f.low hj h2).2; omega)
      · refine hk g2 h1 fun e => ?_
        rcases q5.2 with ⟨q, _⟩ | ⟨g3, c3, cur3, e3, _, h5, _⟩
        · rw [q] at e; cases e
        · rw [e3] at e
          cases e
          rw [h4] at h5
          cases h5
    exact ⟨g2, o2, c2, e1, Nat.lt_of_lt_of_le h1 hw9, h2.imp id fun ⟨z, cur, ez⟩ => ⟨z, cur, hk2.trans ez⟩, fun t u ht => (World.cell?_of_block (a := ⟨g2, _, none⟩) hk2).trans (h3 t u ht)⟩
  refine ⟨_, w9, hr, ⟨fun j hj hj4 => own_same (q1 j hj hj4) fun g2 e => hlow g2 (by have := (f.low hj4 e).2; omega), fun j hj => ?_, fun j hj => ?_, by rw [range_setL]; exact ho, (hlow lb (Nat.le_refl _)).trans q6, ?_⟩⟩
  · obtain ⟨a2, c2, e2, hr2⟩ := q2 j hj
    refine ⟨a2, c2, e2, fun h0 => ?_⟩
    obtain ⟨b2, o2, e3, h1, h2⟩ := hr2 h0
    refine ⟨b2, o2, e3, Nat.lt_of_lt_of_le h1 hw9, fun t u ht => ?_⟩
    rw [World.cell?_of_block (a := ⟨b2, _, none⟩) (hlow b2 (by
      have hv : vv j = .slice (some ⟨b2, o2, none⟩) (rep (nn j) 97 j).length c2 := by rw [e2, e3]
      have ho2 : o2 = 0 ∨ True := .inr trivial
      by_cases h9 : i + 1 ≤ j
      · exact Nat.le_of_lt (f.low hj (by rw [hv]; rfl)).2
      · exact Nat.le_of_lt (f.low hj (by rw [hv]; rfl)).2))]
    exact h2 t u ht
  · by_cases e : j = i
    · subst e
      rw [show setL lv j x j = x from if_pos rfl]
      exact hN j x hi q4
    · rw [show setL lv i x j = lv j from if_neg e]
      exact hN j _ (by omega) (q3 j (by omega))
  · exact (bw.trans (hb2.mono bw.size)).grown hg (Nat.le_trans bw.size hb2.size) fun k e => by
      have h1 := (World.ownsRow.lt q5 k e).1
      have h2 := f.base
      have h3 := f.mono 0 4 (by omega) (by omega)
      have h4 := f.top
      omega
end Go.Proofs.Ytmjdpddpphfpiaa
