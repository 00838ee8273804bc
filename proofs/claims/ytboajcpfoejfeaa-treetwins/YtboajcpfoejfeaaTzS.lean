import Derived.Test.YtboajcpfoejfeaaTzQ
import Derived.Shelf.SlSortCmp.NoneTotal
namespace Go.Proofs.Ytboajcpfoejfeaa
open Go.RowKit Go.Maps Go.Sort Go.Shelf

section
variable {α : Type} [Inhabited α] (enc : α → Value)
theorem g_holds {w : World} {g : Nat} {cur : Array Value} {e : TypeId} {ss : List α} (hb : w.heap[g]? = some (.cells cur e (0, 0))) (ht : cur.toList.take ss.length = ss.map enc) : Holds enc w g 0 ss.toArray := by
  intro j hj
  have hj' : j < ss.length := by simpa using hj
  refine ⟨?_, by simp [World.frozen?, hb]⟩
  have h1 : (cur.toList.take ss.length)[j]? = (ss.map enc)[j]? := by rw [ht]
  rw [List.getElem?_take_of_lt hj'] at h1
  simp only [World.cell?, hb, Nat.zero_add]
  simp only [Option.isSome_none, Bool.false_eq_true, if_false]
  rw [← Array.getElem?_toList, h1]
  simp [hj']
theorem g_heap {w : World} {g n : Nat} {os : Array Obj} {cur : Array Value} {e : TypeId} {fr : Nat × Nat} (d : Array α) (hb : w.heap[g]? = some (.cells cur e fr)) :
    (grow (putRow enc (Sort.ahead w n) g 0 d) os).heap[g]? = some (.cells (putCells enc 0 d cur) e fr) := by
  have hg : g < w.heap.size := (Array.getElem?_eq_some_iff.1 hb).1
  rw [heap_grow_old _ _ (by simpa using hg)]
  simp [putRow, mapBlock, Sort.ahead, Array.getElem?_modify, hb, onCells]
theorem g_grown {w : World} {g n : Nat} {os : Array Obj} (d : Array α) : w.grownBy (grow (putRow enc (Sort.ahead w n) g 0 d) os) (some g) := by
  refine ⟨rfl, rfl, rfl, by simp, fun k hk hne => ?_⟩
  rw [heap_grow_old _ _ (by simpa using hk)]
  have : g ≠ k := fun e => hne (by rw [e])
  simp [putRow, mapBlock, Sort.ahead, Array.getElem?_modify, this]
theorem g_take (cur : Array Value) (ts : List α) (h : ts.length ≤ cur.size) : (putCells enc 0 ts.toArray cur).toList.take ts.length = ts.map enc := by
  apply List.ext_getElem?
  intro j
  by_cases hj : j < ts.length
  · rw [List.getElem?_take_of_lt hj, Array.getElem?_toList]
    simp [putCells, hj, show j < cur.size by omega]
  · rw [List.getElem?_take_eq_none (by omega), List.getElem?_eq_none (by simp; omega)]
theorem g_owns {w : World} {base g cap n : Nat} {e : TypeId} {os : Array Obj} {cur : Array Value} {ts : List α} (hbase : base ≤ g) (hb : w.heap[g]? = some (.cells cur e (0, 0)))
    (h1 : ts.length ≤ cap) (h2 : cap ≤ maxLen) (h3 : cur.size = cap * 1) :
    (grow (putRow enc (Sort.ahead w n) g 0 ts.toArray) os).ownsRow base e 1 (.slice (some ⟨g, 0, none⟩) ts.length cap) ts.length (ts.map enc) :=
  ⟨by simp, .inr ⟨g, cap, _, rfl, hbase, g_heap enc _ hb, h1, h2, by simp [putCells, h3], by rw [Nat.mul_one]; exact g_take enc cur ts (by omega)⟩⟩
end
/-- THE TWINS BROUGHT INTO ORDER. -/
theorem sortG {w wr : World} {tv : Value} {T : List En} (h : Ga w wr tv T) (hl : T.length ≤ 2513169434843) (hr : ∀ e ∈ T, e.2.length ≤ 2513169434843) :
    Calls Try.prog 11 #[tv, .func (.func 12) #[] #[]] wr fun e w' => e = .returned (.tuple #[]) ∧ ∃ T', T'.Perm T ∧ SrtE T' ∧ Ga w w' tv T' := by
  rcases h.row.2 with ⟨h1, h2⟩ | ⟨g, cap, cur, e1, hg, hh, h1, h2, h3, h4⟩
  · subst h1
    have hT : T = [] := List.length_eq_zero_iff.1 h2
    subst hT
    refine Calls.mono (AnyF.slices_SortFunc_none { Try.laysSF with } none 0 _ wr) ?_
    rintro e w' ⟨rfl, rfl⟩
    exact ⟨rfl, [], List.Perm.refl _, List.Pairwise.nil, h⟩
  · by_cases h0 : T.length = 0
    · have hT : T = [] := List.length_eq_zero_iff.1 h0
      subst hT
      subst e1
      refine Calls.mono (AnyF.slices_SortFunc_none { Try.laysSF with } (some ⟨g, 0, none⟩) cap _ wr) ?_
      rintro e w' ⟨rfl, rfl⟩
      exact ⟨rfl, [], List.Perm.refl _, List.Pairwise.nil, h⟩
    · have h0' : 0 < T.length := by omega
      subst e1
      letI : Inhabited {x : En // x ∈ T} := ⟨⟨T[0], List.getElem_mem h0'⟩⟩
      rw [Nat.mul_one] at h4
      have hal : T.attach.length = T.length := List.length_attach
      have hH : Holds (fun x : {x : En // x ∈ T} => x.val.1) wr g 0 T.attach.toArray := g_holds _ hh (by
        rw [hal, h4]
        conv => lhs; rw [← List.attach_map_subtype_val T]
        rw [List.map_map]
        rfl)
      have hone : OneCell (fun x : {x : En // x ∈ T} => x.val.1) := fun x => by
        obtain ⟨a, c, e⟩ := owns_form (h.own x.val x.property)
        show Value.oneCell' x.val.1 = true
        rw [e]
        rfl
      have hcmp : CmpLays1 Try.prog 12 #[] (fun x : {x : En // x ∈ T} => x.val.1) (fun x y => cmpL x.val.2 y.val.2) g 0 T.attach.toArray.size wr := fun m os dk hs x y => by
        have hgr := g_grown (fun x : {x : En // x ∈ T} => x.val.1) (w := wr) (g := g) (n := m) (os := os) dk
        have keep : ∀ z : {x : En // x ∈ T}, Sl (sortWorld (fun x : {x : En // x ∈ T} => x.val.1) wr g 0 m dk os) z.val.1 z.val.2 := fun z => own_sl (own_same (h.own z.val z.property) fun b e => hgr.block b (World.ownsRow.lt (h.own z.val z.property) b e).2 fun q => by
          cases q
          obtain ⟨c2, q2⟩ := own_type (h.own z.val z.property) e
          rw [hh] at q2; cases q2)
        refine Calls.mono (Compare_any (hr _ x.property) (hr _ y.property) (keep x) (keep y)) ?_
        rintro e w' ⟨rfl, rfl⟩
        exact ⟨rfl, 0, #[], by rw [grow_empty]; rfl⟩
      have hswo : SWO (ltOf fun x y : {x : En // x ∈ T} => cmpL x.val.2 y.val.2) := ⟨fun x => by show decide (cmpL x.val.2 x.val.2 < 0) = false; rw [cmp_self]; rfl, fun x y z p q => decide_eq_true (cmp_trans _ _ _ (of_decide_eq_true p) (of_decide_eq_true q)), fun x y z p q => decide_eq_false (le_trans_cmp (of_decide_eq_false q) (of_decide_eq_false p))⟩
      have hc := Any.slices_SortFunc Try.laysSF (fun x : {x : En // x ∈ T} => x.val.1) hone (fun x y => cmpL x.val.2 y.val.2) hswo 12 #[] g 0 cap T.attach.toArray wr (enters_of Try.func12 (by kernel_rfl) rfl) hcmp hH (blk_lt hh) (by simp; omega)
      have hsz : T.attach.toArray.size = T.length := by simp
      rw [hsz] at hc
      refine Calls.mono hc ?_
      rintro e w' ⟨rfl, d', n, os, hp, hs, rfl⟩
      have hd : d'.size = T.length := by rw [hp.1, hsz]
      have hperm : (d'.toList.map (·.val)).Perm T := by
        have h5 := hp.2.2
        rw [show d'.extract 0 T.length = d' from by rw [← hd]; exact Array.extract_size, show T.attach.toArray.extract 0 T.length = T.attach.toArray from by conv => { lhs; rw [← hsz] }; exact Array.extract_size] at h5
        have h6 := h5.map (·.val)
        simp only [List.attach_map_subtype_val] at h6
        exact h6
      have hlen : (d'.toList.map (·.val)).length = T.length := by simp [hd]
      refine ⟨rfl, d'.toList.map (·.val), hperm, srtE_iff.2 ?_, ⟨?_, fun e he => ?_, ?_⟩⟩
      · rw [List.pairwise_map, List.pairwise_iff_getElem]
        intro i j hi hj hij
        have hj' : j < T.length := by simpa [hd] using hj
        have := hs i j (Nat.zero_le _) hij hj'
        rw [getElem!_pos d' j (by omega), getElem!_pos d' i (by omega)] at this
        have h7 := of_decide_eq_false this
        simpa using h7
      · rw [hlen]
        have h8 := g_owns (fun x : {x : En // x ∈ T} => x.val.1) (w := wr) (n := n) (os := os) (ts := d'.toList) hg hh (by simpa [hd] using h1) h2 h3
        rw [List.map_map]
        simp only [Array.length_toList, hd] at h8
        exact h8
      · have hm : e ∈ T := hperm.mem_iff.1 he
        exact own_same (h.own e hm) fun b q => (g_grown (fun x : {x : En // x ∈ T} => x.val.1) (w := wr) (g := g) (n := n) (os := os) d').block b (World.ownsRow.lt (h.own e hm) b q).2 fun z => by
          cases z
          obtain ⟨c2, q2⟩ := own_type (h.own e hm) q
          rw [hh] at q2; cases q2
      · exact h.bw.grown (g_grown (fun x : {x : En // x ∈ T} => x.val.1) (w := wr) (g := g) (n := n) (os := os) d') h.bw.size fun b q => by cases q; exact hg
end Go.Proofs.Ytboajcpfoejfeaa
