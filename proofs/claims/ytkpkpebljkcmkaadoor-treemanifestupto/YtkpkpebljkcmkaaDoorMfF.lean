import Derived.Test.YtkpkpebljkcmkaaDoorMfE
namespace Go.Proofs.YtkpkpebljkcmkaaDoor
open Go.RowKit Go.Sort Go.Shelf

def encR (x : RowT) : List Value := x.1
def rawL (L : List RowT) : List (List Value) := L.map (·.1)
theorem rawL_len (L : List RowT) : (rawL L).length = L.length := List.length_map _
theorem rawL_ok (L : List RowT) : ∀ r ∈ rawL L, isT 40 34 r := fun r hr => by
  obtain ⟨x, _, rfl⟩ := List.mem_map.1 hr
  exact x.2
theorem rawL_flat (L : List RowT) : (rawL L).flatten.length = L.length * 34 := by rw [flat_len (rawL_ok L), rawL_len]
theorem raw_ex : ∀ {L : List (List Value)}, (∀ r ∈ L, isT 40 34 r) → ∃ LT : List RowT, rawL LT = L
  | [], _ => ⟨[], rfl⟩
  | a :: L, h => by
    obtain ⟨LT, e⟩ := raw_ex (L := L) fun r hr => h r (List.mem_cons_of_mem _ hr)
    exact ⟨⟨a, h a List.mem_cons_self⟩ :: LT, by show a :: rawL LT = _; rw [e]⟩
theorem flat_raw [Inhabited RowT] (L : List RowT) (j : Nat) (h : j < L.length * 34) : (rawL L).flatten[j]? = some (flatK encR 34 L.toArray)[j]! := by
  rw [get_flatK encR 34 L.toArray j (by simpa using h)]
  have hj : j / 34 < L.length := by omega
  have e : L.toArray[j / 34]! = L[j / 34] := by rw [getElem!_pos _ _ (by simpa using hj)]; simp
  rw [e]
  have hl : (encR L[j / 34]).length = 34 := (L[j / 34]).2.1
  have hm : j % 34 < (encR L[j / 34]).length := by rw [hl]; omega
  have h1 := flat_at (k := 34) (rs := rawL L) (fun r hr => (rawL_ok L r hr).1) (i := j / 34) (r := encR L[j / 34]) (by unfold rawL encR; rw [List.getElem?_map, List.getElem?_eq_getElem hj]; rfl) (j := j % 34) (u := (encR L[j / 34])[j % 34]) (List.getElem?_eq_getElem hm)
  rw [show j / 34 * 34 + j % 34 = j by omega] at h1
  rw [h1]
  exact congrArg some (getElem!_pos (encR L[j / 34]) (j % 34) hm).symm
set_option maxRecDepth 100000 in
/-- FILES SORTED IN THEIR PLACE: the slice owns them still. -/
theorem sortR_own {W w2 : World} {u : Value} {L : List RowT} (hL : L.length ≤ 1048576) (hrow : w2.ownsRow W.heap.size 40 34 u L.length (rawL L).flatten) (hb : RowKit.Below W.heap.size W w2) :
    Calls Tryd.prog 29 #[u, .func (.func 30) #[] #[]] w2 fun e w' => e = .returned (.tuple #[]) ∧ ∃ L' : List RowT, L'.Perm L ∧ L'.Pairwise (fun x y => ¬ ltR y.1 x.1) ∧ w'.ownsRow W.heap.size 40 34 u L'.length (rawL L').flatten ∧ RowKit.Below W.heap.size W w' := by
  by_cases h0 : L.length = 0
  · have hl : L = [] := List.length_eq_zero_iff.1 h0
    subst hl
    obtain ⟨a, c, rfl⟩ := owns_form hrow
    refine (AnyF.slices_SortFunc_none Tryd.laysSF a c _ w2).mono ?_
    rintro e w' ⟨rfl, rfl⟩
    exact ⟨rfl, [], List.Perm.nil, List.Pairwise.nil, hrow, hb⟩
  have h0' : 0 < L.length := by omega
  letI : Inhabited RowT := ⟨L[0]⟩
  rcases hrow.2 with ⟨q1, q2⟩ | ⟨g, cap, cur, q1, q2, q3, q4, q5, q6, q7⟩
  · exact absurd q2 h0
  · have hgl := blk_lt q3
    have hc := hrow.cells (g := g) (by rw [q1]; rfl)
    have hH : HoldsK encR 34 w2 g 0 L.toArray := fun j hj => by
      rw [size_flatK] at hj
      have hj2 : j < L.length * 34 := by simpa using hj
      have h1 := hc _ _ (flat_raw L j hj2)
      rw [Addr.add_mid] at h1
      exact ⟨h1, (cell_blk q3 _).2⟩
    have eg : ∀ args w, (callFunc 30 args).run Tryd.prog w = .ok (.enter 30 args) w := enters_of Tryd.func30 (by kernel_rfl) rfl
    have hcon := AnyQ.slices_SortFunc Tryd.laysSF 34 Tryd.isAgg40 Tryd.sizeOf40 encR (fun x => x.2.1) (fun x v hv => x.2.2.2 v hv) (fun x y : RowT => cmB (pth x.1) (pth y.1)) swoR 30 #[] g 0 cap L.toArray w2 eg (fun _ _ _ _ x y => byPath_any x.2 y.2 _) hH hgl (by simp; omega)
    rw [q1]
    have hcon2 : Calls Tryd.prog 29 #[.slice (some ⟨g, 0, none⟩) L.length cap, .func (.func 30) #[] #[]] w2 _ := hcon
    refine hcon2.mono ?_
    rintro e w' ⟨rfl, d', n, os, hp, hs, rfl⟩
    have hsz : d'.size = L.length := by simpa using hp.1
    have hgr : w2.grownBy (sortWorldK encR 34 w2 g 0 n d' os) (some g) := by
      unfold sortWorldK putRowK grow
      refine ⟨rfl, rfl, rfl, by simp [putRow, mapBlock, Sort.ahead], fun k hk hne => ?_⟩
      have hkg : g ≠ k := fun e => hne (by rw [e])
      have hk2 : k < (putRow id (Sort.ahead w2 n) g 0 (flatK encR 34 d')).heap.size := by simpa using hk
      show ((putRow id (Sort.ahead w2 n) g 0 (flatK encR 34 d')).heap ++ os)[k]? = w2.heap[k]?
      rw [Array.getElem?_append_left hk2]
      simp [putRow, mapBlock, Sort.ahead, Array.getElem?_modify, hkg]
    have hblk : (sortWorldK encR 34 w2 g 0 n d' os).heap[g]? = some (.cells (putCells id 0 (flatK encR 34 d') cur) 40 (0, 0)) := by
      unfold sortWorldK putRowK
      rw [heap_grow_old _ _ (by simpa using hgl)]
      simp [putRow, mapBlock, Sort.ahead, Array.getElem?_modify, q3, onCells]
    have hll : d'.toList.length = L.length := by rw [Array.length_toList, hsz]
    refine ⟨rfl, d'.toList, ?_, ?_, ⟨rawL_flat _, .inr ⟨g, cap, _, by rw [hll], q2, hblk, by rw [hll]; exact q4, q5, by simp [putCells, q6], ?_⟩⟩, hb.grown hgr hb.size (fun j hj => by cases hj; exact q2)⟩
    · have h3 := hp.2.2
      rw [show L.toArray.size = d'.size from by simpa using hsz.symm] at h3
      rw [Array.extract_size] at h3
      have e4 : (L.toArray.extract 0 d'.size) = L.toArray := by rw [show d'.size = L.toArray.size from by simpa using hsz]; exact Array.extract_size
      rw [e4] at h3
      exact h3
    · rw [List.pairwise_iff_getElem]
      intro i j hi hj hij
      have hi2 : i < d'.size := by simpa using hi
      have hj2 : j < d'.size := by simpa using hj
      have := hs i j (Nat.zero_le _) hij (by simp; omega)
      rw [getElem!_pos d' j hj2, getElem!_pos d' i hi2] at this
      unfold ltOf at this
      intro q
      exact of_decide_eq_false this (cmB_neg.2 (by simpa using q))
    · apply List.ext_getElem?
      intro j
      by_cases hj : j < d'.toList.length * 34
      · rw [List.getElem?_take_of_lt hj, Array.getElem?_toList, flat_raw d'.toList j hj]
        have hcs : j < cur.size := by rw [q6]; omega
        simp [putCells, hcs]
        intro h
        have : j < d'.size * 34 := by simpa using hj
        omega
      · rw [List.getElem?_take_eq_none (by omega), List.getElem?_eq_none (by rw [rawL_flat]; omega)]
end Go.Proofs.YtkpkpebljkcmkaaDoor
