import Derived.Test.YtboajcpfoejfeaaTzM
namespace Go.Proofs.Ytboajcpfoejfeaa
open Go.RowKit Go.Maps

/-- THE GROUPS, WHATEVER THEY HOLD. -/
structure Tm (w wr : World) (gv : Value) (mb : Nat) (E : List En) (ks : List Ky) (k : Nat) : Prop where
  ga : Ga w wr gv E
  inj : Inj E
  mp : Dc wr mb ks k
  lo : w.heap.size ≤ mb
theorem Tm.later {w wr X : World} {gv : Value} {mb : Nat} {E : List En} {ks : List Ky} {k : Nat} (h : Tm w wr gv mb E ks k) (hb : Below wr.heap.size wr X) : Tm w X gv mb E ks k :=
  ⟨h.ga.later hb, h.inj, h.mp.later hb, h.lo⟩
theorem Tg.tm {w wr : World} {gv : Value} {mb : Nat} {l : List Fi} {E : List En} {k : Nat} (h : Tg w wr gv mb l E k) : Tm w wr gv mb E (hds l) k := ⟨h.ga, h.inj, h.mp, h.lo⟩
theorem set_map1 (E : List En) (i : Nat) (x : En) : (E.set i x).map (·.1) = (E.map (·.1)).set i x.1 := by rw [List.map_set]
/-- A NAME BEHIND THE OTHERS. -/
theorem row_app2 {w wr : World} {lo : Nat} {s : Value} {l : List Nm} (h : wr.ownsRow lo 9 1 s l.length (sv l)) (hb : Below lo w wr) (hlo : lo ≤ wr.heap.size) (hl : l.length ≤ 2513169435143) (x : Nm) (ty : TypeId) :
    ∃ g cap w9, (Builtin.append_ #[28, 28] ty #[s, .slice (some ⟨wr.heap.size, 0, none⟩) 1 1]).run Try.prog (wr.alloc (.cells #[.string x] 9)) = .ok (.slice (some ⟨g, 0, none⟩) (l.length + 1) cap) w9 ∧
      w9.ownsRow lo 9 1 (.slice (some ⟨g, 0, none⟩) (l.length + 1) cap) (l.length + 1) (sv (l ++ [x])) ∧ Below lo w w9 ∧ (wr.alloc (.cells #[.string x] 9)).grownBy w9 s.ownBlock ∧ (s.ownBlock = some g ∨ g = (wr.alloc (.cells #[.string x] 9)).heap.size) := by
  obtain ⟨i0, hi0, hz0, hz1, hz2⟩ := info_parts2 infoS
  have hb2 : Below wr.heap.size wr (wr.alloc (.cells #[.string x] 9)) := (Below.refl _ wr).alloc (Nat.le_refl _) _
  obtain ⟨g, cap, w9, hr, ho, hg, hgg, _⟩ := run_append_lies (P := Try.prog) (wr.alloc (.cells #[.string x] 9)) 28 ty lo 9 i0 (.string ⟨#[]⟩) 1 16 Try.underlying28 hi0 hz0 hz1 hz2 rfl (by decide) s l.length (sv l) (own_low h hb2) ⟨wr.heap.size, 0, none⟩ 1 1 [.string x] rfl
    (fun j u hj => by rw [Addr.add_mid, Nat.zero_add, World.cell?_alloc_new]; simpa using hj) (fun u hu => by rw [List.mem_singleton] at hu; subst hu; rfl) (by decide) (by unfold maxLen; omega) (by omega) (Nat.le_trans hlo hb2.size) _ rfl
  refine ⟨g, cap, w9, hr, by unfold sv at ho ⊢; rw [List.map_append]; exact ho, ?_, hg, hgg⟩
  exact (hb.trans (hb2.mono hlo)).grown hg (Nat.le_trans hlo hb2.size) fun k e => (World.ownsRow.lt h k e).1
/-- A PATH BEHIND THE OTHERS OF ITS GROUP. -/
theorem Tm.add {w wr : World} {gb gc mb k at_ : Nat} {E : List En} {ks : List Ky} {h : Value} {l : List Nm} (t : Tm w wr (.slice (some ⟨gb, 0, none⟩) E.length gc) mb E ks k) (ha : E[at_]? = some (h, l)) (hl : l.length ≤ 2513169434843) (p : Nm) (ty : TypeId) :
    ∃ g cap w9, (Builtin.append_ #[28, 28] ty #[h, .slice (some ⟨wr.heap.size, 0, none⟩) 1 1]).run Try.prog (wr.alloc (.cells #[.string p] 9)) = .ok (.slice (some ⟨g, 0, none⟩) (l.length + 1) cap) w9 ∧
      (∃ z, w9.cell? ⟨gb, at_, none⟩ = some z) ∧ w9.frozen? ⟨gb, at_, none⟩ = false ∧ (∀ b, b < w.heap.size → w9.heap[b]? = wr.heap[b]?) ∧ (∀ (b t2 : Nat) (cs : Array Value), wr.heap[b]? = some (Obj.cells cs t2 (0, 0)) → t2 ≠ 9 → w9.heap[b]? = wr.heap[b]?) ∧ gb < w9.heap.size ∧
      Tm w (w9.setCell ⟨gb, at_, none⟩ (.slice (some ⟨g, 0, none⟩) (l.length + 1) cap)) (.slice (some ⟨gb, 0, none⟩) E.length gc) mb (E.set at_ (.slice (some ⟨g, 0, none⟩) (l.length + 1) cap, l ++ [p])) ks k := by
  have hat := (List.getElem?_eq_some_iff.1 ha).1
  have hm : (h, l) ∈ E := List.mem_of_getElem? ha
  have hown : wr.ownsRow w.heap.size 9 1 h l.length (sv l) := t.ga.own _ hm
  obtain ⟨g, cap, w9, hr, ho, hb9, hg, hgg⟩ := row_app2 (w := w) (wr := wr) hown t.ga.bw t.ga.bw.size (by omega) p ty
  have hba : Below wr.heap.size wr (wr.alloc (.cells #[.string p] 9)) := (Below.refl _ wr).alloc (Nat.le_refl _) _
  have hblk : ∀ b, b < wr.heap.size → h.ownBlock ≠ some b → w9.heap[b]? = wr.heap[b]? := fun b hb hn => (hg.block b (Nat.lt_of_lt_of_le hb hba.size) fun e => hn e.symm).trans (hba.block b hb)
  have hsz : wr.heap.size ≤ w9.heap.size := Nat.le_trans hba.size hg.size
  have htype : ∀ (b t2 : Nat) (cs : Array Value), wr.heap[b]? = some (Obj.cells cs t2 (0, 0)) → t2 ≠ 9 → w9.heap[b]? = wr.heap[b]? := fun b t2 cs hc hne => hblk b (blk_lt hc) fun e => by
    obtain ⟨cur, q⟩ := own_type hown e
    rw [hc] at q
    cases q
    exact hne rfl
  obtain ⟨curO, hO⟩ := own_type t.ga.row (g := gb) rfl
  have hO9 : w9.heap[gb]? = some (.cells curO 28 (0, 0)) := (htype gb _ _ hO (by decide)).trans hO
  have hcell : w9.cell? ⟨gb, at_, none⟩ = some h := by
    rw [(cell_blk hO9 at_).1, ← (cell_blk hO at_).1]
    exact owns_at t.ga.row at_ _ (by rw [List.getElem?_map, ha]; rfl)
  have rowO : w9.ownsRow w.heap.size 28 1 (.slice (some ⟨gb, 0, none⟩) E.length gc) E.length (E.map (·.1)) := own_same t.ga.row fun b e => by
    cases e
    exact htype gb _ _ hO (by decide)
  have gne : ∀ (b : Nat) (cur : Array Value), w9.heap[b]? = some (.cells cur 9 (0, 0)) → b ≠ gb := fun b cur hb e => by
    rw [e, hO9] at hb
    cases hb
  refine ⟨g, cap, w9, hr, ⟨_, hcell⟩, (cell_blk hO9 at_).2, fun b hb => hblk b (Nat.lt_of_lt_of_le hb t.ga.bw.size) fun e => by have := (World.ownsRow.lt hown b e).1; omega, htype, blk_lt hO9, ⟨⟨?_, fun e he => ?_, ?_⟩, ?_, ?_, t.lo⟩⟩
  · rw [set_map1, List.length_set]
    exact own_set rowO at_ _
  · obtain ⟨i, hi, rfl⟩ := List.getElem_of_mem he
    have hi2 : (E.set at_ (.slice (some ⟨g, 0, none⟩) (l.length + 1) cap, l ++ [p]))[i]? = some _ := List.getElem?_eq_getElem hi
    rw [List.getElem?_set] at hi2
    by_cases ei : at_ = i
    · rw [if_pos ei, if_pos (by omega)] at hi2
      rw [← Option.some.inj hi2]
      show (w9.setCell _ _).ownsRow w.heap.size 9 1 (.slice (some ⟨g, 0, none⟩) (l.length + 1) cap) (l ++ [p]).length (sv (l ++ [p]))
      rw [List.length_append, List.length_singleton]
      exact own_same ho fun b e => by
        obtain ⟨cur, q⟩ := own_type ho e
        exact set_other _ _ _ _ _ (gne b cur q)
    · rw [if_neg ei] at hi2
      have hm2 := List.mem_of_getElem? hi2
      refine own_same (t.ga.own _ hm2) fun b e => ?_
      have hbl := (World.ownsRow.lt (t.ga.own _ hm2) b e).2
      obtain ⟨cur, q⟩ := own_type (t.ga.own _ hm2) e
      have h9 : w9.heap[b]? = wr.heap[b]? := hblk b hbl fun e3 => ei (t.inj at_ i b _ _ ha hi2 e3 e)
      rw [set_other _ _ _ _ _ (gne b cur (h9.trans q))]
      exact h9
  · exact hb9.setCell (p := ⟨gb, at_, none⟩) (World.ownsRow.lt t.ga.row gb rfl).1 _
  · refine inj_set t.inj ha fun b e => ?_
    have eb : b = g := by cases e; rfl
    subst eb
    rcases hgg with q | q
    · exact .inl q
    · refine .inr fun j y hy e2 => ?_
      have h1 := (World.ownsRow.lt (t.ga.own y (List.mem_of_getElem? hy)) b e2).2
      have h2 := hba.size
      omega
  · obtain ⟨es, clock, hmo⟩ := t.mp.obj
    have hmb : w9.heap[mb]? = wr.heap[mb]? := hblk mb t.mp.lt fun e => by
      obtain ⟨cur, q⟩ := own_type hown e
      rw [hmo] at q
      cases q
    refine t.mp.same ?_
    rw [set_other _ _ _ _ _ (fun e => by rw [e, hO9] at hmb; rw [← hmb] at hO; rw [← e, hmo] at hmb; cases hmb)]
    exact hmb
theorem Tg.start {w wr : World} (hb : Below w.heap.size w wr) : Tg w (wr.alloc (.map #[] 0)) (.slice none 0 0) wr.heap.size [] [] 0 :=
  ⟨⟨own_nil _ _ _, fun e he => by simp at he, bl_t hb ((Below.refl _ _).alloc (Nat.le_refl _) _)⟩, fun i j g x y hx => by simp at hx, rfl, Dc.make wr, hb.size⟩
/-- BEHIND A FILE. -/
theorem Tm.old {w wr : World} {gv h' : Value} {mb k at_ : Nat} {l : List Fi} {E : List En} {f : Fi} {m : List Nm} (t : Tm w wr gv mb (E.set at_ (h', m ++ [f.p])) (hds l) k) (he : E.map (·.2) = grp l) (hk : (hds l)[at_]? = some f.k) (hm : m = pth l f.k) : Tg w wr gv mb (l ++ [f]) (E.set at_ (h', m ++ [f.p])) k := by
  refine ⟨t.ga, t.inj, ?_, ?_, t.lo⟩
  · rw [grp_old hk, List.map_set, he, hm]
  · rw [hds_snoc, if_pos (List.mem_of_getElem? hk)]
    exact t.mp
theorem Tm.new {w wr : World} {gv h' : Value} {mb k : Nat} {l : List Fi} {E : List En} {f : Fi} (t : Tm w wr gv mb ((E ++ [((.slice none 0 0, []) : En)]).set E.length (h', [] ++ [f.p])) (hds l ++ [f.k]) k) (he : E.map (·.2) = grp l) (hk : f.k ∉ hds l) : Tg w wr gv mb (l ++ [f]) ((E ++ [((.slice none 0 0, []) : En)]).set E.length (h', [] ++ [f.p])) k := by
  refine ⟨t.ga, t.inj, ?_, ?_, t.lo⟩
  · rw [grp_new hk, List.map_set, List.map_append, he, List.set_append_right _ _ (by rw [← he, List.length_map]; exact Nat.le_refl _)]
    congr 1
    rw [← he, List.length_map, Nat.sub_self]
    rfl
  · rw [hds_snoc, if_neg hk]
    exact t.mp
/-- A NEW GROUP, EMPTY STILL. -/
theorem Tm.more {w wr w9 : World} {gv gv' : Value} {mb k : Nat} {E : List En} {ks : List Ky} {ob : Obj} (t : Tm w wr gv mb E ks k) (hown : w9.ownsRow w.heap.size 28 1 gv' (E.length + 1) (E.map (·.1) ++ [.slice none 0 0])) (hg : (wr.alloc ob).grownBy w9 gv.ownBlock) : Tm w w9 gv' mb (E ++ [((.slice none 0 0, []) : En)]) ks k := by
  have hba : Below wr.heap.size wr (wr.alloc ob) := (Below.refl _ wr).alloc (Nat.le_refl _) ob
  have t5 := t.later hba
  refine ⟨⟨by rw [List.length_append, List.map_append]; exact hown, fun e he => ?_, ?_⟩, inj_nil t.inj, ?_, t.lo⟩
  · rcases List.mem_append.1 he with q | q
    · refine own_same (t5.ga.own e q) fun b e2 => hg.block b (World.ownsRow.lt (t5.ga.own e q) b e2).2 fun e3 => ?_
      obtain ⟨c1, q1⟩ := own_type (t5.ga.own e q) e2
      obtain ⟨c2, q2⟩ := own_type t5.ga.row e3.symm
      rw [q1] at q2
      cases q2
    · rw [List.mem_singleton] at q
      subst q
      exact own_nil _ _ _
  · exact t5.ga.bw.grown hg t5.ga.bw.size fun b e => (World.ownsRow.lt t5.ga.row b e).1
  · refine t5.mp.same (hg.block mb t5.mp.lt fun e3 => ?_)
    obtain ⟨es, clock, hmo⟩ := t5.mp.obj
    obtain ⟨c2, q2⟩ := own_type t5.ga.row e3.symm
    rw [hmo] at q2
    cases q2
end Go.Proofs.Ytboajcpfoejfeaa
