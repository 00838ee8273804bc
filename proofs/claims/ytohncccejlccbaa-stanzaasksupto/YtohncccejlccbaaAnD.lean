import Derived.Test.YtohncccejlccbaaAnB
import Derived.Test.YtohncccejlccbaaLaT
namespace Go.Proofs.Ytohncccejlccbaa
open Go.RowKit Go.Shelf

theorem hp_new (W : World) (o : Obj) : (W.alloc o).heap[W.heap.size]? = some o := World.alloc_heap_new W o
theorem hp_old (W : World) (o : Obj) (k : Nat) (hk : k < W.heap.size) : (W.alloc o).heap[k]? = W.heap[k]? := Below.heap_alloc W o k hk
theorem al (w : World) (o : Obj) : Below w.heap.size w (w.alloc o) := (Below.refl _ _).alloc (Nat.le_refl _) _
theorem lay4u (w : World) (a b c d : Obj) : ((((w.alloc a).alloc b).alloc c).alloc d).heap[w.heap.size]? = some a ∧ ((((w.alloc a).alloc b).alloc c).alloc d).heap[w.heap.size + 1]? = some b ∧ ((((w.alloc a).alloc b).alloc c).alloc d).heap[w.heap.size + 1 + 1]? = some c ∧ ((((w.alloc a).alloc b).alloc c).alloc d).heap[w.heap.size + 1 + 1 + 1]? = some d ∧ Below w.heap.size w ((((w.alloc a).alloc b).alloc c).alloc d) := by
  have s1 : (w.alloc a).heap.size = w.heap.size + 1 := by simp
  have s2 : ((w.alloc a).alloc b).heap.size = w.heap.size + 1 + 1 := by simp
  have s3 : (((w.alloc a).alloc b).alloc c).heap.size = w.heap.size + 1 + 1 + 1 := by simp
  refine ⟨?_, ?_, ?_, ?_, bl_t (bl_t (bl_t (al _ _) (al _ _)) (al _ _)) (al _ _)⟩
  · rw [hp_old _ _ _ (by omega), hp_old _ _ _ (by omega), hp_old _ _ _ (by omega), hp_new]
  · rw [hp_old _ _ _ (by omega), hp_old _ _ _ (by omega), ← s1, hp_new]
  · rw [hp_old _ _ _ (by omega), ← s2, hp_new]
  · rw [← s3, hp_new]
/-- One field as a paragraph. -/
theorem par_one {W : World} {g : Nat} {f : Gd} {la na : Option Addr} {lc nc : Nat} (hg : W.heap[g]? = some (.cells #[.string (ba f.nm), .slice la f.ls.length lc, .slice na f.ns.length nc] 30 (0, 0))) (h1 : f.ls.length ≤ lc) (k1 : Cl W la (strs f.ls)) (k2 : Cl W na (intz f.ns)) : ParZ W (.slice (some ⟨g, 0, none⟩) 1 1) [f] :=
  ⟨_, _, rfl, Nat.le_refl _, fun _ => ⟨g, 0, rfl, fun i x hi => by
    cases i with
    | zero =>
      cases hi
      exact ⟨(cell_blk hg 0).1, ⟨la, lc, (cell_blk hg 1).1, h1, k1⟩, ⟨na, nc, (cell_blk hg 2).1, k2⟩⟩
    | succ i => simp at hi⟩⟩
theorem alike_fg (f : Gd) (W : World) {la na lb nb : Option Addr} {lc nc ld nd : Nat} (hb : f.ls.length ≤ 16777216 ∧ f.ns.length ≤ 16777216) (h1 : f.ls.length ≤ lc) (h2 : f.ls.length ≤ ld) (k1 : Cl W la (strs f.ls)) (k2 : Cl W na (intz f.ns)) (k3 : Cl W lb (strs f.ls)) (k4 : Cl W nb (intz f.ns)) :
    Calls Try.prog 7 #[.slice (some ⟨W.heap.size + 1, 0, none⟩) 1 1, .slice (some ⟨W.heap.size + 1 + 1 + 1, 0, none⟩) 1 1] ((((W.alloc (.cells #[.string (ba f.nm), .slice la f.ls.length lc, .slice na f.ns.length nc] 30)).alloc (.cells #[.slice (some ⟨W.heap.size, 0, none⟩) 1 1] 22)).alloc (.cells #[.string (ba f.nm), .slice lb f.ls.length ld, .slice nb f.ns.length nd] 30)).alloc (.cells #[.slice (some ⟨W.heap.size + 1 + 1, 0, none⟩) 1 1] 22)) fun e w' => e = .returned (.bool true) ∧ Below W.heap.size W w' := by
  obtain ⟨b1, b2, b3, b4, hbl⟩ := lay4u W (.cells #[.string (ba f.nm), .slice la f.ls.length lc, .slice na f.ns.length nc] 30) (.cells #[.slice (some ⟨W.heap.size, 0, none⟩) 1 1] 22) (.cells #[.string (ba f.nm), .slice lb f.ls.length ld, .slice nb f.ns.length nd] 30) (.cells #[.slice (some ⟨W.heap.size + 1 + 1, 0, none⟩) 1 1] 22)
  exact (alike_1 [f] _ _ _ _ _ ⟨by simp, fun g hg => by rw [List.mem_singleton.1 hg]; exact hb⟩ (cell_blk b2 0).1 (cell_blk b4 0).1 (par_one b1 h1 (k1.later hbl) (k2.later hbl)) (par_one b3 h2 (k3.later hbl) (k4.later hbl))).mono fun _ _ hx => ⟨hx.1, bl_t hbl hx.2⟩
end Go.Proofs.Ytohncccejlccbaa
