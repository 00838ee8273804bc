import Derived.Test.YtjnbnndocinicaaGreatDoorWvK
import Derived.Laws.AppendOwn
namespace Go.Proofs.YtjnbnndocinicaaGreatDoor
open Go.RowKit Go.Maps

/-- THE FAULTS WHILE THEY GROW. -/
structure Fs (W wr : World) (s : Value) (l : List Ft) : Prop where
  row : wr.ownsRow W.heap.size 59 6 s l.length (ftC l)
  bw : RowKit.Below W.heap.size W wr
theorem Fs.start (W : World) : Fs W W (.slice none 0 0) [] := ⟨⟨rfl, .inl ⟨rfl, rfl⟩⟩, Below.refl _ _⟩
theorem Fs.later {W wr w2 : World} {s : Value} {l : List Ft} (h : Fs W wr s l) (hb : RowKit.Below wr.heap.size wr w2) : Fs W w2 s l := ⟨own_same h.row fun b e => hb.block b (World.ownsRow.lt h.row b e).2, bl_t h.bw hb⟩
theorem Fs.grow {W wr w9 : World} {s v' : Value} {l : List Ft} {f : Ft} {o : Obj} (h : Fs W wr s l) (hown : w9.ownsRow W.heap.size 59 6 v' (l.length + 1) (ftC l ++ f.cs)) (hg : (wr.alloc o).grownBy w9 s.ownBlock) : Fs W w9 v' (l ++ [f]) := by
  refine ⟨?_, (h.bw.alloc h.bw.size o).grown hg ?_ fun j e => (World.ownsRow.lt h.row j e).1⟩
  · rw [List.length_append, ftC_snoc]
    exact hown
  · have := h.bw.size
    rw [World.size_alloc]
    omega
theorem infoFt : (Tryz.prog.info? 59).map (fun i => (i.zero, i.size, i.bytes)) = some (some (.agg #[.int .i64 0, .string ⟨#[]⟩, .string ⟨#[]⟩, .int .i64 0, .string ⟨#[]⟩, .string ⟨#[]⟩]), 6, 80) := by kernel_rfl
theorem news_ft (w : World) (f : Ft) (t : TypeId) : ∀ j u, f.cs[j]? = some u → (w.alloc (.cells #[.int .i64 f.kd, .string f.wn, .string f.wv, .int .i64 f.ix, .string f.on, .string f.ov] t)).cell? ((⟨w.heap.size, 0, none⟩ : Addr).add j) = some u := fun j u hj => by
  rw [Addr.add_mid, Nat.zero_add, World.cell?_alloc_new]
  simpa [Ft.cs] using hj
theorem one_ft (f : Ft) : ∀ u ∈ f.cs, u.oneCell' = true := fun u hu => by
  simp [Ft.cs] at hu
  rcases hu with rfl | rfl | rfl | rfl | rfl | rfl <;> rfl
/-- NAMES AND VERSIONS BY PLACE. -/
def nmA (ps : List Pk) (i : Nat) : Nm := match ps[i]? with | some q => q.nm | none => ⟨#[]⟩
def vrA (ps : List Pk) (i : Nat) : Nm := match ps[i]? with | some q => q.vr | none => ⟨#[]⟩
def twT (ps : List Pk) (q : Pk) (i : Nat) : Ft := ⟨1, q.nm, q.vr, i, nmA ps i, vrA ps i⟩
def twF (ps : List Pk) (p : Nat) (q : Pk) : List Ft := ((List.range p).filter (isN ps q.nm)).map (twT ps q)
theorem twF_len (ps : List Pk) (p : Nat) (q : Pk) : (twF ps p q).length ≤ p := by
  unfold twF
  rw [List.length_map]
  refine Nat.le_trans (List.length_filter_le _ _) ?_
  rw [List.length_range]; exact Nat.le_refl _
/-- A RISING LIST, CUT. -/
theorem cut_at (f : Nat → Bool) {p n : Nat} (h : p ≤ n) : ∃ r, (List.range n).filter f = (List.range p).filter f ++ r ∧ ∀ x ∈ r, p ≤ x := by
  induction n with
  | zero => obtain rfl : p = 0 := by omega
            exact ⟨[], by simp, fun x h => by cases h⟩
  | succ n ih =>
    by_cases e : p = n + 1
    · subst e; exact ⟨[], by simp, fun x h => by cases h⟩
    · obtain ⟨r, h1, h2⟩ := ih (by omega)
      refine ⟨r ++ [n].filter f, by rw [List.range_succ, List.filter_append, h1, List.append_assoc], fun x hx => ?_⟩
      rcases List.mem_append.1 hx with hx | hx
      · exact h2 x hx
      · have := (List.mem_filter.1 hx).1
        rw [List.mem_singleton] at this
        omega
end Go.Proofs.YtjnbnndocinicaaGreatDoor
