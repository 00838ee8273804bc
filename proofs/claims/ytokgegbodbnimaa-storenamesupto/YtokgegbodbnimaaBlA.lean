import Derived.Test.YtokgegbodbnimaaNmB
namespace Go.Proofs.Ytokgegbodbnimaa
open Go.RowKit Go.Maps Go.Sort

/-- A BLOB AS IT LIES. -/
def blc (x : List UInt8) (f : Hd) : List Value := [.string (nmOf x), hv f]
theorem info50 : (Try.prog.info? 50).map (fun i => (i.zero, i.size, i.bytes)) = some (some (.agg #[.string ⟨#[]⟩, .slice none 0 0]), 2, 40) := by kernel_rfl
theorem row_form {W : World} {base e size n : Nat} {v : Value} {xs : List Value} (h : W.ownsRow base e size v n xs) : ∃ a c, v = .slice a n c ∧ (a = none → n = 0) ∧ ∀ g, a = some g → ∃ b, g = ⟨b, 0, none⟩ ∧ base ≤ b ∧ b < W.heap.size := by
  rcases h.2 with ⟨rfl, h2⟩ | ⟨g, cap, cur, rfl, hbase, hb, h1, h2, h3, h4⟩
  · subst h2
    exact ⟨none, 0, rfl, fun _ => rfl, fun g h => by cases h⟩
  · exact ⟨_, _, rfl, fun h => (by cases h), fun g' h => (by cases h; exact ⟨_, rfl, hbase, blk_lt hb⟩)⟩
theorem nmS_is {W : World} {d : Value} {H : Nm → Option Hd} {m : Cn} {k : Nat} (s : Sd W d H m k) (p : Nm) : IsNms m p (nmS m p) := by
  have hx : ∃ l, IsNms m p l := by
    rcases s.keys with ⟨rfl, h⟩ | ⟨b, D, rfl, ho, r, h1, h2, h3⟩
    · exact ⟨[], List.nodup_nil, fun x => by simp [h x]⟩
    · refine ⟨(strKeys D).filter fun l => pre (nmOf l) p, h1.filter _, fun x => ?_⟩
      rw [List.mem_filter, h2, nmOf_data]
  obtain ⟨l, hl⟩ := hx
  rw [nmS_eq hl]
  refine ⟨(List.mergeSort_perm l _).nodup_iff.2 hl.1, fun x => ?_⟩
  rw [(List.mergeSort_perm l _).mem_iff]
  exact hl.2 x
theorem nmS_mem {W : World} {d : Value} {H : Nm → Option Hd} {m : Cn} {k : Nat} (s : Sd W d H m k) {p : Nm} {x : List UInt8} (h : x ∈ nmS m p) : m (nmOf x) ≠ none ∧ pre (nmOf x) p = true := by
  have e : (nmOf x).data.toList = x := by simp [nmOf]
  have := ((nmS_is s p).2 (nmOf x)).1
  rw [e] at this
  exact this h
theorem row_later {W W2 : World} {base e size n : Nat} {v : Value} {xs : List Value} (h : W.ownsRow base e size v n xs) (hb : RowKit.Below W.heap.size W W2) : W2.ownsRow base e size v n xs := by
  refine ⟨h.1, ?_⟩
  rcases h.2 with h2 | ⟨g, cap, cur, e1, hbase, hg, h3⟩
  · exact .inl h2
  · exact .inr ⟨g, cap, cur, e1, hbase, (hb.block g (blk_lt hg)).trans hg, h3⟩
theorem row_low {W : World} {base base2 e size n : Nat} {v : Value} {xs : List Value} (h : W.ownsRow base e size v n xs) (hb : base2 ≤ base) : W.ownsRow base2 e size v n xs := by
  refine ⟨h.1, ?_⟩
  rcases h.2 with h2 | ⟨g, cap, cur, e1, hbase, h3⟩
  · exact .inl h2
  · exact .inr ⟨g, cap, cur, e1, Nat.le_trans hb hbase, h3⟩
theorem nmS_cnt {W : World} {d : Value} {H : Nm → Option Hd} {m : Cn} {k : Nat} (s : Sd W d H m k) (p : Nm) : (nmS m p).length ≤ cnt m := by
  rcases s.keys with ⟨rfl, h⟩ | ⟨b, D, rfl, ho, r, h1, h2, h3⟩
  · rw [nmS_eq (l := []) ⟨List.nodup_nil, fun x => by simp [h x]⟩, List.mergeSort_nil]
    exact Nat.zero_le _
  · rw [cnt_eq h1 h2, nmS_eq (l := (strKeys D).filter fun l => pre (nmOf l) p) ⟨h1.filter _, fun x => by rw [List.mem_filter, h2, nmOf_data]⟩, List.length_mergeSort]
    exact List.length_filter_le _ _
end Go.Proofs.Ytokgegbodbnimaa
