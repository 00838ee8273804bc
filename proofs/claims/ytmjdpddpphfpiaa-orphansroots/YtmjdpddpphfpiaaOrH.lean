import Derived.Test.YtmjdpddpphfpiaaOrG
namespace Go.Proofs.Ytmjdpddpphfpiaa
open Go.RowKit Go.Maps Go.Sort Go.Shelf

theorem infoH : ∃ zc : List Value, (Try.prog.info? 31).map (fun i => (i.zero, i.size, i.bytes)) = some (some (.agg zc.toArray), 44, 240) ∧ zc.length = 44 :=
  ⟨((((Try.prog.info? 31).bind (·.zero)).map fun z => z.cells.toList).getD []), by kernel_rfl, by kernel_rfl⟩
def hC (hs : List Hx) : List Value := hs.flatMap (·.cs)
theorem hC_len : ∀ {hs : List Hx}, (∀ h ∈ hs, h.ok) → (hC hs).length = hs.length * 44
  | [], _ => rfl
  | h :: r, ok => by
    have e : hC (h :: r) = h.cs ++ hC r := rfl
    rw [e, List.length_append, (ok h List.mem_cons_self).len, hC_len fun x hx => ok x (List.mem_cons_of_mem _ hx), List.length_cons]
    omega
theorem hC_one {hs : List Hx} (ok : ∀ h ∈ hs, h.ok) : ∀ u ∈ hC hs, u.oneCell' = true := fun u hu => by
  obtain ⟨h, hh, q⟩ := List.mem_flatMap.1 hu
  exact (ok h hh).one u q
theorem hC_at : ∀ {hs : List Hx}, (∀ h ∈ hs, h.ok) → ∀ {i : Nat} {h : Hx}, hs[i]? = some h → ∀ {j : Nat} {u : Value}, h.cs[j]? = some u → (hC hs)[i * 44 + j]? = some u
  | [], _, _, _, hi, _, _, _ => by cases hi
  | x :: r, ok, i, h, hi, j, u, hj => by
    have e : hC (x :: r) = x.cs ++ hC r := rfl
    have hx := (ok x List.mem_cons_self).len
    rw [e]
    cases i with
    | zero =>
      cases hi
      have hl := (List.getElem?_eq_some_iff.1 hj).1
      rw [List.getElem?_append_left (by omega)]
      simpa using hj
    | succ i =>
      rw [List.getElem?_append_right (by omega)]
      have := hC_at (fun y hy => ok y (List.mem_cons_of_mem _ hy)) (i := i) (by simpa using hi) hj
      rw [show (i + 1) * 44 + j - x.cs.length = i * 44 + j by omega]
      exact this
theorem hC_inv : ∀ {hs : List Hx}, (∀ h ∈ hs, h.ok) → ∀ {t : Nat} {u : Value}, (hC hs)[t]? = some u → ∃ i h j, hs[i]? = some h ∧ h.cs[j]? = some u ∧ t = i * 44 + j
  | [], _, _, _, h => by cases h
  | x :: r, ok, t, u, h => by
    have e : hC (x :: r) = x.cs ++ hC r := rfl
    have hx := (ok x List.mem_cons_self).len
    rw [e] at h
    by_cases hl : t < 44
    · rw [List.getElem?_append_left (by omega)] at h
      exact ⟨0, x, t, rfl, h, by omega⟩
    · rw [List.getElem?_append_right (by omega)] at h
      obtain ⟨i, q, j, h1, h2, h3⟩ := hC_inv (fun y hy => ok y (List.mem_cons_of_mem _ hy)) h
      exact ⟨i + 1, q, j, by simpa using h1, h2, by omega⟩
theorem Hls.src {w : World} {a : Option Addr} {n c : Nat} {hs : List Hx} (h : Hls w (.slice a n c) hs) : hs.length = 0 ∨ ∃ b o, a = some ⟨b, o, none⟩ ∧ b < w.heap.size ∧ ∀ j u, (hC hs)[j]? = some u → w.cell? ⟨b, o + j, none⟩ = some u := by
  obtain ⟨a2, c2, e, ok, hr⟩ := h
  cases e
  by_cases h0 : hs.length = 0
  · exact .inl h0
  · obtain ⟨b, o, ea, hl, hc⟩ := hr (by omega)
    refine .inr ⟨b, o, ea, hl, fun j u hj => ?_⟩
    obtain ⟨i, x, t, h1, h2, rfl⟩ := hC_inv ok hj
    rw [← Nat.add_assoc]
    exact hc i x h1 t u h2
theorem Sl.src {w : World} {a : Option Addr} {n c : Nat} {l : List Nm} (h : Sl w (.slice a n c) l) : l.length = 0 ∨ ∃ b o, a = some ⟨b, o, none⟩ ∧ b < w.heap.size ∧ ∀ j u, (sv l)[j]? = some u → w.cell? ⟨b, o + j, none⟩ = some u := by
  obtain ⟨a2, c2, e, hr⟩ := h
  cases e
  by_cases h0 : l.length = 0
  · exact .inl h0
  · obtain ⟨b, o, ea, hl, hc⟩ := hr (by omega)
    refine .inr ⟨b, o, ea, hl, fun j u hj => ?_⟩
    rw [sv_at] at hj
    obtain ⟨s, hs, rfl⟩ := Option.map_eq_some_iff.1 hj
    exact hc j s hs
/-- THE FIRST OF A ROW OF THEM. -/
theorem own_hls {W : World} {base g n cap : Nat} {hs : List Hx} {ys : List Value} (ok : ∀ h ∈ hs, h.ok) (h : W.ownsRow base 31 44 (.slice (some ⟨g, 0, none⟩) n cap) n (hC hs ++ ys)) (c2 : Nat) : Hls W (.slice (some ⟨g, 0, none⟩) hs.length c2) hs := by
  refine ⟨_, _, rfl, ok, fun h0 => ⟨g, 0, rfl, (World.ownsRow.lt h g rfl).2, fun i x hi j u hj => ?_⟩⟩
  rw [Nat.zero_add]
  refine owns_at h _ _ ?_
  rw [List.getElem?_append_left]
  · exact hC_at ok hi hj
  · exact (List.getElem?_eq_some_iff.1 (hC_at ok hi hj)).1
theorem own_sls {W : World} {base g n cap : Nat} {l : List Nm} {ys : List Value} (h : W.ownsRow base 9 1 (.slice (some ⟨g, 0, none⟩) n cap) n (sv l ++ ys)) (c2 : Nat) : Sl W (.slice (some ⟨g, 0, none⟩) l.length c2) l := by
  refine ⟨_, _, rfl, fun h0 => ⟨g, 0, rfl, (World.ownsRow.lt h g rfl).2, fun i x hi => ?_⟩⟩
  rw [Nat.zero_add]
  refine owns_at h _ _ ?_
  have : (sv l)[i]? = some (.string x) := by rw [sv_at, hi]; rfl
  rw [List.getElem?_append_left (List.getElem?_eq_some_iff.1 this).1]
  exact this
/-- THE MARK BEHIND THOSE THAT ARE HELD, AND WHAT THE LAW LAYS. -/
def mkL : List Value := [.string ⟨#[]⟩, .string ⟨#[]⟩, .bool false, .slice none 0 0, .slice none 0 0, .slice none 0 0, .slice none 0 0, .slice none 0 0, .string ⟨#[]⟩, .int .i64 0, .int .u8 0, .int .u8 0, .int .u8 0, .int .u8 0, .int .u8 0, .int .u8 0, .int .u8 0, .int .u8 0, .int .u8 0, .int .u8 0, .int .u8 0, .int .u8 0, .int .u8 0, .int .u8 0, .int .u8 0, .int .u8 0, .int .u8 0, .int .u8 0, .int .u8 0, .int .u8 0, .int .u8 0, .int .u8 0, .int .u8 0, .int .u8 0, .int .u8 0, .int .u8 0, .int .u8 0, .int .u8 0, .int .u8 0, .int .u8 0, .int .u8 0, .int .u8 0, .string ⟨#[]⟩, .int .i64 (-7)]
end Go.Proofs.Ytmjdpddpphfpiaa
