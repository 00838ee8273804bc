import Derived.Test.YtjflnpcpnoccjaaSvP
namespace Go.Proofs.Ytjflnpcpnoccjaa
open Go.RowKit

/-- WEIGHTS. -/
theorem bulkAll {H : Type} : ∀ L : List (DataW H), Rows.uptoBulkAll L = (L.map Rows.uptoBulk).sum
  | [] => by simp [Rows.uptoBulkAll]
  | d :: r => by rw [Rows.uptoBulkAll, bulkAll r, List.map_cons, List.sum_cons]
theorem le_sum {f : Nat → Nat} : ∀ n i, i < n → f i ≤ ((List.range n).map f).sum
  | 0, i, h => by omega
  | n + 1, i, h => by
    simp only [List.range_succ, List.map_append, List.map_cons, List.map_nil, List.sum_append, List.sum_cons, List.sum_nil]
    by_cases e : i < n
    · have := le_sum (f := f) n i e; omega
    · obtain rfl : i = n := by omega
      omega
theorem len_sum {f : Nat → Nat} : ∀ n, (∀ i, 1 ≤ f i) → n ≤ ((List.range n).map f).sum
  | 0, _ => by simp
  | n + 1, h => by
    have := len_sum (f := f) n h
    have h1 := h n
    simp only [List.range_succ, List.map_append, List.map_cons, List.map_nil, List.sum_append, List.sum_cons, List.sum_nil]
    omega
theorem bulk_pos {H : Type} (d : DataW H) : 1 ≤ Rows.uptoBulk d := by
  cases d with
  | lit l => cases l <;> simp [Rows.uptoBulk]
  | _ => simp [Rows.uptoBulk]
theorem bulk_slice {H : Type} (D : Nat → DataW H) (n : Nat) (r : List (DataW H)) : n ≤ Rows.uptoBulk (.slice ((List.range n).map D) r) ∧ ∀ i, i < n → Rows.uptoBulk (D i) ≤ Rows.uptoBulk (.slice ((List.range n).map D) r) := by
  rw [Rows.uptoBulk, bulkAll, List.map_map]
  have h1 := len_sum (f := fun i => Rows.uptoBulk (D i)) n (fun i => bulk_pos _)
  refine ⟨Nat.le_trans h1 (Nat.le_trans (Nat.le_add_right _ _) (Nat.le_add_right _ _)), fun i hi => ?_⟩
  have h2 := le_sum (f := fun i => Rows.uptoBulk (D i)) n i hi
  exact Nat.le_trans h2 (Nat.le_trans (Nat.le_add_right _ _) (Nat.le_add_right _ _))
/-- A SLICE THAT CAME IN, OPENED; UNDER THE BOUND. -/
theorem upto_vals {H : Type} {enc : TypeId × Value → H} {w : World} {base : Nat} {spare : Nat → Bool} {held : Bool} {fuel : Nat} {v : Value} {x : DataW H × List MemPlace} {t e : TypeId}
    (ht : Try.prog.underlying t = some (.slice e)) (hc : Try.prog.cellsOf e = 1) (h : DataW.trod enc Try.prog w base spare held fuel t [v] = some x) :
    ∃ (n c m : Nat) (pa : Option Addr) (V : Nat → Value) (D : Nat → DataW H), v = .slice pa n c ∧ Rv w pa n V ∧ (∀ i, i < n → ∃ p, DataW.trod enc Try.prog w base spare held m e [V i] = some (D i, p)) ∧
      n ≤ Rows.uptoBulk x.1 ∧ ∀ i, i < n → Rows.uptoBulk (D i) ≤ Rows.uptoBulk x.1 := by
  rcases Go.Deep.open_slice1 ht hc h with ⟨h1, rfl⟩ | ⟨a, len, cap, m, n, V, D, Pl, h1, hb, hl, hm, hmm, rfl, hx⟩
  · obtain rfl : v = .slice none 0 0 := by simpa using h1
    exact ⟨0, 0, 0, none, fun _ => .slice none 0 0, fun _ => .nil, rfl, fun h => absurd h (Nat.not_lt_zero _), fun i hi => absurd hi (Nat.not_lt_zero _), Nat.zero_le _, fun i hi => absurd hi (Nat.not_lt_zero _)⟩
  · obtain rfl : v = .slice (some a) len cap := by simpa using h1
    have hlm : len ≤ m := by rw [hmm]; split <;> omega
    refine ⟨len, cap, n, some a, V, D, rfl, fun h0 => ?_, fun i hi => ⟨Pl i, (hx i (by omega)).2⟩, (bulk_slice D len _).1, (bulk_slice D len _).2⟩
    have h4 := (hx 0 (by omega)).1
    rw [add_zero'] at h4
    obtain ⟨e1, e2⟩ := plain_a h4
    refine ⟨a.block, a.off, by rw [← e1], e2, fun i hi => ?_⟩
    have h5 := (hx i (by omega)).1
    rw [e1, add_plain'] at h5
    exact h5
/-- NUMBERS THAT CAME IN. -/
theorem upto_row {H : Type} {enc : TypeId × Value → H} {w : World} {base : Nat} {spare : Nat → Bool} {held : Bool} {fuel : Nat} {v : Value} {x : DataW H × List MemPlace} (h : DataW.trod enc Try.prog w base spare held fuel 23 [v] = some x) :
    ∃ (n c : Nat) (pa : Option Addr) (f : Nat → Int), v = .slice pa n c ∧ Ri w pa n f ∧ n ≤ Rows.uptoBulk x.1 := by
  obtain ⟨n, c, m, pa, V, D, h1, h2, h3, h4, _⟩ := upto_vals Try.underlying23 (by kernel_rfl) h
  refine ⟨n, c, pa, fun i => match V i with | .int _ z => z | _ => 0, h1, h2.congr fun k hk => ?_, h4⟩
  obtain ⟨p, h5⟩ := h3 k hk
  obtain ⟨o, e1, _, _⟩ := DataW.trod_int Try.underlying3 h5
  obtain e2 : V k = .int .i64 o := by simpa using e1
  simp only [iv, e2]
/-- ROWS THAT CAME IN. -/
theorem upto_rows {H : Type} {enc : TypeId × Value → H} {w : World} {base : Nat} {spare : Nat → Bool} {held : Bool} {fuel : Nat} {v : Value} {x : DataW H × List MemPlace} (h : DataW.trod enc Try.prog w base spare held fuel 22 [v] = some x) :
    ∃ (N c : Nat) (pa : Option Addr) (ln : Nat → Nat) (L : Nat → Nat → Int), v = .slice pa N c ∧ Rr w pa N ln L ∧ N ≤ Rows.uptoBulk x.1 ∧ ∀ k, k < N → ln k ≤ Rows.uptoBulk x.1 := by
  obtain ⟨n, c, m, pa, V, D, h1, h2, h3, h4, h5⟩ := upto_vals Try.underlying22 (by kernel_rfl) h
  have hq : ∀ k, ∃ q : Nat × Nat × Option Addr × (Nat → Int), k < n → V k = .slice q.2.2.1 q.1 q.2.1 ∧ Ri w q.2.2.1 q.1 q.2.2.2 ∧ q.1 ≤ Rows.uptoBulk x.1 := fun k => by
    by_cases hk : k < n
    · obtain ⟨p, h6⟩ := h3 k hk
      obtain ⟨n1, c1, pa1, f, e1, e2, e3⟩ := upto_row h6
      refine ⟨⟨n1, c1, pa1, f⟩, fun _ => ⟨e1, e2, Nat.le_trans e3 (h5 k hk)⟩⟩
    · exact ⟨⟨0, 0, none, fun _ => 0⟩, fun h => absurd h hk⟩
  obtain ⟨q, hq⟩ := Classical.axiomOfChoice hq
  refine ⟨n, c, pa, fun k => (q k).1, fun k => (q k).2.2.2, h1, ⟨fun k => (q k).2.2.1, fun k => (q k).2.1, h2.congr fun k hk => (hq k hk).1, fun k hk => (hq k hk).2.1⟩, h4, fun k hk => (hq k hk).2.2⟩
end Go.Proofs.Ytjflnpcpnoccjaa
