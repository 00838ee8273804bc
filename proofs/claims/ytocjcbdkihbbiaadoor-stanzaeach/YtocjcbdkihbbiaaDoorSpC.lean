import Derived.Test.YtocjcbdkihbbiaaDoorSpB
namespace Go.Proofs.YtocjcbdkihbbiaaDoor
open Go.RowKit Go.Shelf

/-- A LIST THAT HAS GROWN BY c: in its own room, or in memory that is new. -/
def Ex (lo B0 e g0 n0 cap0 : Nat) (xs : List Value) (W : World) (g cap c : Nat) : Prop :=
  ∃ ys, W.ownsRow lo e 1 (.slice (some ⟨g, 0, none⟩) (n0 + c) cap) (n0 + c) ys ∧ ((g = g0 ∧ cap = cap0 ∧ ys.take n0 = xs) ∨ B0 ≤ g)
theorem Ex.start {lo B0 e g0 n0 cap0 : Nat} {xs : List Value} {W : World} (h : W.ownsRow lo e 1 (.slice (some ⟨g0, 0, none⟩) n0 cap0) n0 xs) : Ex lo B0 e g0 n0 cap0 xs W g0 cap0 0 :=
  ⟨xs, h, .inl ⟨rfl, rfl, List.take_of_length_le (by have := h.1; omega)⟩⟩
theorem Ex.other {lo B0 e e2 g0 n0 cap0 g cap c gx : Nat} {xs : List Value} {W W2 : World} (h : Ex lo B0 e g0 n0 cap0 xs W g cap c) (hne : e ≠ e2) (hx : ∃ cur, W.heap[gx]? = some (.cells cur e2 (0, 0))) (hk : ∀ q, q < W.heap.size → q ≠ gx → W2.heap[q]? = W.heap[q]?) : Ex lo B0 e g0 n0 cap0 xs W2 g cap c := by
  obtain ⟨ys, h1, h2⟩ := h
  obtain ⟨cur, hc⟩ := hx
  exact ⟨ys, ownsRow_same h1 fun q c hq hc2 => hk q (Array.getElem?_eq_some_iff.1 hc2).1 (fun e => by
    rw [e, hc] at hc2
    cases hc2
    exact hne rfl), h2⟩
theorem stepL {lo Pb : Nat} {d : Sd} {Nm : Nat → Nat → ByteArray} {L A : Nat → Nat → List Value} {w W : World} (hS : Sp lo Pb d Nm L A W) (hF : Fr d w W) (hB : Bd0 d Pb w.heap.size) (hlo : lo ≤ w.heap.size) {i k : Nat} (hi : i < d.n) (hk : k < d.pl i) {g cap c : Nat} (hE : Ex lo w.heap.size 9 (d.lb i k) (d.ll i k) (d.lc i k) (L i k) W g cap c) (hb : d.ll i k + c + 1 ≤ 2147483648) (x : Value) (hx : x.oneCell' = true) :
    ∃ g2 cap2 W2, (Builtin.append_ #[46, 46] 46 #[.slice (some ⟨g, 0, none⟩) (d.ll i k + c) cap, .slice (some ⟨W.heap.size, 0, none⟩) 1 1]).run Tryd.prog (W.alloc (.cells #[x] 9)) = .ok (.slice (some ⟨g2, 0, none⟩) (d.ll i k + c + 1) cap2) W2 ∧
      Sp lo Pb d Nm L A W2 ∧ Fr d w W2 ∧ Ex lo w.heap.size 9 (d.lb i k) (d.ll i k) (d.lc i k) (L i k) W2 g2 cap2 (c + 1) ∧ (∀ ga capa ca, Ex lo w.heap.size 3 (d.ab i k) (d.al i k) (d.ac i k) (A i k) W ga capa ca → Ex lo w.heap.size 3 (d.ab i k) (d.al i k) (d.ac i k) (A i k) W2 ga capa ca) := by
  obtain ⟨ys, ho, hor⟩ := hE
  obtain ⟨i0, hi0, hz0, hz1, hz2⟩ := info_parts infoS46
  obtain ⟨g2, cap2, W2, hr, h2, hen, hsz, hcase⟩ := app_one (P := Tryd.prog) 46 9 i0 (.string ⟨#[]⟩) 1 16 Tryd.underlying46 hi0 hz0 hz1 hz2 rfl (by decide) lo g (d.ll i k + c) cap ys [x] W (Nat.le_trans hlo hF.size) ho rfl (by simpa using hx) (by omega) (by unfold maxLen; omega)
  have hcx := own_cells ho
  have hyl : ys.length = d.ll i k + c := by have := ho.1; omega
  have hlin := hS.lin i k hi hk
  refine ⟨g2, cap2, W2, hr, ?_⟩
  rcases hcase with ⟨rfl, rfl, hk2⟩ | ⟨hg2, hk2⟩
  · rcases hor with ⟨rfl, rfl, ht⟩ | hge
    · have row' : W2.ownsRow lo 9 1 (d.lv i k) (d.ll i k) (L i k) := by
        have := own_take h2 (d.ll i k) (by omega)
        rw [Nat.mul_one, List.take_append_of_le_length (by omega), ht] at this
        exact this
      have hS2 := hS.oneL hi hk row' hk2
      rw [upd_same] at hS2
      exact ⟨hS2, hF.one hen hsz ⟨i, hi, .inr ⟨k, hk, .inl rfl⟩⟩ hk2, ⟨ys ++ [x], h2, .inl ⟨rfl, rfl, by rw [List.take_append_of_le_length (by omega), ht]⟩⟩, fun ga capa ca h => h.other (by decide) hcx hk2⟩
    · exact ⟨hS.keep0 hB fun q h1 h2 => hk2 q h2 (by omega), hF.keep0 hen hsz fun q h1 h2 => hk2 q h2 (by omega), ⟨ys ++ [x], h2, .inr hge⟩, fun ga capa ca h => h.other (by decide) hcx hk2⟩
  · have hF2 := hF.size
    exact ⟨hS.keep0 hB fun q _ h2 => hk2 q h2, hF.keep0 hen hsz fun q _ h2 => hk2 q h2, ⟨ys ++ [x], h2, .inr (by omega)⟩, fun ga capa ca h => h.other (by decide) hcx fun q hq _ => hk2 q hq⟩
theorem stepA {lo Pb : Nat} {d : Sd} {Nm : Nat → Nat → ByteArray} {L A : Nat → Nat → List Value} {w W : World} (hS : Sp lo Pb d Nm L A W) (hF : Fr d w W) (hB : Bd0 d Pb w.heap.size) (hlo : lo ≤ w.heap.size) {i k : Nat} (hi : i < d.n) (hk : k < d.pl i) {g cap c : Nat} (hE : Ex lo w.heap.size 3 (d.ab i k) (d.al i k) (d.ac i k) (A i k) W g cap c) (hb : d.al i k + c + 1 ≤ 2147483648) (x : Value) (hx : x.oneCell' = true) :
    ∃ g2 cap2 W2, (Builtin.append_ #[47, 47] 47 #[.slice (some ⟨g, 0, none⟩) (d.al i k + c) cap, .slice (some ⟨W.heap.size, 0, none⟩) 1 1]).run Tryd.prog (W.alloc (.cells #[x] 3)) = .ok (.slice (some ⟨g2, 0, none⟩) (d.al i k + c + 1) cap2) W2 ∧
      Sp lo Pb d Nm L A W2 ∧ Fr d w W2 ∧ Ex lo w.heap.size 3 (d.ab i k) (d.al i k) (d.ac i k) (A i k) W2 g2 cap2 (c + 1) ∧ (∀ ga capa ca, Ex lo w.heap.size 9 (d.lb i k) (d.ll i k) (d.lc i k) (L i k) W ga capa ca → Ex lo w.heap.size 9 (d.lb i k) (d.ll i k) (d.lc i k) (L i k) W2 ga capa ca) := by
  obtain ⟨ys, ho, hor⟩ := hE
  obtain ⟨i0, hi0, hz0, hz1, hz2⟩ := info_parts infoI47
  obtain ⟨g2, cap2, W2, hr, h2, hen, hsz, hcase⟩ := app_one (P := Tryd.prog) 47 3 i0 (.int .i64 0) 1 8 Tryd.underlying47 hi0 hz0 hz1 hz2 rfl (by decide) lo g (d.al i k + c) cap ys [x] W (Nat.le_trans hlo hF.size) ho rfl (by simpa using hx) (by omega) (by unfold maxLen; omega)
  have hcx := own_cells ho
  have hyl : ys.length = d.al i k + c := by have := ho.1; omega
  refine ⟨g2, cap2, W2, hr, ?_⟩
  rcases hcase with ⟨rfl, rfl, hk2⟩ | ⟨hg2, hk2⟩
  · rcases hor with ⟨rfl, rfl, ht⟩ | hge
    · have row' : W2.ownsRow lo 3 1 (d.av i k) (d.al i k) (A i k) := by
        have := own_take h2 (d.al i k) (by omega)
        rw [Nat.mul_one, List.take_append_of_le_length (by omega), ht] at this
        exact this
      have hS2 := hS.oneA hi hk row' hk2
      rw [upd_same] at hS2
      exact ⟨hS2, hF.one hen hsz ⟨i, hi, .inr ⟨k, hk, .inr rfl⟩⟩ hk2, ⟨ys ++ [x], h2, .inl ⟨rfl, rfl, by rw [List.take_append_of_le_length (by omega), ht]⟩⟩, fun ga capa ca h => h.other (by decide) hcx hk2⟩
    · exact ⟨hS.keep0 hB fun q h1 h2 => hk2 q h2 (by omega), hF.keep0 hen hsz fun q h1 h2 => hk2 q h2 (by omega), ⟨ys ++ [x], h2, .inr hge⟩, fun ga capa ca h => h.other (by decide) hcx hk2⟩
  · have hF2 := hF.size
    exact ⟨hS.keep0 hB fun q _ h2 => hk2 q h2, hF.keep0 hen hsz fun q _ h2 => hk2 q h2, ⟨ys ++ [x], h2, .inr (by omega)⟩, fun ga capa ca h => h.other (by decide) hcx fun q hq _ => hk2 q hq⟩
end Go.Proofs.YtocjcbdkihbbiaaDoor
