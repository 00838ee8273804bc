import Derived.Test.YtohncccejlccbaaSqB
namespace Go.Proofs.Ytohncccejlccbaa
open Go.RowKit Go.Shelf

/-- A LIST THAT HAS GROWN BY c: in its own room, or in memory that is new. -/
def Ex (lo B0 e : Nat) (g0 : Option Addr) (n0 cap0 : Nat) (xs : List Value) (W : World) (g : Option Addr) (cap c : Nat) : Prop :=
  ∃ ys, W.ownsRow lo e 1 (.slice g (n0 + c) cap) (n0 + c) ys ∧ ((g = g0 ∧ cap = cap0 ∧ ys.take n0 = xs) ∨ ∃ b, g = some ⟨b, 0, none⟩ ∧ B0 ≤ b)
theorem Ex.start {lo B0 e : Nat} {g0 : Option Addr} {n0 cap0 : Nat} {xs : List Value} {W : World} (h : W.ownsRow lo e 1 (.slice g0 n0 cap0) n0 xs) : Ex lo B0 e g0 n0 cap0 xs W g0 cap0 0 :=
  ⟨xs, h, .inl ⟨rfl, rfl, List.take_of_length_le (by have := h.1; omega)⟩⟩
theorem Ex.other {lo B0 e e2 : Nat} {g0 : Option Addr} {n0 cap0 : Nat} {g : Option Addr} {cap c gx : Nat} {xs : List Value} {W W2 : World} (h : Ex lo B0 e g0 n0 cap0 xs W g cap c) (hne : e ≠ e2) (hx : ∃ cur, W.heap[gx]? = some (.cells cur e2 (0, 0))) (hk : ∀ q, q < W.heap.size → q ≠ gx → W2.heap[q]? = W.heap[q]?) : Ex lo B0 e g0 n0 cap0 xs W2 g cap c := by
  obtain ⟨ys, h1, h2⟩ := h
  obtain ⟨cur, hc⟩ := hx
  exact ⟨ys, ownsRow_same h1 fun q c hq hc2 => hk q (Array.getElem?_eq_some_iff.1 hc2).1 (fun e => by
    rw [e, hc] at hc2
    cases hc2
    exact hne rfl), h2⟩
theorem Ex.all {lo B0 e : Nat} {g0 : Option Addr} {n0 cap0 : Nat} {g : Option Addr} {cap c : Nat} {xs : List Value} {W W2 : World} (h : Ex lo B0 e g0 n0 cap0 xs W g cap c) (hk : ∀ q, q < W.heap.size → W2.heap[q]? = W.heap[q]?) : Ex lo B0 e g0 n0 cap0 xs W2 g cap c := by
  obtain ⟨ys, h1, h2⟩ := h
  exact ⟨ys, ownsRow_same h1 fun q c hq hc2 => hk q (Array.getElem?_eq_some_iff.1 hc2).1, h2⟩
theorem stepL {lo Pb : Nat} {d : Sd} {Nm : Nat → Nat → ByteArray} {L A : Nat → Nat → List Value} {w W : World} (hS : Sp lo Pb d Nm L A W) (hF : Fr d w W) (hB : Bd0 d Pb w.heap.size) (hlo : lo ≤ w.heap.size) {i k : Nat} (hi : i < d.n) (hk : k < d.pl i) {g : Option Addr} {cap c : Nat} (hE : Ex lo w.heap.size 9 (d.la i k) (d.ll i k) (d.lc i k) (L i k) W g cap c) (hb : d.ll i k + c + 1 ≤ 2147483648) (x : Value) (hx : x.oneCell' = true) :
    ∃ g2 cap2 W2, (Builtin.append_ #[27, 27] 27 #[.slice g (d.ll i k + c) cap, .slice (some ⟨W.heap.size, 0, none⟩) 1 1]).run Try.prog (W.alloc (.cells #[x] 9)) = .ok (.slice (some ⟨g2, 0, none⟩) (d.ll i k + c + 1) cap2) W2 ∧
      Sp lo Pb d Nm L A W2 ∧ Fr d w W2 ∧ Ex lo w.heap.size 9 (d.la i k) (d.ll i k) (d.lc i k) (L i k) W2 (some ⟨g2, 0, none⟩) cap2 (c + 1) ∧ (∀ ga capa ca, Ex lo w.heap.size 3 (d.aa i k) (d.al i k) (d.ac i k) (A i k) W ga capa ca → Ex lo w.heap.size 3 (d.aa i k) (d.al i k) (d.ac i k) (A i k) W2 ga capa ca) := by
  obtain ⟨ys, ho, hor⟩ := hE
  obtain ⟨i0, hi0, hz0, hz1, hz2⟩ := info_parts infoS46
  obtain ⟨g2, cap2, W2, hr, h2, hen, hsz, hcase⟩ := app_opt (P := Try.prog) 27 9 i0 (.string ⟨#[]⟩) 16 Try.underlying27 hi0 hz0 hz1 hz2 rfl lo g (d.ll i k + c) cap ys [x] W (Nat.le_trans hlo hF.size) ho rfl (by simpa using hx) (by omega) (by unfold maxLen; omega)
  have hyl : ys.length = d.ll i k + c := by have := ho.1; omega
  refine ⟨g2, cap2, W2, hr, ?_⟩
  rcases hcase with ⟨eg, rfl, hk2⟩ | ⟨hg2, hk2⟩
  · subst eg
    have hcx := own_cells ho
    rcases hor with ⟨e0, rfl, ht⟩ | ⟨b, eb, hge⟩
    · obtain ⟨hz, rfl⟩ := Sd.la_inv e0
      have row' : W2.ownsRow lo 9 1 (d.lv i k) (d.ll i k) (L i k) := by
        have := own_take h2 (d.ll i k) (by omega)
        rw [Nat.mul_one, List.take_append_of_le_length (by omega), ht] at this
        rw [Sd.lv_some hz]
        exact this
      have hS2 := hS.oneL hi hk hz row' hk2
      rw [upd_same] at hS2
      exact ⟨hS2, hF.one hen hsz ⟨i, hi, .inr ⟨k, hk, .inl ⟨hz, rfl⟩⟩⟩ hk2, ⟨ys ++ [x], h2, .inl ⟨e0, rfl, by rw [List.take_append_of_le_length (by omega), ht]⟩⟩, fun ga capa ca h => h.other (by decide) hcx hk2⟩
    · cases eb
      exact ⟨hS.keep0 hB fun q h1 h2 => hk2 q h2 (by omega), hF.keep0 hen hsz fun q h1 h2 => hk2 q h2 (by omega), ⟨ys ++ [x], h2, .inr ⟨_, rfl, hge⟩⟩, fun ga capa ca h => h.other (by decide) hcx hk2⟩
  · have hF2 := hF.size
    exact ⟨hS.keep0 hB fun q _ h2 => hk2 q h2, hF.keep0 hen hsz fun q _ h2 => hk2 q h2, ⟨ys ++ [x], h2, .inr ⟨_, rfl, by omega⟩⟩, fun ga capa ca h => h.all hk2⟩
theorem stepA {lo Pb : Nat} {d : Sd} {Nm : Nat → Nat → ByteArray} {L A : Nat → Nat → List Value} {w W : World} (hS : Sp lo Pb d Nm L A W) (hF : Fr d w W) (hB : Bd0 d Pb w.heap.size) (hlo : lo ≤ w.heap.size) {i k : Nat} (hi : i < d.n) (hk : k < d.pl i) {g : Option Addr} {cap c : Nat} (hE : Ex lo w.heap.size 3 (d.aa i k) (d.al i k) (d.ac i k) (A i k) W g cap c) (hb : d.al i k + c + 1 ≤ 2147483648) (x : Value) (hx : x.oneCell' = true) :
    ∃ g2 cap2 W2, (Builtin.append_ #[28, 28] 28 #[.slice g (d.al i k + c) cap, .slice (some ⟨W.heap.size, 0, none⟩) 1 1]).run Try.prog (W.alloc (.cells #[x] 3)) = .ok (.slice (some ⟨g2, 0, none⟩) (d.al i k + c + 1) cap2) W2 ∧
      Sp lo Pb d Nm L A W2 ∧ Fr d w W2 ∧ Ex lo w.heap.size 3 (d.aa i k) (d.al i k) (d.ac i k) (A i k) W2 (some ⟨g2, 0, none⟩) cap2 (c + 1) ∧ (∀ ga capa ca, Ex lo w.heap.size 9 (d.la i k) (d.ll i k) (d.lc i k) (L i k) W ga capa ca → Ex lo w.heap.size 9 (d.la i k) (d.ll i k) (d.lc i k) (L i k) W2 ga capa ca) := by
  obtain ⟨ys, ho, hor⟩ := hE
  obtain ⟨i0, hi0, hz0, hz1, hz2⟩ := info_parts infoI47
  obtain ⟨g2, cap2, W2, hr, h2, hen, hsz, hcase⟩ := app_opt (P := Try.prog) 28 3 i0 (.int .i64 0) 8 Try.underlying28 hi0 hz0 hz1 hz2 rfl lo g (d.al i k + c) cap ys [x] W (Nat.le_trans hlo hF.size) ho rfl (by simpa using hx) (by omega) (by unfold maxLen; omega)
  have hyl : ys.length = d.al i k + c := by have := ho.1; omega
  refine ⟨g2, cap2, W2, hr, ?_⟩
  rcases hcase with ⟨eg, rfl, hk2⟩ | ⟨hg2, hk2⟩
  · subst eg
    have hcx := own_cells ho
    rcases hor with ⟨e0, rfl, ht⟩ | ⟨b, eb, hge⟩
    · obtain ⟨hz, rfl⟩ := Sd.aa_inv e0
      have row' : W2.ownsRow lo 3 1 (d.av i k) (d.al i k) (A i k) := by
        have := own_take h2 (d.al i k) (by omega)
        rw [Nat.mul_one, List.take_append_of_le_length (by omega), ht] at this
        rw [Sd.av_some hz]
        exact this
      have hS2 := hS.oneA hi hk hz row' hk2
      rw [upd_same] at hS2
      exact ⟨hS2, hF.one hen hsz ⟨i, hi, .inr ⟨k, hk, .inr ⟨hz, rfl⟩⟩⟩ hk2, ⟨ys ++ [x], h2, .inl ⟨e0, rfl, by rw [List.take_append_of_le_length (by omega), ht]⟩⟩, fun ga capa ca h => h.other (by decide) hcx hk2⟩
    · cases eb
      exact ⟨hS.keep0 hB fun q h1 h2 => hk2 q h2 (by omega), hF.keep0 hen hsz fun q h1 h2 => hk2 q h2 (by omega), ⟨ys ++ [x], h2, .inr ⟨_, rfl, hge⟩⟩, fun ga capa ca h => h.other (by decide) hcx hk2⟩
  · have hF2 := hF.size
    exact ⟨hS.keep0 hB fun q _ h2 => hk2 q h2, hF.keep0 hen hsz fun q _ h2 => hk2 q h2, ⟨ys ++ [x], h2, .inr ⟨_, rfl, by omega⟩⟩, fun ga capa ca h => h.all hk2⟩
end Go.Proofs.Ytohncccejlccbaa
