import Derived.Test.YtohncccejlccbaaSqA
import Derived.Deep.LoopGhost
namespace Go.Proofs.Ytohncccejlccbaa
open Go.RowKit Go.Shelf

/-- HOW MANY FIELDS LIE AHEAD OF A PARAGRAPH. -/
def Sd.s (d : Sd) : Nat → Nat
  | 0 => 0
  | i + 1 => d.s i + d.pl i
theorem Sd.s_le (d : Sd) : ∀ j i, i ≤ j → d.s i ≤ d.s j
  | 0, i, h => by obtain rfl : i = 0 := by omega
                  exact Nat.le_refl _
  | j + 1, i, h => by
    by_cases e : i = j + 1
    · subst e; exact Nat.le_refl _
    · have := Sd.s_le d j i (by omega)
      show d.s i ≤ d.s j + d.pl j
      omega
/-- The first fields hold their marks. -/
def Dn1 (d : Sd) (L A : Nat → Nat → List Value) (i k : Nat) : Prop := ∀ a b, a < d.n → b < d.pl a → (a < i ∨ (a = i ∧ b < k)) → L a b = List.replicate (d.ll a b) (.string (wd (d.s a + b + 1))) ∧ A a b = List.replicate (d.al a b) (.int .i64 (-((d.s a + b + 1 : Nat) : Int)))
theorem Sp.cells {lo Pb : Nat} {d : Sd} {Nm : Nat → Nat → ByteArray} {L A : Nat → Nat → List Value} {W : World} (h : Sp lo Pb d Nm L A W) {i k : Nat} (hi : i < d.n) (hk : k < d.pl i) :
    W.cell? ⟨d.pb i, k * 3, none⟩ = some (.string (Nm i k)) ∧ W.cell? ⟨d.pb i, k * 3 + 1, none⟩ = some (d.lv i k) ∧ W.cell? ⟨d.pb i, k * 3 + 2, none⟩ = some (d.av i k) := by
  obtain ⟨h1, h2, h3⟩ := flat_at (d.ts Nm i) k (d.tv Nm i k) (by simp [Sd.ts, hk])
  have key : ∀ j u, (flat (d.ts Nm i))[j]? = some u → W.cell? ⟨d.pb i, j, none⟩ = some u := fun j u hj => by
    have := (h.par i hi).cells (g := d.pb i) rfl j u hj
    rw [Addr.add_mid, Nat.zero_add] at this
    exact this
  exact ⟨key _ _ h1, key _ _ h2, key _ _ h3⟩
theorem own_place {W : World} {lo e g n c : Nat} {xs : List Value} (h : W.ownsRow lo e 1 (.slice (some ⟨g, 0, none⟩) n c) n xs) (m : Nat) (hm : m < n) : ∃ u, xs[m]? = some u ∧ W.cell? ⟨g, m, none⟩ = some u ∧ W.frozen? ⟨g, m, none⟩ = false := by
  have hl := h.1
  obtain ⟨cur, hc⟩ := own_cells h
  refine ⟨xs[m]'(by omega), List.getElem?_eq_getElem (by omega), (row_cells3 h).2.2 m _ (List.getElem?_eq_getElem (by omega)), ?_⟩
  simp [World.frozen?, hc]
theorem set_all {n : Nat} {v : Value} {xs : List Value} (hl : xs.length = n) (h : ∀ q, q < n → xs[q]? = some v) : xs = List.replicate n v := by
  apply List.ext_getElem?
  intro q
  by_cases hq : q < n
  · rw [h q hq, List.getElem?_replicate, if_pos hq]
  · rw [List.getElem?_eq_none (by omega), List.getElem?_replicate, if_neg hq]

/-- ALL THAT IS SPOILT LIES BELOW B0. -/
structure Bd0 (d : Sd) (Pb B0 : Nat) : Prop where
  p : Pb < B0
  b : ∀ i, i < d.n → d.pb i < B0
  l : ∀ i k, i < d.n → k < d.pl i → d.lz i k = false → d.lb i k < B0
  a : ∀ i k, i < d.n → k < d.pl i → d.az i k = false → d.ab i k < B0
theorem Sp.bd0 {lo Pb : Nat} {d : Sd} {Nm : Nat → Nat → ByteArray} {L A : Nat → Nat → List Value} {W : World} (h : Sp lo Pb d Nm L A W) : Bd0 d Pb W.heap.size := by
  obtain ⟨cp, hcp⟩ := h.lsT
  refine ⟨(Array.getElem?_eq_some_iff.1 hcp).1, fun i hi => ?_, fun i k hi hk hz => ?_, fun i k hi hk hz => ?_⟩
  · obtain ⟨c, hc⟩ := own_cells (h.par i hi); exact (Array.getElem?_eq_some_iff.1 hc).1
  · obtain ⟨c, hc⟩ := own_cells (h.linS hi hk hz); exact (Array.getElem?_eq_some_iff.1 hc).1
  · obtain ⟨c, hc⟩ := own_cells (h.numS hi hk hz); exact (Array.getElem?_eq_some_iff.1 hc).1
theorem Bd0.T {d : Sd} {Pb B0 : Nat} (h : Bd0 d Pb B0) {q : Nat} (hT : d.T q) : q < B0 := by
  obtain ⟨i, hi, rfl | ⟨k, hk, ⟨hz, rfl⟩ | ⟨hz, rfl⟩⟩⟩ := hT
  · exact h.b i hi
  · exact h.l i k hi hk hz
  · exact h.a i k hi hk hz
theorem Sp.keep0 {lo Pb B0 : Nat} {d : Sd} {Nm : Nat → Nat → ByteArray} {L A : Nat → Nat → List Value} {W W2 : World} (h : Sp lo Pb d Nm L A W) (hB : Bd0 d Pb B0) (hk : ∀ q, q < B0 → q < W.heap.size → W2.heap[q]? = W.heap[q]?) : Sp lo Pb d Nm L A W2 := by
  have hlt : ∀ {q : Nat} {c : Array Value} {t : TypeId} {f : Nat × Nat}, W.heap[q]? = some (.cells c t f) → q < W.heap.size := fun hc => (Array.getElem?_eq_some_iff.1 hc).1
  obtain ⟨cp, hcp⟩ := h.lsT
  refine ⟨fun i hi => (World.cell?_of_block (w := W) (a := ⟨Pb, i, none⟩) (hk Pb hB.p (hlt hcp))).trans (h.lst i hi), ⟨cp, (hk Pb hB.p (hlt hcp)).trans hcp⟩, fun i hi => ownsRow_same (h.par i hi) fun g c hg hc => hk g ?_ (hlt hc), fun i k hi hkk => ownsRow_same (h.lin i k hi hkk) fun g c hg hc => hk g ?_ (hlt hc), fun i k hi hkk => ownsRow_same (h.num i k hi hkk) fun g c hg hc => hk g ?_ (hlt hc), h.dp, h.dl, h.da⟩
  · have e : g = d.pb i := by simpa [Sd.pv, Value.ownBlock] using hg.symm
    rw [e]; exact hB.b i hi
  · obtain ⟨zz, e⟩ := Sd.lv_blk hg
    rw [e]; exact hB.l i k hi hkk zz
  · obtain ⟨zz, e⟩ := Sd.av_blk hg
    rw [e]; exact hB.a i k hi hkk zz
theorem Fr.keep0 {d : Sd} {w0 W W2 : World} (h : Fr d w0 W) (he : Env W W2) (hs : W.heap.size ≤ W2.heap.size) (hk : ∀ q, q < w0.heap.size → q < W.heap.size → W2.heap[q]? = W.heap[q]?) : Fr d w0 W2 :=
  ⟨h.env.trans he, Nat.le_trans h.size hs, fun q hq hT => (hk q hq (Nat.lt_of_lt_of_le hq h.size)).trans (h.blk q hq hT)⟩
theorem own_take {W : World} {lo e s g n cap : Nat} {ys : List Value} (h : W.ownsRow lo e s (.slice (some ⟨g, 0, none⟩) n cap) n ys) (m : Nat) (hm : m ≤ n) : W.ownsRow lo e s (.slice (some ⟨g, 0, none⟩) m cap) m (ys.take (m * s)) := by
  have hms : m * s ≤ n * s := Nat.mul_le_mul_right _ hm
  refine ⟨by rw [List.length_take, h.1]; omega, ?_⟩
  rcases h.2 with ⟨e', _⟩ | ⟨g', cap', cur, e', h1, h2, h3, h4, h5, h6⟩
  · cases e'
  · cases e'
    refine .inr ⟨g, cap, cur, rfl, h1, h2, by omega, h4, h5, ?_⟩
    rw [← h6, List.take_take, Nat.min_eq_left hms]
/-- ONE MORE BEHIND A ROW: in its own room, or in new memory. -/
theorem app_one {P : Program} (t e : TypeId) (i : TypeInfo) (z : Value) (size bytes : Nat) (ht : P.underlying t = some (.slice e)) (hi : P.info? e = some i) (hz : i.zero = some z) (hsize : i.size = size) (hby : i.bytes = bytes) (hzs : z.cells.size = size) (hsz : 0 < size)
    (lo g n cap : Nat) (ys mk : List Value) (W : World) (hlo : lo ≤ W.heap.size) (ho : W.ownsRow lo e size (.slice (some ⟨g, 0, none⟩) n cap) n ys) (hmk : mk.length = 1 * size) (hm1 : ∀ u ∈ mk, u.oneCell' = true) (hn : (n + 1) * bytes ≤ 140737488355328) (h63 : n + 1 ≤ maxLen) :
    ∃ g2 cap2 W2, (Builtin.append_ #[t, t] t #[.slice (some ⟨g, 0, none⟩) n cap, .slice (some ⟨W.heap.size, 0, none⟩) 1 1]).run P (W.alloc (.cells mk.toArray e)) = .ok (.slice (some ⟨g2, 0, none⟩) (n + 1) cap2) W2 ∧
      W2.ownsRow lo e size (.slice (some ⟨g2, 0, none⟩) (n + 1) cap2) (n + 1) (ys ++ mk) ∧ Env W W2 ∧ W.heap.size ≤ W2.heap.size ∧
      ((g2 = g ∧ cap2 = cap ∧ ∀ q, q < W.heap.size → q ≠ g → W2.heap[q]? = W.heap[q]?) ∨ (W.heap.size ≤ g2 ∧ ∀ q, q < W.heap.size → W2.heap[q]? = W.heap[q]?)) := by
  have hal : ∀ q, q < W.heap.size → (W.alloc (.cells mk.toArray e)).heap[q]? = W.heap[q]? := fun q hq => Below.heap_alloc W _ q hq
  have hoA : (W.alloc (.cells mk.toArray e)).ownsRow lo e size (.slice (some ⟨g, 0, none⟩) n cap) n ys := ownsRow_same ho fun q c _ hc => hal q (Array.getElem?_eq_some_iff.1 hc).1
  have hnw : ∀ j u, mk[j]? = some u → (W.alloc (.cells mk.toArray e)).cell? ((⟨W.heap.size, 0, none⟩ : Addr).add j) = some u := fun j u hj => by
    rw [Addr.add_mid, Nat.zero_add, World.cell?_alloc_new]
    simpa using hj
  by_cases hroom : n + 1 ≤ cap
  · obtain ⟨W2, hr, h2, h3⟩ := run_append_fits (P := P) (W.alloc (.cells mk.toArray e)) lo t t e i size ht hi hsize g n cap ys hoA ⟨W.heap.size, 0, none⟩ 1 1 mk hmk hnw hm1 hroom
    have hs := h3.size
    rw [World.size_alloc] at hs
    exact ⟨g, cap, W2, hr, h2, (Env.al _ _).trans (Env.grown h3), by omega, .inl ⟨rfl, rfl, fun q hq hne => (h3.block q (by simp; omega) (fun e => hne (by cases e; rfl))).trans (hal q hq)⟩⟩
  · obtain ⟨v', W2, hr, h2, h3⟩ := run_append_arg_grows (P := P) (W.alloc (.cells mk.toArray e)) t t e i z size bytes ht hi hz hsize hby hzs hsz ⟨g, 0, none⟩ n cap ys ho.1 (fun j u hj => hoA.cells (g := g) rfl j u hj) ⟨W.heap.size, 0, none⟩ 1 1 mk hmk hnw (by omega) h63 hn
    have hs := h3.size
    rw [World.size_alloc] at hs
    rcases h2.2 with ⟨_, e2⟩ | ⟨g2, cap2, cur, e2, hb, _⟩
    · omega
    · subst e2
      rw [World.size_alloc] at hb
      exact ⟨g2, cap2, W2, hr, ownsRow_lower h2 (by rw [World.size_alloc]; omega), (Env.al _ _).trans (Env.grown h3), by omega, .inr ⟨by omega, fun q hq => (h3.block q (by simp; omega) (fun e => by cases e)).trans (hal q hq)⟩⟩
/-- THE SAME, OF A ROW THAT MAY BE NIL. -/
theorem app_opt {P : Program} (t e : TypeId) (i : TypeInfo) (z : Value) (bytes : Nat) (ht : P.underlying t = some (.slice e)) (hi : P.info? e = some i) (hz : i.zero = some z) (hsize : i.size = 1) (hby : i.bytes = bytes) (hzs : z.cells.size = 1)
    (lo : Nat) (a : Option Addr) (n cap : Nat) (ys mk : List Value) (W : World) (hlo : lo ≤ W.heap.size) (ho : W.ownsRow lo e 1 (.slice a n cap) n ys) (hmk : mk.length = 1 * 1) (hm1 : ∀ u ∈ mk, u.oneCell' = true) (hn : (n + 1) * bytes ≤ 140737488355328) (h63 : n + 1 ≤ maxLen) :
    ∃ g2 cap2 W2, (Builtin.append_ #[t, t] t #[.slice a n cap, .slice (some ⟨W.heap.size, 0, none⟩) 1 1]).run P (W.alloc (.cells mk.toArray e)) = .ok (.slice (some ⟨g2, 0, none⟩) (n + 1) cap2) W2 ∧
      W2.ownsRow lo e 1 (.slice (some ⟨g2, 0, none⟩) (n + 1) cap2) (n + 1) (ys ++ mk) ∧ Env W W2 ∧ W.heap.size ≤ W2.heap.size ∧
      ((a = some ⟨g2, 0, none⟩ ∧ cap2 = cap ∧ ∀ q, q < W.heap.size → q ≠ g2 → W2.heap[q]? = W.heap[q]?) ∨ (W.heap.size ≤ g2 ∧ ∀ q, q < W.heap.size → W2.heap[q]? = W.heap[q]?)) := by
  rcases ho.2 with ⟨e1, e2⟩ | ⟨g, cap', cur, e1, _⟩
  · cases e1
    have hal : ∀ q, q < W.heap.size → (W.alloc (.cells mk.toArray e)).heap[q]? = W.heap[q]? := fun q hq => Below.heap_alloc W _ q hq
    have hoA : (W.alloc (.cells mk.toArray e)).ownsRow lo e 1 (.slice none 0 0) 0 ys := ownsRow_same ho fun q c _ hc => hal q (Array.getElem?_eq_some_iff.1 hc).1
    have hnw : ∀ j u, mk[j]? = some u → (W.alloc (.cells mk.toArray e)).cell? ((⟨W.heap.size, 0, none⟩ : Addr).add j) = some u := fun j u hj => by
      rw [Addr.add_mid, Nat.zero_add, World.cell?_alloc_new]
      simpa using hj
    obtain ⟨g2, cap2, W2, hr, h2, h3, h4, _⟩ := run_append_lies (P := P) (W.alloc (.cells mk.toArray e)) t t lo e i z 1 bytes ht hi hz hsize hby hzs (by decide) (.slice none 0 0) 0 ys hoA ⟨W.heap.size, 0, none⟩ 1 1 mk hmk hnw hm1 (by decide) (by omega) (by omega) (by rw [World.size_alloc]; omega) _ rfl
    have hs := h3.size
    rw [World.size_alloc] at hs
    have hg : g2 = W.heap.size + 1 := by
      rcases h4 with h4 | h4
      · simp [Value.ownBlock] at h4
      · rw [h4, World.size_alloc]
    exact ⟨g2, cap2, W2, hr, h2, (Env.al _ _).trans (Env.grown h3), by omega, .inr ⟨by omega, fun q hq => (h3.block q (by simp; omega) (fun e => by simp [Value.ownBlock] at e)).trans (hal q hq)⟩⟩
  · cases e1
    obtain ⟨g2, cap2, W2, hr, h2, he, hs, hc⟩ := app_one (P := P) t e i z 1 bytes ht hi hz hsize hby hzs (by decide) lo g n cap ys mk W hlo ho hmk hm1 hn h63
    refine ⟨g2, cap2, W2, hr, h2, he, hs, ?_⟩
    rcases hc with ⟨rfl, rfl, hk⟩ | hc
    · exact .inl ⟨rfl, rfl, hk⟩
    · exact .inr hc
end Go.Proofs.Ytohncccejlccbaa
