import Derived.Test.YtohncccejlccbaaSqO
namespace Go.Proofs.Ytohncccejlccbaa
open Go.RowKit Go.Shelf

/-- WHERE THE PARAGRAPHS THAT ARE SPOILT LIE. -/
structure Sd where
  n : Nat
  pl : Nat → Nat
  pb : Nat → Nat
  pc : Nat → Nat
  lb : Nat → Nat → Nat
  ll : Nat → Nat → Nat
  lc : Nat → Nat → Nat
  ab : Nat → Nat → Nat
  al : Nat → Nat → Nat
  ac : Nat → Nat → Nat
  lz : Nat → Nat → Bool
  az : Nat → Nat → Bool
/-- Rows may be nil. -/
def Sd.la (d : Sd) (i k : Nat) : Option Addr := if d.lz i k = true then none else some ⟨d.lb i k, 0, none⟩
def Sd.aa (d : Sd) (i k : Nat) : Option Addr := if d.az i k = true then none else some ⟨d.ab i k, 0, none⟩
theorem Sd.la_some {d : Sd} {i k : Nat} (h : d.lz i k = false) : d.la i k = some ⟨d.lb i k, 0, none⟩ := by simp [Sd.la, h]
theorem Sd.aa_some {d : Sd} {i k : Nat} (h : d.az i k = false) : d.aa i k = some ⟨d.ab i k, 0, none⟩ := by simp [Sd.aa, h]
theorem Sd.la_inv {d : Sd} {i k g : Nat} (h : some ⟨g, 0, none⟩ = d.la i k) : d.lz i k = false ∧ g = d.lb i k := by
  unfold Sd.la at h
  split at h
  · cases h
  · rename_i hz
    cases h
    exact ⟨by simpa using hz, rfl⟩
theorem Sd.aa_inv {d : Sd} {i k g : Nat} (h : some ⟨g, 0, none⟩ = d.aa i k) : d.az i k = false ∧ g = d.ab i k := by
  unfold Sd.aa at h
  split at h
  · cases h
  · rename_i hz
    cases h
    exact ⟨by simpa using hz, rfl⟩
def Sd.pv (d : Sd) (i : Nat) : Value := .slice (some ⟨d.pb i, 0, none⟩) (d.pl i) (d.pc i)
def Sd.lv (d : Sd) (i k : Nat) : Value := .slice (d.la i k) (d.ll i k) (d.lc i k)
def Sd.av (d : Sd) (i k : Nat) : Value := .slice (d.aa i k) (d.al i k) (d.ac i k)
theorem Sd.lv_blk {d : Sd} {i k g : Nat} (h : (d.lv i k).ownBlock = some g) : d.lz i k = false ∧ g = d.lb i k := by
  unfold Sd.lv Sd.la at h
  split at h
  · simp [Value.ownBlock] at h
  · rename_i hz
    exact ⟨by simpa using hz, by simpa [Value.ownBlock] using h.symm⟩
theorem Sd.av_blk {d : Sd} {i k g : Nat} (h : (d.av i k).ownBlock = some g) : d.az i k = false ∧ g = d.ab i k := by
  unfold Sd.av Sd.aa at h
  split at h
  · simp [Value.ownBlock] at h
  · rename_i hz
    exact ⟨by simpa using hz, by simpa [Value.ownBlock] using h.symm⟩
theorem Sd.lv_some {d : Sd} {i k : Nat} (h : d.lz i k = false) : d.lv i k = .slice (some ⟨d.lb i k, 0, none⟩) (d.ll i k) (d.lc i k) := by unfold Sd.lv; rw [Sd.la_some h]
theorem Sd.av_some {d : Sd} {i k : Nat} (h : d.az i k = false) : d.av i k = .slice (some ⟨d.ab i k, 0, none⟩) (d.al i k) (d.ac i k) := by unfold Sd.av; rw [Sd.aa_some h]
def Sd.tv (d : Sd) (Nm : Nat → Nat → ByteArray) (i k : Nat) : Tv := ⟨.string (Nm i k), d.lv i k, d.av i k⟩
def Sd.ts (d : Sd) (Nm : Nat → Nat → ByteArray) (i : Nat) : List Tv := (List.range (d.pl i)).map (d.tv Nm i)
/-- ALL BLOCKS THAT MAY BE WRITTEN. -/
def Sd.T (d : Sd) (q : Nat) : Prop := ∃ i, i < d.n ∧ (q = d.pb i ∨ ∃ k, k < d.pl i ∧ ((d.lz i k = false ∧ q = d.lb i k) ∨ (d.az i k = false ∧ q = d.ab i k)))
structure Sp (lo Pb : Nat) (d : Sd) (Nm : Nat → Nat → ByteArray) (L A : Nat → Nat → List Value) (W : World) : Prop where
  lst : ∀ i, i < d.n → W.cell? ⟨Pb, i, none⟩ = some (d.pv i)
  lsT : ∃ c, W.heap[Pb]? = some (.cells c 22 (0, 0))
  par : ∀ i, i < d.n → W.ownsRow lo 30 3 (d.pv i) (d.pl i) (flat (d.ts Nm i))
  lin : ∀ i k, i < d.n → k < d.pl i → W.ownsRow lo 9 1 (d.lv i k) (d.ll i k) (L i k)
  num : ∀ i k, i < d.n → k < d.pl i → W.ownsRow lo 3 1 (d.av i k) (d.al i k) (A i k)
  dp : ∀ i j, i < d.n → j < d.n → i ≠ j → d.pb i ≠ d.pb j
  dl : ∀ i k j m, i < d.n → k < d.pl i → j < d.n → m < d.pl j → (i ≠ j ∨ k ≠ m) → d.lz i k = false → d.lz j m = false → d.lb i k ≠ d.lb j m
  da : ∀ i k j m, i < d.n → k < d.pl i → j < d.n → m < d.pl j → (i ≠ j ∨ k ≠ m) → d.az i k = false → d.az j m = false → d.ab i k ≠ d.ab j m
/-- ALL ELSE IS AS IT WAS. -/
structure Fr (d : Sd) (w0 W : World) : Prop where
  env : Env w0 W
  size : w0.heap.size ≤ W.heap.size
  blk : ∀ q, q < w0.heap.size → ¬ d.T q → W.heap[q]? = w0.heap[q]?
theorem Fr.refl (d : Sd) (w : World) : Fr d w w := ⟨Env.refl _, Nat.le_refl _, fun _ _ _ => rfl⟩
theorem Fr.below {d : Sd} {w0 W W2 : World} (h : Fr d w0 W) (hb : Below W.heap.size W W2) : Fr d w0 W2 :=
  ⟨h.env.trans (Env.bel hb), Nat.le_trans h.size hb.size, fun q hq hT => (hb.block q (Nat.lt_of_lt_of_le hq h.size)).trans (h.blk q hq hT)⟩
theorem Fr.one {d : Sd} {w0 W W2 : World} {g : Nat} (h : Fr d w0 W) (he : Env W W2) (hs : W.heap.size ≤ W2.heap.size) (hT : d.T g) (hk : ∀ q, q < W.heap.size → q ≠ g → W2.heap[q]? = W.heap[q]?) : Fr d w0 W2 :=
  ⟨h.env.trans he, Nat.le_trans h.size hs, fun q hq hn => (hk q (Nat.lt_of_lt_of_le hq h.size) (fun e => hn (e ▸ hT))).trans (h.blk q hq hn)⟩
def upd {α : Type} (f : Nat → Nat → α) (i k : Nat) (x : α) : Nat → Nat → α := fun a b => if a = i ∧ b = k then x else f a b
theorem upd_same {α : Type} (f : Nat → Nat → α) (i k : Nat) : upd f i k (f i k) = f := by
  funext a b
  unfold upd
  split
  · rename_i h; rw [h.1, h.2]
  · rfl
theorem own_cells {W : World} {lo e s g n c m : Nat} {xs : List Value} (h : W.ownsRow lo e s (.slice (some ⟨g, 0, none⟩) n c) m xs) : ∃ cur, W.heap[g]? = some (.cells cur e (0, 0)) := by
  obtain ⟨cur, hc, _⟩ := ownsRow_blk h (g := g) rfl
  exact ⟨cur, hc⟩
theorem Sp.later {lo Pb : Nat} {d : Sd} {Nm : Nat → Nat → ByteArray} {L A : Nat → Nat → List Value} {W W2 : World} (h : Sp lo Pb d Nm L A W) (hk : ∀ q, q < W.heap.size → W2.heap[q]? = W.heap[q]?) : Sp lo Pb d Nm L A W2 := by
  have hlt : ∀ {q : Nat} {c : Array Value} {t : TypeId} {f : Nat × Nat}, W.heap[q]? = some (.cells c t f) → q < W.heap.size := fun hc => (Array.getElem?_eq_some_iff.1 hc).1
  obtain ⟨cp, hcp⟩ := h.lsT
  exact ⟨fun i hi => (World.cell?_of_block (w := W) (a := ⟨Pb, i, none⟩) (hk Pb (hlt hcp))).trans (h.lst i hi), ⟨cp, (hk Pb (hlt hcp)).trans hcp⟩, fun i hi => ownsRow_same (h.par i hi) fun g c _ hc => hk g (hlt hc), fun i k hi hkk => ownsRow_same (h.lin i k hi hkk) fun g c _ hc => hk g (hlt hc), fun i k hi hkk => ownsRow_same (h.num i k hi hkk) fun g c _ hc => hk g (hlt hc), h.dp, h.dl, h.da⟩
theorem Sp.linS {lo Pb : Nat} {d : Sd} {Nm : Nat → Nat → ByteArray} {L A : Nat → Nat → List Value} {W : World} (h : Sp lo Pb d Nm L A W) {i k : Nat} (hi : i < d.n) (hk : k < d.pl i) (hz : d.lz i k = false) : W.ownsRow lo 9 1 (.slice (some ⟨d.lb i k, 0, none⟩) (d.ll i k) (d.lc i k)) (d.ll i k) (L i k) := by
  have := h.lin i k hi hk
  rw [Sd.lv_some hz] at this
  exact this
theorem Sp.numS {lo Pb : Nat} {d : Sd} {Nm : Nat → Nat → ByteArray} {L A : Nat → Nat → List Value} {W : World} (h : Sp lo Pb d Nm L A W) {i k : Nat} (hi : i < d.n) (hk : k < d.pl i) (hz : d.az i k = false) : W.ownsRow lo 3 1 (.slice (some ⟨d.ab i k, 0, none⟩) (d.al i k) (d.ac i k)) (d.al i k) (A i k) := by
  have := h.num i k hi hk
  rw [Sd.av_some hz] at this
  exact this
theorem own_nil {W : World} {lo e n c : Nat} {xs : List Value} (h : W.ownsRow lo e 1 (.slice none n c) n xs) : n = 0 ∧ c = 0 := by
  rcases h.2 with ⟨e1, e2⟩ | ⟨g, cap, cur, e1, _⟩
  · cases e1; exact ⟨rfl, rfl⟩
  · cases e1
theorem Sp.lzn {lo Pb : Nat} {d : Sd} {Nm : Nat → Nat → ByteArray} {L A : Nat → Nat → List Value} {W : World} (h : Sp lo Pb d Nm L A W) {i k : Nat} (hi : i < d.n) (hk : k < d.pl i) (h0 : 0 < d.ll i k) : d.lz i k = false := by
  cases hz : d.lz i k with
  | false => rfl
  | true =>
    have := h.lin i k hi hk
    unfold Sd.lv Sd.la at this
    rw [if_pos hz] at this
    have := own_nil this
    omega
theorem Sp.azn {lo Pb : Nat} {d : Sd} {Nm : Nat → Nat → ByteArray} {L A : Nat → Nat → List Value} {W : World} (h : Sp lo Pb d Nm L A W) {i k : Nat} (hi : i < d.n) (hk : k < d.pl i) (h0 : 0 < d.al i k) : d.az i k = false := by
  cases hz : d.az i k with
  | false => rfl
  | true =>
    have := h.num i k hi hk
    unfold Sd.av Sd.aa at this
    rw [if_pos hz] at this
    have := own_nil this
    omega
/-- A FIELD's LINES ARE WRITTEN, OR THE ROOM BEHIND THEM. -/
theorem Sp.oneL {lo Pb : Nat} {d : Sd} {Nm : Nat → Nat → ByteArray} {L A : Nat → Nat → List Value} {W W2 : World} (h : Sp lo Pb d Nm L A W) {i k : Nat} (hi : i < d.n) (hk : k < d.pl i) (hz : d.lz i k = false) {xs : List Value} (hr : W2.ownsRow lo 9 1 (d.lv i k) (d.ll i k) xs) (hb : ∀ q, q < W.heap.size → q ≠ d.lb i k → W2.heap[q]? = W.heap[q]?) : Sp lo Pb d Nm (upd L i k xs) A W2 := by
  obtain ⟨cl, hcl⟩ := own_cells (h.linS hi hk hz)
  obtain ⟨cp, hcp⟩ := h.lsT
  have ne : ∀ {q : Nat} {c : Array Value} {t : TypeId}, t ≠ 9 → W.heap[q]? = some (.cells c t (0, 0)) → q ≠ d.lb i k := fun ht hc e => by
    rw [e, hcl] at hc
    cases hc
    exact ht rfl
  have ok : ∀ {q : Nat} {c : Array Value} {t : TypeId}, t ≠ 9 → W.heap[q]? = some (.cells c t (0, 0)) → W2.heap[q]? = W.heap[q]? := fun ht hc => hb _ (Array.getElem?_eq_some_iff.1 hc).1 (ne ht hc)
  refine ⟨fun j hj => (World.cell?_of_block (w := W) (a := ⟨Pb, j, none⟩) (ok (by decide) hcp)).trans (h.lst j hj), ⟨cp, (ok (by decide) hcp).trans hcp⟩, fun j hj => ownsRow_same (h.par j hj) fun g c _ hc => ok (by decide) hc, fun j m hj hm => ?_, fun j m hj hm => ownsRow_same (h.num j m hj hm) fun g c _ hc => ok (by decide) hc, h.dp, h.dl, h.da⟩
  unfold upd
  by_cases e : j = i ∧ m = k
  · rw [if_pos e, e.1, e.2]; exact hr
  · rw [if_neg e]
    exact ownsRow_same (h.lin j m hj hm) fun g c hg hc => hb g (Array.getElem?_eq_some_iff.1 hc).1 (by
      obtain ⟨zz, eg⟩ := Sd.lv_blk hg
      rw [eg]
      exact h.dl j m i k hj hm hi hk (by by_cases e1 : j = i; exact .inr (fun e2 => e ⟨e1, e2⟩); exact .inl e1) zz hz)
/-- A FIELD's NUMBERS ARE WRITTEN, OR THE ROOM BEHIND THEM. -/
theorem Sp.oneA {lo Pb : Nat} {d : Sd} {Nm : Nat → Nat → ByteArray} {L A : Nat → Nat → List Value} {W W2 : World} (h : Sp lo Pb d Nm L A W) {i k : Nat} (hi : i < d.n) (hk : k < d.pl i) (hz : d.az i k = false) {xs : List Value} (hr : W2.ownsRow lo 3 1 (d.av i k) (d.al i k) xs) (hb : ∀ q, q < W.heap.size → q ≠ d.ab i k → W2.heap[q]? = W.heap[q]?) : Sp lo Pb d Nm L (upd A i k xs) W2 := by
  obtain ⟨cl, hcl⟩ := own_cells (h.numS hi hk hz)
  obtain ⟨cp, hcp⟩ := h.lsT
  have ne : ∀ {q : Nat} {c : Array Value} {t : TypeId}, t ≠ 3 → W.heap[q]? = some (.cells c t (0, 0)) → q ≠ d.ab i k := fun ht hc e => by
    rw [e, hcl] at hc
    cases hc
    exact ht rfl
  have ok : ∀ {q : Nat} {c : Array Value} {t : TypeId}, t ≠ 3 → W.heap[q]? = some (.cells c t (0, 0)) → W2.heap[q]? = W.heap[q]? := fun ht hc => hb _ (Array.getElem?_eq_some_iff.1 hc).1 (ne ht hc)
  refine ⟨fun j hj => (World.cell?_of_block (w := W) (a := ⟨Pb, j, none⟩) (ok (by decide) hcp)).trans (h.lst j hj), ⟨cp, (ok (by decide) hcp).trans hcp⟩, fun j hj => ownsRow_same (h.par j hj) fun g c _ hc => ok (by decide) hc, fun j m hj hm => ownsRow_same (h.lin j m hj hm) fun g c _ hc => ok (by decide) hc, fun j m hj hm => ?_, h.dp, h.dl, h.da⟩
  unfold upd
  by_cases e : j = i ∧ m = k
  · rw [if_pos e, e.1, e.2]; exact hr
  · rw [if_neg e]
    exact ownsRow_same (h.num j m hj hm) fun g c hg hc => hb g (Array.getElem?_eq_some_iff.1 hc).1 (by
      obtain ⟨zz, eg⟩ := Sd.av_blk hg
      rw [eg]
      exact h.da j m i k hj hm hi hk (by by_cases e1 : j = i; exact .inr (fun e2 => e ⟨e1, e2⟩); exact .inl e1) zz hz)
/-- A PARAGRAPH's NAMES ARE WRITTEN, OR THE ROOM BEHIND IT. -/
theorem Sp.oneP {lo Pb : Nat} {d : Sd} {Nm Nm2 : Nat → Nat → ByteArray} {L A : Nat → Nat → List Value} {W W2 : World} (h : Sp lo Pb d Nm L A W) {i : Nat} (hi : i < d.n) (hN : ∀ j, j ≠ i → Nm2 j = Nm j) (hr : W2.ownsRow lo 30 3 (d.pv i) (d.pl i) (flat (d.ts Nm2 i))) (hb : ∀ q, q < W.heap.size → q ≠ d.pb i → W2.heap[q]? = W.heap[q]?) : Sp lo Pb d Nm2 L A W2 := by
  obtain ⟨cl, hcl⟩ := own_cells (h.par i hi)
  obtain ⟨cp, hcp⟩ := h.lsT
  have ne : ∀ {q : Nat} {c : Array Value} {t : TypeId}, t ≠ 30 → W.heap[q]? = some (.cells c t (0, 0)) → q ≠ d.pb i := fun ht hc e => by
    rw [e, hcl] at hc
    cases hc
    exact ht rfl
  have ok : ∀ {q : Nat} {c : Array Value} {t : TypeId}, t ≠ 30 → W.heap[q]? = some (.cells c t (0, 0)) → W2.heap[q]? = W.heap[q]? := fun ht hc => hb _ (Array.getElem?_eq_some_iff.1 hc).1 (ne ht hc)
  refine ⟨fun j hj => (World.cell?_of_block (w := W) (a := ⟨Pb, j, none⟩) (ok (by decide) hcp)).trans (h.lst j hj), ⟨cp, (ok (by decide) hcp).trans hcp⟩, fun j hj => ?_, fun j m hj hm => ownsRow_same (h.lin j m hj hm) fun g c _ hc => ok (by decide) hc, fun j m hj hm => ownsRow_same (h.num j m hj hm) fun g c _ hc => ok (by decide) hc, h.dp, h.dl, h.da⟩
  by_cases e : j = i
  · subst e; exact hr
  · have et : d.ts Nm2 j = d.ts Nm j := by unfold Sd.ts Sd.tv; rw [hN j e]
    rw [et]
    exact ownsRow_same (h.par j hj) fun g c hg hc => hb g (Array.getElem?_eq_some_iff.1 hc).1 (by
      have eg : g = d.pb j := by simpa [Sd.pv, Value.ownBlock] using hg.symm
      rw [eg]
      exact h.dp j i hj hi e)
/-- One place of a field's lines, of its numbers. -/
theorem Sp.setL {lo Pb : Nat} {d : Sd} {Nm : Nat → Nat → ByteArray} {L A : Nat → Nat → List Value} {w0 W : World} (h : Sp lo Pb d Nm L A W) (hf : Fr d w0 W) {i k : Nat} (hi : i < d.n) (hk : k < d.pl i) (hz : d.lz i k = false) (m : Nat) (v : Value) :
    Sp lo Pb d Nm (upd L i k ((L i k).set m v)) A (W.setCell ⟨d.lb i k, m, none⟩ v) ∧ Fr d w0 (W.setCell ⟨d.lb i k, m, none⟩ v) := by
  obtain ⟨r0, _⟩ := (h.linS hi hk hz).stored m v
  have r := r0
  rw [← Sd.lv_some hz] at r
  exact ⟨h.oneL hi hk hz r fun q _ hq => set_other _ _ _ _ _ hq, hf.one (Env.set _ _ _) (by rw [set_size]; exact Nat.le_refl _) ⟨i, hi, .inr ⟨k, hk, .inl ⟨hz, rfl⟩⟩⟩ fun q _ hq => set_other _ _ _ _ _ hq⟩
theorem Sp.setA {lo Pb : Nat} {d : Sd} {Nm : Nat → Nat → ByteArray} {L A : Nat → Nat → List Value} {w0 W : World} (h : Sp lo Pb d Nm L A W) (hf : Fr d w0 W) {i k : Nat} (hi : i < d.n) (hk : k < d.pl i) (hz : d.az i k = false) (m : Nat) (v : Value) :
    Sp lo Pb d Nm L (upd A i k ((A i k).set m v)) (W.setCell ⟨d.ab i k, m, none⟩ v) ∧ Fr d w0 (W.setCell ⟨d.ab i k, m, none⟩ v) := by
  obtain ⟨r0, _⟩ := (h.numS hi hk hz).stored m v
  have r := r0
  rw [← Sd.av_some hz] at r
  exact ⟨h.oneA hi hk hz r fun q _ hq => set_other _ _ _ _ _ hq, hf.one (Env.set _ _ _) (by rw [set_size]; exact Nat.le_refl _) ⟨i, hi, .inr ⟨k, hk, .inr ⟨hz, rfl⟩⟩⟩ fun q _ hq => set_other _ _ _ _ _ hq⟩
end Go.Proofs.Ytohncccejlccbaa
