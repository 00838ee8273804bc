import Derived.Test.YtdkpglmdncjnbaaGreatDoorZf41
namespace Go.Proofs.YtdkpglmdncjnbaaGreatDoor
open Go.RowKit Go.Maps Go.Shelf
structure Ov (W0 W : World) (L : Nat) (ps : List Pk) (Md Mr : Nat → Nat) (nm : ByteArray) (m : Nat) (dn : Nat → Nat) : Prop where
 fx : Fx (fun b => b = L ∨ ∃ j, j < ps.length ∧ b = Md j) W0 W
 pk : ∀ i p, ps[i]? = some p → ∃ cs C S F, LPk W0 L p cs (Md i) (Mr i) C S F ∧ (∀ (j : Nat) (v : Value), cs[j]? = some v → (j = 6 → m ≤ i) → W.cell? ⟨L, i * 43 + j, none⟩ = some v) ∧ (i < m → W.cell? ⟨L, i * 43 + 6, none⟩ = some (.slice none 0 0))
 dp : ∀ i p, ps[i]? = some p → ∀ j, j < dn i → ∃ K, W0.heap.size ≤ K ∧ K < W.heap.size ∧ W.cell? ⟨Md i, j, none⟩ = some (.slice (some ⟨K, 0, none⟩) 1 1) ∧ W.cell? ⟨K, 0, none⟩ = some (.string nm) ∧ W.cell? ⟨K, 1, none⟩ = some (.int .i64 0) ∧ W.cell? ⟨K, 2, none⟩ = some (.string ⟨#[]⟩)
 sp : ∀ i p, ps[i]? = some p → ∀ j, j < p.dp.length → (W.cell? ⟨Md i, j, none⟩).isSome = true
 fm : ∀ i, i < ps.length → ∀ j, W.frozen? ⟨Md i, j, none⟩ = false
 fl : ∀ j, W.frozen? ⟨L, j, none⟩ = false
 md : ∀ i, i < ps.length → L < Md i ∧ Md i < W0.heap.size ∧ Md i < Mr i ∧ ∀ j, j < i → Mr j < Md i
 ll : L < W0.heap.size
theorem Ov.start {base : Nat} {W0 : World} {L : Nat} {ps : List Pk} {Md Mr : Nat → Nat} (h : PRw base W0 L ps ps.length Md Mr) (nm : ByteArray) : Ov W0 W0 L ps Md Mr nm 0 (fun _ => 0) := by
 have lt : ∀ {i : Nat} {p : Pk}, ps[i]? = some p → i < ps.length := fun hp => (List.getElem?_eq_some_iff.1 hp).1
 refine ⟨Fx.refl _ _, fun i p hp => ?_, fun i p _ j hj => absurd hj (Nat.not_lt_zero _), fun i p hp j hj => ?_, fun i hi j => ?_, h.pr.fr, fun i hi => ?_, h.pr.lt⟩
 ·obtain ⟨cs, C, S, F, h1, h2⟩ := h.tag i p (lt hp) hp
  exact ⟨cs, C, S, F, h2, fun j v hv _ => h1 j v hv, fun hh => absurd hh (Nat.not_lt_zero _)⟩
 ·obtain ⟨cs, C, S, F, h1, h2⟩ := h.tag i p (lt hp) hp
  exact h2.dl.row.spot j (Nat.le_of_lt hj)
 ·obtain ⟨cs, C, S, F, h1, h2⟩ := h.tag i _ hi (List.getElem?_eq_getElem hi)
  exact h2.dl.row.fr j
 ·obtain ⟨cs, C, S, F, h1, h2⟩ := h.tag i _ hi (List.getElem?_eq_getElem hi)
  obtain ⟨o1, o2, o3⟩ := h.ord i hi
  have := h2.dl.row.lo
  exact ⟨by omega, h2.dl.row.lt, o1, o3⟩
theorem Ov.lt {W0 W : World} {L m : Nat} {ps : List Pk} {Md Mr : Nat → Nat} {nm : ByteArray} {dn : Nat → Nat} (h : Ov W0 W L ps Md Mr nm m dn) : L < W.heap.size ∧ ∀ i, i < ps.length → Md i < W.heap.size :=
 ⟨Nat.lt_of_lt_of_le h.ll h.fx.size, fun i hi => Nat.lt_of_lt_of_le (h.md i hi).2.1 h.fx.size⟩
theorem Ov.inj {W0 W : World} {L m : Nat} {ps : List Pk} {Md Mr : Nat → Nat} {nm : ByteArray} {dn : Nat → Nat} (h : Ov W0 W L ps Md Mr nm m dn) {i j : Nat} (hi : i < ps.length) (hj : j < ps.length) (hij : i ≠ j) : Md i ≠ Md j := by
 rcases Nat.lt_or_gt_of_ne hij with q | q
 ·have := (h.md j hj).2.2.2 i q
  have := (h.md i hi).2.2.1
  omega
 ·have := (h.md i hi).2.2.2 j q
  have := (h.md j hj).2.2.1
  omega
theorem Ov.later {W0 W W' : World} {L m : Nat} {ps : List Pk} {Md Mr : Nat → Nat} {nm : ByteArray} {dn : Nat → Nat} (h : Ov W0 W L ps Md Mr nm m dn) (hb : RowKit.Below W.heap.size W W') : Ov W0 W' L ps Md Mr nm m dn := by
 obtain ⟨l1, l2⟩ := h.lt
 have lt : ∀ {i : Nat} {p : Pk}, ps[i]? = some p → i < ps.length := fun hp => (List.getElem?_eq_some_iff.1 hp).1
 refine ⟨h.fx.trans (Fx.of hb), fun i p hp => ?_, fun i p hp j hj => ?_, fun i p hp j hj => ?_, fun i hi j => ?_, fun j => ?_, h.md, h.ll⟩
 ·obtain ⟨cs, C, S, F, h2, h3, h4⟩ := h.pk i p hp
  exact ⟨cs, C, S, F, h2, fun j v hv hj => (hb.cell (p := ⟨L, _, none⟩) l1).trans (h3 j v hv hj), fun hm => (hb.cell (p := ⟨L, _, none⟩) l1).trans (h4 hm)⟩
 ·obtain ⟨K, k1, k2, k3, k4, k5, k6⟩ := h.dp i p hp j hj
  exact ⟨K, k1, Nat.lt_of_lt_of_le k2 hb.size, (hb.cell (p := ⟨Md i, _, none⟩) (l2 i (lt hp))).trans k3, (hb.cell (p := ⟨K, _, none⟩) k2).trans k4, (hb.cell (p := ⟨K, _, none⟩) k2).trans k5, (hb.cell (p := ⟨K, _, none⟩) k2).trans k6⟩
 ·rw [hb.cell (p := ⟨Md i, _, none⟩) (l2 i (lt hp))]
  exact h.sp i p hp j hj
 ·exact (hb.frozen (p := ⟨Md i, j, none⟩) (l2 i hi)).trans (h.fm i hi j)
 ·exact (hb.frozen (p := ⟨L, j, none⟩) l1).trans (h.fl j)
def ovP (nm : ByteArray) (p : Pk) : Pk := { p with dp := p.dp.map (fun _ => [⟨nm, 0, ⟨#[]⟩⟩]), pv := [] }
theorem PkC.over {cs : List Value} {p : Pk} {d r c v f : Value} (h : PkC cs p d r c v f) (nm : ByteArray) : PkC (cs.set 6 (.slice none 0 0)) (ovP nm p) d r c (.slice none 0 0) f := by
 have hl := h.len
 refine ⟨by simp [hl], fun x hx => ?_, ?_, ?_, ?_, ?_, ?_, ?_, ?_, ?_, ?_, ?_, fun j x hx => ?_, ?_⟩
 ·rcases List.mem_or_eq_of_mem_set hx with hx | rfl
  ·exact h.one x hx
  ·rfl
 ·simp [h.c0, ovP]
 ·simp [h.c1, ovP]
 ·simp [h.c2, ovP]
 ·simp [h.c3]
 ·simp [h.c4]
 ·simp [h.c5]
 ·simp [hl]
 ·simp [h.c7]
 ·simp [h.c8, ovP]
 ·simp [h.c9, ovP]
 ·rw [List.getElem?_set_ne (by omega)]
  exact h.cs0 j x hx
 ·simp [h.c42, ovP]
theorem Lcl.head {base : Nat} {W : World} {M : Nat} {cl : List (List At)} (h : Lcl base W M cl) : ∃ a n c, W.cell? ⟨M, 0, none⟩ = some (.slice a n c) := by
 cases cl with
 | nil =>
   obtain ⟨K, _, _, h3, _⟩ := h.last
   exact ⟨_, _, _, h3⟩
 | cons al l =>
   obtain ⟨C, _, h2, _⟩ := h.row.row 0 al (Nat.zero_lt_succ _) rfl
   exact ⟨_, _, _, h2⟩
theorem Mk1.head {W : World} {C : Nat} {al : List At} (h : Mk1 W C al) : ∃ s, W.cell? ⟨C, 0, none⟩ = some (.string s) := by
 cases al with
 | nil => exact ⟨_, by simpa using h.l0⟩
 | cons a l => exact ⟨_, by simpa using (h.elem 0 (by simp)).1⟩
theorem Ov.str {W0 W : World} {L m : Nat} {ps : List Pk} {Md Mr : Nat → Nat} {nm : ByteArray} {dn : Nat → Nat} (h : Ov W0 W L ps Md Mr nm m dn) {b : Nat} (hb : L < b) (hs : ∃ s, W0.cell? ⟨b, 0, none⟩ = some (.string s)) : ¬ (b = L ∨ ∃ j, j < ps.length ∧ b = Md j) := by
 rintro (e | ⟨j, hj, e⟩)
 ·omega
 ·obtain ⟨s, hs⟩ := hs
  obtain ⟨cs, C, S, F, h2, _⟩ := h.pk j _ (List.getElem?_eq_getElem hj)
  obtain ⟨a, n, c, e2⟩ := h2.dl.head
  rw [← e, hs] at e2
  cases e2
theorem Ov.mk1 {W0 W : World} {L m : Nat} {ps : List Pk} {Md Mr : Nat → Nat} {nm : ByteArray} {dn : Nat → Nat} (h : Ov W0 W L ps Md Mr nm m dn) {C : Nat} {al : List At} (hC : L < C) (hm : Mk1 W0 C al) : Mk1 W C al := by
 have e := h.fx.blk C hm.lt (h.str hC hm.head)
 exact hm.of (fun j => World.cell?_of_block e) (fun j => World.frozen?_of_block e) h.fx.size
theorem Ov.pkl {W0 W : World} {L : Nat} {ps : List Pk} {Md Mr : Nat → Nat} {nm : ByteArray} {dn : Nat → Nat} (h : Ov W0 W L ps Md Mr nm ps.length dn) (hd : ∀ i p, ps[i]? = some p → dn i = p.dp.length) (hz : ∀ p ∈ ps, PkZ p) (hf : ∀ p ∈ ps, ∀ x ∈ p.fs, ∃ s : Nm, x[0]? = some (Value.string s)) :
 Pkl W (.slice (some ⟨L, 0, none⟩) ps.length (ps.length + 1)) (ps.map (ovP nm)) := by
 refine ⟨some ⟨L, 0, none⟩, ps.length + 1, by rw [List.length_map], fun _ => ⟨L, 0, rfl, h.lt.1, fun i p' hp' => ?_⟩⟩
 rw [List.getElem?_map] at hp'
 obtain ⟨p, hp, rfl⟩ := Option.map_eq_some_iff.1 hp'
 have hi := (List.getElem?_eq_some_iff.1 hp).1
 have hpm := List.mem_of_getElem? hp
 have z := hz p hpm
 obtain ⟨cs, C, S, F, h2, h3, h4⟩ := h.pk i p hp
 obtain ⟨o1, o2, o3, o4⟩ := h.md i hi
 rw [Nat.zero_add]
 refine ⟨cs.set 6 (.slice none 0 0), _, _, _, _, _, fun j v hv => ?_, h2.pc.over nm, ?_⟩
 ·by_cases e : j = 6
  ·subst e
   rw [List.getElem?_set_self (by rw [h2.pc.len]; omega)] at hv
   cases hv
   exact h4 hi
  ·rw [List.getElem?_set_ne (Ne.symm e)] at hv
   exact h3 j v hv (fun q => absurd q e)
 ·have hl := h2.lists z
  refine ⟨⟨some ⟨Md i, 0, none⟩, p.dp.length + 1, by simp [ovP], fun _ => ⟨Md i, 0, rfl, h.lt.2 i hi, fun j al ha => ?_⟩⟩, ⟨_, _, rfl, fun _ => ⟨Mr i, 0, rfl, Nat.lt_of_lt_of_le h2.rl.row.lt h.fx.size, fun j al ha => ?_⟩⟩, (h.mk1 h2.hC h2.cl).ats (by have := z.cl; show p.cf.length ≤ _; omega), ⟨none, 0, rfl, by simp [ovP], fun j hj => absurd hj (by simp [ovP])⟩, ?_⟩
  ·have ha2 : (p.dp.map (fun _ => [(⟨nm, 0, ⟨#[]⟩⟩ : At)]))[j]? = some al := ha
   rw [List.getElem?_map] at ha2
   obtain ⟨a0, ha0, rfl⟩ := Option.map_eq_some_iff.1 ha2
   have hj := (List.getElem?_eq_some_iff.1 ha0).1
   obtain ⟨K, k1, k2, k3, k4, k5, k6⟩ := h.dp i p hp j (by rw [hd i p hp]; exact hj)
   rw [Nat.zero_add]
   refine ⟨_, _, k3, ⟨_, _, rfl, by simp, fun t ht => ?_⟩⟩
   obtain rfl : t = 0 := by simpa using ht
   exact ⟨K, 0, rfl, k2, k4, k5, k6⟩
  ·have hj := (List.getElem?_eq_some_iff.1 ha).1
   obtain ⟨D, d1, d2, d3⟩ := h2.rl.row.row j al hj ha
   rw [Nat.zero_add]
   have hlo := h2.rl.row.lo
   have hnr : ¬ (Mr i = L ∨ ∃ k, k < ps.length ∧ Mr i = Md k) := by
    rintro (e | ⟨k, hk, e⟩)
    ·omega
    ·obtain ⟨q1, q2, q3, q4⟩ := h.md k hk
     rcases Nat.lt_trichotomy i k with t | t | t
     ·have := q4 i t; omega
     ·subst t; omega
     ·have := o4 k t; omega
   have e := h.fx.blk (Mr i) h2.rl.row.lt hnr
   exact ⟨_, _, (World.cell?_of_block e).trans d2, (h.mk1 (by omega) d3).ats (by have := z.rls al (List.mem_of_getElem? ha); omega)⟩
  ·have hs : ∃ s, W0.cell? ⟨F, 0, none⟩ = some (.string s) := by
    cases hfs : p.fs with
    | nil => exact ⟨_, h2.fl.elem 0 _ (by rw [hfs]; rfl)⟩
    | cons x l =>
      obtain ⟨s, hx⟩ := hf p hpm x (by rw [hfs]; exact List.mem_cons_self)
      refine ⟨s, h2.fl.elem 0 _ ?_⟩
      have hxl := (List.getElem?_eq_some_iff.1 hx).1
      rw [hfs, List.flatten_cons, List.append_assoc, List.getElem?_append_left hxl]
      exact hx
   have e := h.fx.blk F h2.fl.lt (h.str h2.hF hs)
   obtain ⟨a, c, f1, f2, f3⟩ := hl.fl
   refine ⟨a, c, f1, f2, fun j hj => ?_⟩
   obtain ⟨g1, b, o, g2, g3, g4⟩ := f3 j hj
   injection f1 with f1 _ _
   rw [g2] at f1
   injection f1 with f1
   injection f1 with f1 _ _
   subst f1
   exact ⟨g1, F, o, g2, Nat.lt_of_lt_of_le g3 h.fx.size, fun t v hv => (World.cell?_of_block e).trans (g4 t v hv)⟩
theorem SmP.over {ps : List Pk} (h : SmP ps) (nm : ByteArray) (hn : nm.size ≤ maxLen) : SmP (ps.map (ovP nm)) := by
 have e : ∀ (g : Pk → Nat) (_ : ∀ p, g (ovP nm p) = g p), ((ps.map (ovP nm)).map g).sum = (ps.map g).sum := fun g hg => by
  rw [List.map_map]
  congr 1
  exact List.map_congr_left fun p _ => hg p
 have m : ∀ {Q : Pk → Prop}, (∀ p ∈ ps, Q (ovP nm p)) → ∀ p ∈ ps.map (ovP nm), Q p := fun hq p hp => by
  obtain ⟨q, hqm, rfl⟩ := List.mem_map.1 hp
  exact hq q hqm
 refine ⟨by rw [List.length_map]; exact h.l, ?_, ?_, ?_, ?_, ?_, m fun p hp => ?_, m fun p hp al ha => ?_, m fun p hp => h.r p hp, m fun p hp => h.c p hp, m fun p hp => h.f p hp⟩
 ·rw [List.map_map]
  have : (fun (p : Pk) => p.pv.length) ∘ ovP nm = fun _ => 0 := by funext p; rfl
  rw [this]
  have z : ∀ l : List Pk, (l.map fun _ => 0).sum = 0 := fun l => by induction l with
   | nil => rfl
   | cons a l ih => simpa using ih
  rw [z]
  omega
 ·rw [e (fun p => p.dp.length) (fun p => by simp [ovP])]; exact h.sd
 ·rw [e (fun p => p.pr.length) (fun p => rfl)]; exact h.sr
 ·rw [e (fun p => p.cf.length) (fun p => rfl)]; exact h.sc
 ·rw [e (fun p => p.fs.length) (fun p => rfl)]; exact h.sf
 ·exact ⟨(h.z p hp).1, (h.z p hp).2.1, fun n hn => absurd hn (by simp [ovP])⟩
 ·have ha2 : al ∈ p.dp.map (fun _ => [(⟨nm, 0, ⟨#[]⟩⟩ : At)]) := ha
  obtain ⟨_, _, rfl⟩ := List.mem_map.1 ha2
  refine ⟨by simp, fun a haa => ?_⟩
  obtain rfl := List.mem_singleton.1 haa
  exact ⟨hn, Nat.zero_le _⟩
end Go.Proofs.YtdkpglmdncjnbaaGreatDoor
