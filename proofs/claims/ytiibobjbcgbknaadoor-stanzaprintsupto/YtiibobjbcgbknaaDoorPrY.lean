import Derived.Test.YtiibobjbcgbknaaDoorScC
import Derived.Deep.Onto
import Derived.Test.YtiibobjbcgbknaaDoorSgE
import Derived.Test.YtiibobjbcgbknaaDoorScG
import Derived.Test.YtiibobjbcgbknaaDoorStX
import Derived.Test.YtiibobjbcgbknaaDoorSbR
import Derived.Test.YtiibobjbcgbknaaDoorStV
import Derived.Test.YtiibobjbcgbknaaDoorCards
import Derived.Test.YtiibobjbcgbknaaDoorTie
import Derived.MakeChecks
import Derived.Lib.LaidU8
import Derived.Lib.LaidTab
import Derived.Shelf.LaysM
import Derived.ChangeSlices
import Derived.WideShapes
import Derived.Deep.Strs
import Derived.Test.YtiibobjbcgbknaaDoorLaX
import Derived.Deep.RegionHeld3
import Derived.BigRegion
import Derived.Test.YtiibobjbcgbknaaDoorRpF
namespace Go.Proofs.YtiibobjbcgbknaaDoor
open Go.RowKit

set_option maxRecDepth 100000 in
set_option maxHeartbeats 2000000 in
theorem eqTexts_yes (l : List Bs) (pa qa : Option Addr) (pc qc : Nat) (w : World) (hl : l.length ≤ 9223372036854775807) (h1 : Cl w pa (strs l)) (h2 : Cl w qa (strs l)) :
    Calls Tryd.prog 75 #[.slice pa l.length pc, .slice qa l.length qc] w fun e w' => e = .returned (.bool true) ∧ Below w.heap.size w w' := by
  have H1 := hide h1
  have H2 := hide h2
  clear h1 h2
  go_enter Tryd.func75, Tryd.ntmps75
  go_wp2
  go_loopw [13] (fun iv wr => ∃ k : Nat, k ≤ l.length ∧ iv = .int .i64 k ∧ Hid (Below w.heap.size w wr)) (fun iv _ => l.length - (intOf iv).toNat)
  case atStart => exact ⟨0, Nat.zero_le _, rfl, hide (Below.refl _ _)⟩
  case round =>
    obtain ⟨k, hk, rfl, HB⟩ := hrel
    by_cases hlt : k < l.length
    · have hs : (strs l)[k]? = some (.string (ba l[k])) := by simp [strs, hlt]
      have h0 : 0 < (strs l).length := by simp [strs]; omega
      obtain ⟨b, o, rfl, hc1⟩ := (unhide H1).later (unhide HB) h0
      obtain ⟨b2, o2, rfl, hc2⟩ := (unhide H2).later (unhide HB) h0
      have d1 := hc1 k _ hs
      have d2 := hc2 k _ hs
      generalize ba l[k] = tk at *
      clear hc1 hc2 hs h0
      go_wp2
      go_region
      go_wp2
      go_roundw
      case rel => exact ⟨k + 1, by omega, by go_num, hide ((unhide HB).drew)⟩
      case measure => simp [intOf]; omega
    · go_wp2
      go_ret
      exact ⟨rfl, unhide HB⟩

set_option maxRecDepth 100000 in
set_option maxHeartbeats 2000000 in
theorem sameField_yes (s : ByteArray) (l : List Bs) (pa qa : Option Addr) (pc qc : Nat) (x y : Value) (w : World) (hl : l.length ≤ 9223372036854775807) (h1 : Cl w pa (strs l)) (h2 : Cl w qa (strs l)) :
    Calls Tryd.prog 60 #[.agg #[.string s, .slice pa l.length pc, x], .agg #[.string s, .slice qa l.length qc, y]] w fun e w' => e = .returned (.bool true) ∧ Below w.heap.size w w' := by
  have b1 : Below w.heap.size w (w.alloc (.cells #[.string s, .slice pa l.length pc, x] 49)) := (Below.refl _ _).alloc (Nat.le_refl _) _
  have b2 : Below w.heap.size w ((w.alloc (.cells #[.string s, .slice pa l.length pc, x] 49)).alloc (.cells #[.string s, .slice qa l.length qc, y] 49)) := b1.alloc (by simp) _
  have c1 := hide (eqTexts_yes l pa qa pc qc _ hl (h1.later b2) (h2.later b2))
  have B2 := hide b2
  clear b1 b2 h1 h2
  go_enter Tryd.func60, Tryd.ntmps60
  go_wp2_with (go_at_call 75; refine (unhide c1).mono ?_; rintro e w2 ⟨rfl, hb⟩; have HB := hide (bl_t (unhide B2) hb); clear hb)
  go_ret
  exact ⟨rfl, unhide HB⟩

end Go.Proofs.YtiibobjbcgbknaaDoor

namespace Go.Proofs.YtiibobjbcgbknaaDoor
open Go.RowKit

theorem Cl.of_ls {W : World} {b q : Nat} {l : List Bs} (h : ∀ i u, (strs l)[i]? = some u → W.cell? ⟨b, q + i, none⟩ = some u) : Cl W (some ⟨b, q, none⟩) (strs l) := fun _ => ⟨b, q, rfl, h⟩
theorem er_get {p q : List Fd} (h : p.map er = q.map er) (k : Nat) (h1 : k < p.length) (h2 : k < q.length) : q[k].nm = p[k].nm ∧ q[k].ls = p[k].ls := by
  have h3 : (p.map er)[k]? = (q.map er)[k]? := by rw [h]
  rw [List.getElem?_map, List.getElem?_map, List.getElem?_eq_getElem h1, List.getElem?_eq_getElem h2] at h3
  have h4 : er p[k] = er q[k] := Option.some.inj h3
  exact ⟨(congrArg Prod.fst h4).symm, (congrArg Prod.snd h4).symm⟩

set_option maxRecDepth 100000 in
set_option maxHeartbeats 4000000 in
theorem eqFields_yes (p q : List Fd) (v u : Value) (w : World) (he : p.map er = q.map er) (hl : p.length ≤ 268435456) (hls : ∀ f ∈ p, f.ls.length ≤ 268435456) (h1 : ParC w v p) (h2 : ParC w u q) :
    Calls Tryd.prog 59 #[v, u, .func (.func 60) #[] #[]] w fun e w' => e = .returned (.bool true) ∧ Below w.heap.size w w' := by
  obtain ⟨va, vc, rfl, h1⟩ := h1
  obtain ⟨ua, uc, rfl, h2⟩ := h2
  have hlen : q.length = p.length := by have := congrArg List.length he; simpa using this.symm
  rw [hlen] at h2 ⊢
  have H1 := hide h1
  have H2 := hide h2
  have HE := hide he
  clear h1 h2 he
  go_enter Tryd.func59, Tryd.ntmps59
  go_wp2_with fail
  go_loopw [17] (fun iv wr => ∃ k : Nat, k ≤ p.length ∧ iv = .int .i64 k ∧ Hid (Below w.heap.size w wr)) (fun iv _ => p.length - (intOf iv).toNat)
  case atStart => exact ⟨0, Nat.zero_le _, rfl, hide (Below.refl _ _)⟩
  case round =>
    obtain ⟨k, hk, rfl, HB⟩ := hrel
    by_cases hlt : k < p.length
    · obtain ⟨g, o, rfl, hf1⟩ := unhide H1 (by omega)
      obtain ⟨g2, o2, rfl, hf2⟩ := unhide H2 (by omega)
      have hlt2 : k < q.length := by omega
      have f1 := (hf1 k _ (List.getElem?_eq_getElem hlt)).later (unhide HB)
      have f2 := (hf2 k _ (List.getElem?_eq_getElem hlt2)).later (unhide HB)
      obtain ⟨en, el⟩ := er_get (unhide HE) k hlt hlt2
      obtain ⟨b, r, c, a1, a2, a3, a4⟩ := f1.ls
      obtain ⟨na, nn, nc, a5⟩ := f1.ns
      obtain ⟨b2, r2, c2, d1, d2, d3, d4⟩ := f2.ls
      obtain ⟨nb, mm, nd, d5⟩ := f2.ns
      have a0 := f1.nm
      have d0 := f2.nm
      rw [en] at d0
      rw [el] at d1 d4
      have c1 := hide (fun (W : World) (hb : Below wr.heap.size wr W) => sameField_yes (ba p[k].nm) p[k].ls (some ⟨b, r, none⟩) (some ⟨b2, r2, none⟩) c c2 (.slice na nn nc) (.slice nb mm nd) W (by have := hls _ (List.getElem_mem hlt); omega) ((Cl.of_ls a4).later hb) ((Cl.of_ls d4).later hb))
      have e0 := fun ob => ca (o := ob) d0
      have e1 := fun ob => ca (o := ob) d1
      have e5 := fun ob => ca (o := ob) d5
      clear f1 f2 hf1 hf2 a2 a3 a4 d2 d3 d4  en el
      generalize ba p[k].nm = sn at *
      generalize p[k].ls.length = ln at *
      go_wp2_with fail
      refine (unhide c1 _ (((Below.refl _ _).alloc (Nat.le_refl _) _).alloc (by simp) _)).mono ?_
      rintro e w1 ⟨rfl, hb1⟩
      have HB9 := hide (bl_t (((unhide HB).alloc (unhide HB).size _).alloc (Nat.le_trans (unhide HB).size (by simp)) _) hb1)
      clear hb1
      go_wp2_with fail
      go_roundw
      case rel => exact ⟨k + 1, by omega, by go_num, HB9⟩
      case measure => simp [intOf]; omega
    · go_wp2_with fail
      go_ret
      exact ⟨rfl, unhide HB⟩

set_option maxRecDepth 100000 in
set_option maxHeartbeats 1000000 in
theorem samePar_yes (p q : List Fd) (v u : Value) (w : World) (he : p.map er = q.map er) (hl : p.length ≤ 268435456) (hls : ∀ f ∈ p, f.ls.length ≤ 268435456) (h1 : ParC w v p) (h2 : ParC w u q) :
    Calls Tryd.prog 40 #[v, u] w fun e w' => e = .returned (.bool true) ∧ Below w.heap.size w w' := by
  have c1 := hide (eqFields_yes p q v u w he hl hls h1 h2)
  clear h1 h2 he hls
  go_enter Tryd.func40, Tryd.ntmps40
  go_wp2_with (go_at_call 59; refine (unhide c1).mono ?_; rintro e w2 ⟨rfl, hb⟩; have HB := hide hb; clear hb)
  go_ret
  exact ⟨rfl, unhide HB⟩

theorem ers_get {p q : List (List Fd)} (h : p.map (List.map er) = q.map (List.map er)) (k : Nat) (h1 : k < p.length) (h2 : k < q.length) : p[k].map er = q[k].map er := by
  have h3 : (p.map (List.map er))[k]? = (q.map (List.map er))[k]? := by rw [h]
  rw [List.getElem?_map, List.getElem?_map, List.getElem?_eq_getElem h1, List.getElem?_eq_getElem h2] at h3
  exact Option.some.inj h3

set_option maxRecDepth 100000 in
set_option maxHeartbeats 4000000 in
theorem eqDocs_yes (p q : List (List Fd)) (v u : Value) (w : World) (he : p.map (List.map er) = q.map (List.map er)) (hl : p.length ≤ 268435457) (hls : ∀ x ∈ p, x.length ≤ 268435456 ∧ ∀ f ∈ x, f.ls.length ≤ 268435456) (h1 : DocC w v p) (h2 : DocC w u q) :
    Calls Tryd.prog 39 #[v, u, .func (.func 40) #[] #[]] w fun e w' => e = .returned (.bool true) ∧ Below w.heap.size w w' := by
  obtain ⟨va, vc, rfl, h1⟩ := h1
  obtain ⟨ua, uc, rfl, h2⟩ := h2
  have hlen : q.length = p.length := by have := congrArg List.length he; simpa using this.symm
  rw [hlen] at h2 ⊢
  have H1 := hide h1
  have H2 := hide h2
  have HE := hide he
  clear h1 h2 he
  go_enter Tryd.func39, Tryd.ntmps39
  go_wp2_with fail
  go_loopw [17] (fun iv wr => ∃ k : Nat, k ≤ p.length ∧ iv = .int .i64 k ∧ Hid (Below w.heap.size w wr)) (fun iv _ => p.length - (intOf iv).toNat)
  case atStart => exact ⟨0, Nat.zero_le _, rfl, hide (Below.refl _ _)⟩
  case round =>
    obtain ⟨k, hk, rfl, HB⟩ := hrel
    by_cases hlt : k < p.length
    · obtain ⟨g, o, rfl, hf1⟩ := unhide H1 (by omega)
      obtain ⟨g2, o2, rfl, hf2⟩ := unhide H2 (by omega)
      have hlt2 : k < q.length := by omega
      obtain ⟨x, x1, x2⟩ := hf1 k _ (List.getElem?_eq_getElem hlt)
      obtain ⟨y, y1, y2⟩ := hf2 k _ (List.getElem?_eq_getElem hlt2)
      have d0 := cell_later x1 (unhide HB)
      have d1 := cell_later y1 (unhide HB)
      have hx := hls _ (List.getElem_mem hlt)
      have c1 := hide (samePar_yes p[k] q[k] x y wr (ers_get (unhide HE) k hlt hlt2) hx.1 hx.2 (x2.later (unhide HB)) (y2.later (unhide HB)))
      obtain ⟨xa, xc, rfl, _⟩ := x2
      obtain ⟨ya, yc, rfl, _⟩ := y2
      clear hf1 hf2 x1 y1 hx
      generalize p[k].length = pn at *
      generalize q[k].length = qn at *
      go_wp2_with fail
      refine (unhide c1).mono ?_
      rintro e w1 ⟨rfl, hb1⟩
      have HB9 := hide (bl_t (unhide HB) hb1)
      clear hb1
      go_wp2_with fail
      go_roundw
      case rel => exact ⟨k + 1, by omega, by go_num, HB9⟩
      case measure => simp [intOf]; omega
    · go_wp2_with fail
      go_ret
      exact ⟨rfl, unhide HB⟩

set_option maxRecDepth 100000 in
set_option maxHeartbeats 1000000 in
theorem Same_yes (p q : List (List Fd)) (v u : Value) (w : World) (he : p.map (List.map er) = q.map (List.map er)) (hl : p.length ≤ 268435457) (hls : ∀ x ∈ p, x.length ≤ 268435456 ∧ ∀ f ∈ x, f.ls.length ≤ 268435456) (h1 : DocC w v p) (h2 : DocC w u q) :
    Calls Tryd.prog 16 #[v, u] w fun e w' => e = .returned (.bool true) ∧ Below w.heap.size w w' := by
  have c1 := hide (eqDocs_yes p q v u w he hl hls h1 h2)
  clear h1 h2 he hls
  go_enter Tryd.func16, Tryd.ntmps16
  go_wp2_with (go_at_call 39; refine (unhide c1).mono ?_; rintro e w2 ⟨rfl, hb⟩; have HB := hide hb; clear hb)
  go_ret
  exact ⟨rfl, unhide HB⟩

set_option maxRecDepth 100000 in
set_option maxHeartbeats 2000000 in
theorem same_yes (l : Bs) (pa qa : Option Addr) (pc qc : Nat) (w : World) (hl : l.length ≤ 9223372036854775807) (h1 : Rb w pa l) (h2 : Rb w qa l) :
    Calls Tryd.prog 20 #[.slice pa l.length pc, .slice qa l.length qc] w fun e w' => e = .returned (.bool true) ∧ Below w.heap.size w w' := by
  have H1 := hide h1
  have H2 := hide h2
  clear h1 h2
  go_enter Tryd.func20, Tryd.ntmps20
  go_wp2
  go_loopw [5] (fun iv wr => ∃ k : Nat, k ≤ l.length ∧ iv = .int .i64 k ∧ Hid (Below w.heap.size w wr)) (fun iv _ => l.length - (intOf iv).toNat)
  case atStart => exact ⟨0, Nat.zero_le _, rfl, hide (Below.refl _ _)⟩
  case round =>
    obtain ⟨k, hk, rfl, HB⟩ := hrel
    by_cases hlt : k < l.length
    · obtain ⟨b, o, rfl, hc1⟩ := (unhide H1).later (unhide HB) (by omega)
      obtain ⟨b2, o2, rfl, hc2⟩ := (unhide H2).later (unhide HB) (by omega)
      have d1 := hc1 k hlt
      have d2 := hc2 k hlt
      clear hc1 hc2
      generalize (l[k].toNat : Int) = tk at *
      go_wp2
      go_region
      go_wp2
      go_roundw
      case rel => exact ⟨k + 1, by omega, by go_num, hide ((unhide HB).drew)⟩
      case measure => simp [intOf]; omega
    · go_wp2
      go_ret
      exact ⟨rfl, unhide HB⟩

end Go.Proofs.YtiibobjbcgbknaaDoor

namespace Go.Proofs.YtiibobjbcgbknaaDoor
open Go.RowKit

def PO (b0 : Nat) (W : World) (v : Value) (p : List Fd) : Prop := ∃ xs : List Fs, xs.map (·.f) = p ∧ W.ownsRow b0 49 3 v xs.length (xs.flatMap cells3) ∧ ∀ x ∈ xs, Fok 0 W x
theorem cells3_get : ∀ (xs : List Fs) (i : Nat) (x : Fs) (j : Nat) (u : Value), xs[i]? = some x → (cells3 x)[j]? = some u → (xs.flatMap cells3)[i * 3 + j]? = some u
  | [], i, x, j, u, h, _ => by cases h
  | y :: r, 0, x, j, u, h, hu => by
    cases h
    have hj : j < (cells3 y).length := (List.getElem?_eq_some_iff.1 hu).1
    rw [List.flatMap_cons, Nat.zero_mul, Nat.zero_add, List.getElem?_append_left hj]
    exact hu
  | y :: r, i + 1, x, j, u, h, hu => by
    rw [List.flatMap_cons, List.getElem?_append_right (by simp [cells3]; omega)]
    have e : (i + 1) * 3 + j - (cells3 y).length = i * 3 + j := by simp [cells3]; omega
    rw [e]
    exact cells3_get r i x j u h hu
theorem PO.parC {b0 : Nat} {W : World} {v : Value} {p : List Fd} (h : PO b0 W v p) : ParC W v p := by
  obtain ⟨xs, h1, h2, h3⟩ := h
  have hl : p.length = xs.length := by rw [← h1]; simp
  rcases h2.2 with ⟨e1, e2⟩ | ⟨g, cap, cur, e1, _, hg, _, _, _, htk⟩
  · exact ⟨none, 0, by rw [hl, e2]; exact e1, fun h0 => by omega⟩
  · refine ⟨some ⟨g, 0, none⟩, cap, by rw [hl]; exact e1, fun _ => ⟨g, 0, rfl, fun i f hi => ?_⟩⟩
    rw [← h1, List.getElem?_map] at hi
    cases hx : xs[i]? with
    | none => rw [hx] at hi; cases hi
    | some x =>
      rw [hx] at hi
      obtain rfl : x.f = f := Option.some.inj hi
      have hok := h3 x (List.mem_of_getElem? hx)
      rw [Nat.zero_add]
      refine ⟨(cell_blk hg _).1.trans (take_get htk (cells3_get xs i x 0 _ hx rfl)), ?_, ?_⟩
      · rcases hok.l.2 with ⟨e, _⟩ | ⟨b, c, cu, e, _, hb, r1, _, _, r4⟩
        · cases e
        · cases e
          refine ⟨x.lg, 0, x.lc, (cell_blk hg _).1.trans (take_get htk (cells3_get xs i x 1 _ hx rfl)), r1, (Array.getElem?_eq_some_iff.1 hb).1, fun j u hj => ?_⟩
          rw [Nat.zero_add]
          exact (cell_blk hb j).1.trans (take_get r4 hj)
      · exact ⟨_, _, x.ac, (cell_blk hg _).1.trans (take_get htk (cells3_get xs i x 2 _ hx rfl))⟩
theorem Wh.po {a b : Nat} {W : World} {v : Value} {p : List Fd} (h : Wh a b W v p) : PO 0 W v p := by
  obtain ⟨xs, h1, h2, _⟩ := (h.lower (Nat.zero_le a)).sh
  exact ⟨xs, h1, h2.row, h2.ok⟩
theorem own_shape1 {W : World} {base n sz : Nat} {e : TypeId} {v : Value} {cs : List Value} (h : W.ownsRow base e sz v n cs) : ∃ pa c, v = .slice pa n c := by
  rcases h.2 with ⟨h1, h2⟩ | ⟨g, cap, cur, h1, _⟩
  · exact ⟨none, 0, by rw [h1, h2]⟩
  · exact ⟨_, _, h1⟩
theorem doc_of {b : Nat} {W : World} {lv : Value} {vs : List Value} {ps : List (List Fd)} (hl : vs.length = ps.length) (hr : W.ownsRow b 39 1 lv vs.length vs) (he : ∀ (i : Nat) v p, vs[i]? = some v → ps[i]? = some p → ParC W v p) : DocC W lv ps := by
  obtain ⟨pa, c, hv⟩ := own_shape1 hr
  refine ⟨pa, c, by rw [← hl]; exact hv, fun h0 => ?_⟩
  obtain ⟨m, hm⟩ : ∃ m, vs.length = m + 1 := ⟨vs.length - 1, by omega⟩
  rw [hm] at hr
  obtain ⟨g, cap, cur, e, hg, _, htk, _⟩ := slice_of hr
  rw [e] at hv
  injection hv with q1 _ _
  refine ⟨g, 0, q1.symm, fun i p hi => ?_⟩
  have hlt : i < vs.length := by rw [hl]; exact (List.getElem?_eq_some_iff.1 hi).1
  refine ⟨vs[i], ?_, he i _ p (List.getElem?_eq_getElem hlt) hi⟩
  rw [Nat.zero_add]
  exact (cell_blk hg i).1.trans (take_get htk (List.getElem?_eq_getElem hlt))

end Go.Proofs.YtiibobjbcgbknaaDoor

namespace Go.Proofs.YtiibobjbcgbknaaDoor
open Go.RowKit
attribute [local go_sem] World.cell?_alloc_some

set_option maxRecDepth 100000 in
set_option maxHeartbeats 8000000 in
theorem twin_any (ps : List (List Fd)) (v : Value) (w : World) (hl : ps.length ≤ 16777216) (hls : ∀ x ∈ ps, x.length ≤ 16777216 ∧ ∀ f ∈ x, f.ls.length ≤ 16777216) (hD : DocG w v ps) :
    Calls Tryd.prog 15 #[v] w fun e w' => ∃ u, e = .returned u ∧ DocG w' u ps ∧ Below w.heap.size w w' := by
  obtain ⟨i9, hi9, z9a, z9b, z9c⟩ := info_parts info9
  obtain ⟨i3, hi3, z3a, z3b, z3c⟩ := info_parts info3
  obtain ⟨i49, hi49, z49a, z49b, z49c⟩ := info_parts info49
  obtain ⟨i39, hi39, z39a, z39b, z39c⟩ := info_parts info39
  obtain ⟨va, vc, rfl, hD⟩ := hD
  have HD := hide hD
  have HLS := hide hls
  clear hD hls
  go_enter Tryd.func15, Tryd.ntmps15
  go_wp2
  go_loopw [3, 4] (fun lv iv wr => ∃ (i : Nat) (l : Value) (vs : List Value), i ≤ ps.length ∧ iv = .int .i64 i ∧ lv = l ∧ vs.length = i ∧ Hid (wr.ownsRow w.heap.size 39 1 l i vs) ∧ Hid (∀ (j : Nat) v p, vs[j]? = some v → ps[j]? = some p → PT 0 wr v p) ∧ Hid (Below w.heap.size w wr)) (fun _ iv _ => ps.length - (intOf iv).toNat)
  case atStart => exact ⟨0, .slice none 0 0, [], Nat.zero_le _, rfl, rfl, rfl, hide (World.ownsRow_nil _ _ _ _), hide (fun j v p h => by cases h), hide (Below.refl _ _)⟩
  case round =>
    obtain ⟨i, l, vs, hi, rfl, rfl, hvs, HO, HE, HB⟩ := hrel
    rename World => W2
    by_cases hlt : i < ps.length
    · obtain ⟨g, o, rfl, hd⟩ := unhide HD (by omega)
      obtain ⟨u, u1, u2⟩ := hd i _ (List.getElem?_eq_getElem hlt)
      obtain ⟨q1, q2⟩ := unhide HLS _ (List.getElem_mem hlt)
      obtain ⟨ua, uc, rfl, hf⟩ := u2
      have HU := hide u1
      have HF := hide hf
      have HQ := hide q2
      have HP := hide (show ps[i]? = some ps[i] from List.getElem?_eq_getElem hlt)
      have hz2 := (unhide HB).size
      clear hd hf u1 q2
      generalize ps[i] = p at *
      go_wp2
      go_loopw [5, 6] (fun pv iv wr => ∃ (k : Nat) (q : Value), k ≤ p.length ∧ iv = .int .i64 k ∧ pv = q ∧ Hid (PT W2.heap.size wr q (p.take k)) ∧ Hid (Below W2.heap.size W2 wr)) (fun _ iv _ => p.length - (intOf iv).toNat)
      case atStart => exact ⟨0, _, Nat.zero_le _, rfl, rfl, hide ⟨[], rfl, World.ownsRow_nil _ _ _ _, fun x hx => by cases hx⟩, hide (Below.refl _ _)⟩
      case round =>
        obtain ⟨k, q, hk, rfl, rfl, HPO, HB2⟩ := hrel
        rename World => W
        have dU := cell_later (cell_later (unhide HU) (unhide HB)) (unhide HB2)
        by_cases hlt2 : k < p.length
        · obtain ⟨gg, oo, rfl, hf⟩ := unhide HF (by omega)
          have fc := ((hf k _ (List.getElem?_eq_getElem hlt2)).later (unhide HB)).later (unhide HB2)
          have f1 := unhide HQ _ (List.getElem_mem hlt2)
          have HT := hide (show p.take (k + 1) = p.take k ++ [p[k]] from List.take_succ_eq_append_getElem hlt2)
          obtain ⟨xs, x1, x2, x3⟩ := unhide HPO
          have hxl : xs.length = k := by have := congrArg List.length x1; rw [List.length_map, List.length_take] at this; omega
          have HX := hide (And.intro x2 x3)
          have HX1 := hide x1
          clear hf x1 x2 x3
          generalize p[k] = f at *
          obtain ⟨nm, ls, ns⟩ := f
          simp only at f1
          have e0 := fc.nm
          obtain ⟨la, lc, e1, _, es⟩ := fc.ls
          obtain ⟨na, nc, az, e5, en, eo, ez⟩ := fc.ns
          simp only at e0 e1 e5 es
          have HES := hide es
          have HEN := hide en
          have HEO := hide eo
          have hz3 := (unhide HB2).size
          clear fc es en eo
          generalize hnl : ls.length = nl at *
          have HNL := hide hnl
          clear hnl
          generalize hnn : az.length = nn at *
          have HNN := hide hnn
          clear hnn
          go_wp2
          have HBW1 := hide (show Below W.heap.size W (W.alloc (.cells #[.string (ba nm), .slice none 0 0, .slice none 0 0] 49)) from (Below.refl _ _).alloc (Nat.le_refl _) _)
          have HBX1 := hide (World.alloc_heap_new W (.cells #[.string (ba nm), .slice none 0 0, .slice none 0 0] 49))
          have HS1 := hide (show (W.alloc (.cells #[.string (ba nm), .slice none 0 0, .slice none 0 0] 49)).heap.size = W.heap.size + 1 by simp)
          have HW1 := hide (show W.alloc (.cells #[.string (ba nm), .slice none 0 0, .slice none 0 0] 49) = W.alloc (.cells #[.string (ba nm), .slice none 0 0, .slice none 0 0] 49) from rfl)
          generalize hW1 : W.alloc (.cells #[.string (ba nm), .slice none 0 0, .slice none 0 0] 49) = W1 at *
          replace HW1 := hide hW1
          clear hW1
          have d1U := cell_later dU (unhide HBW1)
          have d11 := cell_later e1 (unhide HBW1)
          have d15 := (cell_blk (unhide HBX1) 1).1
          go_region_law (refine step_app (by rfl) _ _ 46 (by rfl) W2.heap.size 9 i9 (.string ⟨#[]⟩) 16 Tryd.underlying46 hi9 z9a z9b z9c rfl (by rfl) la nl lc (strs ls) (by rfl) (by rw [strs, List.length_map]; exact unhide HNL) (show Cl W1 la (strs ls) from (unhide HES).later (unhide HBW1)) (by simp [strs, Value.oneCell']) (by unfold maxLen; omega) (by omega) (by show W2.heap.size ≤ W1.heap.size; have := unhide HS1; omega) ?_; intro v2 w2 hown2 hgrow2 hv2; have HBX2 := hide ((hgrow2.block W.heap.size (by show W.heap.size < W1.heap.size; have := unhide HS1; omega) (by simp)).trans (unhide HBX1)); have d2 := (cell_blk (unhide HBX2) 1).1; have f2 := (cell_blk (unhide HBX2) 1).2; have HO2 := hide (show w2.ownsRow W2.heap.size 9 1 v2 nl (strs ls) from hown2); have HB12 := hide (show Below W1.heap.size W1 w2 from ⟨hgrow2.os, hgrow2.tape, hgrow2.output, hgrow2.size, fun k hk => hgrow2.block k hk (by simp)⟩); have HV2 := hide (show v2.ownBlock = none ∨ v2.ownBlock = some W1.heap.size from hv2); obtain ⟨a2, cap2, rfl, -, -⟩ := own_cap (unhide HO2); clear hown2 hgrow2 hv2)
          all_goals
            have HG2 := hide (show (Value.slice a2 nl cap2).ownBlock = none ∨ (Value.slice a2 nl cap2).ownBlock = some (W.heap.size + 1) by
              rw [← unhide HS1]; exact unhide HV2)
            have HB2a := hide (show Below (W.heap.size + 1) (W.alloc (.cells #[.string (ba nm), .slice none 0 0, .slice none 0 0] 49)) w2 by
              rw [unhide HW1, ← unhide HS1]; exact unhide HB12)
            have HBW3 := hide (show Below W.heap.size W (w2.setCell ⟨W.heap.size, 1, none⟩ (.slice a2 nl cap2)) from by
              have b := bl_t (unhide HBW1) (unhide HB12)
              exact ⟨b.os, b.tape, b.output, by rw [set_size]; exact b.size, fun k hk => (set_other _ _ _ _ _ (by omega)).trans (b.block k hk)⟩)
            have HBX3 := hide (show (w2.setCell ⟨W.heap.size, 1, none⟩ (.slice a2 nl cap2)).heap[W.heap.size]? = some (.cells #[.string (ba nm), .slice a2 nl cap2, .slice none 0 0] 49 (0, 0)) from set_blk (unhide HBX2) 1 _)
            have HS3 := hide (set_size w2 W.heap.size 1 (.slice a2 nl cap2))
            have HZ12 := hide (show W.heap.size + 1 ≤ w2.heap.size by have h := (unhide HB12).size; rw [unhide HS1] at h; exact h)
            clear HBX1 HBX2 d1U d11 d15 d2 f2 HBW1 HB12 HV2
            generalize hW3 : w2.setCell ⟨W.heap.size, 1, none⟩ (.slice a2 nl cap2) = W3 at *
            have HW3 := hide hW3
            clear hW3
            have d3U := cell_later dU (unhide HBW3)
            have d35 := cell_later e5 (unhide HBW3)
            have d32 := (cell_blk (unhide HBX3) 2).1
            go_wp2
            go_region_law (refine step_app (by rfl) _ _ 47 (by rfl) W2.heap.size 3 i3 (.int .i64 0) 8 Tryd.underlying47 hi3 z3a z3b z3c rfl (by rfl) na nn nc az (by rfl) (unhide HNN) (show Cl W3 na az from (unhide HEN).later (unhide HBW3)) (unhide HEO) (by unfold maxLen; omega) (by omega) (by show W2.heap.size ≤ W3.heap.size; have h1 := unhide HS3; have h2 := unhide HZ12; omega) ?_; intro v4 w4 hown4 hgrow4 hv4; have HBX4 := hide ((hgrow4.block W.heap.size (by show W.heap.size < W3.heap.size; have h1 := unhide HS3; have h2 := unhide HZ12; omega) (by simp)).trans (unhide HBX3)); have d4 := (cell_blk (unhide HBX4) 2).1; have f4 := (cell_blk (unhide HBX4) 2).2; have HO4 := hide (show w4.ownsRow W2.heap.size 3 1 v4 nn az from hown4); have HB34 := hide (show Below W3.heap.size W3 w4 from ⟨hgrow4.os, hgrow4.tape, hgrow4.output, hgrow4.size, fun k hk => hgrow4.block k hk (by simp)⟩); have HV4 := hide (show v4.ownBlock = none ∨ v4.ownBlock = some W3.heap.size from hv4); obtain ⟨a4, cap4, rfl, -, -⟩ := own_cap (unhide HO4); clear hown4 hgrow4 hv4)
            all_goals
              have HG4 := hide (show (Value.slice a4 nn cap4).ownBlock = none ∨ (Value.slice a4 nn cap4).ownBlock = some w2.heap.size by
                rw [← unhide HS3]; exact unhide HV4)
              have HB4a := hide (show Below w2.heap.size (w2.setCell ⟨W.heap.size, 1, none⟩ (.slice a2 nl cap2)) w4 by
                rw [unhide HW3, ← unhide HS3]; exact unhide HB34)
              have HBW5 := hide (show Below W.heap.size W (w4.setCell ⟨W.heap.size, 2, none⟩ (.slice a4 nn cap4)) from by
                have b := bl_t (unhide HBW3) (unhide HB34)
                exact ⟨b.os, b.tape, b.output, by rw [set_size]; exact b.size, fun k hk => (set_other _ _ _ _ _ (by omega)).trans (b.block k hk)⟩)
              have HBX5 := hide (show (w4.setCell ⟨W.heap.size, 2, none⟩ (.slice a4 nn cap4)).heap[W.heap.size]? = some (.cells #[.string (ba nm), .slice a2 nl cap2, .slice a4 nn cap4] 49 (0, 0)) from set_blk (unhide HBX4) 2 _)
              clear HBX3 HBX4 d3U d35 d32 d4 f4 HBW3 HB34 HV4 HS3
              generalize hW5 : w4.setCell ⟨W.heap.size, 2, none⟩ (.slice a4 nn cap4) = W5 at *
              have HW5 := hide hW5
              clear hW5
              have y0 := (cell_blk (unhide HBX5) 0).1
              have y1 := (cell_blk (unhide HBX5) 1).1
              have y2 := (cell_blk (unhide HBX5) 2).1
              have HR5 := hide (ownsRow_bl (unhide HX).1 (unhide HBW5))
              have hz5 : W2.heap.size ≤ W5.heap.size := Nat.le_trans hz3 (unhide HBW5).size
              clear HBX5
              go_wp2_with (at_builtin; go_must (refine wpList_append_own _ rfl _ _ 39 rfl W2.heap.size 49 i49 (.agg #[.string ⟨#[]⟩, .slice none 0 0, .slice none 0 0]) 3 64 Tryd.underlying39 hi49 z49a z49b z49c rfl (by decide) _ _ _ rfl ((unhide HR5).alloc _) ⟨_, 0, none⟩ 1 1 [.string (ba nm), .slice a2 nl cap2, .slice a4 nn cap4] rfl rfl (cells3_new _ _ _ _ _) (by simp [Value.oneCell']) (by unfold maxLen; omega) (by omega) (by simp; omega) ?_); intro v7 w7 hown7 hgrow7 _; have HF7 := hide (twin_fieldT W2.heap.size W w2 w4 w7 _ v7 xs ⟨nm, ls, ns⟩ _ _ az _ _ hz3 (unhide HEO) (by rw [unhide HNN]; exact ez) (unhide HX).1 (unhide HX).2 (unhide HB2a) (by show w2.ownsRow W2.heap.size 9 1 _ ls.length (strs ls); rw [unhide HNL]; exact unhide HO2) (unhide HG2) (unhide HB4a) (by rw [unhide HNN]; exact unhide HO4) (unhide HG4) (by rw [unhide HW5]; exact hgrow7) hown7); clear hown7 hgrow7)
              go_roundw
              case rel => exact ⟨k + 1, v7, by omega, by go_num, rfl, hide (by rw [unhide HT, ← unhide HX1]; exact (unhide HF7).1), hide ((unhide HB2).trans (unhide HF7).2)⟩
              case measure => simp [intOf]; omega
        · obtain rfl : k = p.length := by omega
          have HPO2 := hide (show PT W2.heap.size W u5 p by have h := unhide HPO; rw [List.take_length] at h; exact h)
          clear HPO
          obtain ⟨pa5, c5, rfl, _⟩ := (unhide HPO2).parG
          have HR3 := hide (ownsRow_bl (unhide HO) (unhide HB2))
          have hz3 := (unhide HB2).size
          go_wp2_with (at_builtin; go_must (refine wpList_append_own _ rfl _ _ 24 rfl w.heap.size 39 i39 (.slice none 0 0) 1 24 Tryd.underlying24 hi39 z39a z39b z39c rfl (by decide) _ _ _ rfl ((unhide HR3).alloc _) ⟨_, 0, none⟩ 1 1 [_] rfl rfl (cell_one_new _ _ _) (by simp [Value.oneCell']) (by unfold maxLen; omega) (by omega) (by simp; omega) ?_); intro v8 w8 hown8 hgrow8 _; have HO8 := hide hown8; have HK8 := hide (show ∀ (k : Nat) (c : Array Value) (t : TypeId), (t = 49 ∨ t = 9 ∨ t = 3) → W.heap[k]? = some (Obj.cells c t (0, 0)) → w8.heap[k]? = W.heap[k]? from fun k c t ht hc => (hgrow8.block k (by have := (Array.getElem?_eq_some_iff.1 hc).1; simp; omega) (fun e => by obtain ⟨c', h1, _⟩ := ownsRow_blk (unhide HR3) e.symm; rw [hc] at h1; cases h1; simp at ht)).trans (Below.heap_alloc W _ k (Array.getElem?_eq_some_iff.1 hc).1)); have HB8 := hide ((bl_t (unhide HB) (unhide HB2)).alloc (Nat.le_trans hz2 hz3) _ |>.grown hgrow8 (by simp; omega) (fun j e => ((unhide HR3).lt j e).1)); clear hown8 hgrow8)
          go_roundw
          case rel => exact ⟨i + 1, v8, vs ++ [.slice pa5 p.length c5], by omega, by go_num, rfl, by simp [hvs], HO8, hide (PT_more (unhide HE) (unhide HB2) (unhide HPO2) hvs (unhide HP) (unhide HK8)), HB8⟩
          case measure => simp [intOf]; omega
    · obtain rfl : i = ps.length := by omega
      go_wp2
      go_ret
      exact ⟨_, rfl, docG_of hvs (by rw [hvs]; exact unhide HO) (fun j v p h1 h2 => (unhide HE j v p h1 h2).parG), unhide HB⟩

end Go.Proofs.YtiibobjbcgbknaaDoor

namespace Go.Proofs.YtiibobjbcgbknaaDoor
open Go.RowKit

set_option maxRecDepth 100000 in
set_option maxHeartbeats 4000000 in
theorem there_any (ps : List (List Fd)) (va : Option Addr) (vc : Nat) (w : World) (hl : ps.length ≤ 16777216) (hs : ∀ p ∈ ps, p.length ≤ 16777216 ∧ ∀ f ∈ p, szG f) (hsz : (∀ p ∈ ps, okP p = true) → (prT ps).length ≤ 16777216) (hD : DocG w (.slice va ps.length vc) ps) (hG : Glob w) :
    Calls Tryd.prog 4 #[.slice va ps.length vc] w fun e w' => e = .returned (.bool true) ∧ Below w.heap.size w w' := by
  have cL := hide (lives_any w hG)
  have cT := hide (fun (w1 : World) (hb : Below w.heap.size w w1) => twin_any ps (.slice va ps.length vc) w1 hl (fun x hx => ⟨(hs x hx).1, fun f hf => ((hs x hx).2 f hf).2.2⟩) (hD.later hb))
  by_cases hok : ∀ p ∈ ps, okP p = true
  · have hsz := hsz hok
    have hne : ∀ p ∈ ps, ∀ f ∈ p, f.ls ≠ [] := fun p hp f hf => okF_ls (List.all_eq_true.1 (okP_parts (hok p hp)).1 f hf)
    obtain ⟨pe, pp⟩ := parse_print _ hok
    obtain ⟨hok2, _⟩ := parse_ok (prT ps)
    have hpo2 : pOut (prT ps) = (0, 0) := by unfold pOut; rw [if_neg (by omega), pe]
    generalize hqs : shut (parseT (prT ps)) = qs at *
    have hq : prT qs = prT ps := prT_er _ _ pp
    have hll : qs.length ≤ 268435457 ∧ ∀ x ∈ qs, x.length ≤ 268435456 ∧ ∀ f ∈ x, f.ls.length ≤ 268435456 := by
      obtain ⟨l1, l2⟩ := prT_len qs
      rw [hq] at l1 l2
      refine ⟨by omega, fun x hx => ?_⟩
      have h1 := (okP_parts (hok2 x hx)).1
      have h2 := par_len x h1
      have h3 := l2 x hx
      refine ⟨by omega, fun f hf => ?_⟩
      have h4 := List.all_eq_true.1 h1 f hf
      have h5 := fld_len f h4
      have h6 := h2.2 f hf
      omega
    have cR := hide (fun (w3 : World) (v : Value) (hd : DocG w3 v ps) => Print_yes ps v w3 hok hsz (hd.docC hne))
    have cC2 := hide (fun (w1 : World) (qa : Option Addr) (qc : Nat) (h : Rb w1 qa (prT ps)) => copied_any (prT ps) qa qc w1 hsz h)
    have cQ := hide (show ∀ (w2 : World), Below w.heap.size w w2 → ∀ qa qc, Rb w2 qa (prT ps) → Calls Tryd.prog 11 #[.slice qa (prT ps).length qc] w2 fun e W2 => ∃ va vc, e = .returned (.tuple #[.slice va qs.length vc, .int .i64 0, .int .i64 0]) ∧ DocC W2 (.slice va qs.length vc) qs ∧ Below w2.heap.size w2 W2 from fun w2 hb qa qc hq => by
      refine (Parse_any (prT ps) qa qc w2 (by omega) (hG.later (n := w.heap.size) hG.big hb) (fun W hbW => (hq.later hbW).cv qc)).mono ?_
      rintro e W2 ⟨lv, h1, h2, _, h3⟩
      rw [hpo2] at h1 h3
      rw [hqs] at h3
      obtain ⟨vs, v1, v2, v3⟩ := h3 rfl
      have hd : DocC W2 lv qs := doc_of v1 v2 fun i v p i1 i2 => (v3 i v p i1 i2).po.parC
      obtain ⟨va, vc, e1, e2⟩ := hd
      subst e1
      exact ⟨va, vc, h1, ⟨va, vc, rfl, e2⟩, h2⟩)
    have cS := hide (fun (w3 : World) (hb : Below w.heap.size w w3) (v : Value) (h1 : DocC w3 v qs) => Same_yes qs ps v (.slice va ps.length vc) w3 pp hll.1 hll.2 h1 ((hD.later hb).docC hne))
    clear hD hpo2 hok hok2 pe pp hqs hq hll hne hs
    generalize prT ps = tx at *
    go_enter Tryd.func4, Tryd.ntmps4
    go_wp2_with (first
      | (go_at_call 10; refine (unhide cL).mono ?_; rintro e w1 ⟨rfl, hb1⟩; have HB1 := hide hb1; clear hb1 cL)
      | (go_at_call 15; refine (unhide cT w1 (unhide HB1)).mono ?_; rintro e w2 ⟨u2, rfl, hd2, hb2⟩; have HB2 := hide (bl_t (unhide HB1) hb2); have HD2 := hide hd2; clear hb2 hd2)
      | (go_at_call 14; refine (unhide cR w2 _ (unhide HD2)).mono ?_; rintro e w3 ⟨p3, c3, rfl, ho3, hb3⟩; have HB3 := hide (bl_t (unhide HB2) hb3); have HR3 := hide (Rb.of_owns ho3).2; clear hb3 ho3)
      | (go_at_call 12; refine (unhide cC2 _ _ _ (unhide HR3)).mono ?_; rintro e w4 ⟨qa, qc, rfl, ho4, hb4⟩; have HR4 := hide (Rb.of_owns ho4).2; have HB4 := hide (bl_t (unhide HB3) hb4); clear ho4 hb4)
      | (go_at_call 11; refine (unhide cQ w4 (unhide HB4) qa qc (unhide HR4)).mono ?_; rintro e w5 ⟨va5, vc5, rfl, hd5, hb5⟩; have HB5 := hide (bl_t (unhide HB4) hb5); have HD5 := hide hd5; clear hb5 hd5)
      | (go_at_call 16; refine (unhide cS w5 (unhide HB5) _ (unhide HD5)).mono ?_; rintro e w6 ⟨rfl, hb6⟩; have HB6 := hide (bl_t (unhide HB5) hb6); clear hb6))
    first | exact ⟨rfl, unhide HB6⟩ | (go_ret; exact ⟨rfl, unhide HB6⟩) | exact ⟨rfl, _, results_tmp (t := 2) (by kernel_rfl) _ _ _, rfl, unhide HB6⟩
  · have cR := hide (fun (w3 : World) (v : Value) (hd : DocG w3 v ps) => Print_no ps v w3 hok hl hs hd)
    clear hD hok hs hsz
    go_enter Tryd.func4, Tryd.ntmps4
    go_wp2_with (first
      | (go_at_call 10; refine (unhide cL).mono ?_; rintro e w1 ⟨rfl, hb1⟩; have HB1 := hide hb1; clear hb1 cL)
      | (go_at_call 15; refine (unhide cT w1 (unhide HB1)).mono ?_; rintro e w2 ⟨u2, rfl, hd2, hb2⟩; have HB2 := hide (bl_t (unhide HB1) hb2); have HD2 := hide hd2; clear hb2 hd2)
      | (go_at_call 14; refine (unhide cR w2 _ (unhide HD2)).mono ?_; rintro e w3 ⟨rfl, hb3⟩; have HB3 := hide (bl_t (unhide HB2) hb3); clear hb3))
    first | exact ⟨rfl, unhide HB3⟩ | (go_ret; exact ⟨rfl, unhide HB3⟩) | exact ⟨rfl, _, results_tmp (t := 2) (by kernel_rfl) _ _ _, rfl, unhide HB3⟩

end Go.Proofs.YtiibobjbcgbknaaDoor

namespace Go.Proofs.YtiibobjbcgbknaaDoor
open Go.ChangeShapes Go.WideShapes Go.RowKit

theorem last_lt {W : World} (h : Lib.VarReads Tryd.prog W "unicode/utf8.acceptRanges" Rows.laid_unicode_utf8_acceptRanges) : 2 < W.heap.size := by
  obtain ⟨g, t, cs, fuel, p, h1, h2, h3, h4⟩ := h
  have hg : Tryd.prog.globalNamed "unicode/utf8.acceptRanges" = some 2 := by kernel_rfl
  unfold World.var? at h3
  rw [hg] at h3
  simp only [Option.bind_some] at h3
  by_cases hl : 2 < W.heap.size
  · exact hl
  · rw [Array.getElem?_eq_none (by omega)] at h3
    cases h3

theorem glob_of {W : World} (hl : laidMetH Tryd.prog Rows.stanzaAheadUptoRow.laid W) (hs : W.ShapedOpen Tryd.prog) : Glob W := by
  rw [Go.MakeChecks.laidMetH_plain _ _ _ (by kernel_rfl)] at hl
  refine ⟨last_lt (Lib.laidMet.reads hl List.mem_cons_self), ?_⟩
  exact Go.Proofs.cell_of_shapedOpen_int (zero := #[.int .i64 0]) (t := 3) hs (of_decide_eq_true (by kernel_rfl)) (by kernel_rfl) rfl (by kernel_rfl) (by kernel_rfl) Tryd.underlying3

theorem bulk_lits {H : Type} (k : IntKind) : ∀ zs : List Int, Rows.uptoBulkAll (ChangeShapes.lits (H := H) k zs) = zs.length
  | [] => rfl
  | z :: r => by
    have ih := bulk_lits (H := H) k r
    show Rows.uptoBulkAll (DataW.lit (.int k z) :: ChangeShapes.lits (H := H) k r) = _
    rw [Rows.uptoBulkAll, ih, Rows.uptoBulk, List.length_cons]
    · omega
    · intro b hb; cases hb
set_option maxRecDepth 100000 in
/-- A []byte THAT CAME IN, OPENED. -/
theorem open_bs {H : Type} {enc : TypeId × Value → H} {W : World} {base : Nat} {v : Value} {d : DataW H} {p : List MemPlace} (hv : Value.okWide Tryd.prog W .any base 22 v)
    (h : DataW.Trod enc Tryd.prog W 0 (fun _ => true) true 22 v d p) : ∃ (t : Bs) (pa : Option Addr) (c : Nat), v = .slice pa t.length c ∧ Rb W pa t ∧ t.length ≤ Rows.uptoBulk d := by
  obtain ⟨a0, len, cap, rfl⟩ := okWide_slice Tryd.underlying22 hv
  obtain ⟨fuel, hf⟩ := h
  rcases open_ints Tryd.underlying22 Tryd.underlying5 (by kernel_rfl) hf with ⟨hcs, hx⟩ | ⟨a, len', cap', zs, hcs, _, hl, hm, hz, hx, hcell, hwz⟩
  · simp [Value.cells] at hcs
    obtain ⟨rfl, rfl, rfl⟩ := hcs
    exact ⟨[], none, 0, rfl, fun h => absurd h (by simp), Nat.zero_le _⟩
  · simp [Value.cells] at hcs
    obtain ⟨rfl, rfl, rfl⟩ := hcs
    simp only [Prod.mk.injEq] at hx
    obtain ⟨rfl, rfl⟩ := hx
    simp only [if_true] at hz
    have hlen : (((zs.take len).map fun n => UInt8.ofNat n.toNat) : Bs).length = len := by simp; omega
    refine ⟨(zs.take len).map fun n => UInt8.ofNat n.toNat, some a, cap, by rw [hlen], fun h0 => ?_, ?_⟩
    · have hc0 := hcell 0 (by omega)
      obtain ⟨b, o, u⟩ := a
      have hu : u = none := by
        cases u with
        | none => rfl
        | some y =>
          simp [World.cell?, Addr.add] at hc0
          split at hc0 <;> cases hc0
      subst hu
      refine ⟨b, o, rfl, fun i hi => ?_⟩
      have hi2 : i < len := by rw [hlen] at hi; exact hi
      have hci := hcell i (by omega)
      rw [add_plain] at hci
      have hwi := hwz (zs.getD i 0) (by rw [List.getD_eq_getElem?_getD, List.getElem?_eq_getElem (by omega)]; simp)
      have hz2 : zs.getD i 0 = zs[i]'(by omega) := by rw [List.getD_eq_getElem?_getD, List.getElem?_eq_getElem (by omega)]; rfl
      rw [hz2] at hci hwi
      have hwf : 0 ≤ zs[i]'(by omega) ∧ zs[i]'(by omega) < 256 := by
        have h1 : IntKind.u8.min = 0 := rfl
        have h2 : IntKind.u8.max = 255 := rfl
        simp only [Lit.wf, Bool.and_eq_true, decide_eq_true_eq] at hwi
        omega
      refine hci.trans ?_
      simp only [List.getElem_map, List.getElem_take]
      congr 2
      rw [UInt8.toNat_ofNat']
      omega
    · rw [hlen, Rows.uptoBulk, bulk_lits, bulk_lits, List.length_take]
      omega

end Go.Proofs.YtiibobjbcgbknaaDoor

namespace Go.Proofs.YtiibobjbcgbknaaDoor
open Go.ChangeShapes Go.WideShapes Go.ChangeAt Go.RowKit

theorem plain_a {w : World} {a : Addr} {v : Value} (h : w.cell? a = some v) : a = ⟨a.block, a.off, none⟩ ∧ a.block < w.heap.size := by
  have hs := World.cell?_spot h
  have hb := World.block_lt_of_cell? _ _ h
  obtain ⟨b, o, sp⟩ := a
  have e : sp = none := hs
  subst e
  exact ⟨rfl, hb⟩
theorem add_zero' (a : Addr) : a.add 0 = a := by unfold Addr.add; simp
theorem plain_i {w : World} {a : Addr} {i : Nat} {v : Value} (ha : a = ⟨a.block, a.off, none⟩) (h : w.cell? (a.add i) = some v) : w.cell? ⟨a.block, a.off + i, none⟩ = some v := by
  rw [ha, add_plain] at h
  exact h

/-- WEIGHTS. -/
def wF (f : Fd) : Nat := f.nm.length + (f.ls.map fun l => l.length + 1).sum + 1
def wP (p : List Fd) : Nat := (p.map wF).sum + 1
def wD (ps : List (List Fd)) : Nat := (ps.map wP).sum + 1
theorem bulkAll {H : Type} : ∀ L : List (DataW H), Rows.uptoBulkAll L = (L.map Rows.uptoBulk).sum
  | [] => by simp [Rows.uptoBulkAll]
  | d :: r => by rw [Rows.uptoBulkAll, bulkAll r, List.map_cons, List.sum_cons]
theorem sum_le {f g : Nat → Nat} : ∀ n, (∀ i, i < n → f i ≤ g i) → ((List.range n).map f).sum ≤ ((List.range n).map g).sum
  | 0, _ => by simp
  | n + 1, h => by
    have := sum_le n (fun i hi => h i (by omega))
    have h1 := h n (by omega)
    simp only [List.range_succ, List.map_append, List.map_cons, List.map_nil, List.sum_append, List.sum_cons, List.sum_nil]
    omega
theorem le_sum {f : Nat → Nat} : ∀ n i, i < n → f i ≤ ((List.range n).map f).sum
  | 0, i, h => by omega
  | n + 1, i, h => by
    simp only [List.range_succ, List.map_append, List.map_cons, List.map_nil, List.sum_append, List.sum_cons, List.sum_nil]
    by_cases e : i < n
    · have := le_sum (f := f) n i e; omega
    · obtain rfl : i = n := by omega
      omega
theorem len_sum {f : Nat → Nat} : ∀ n, (∀ i, 1 ≤ f i) → n ≤ ((List.range n).map f).sum
  | 0, _ => by simp
  | n + 1, h => by
    have := len_sum (f := f) n h
    have h1 := h n
    simp only [List.range_succ, List.map_append, List.map_cons, List.map_nil, List.sum_append, List.sum_cons, List.sum_nil]
    omega
theorem bulk_slice {H : Type} (D : Nat → DataW H) (n : Nat) (r : List (DataW H)) : ((List.range n).map fun i => Rows.uptoBulk (D i)).sum + 1 ≤ Rows.uptoBulk (.slice ((List.range n).map D) r) := by
  rw [Rows.uptoBulk, bulkAll, List.map_map]
  show ((List.range n).map fun i => Rows.uptoBulk (D i)).sum + 1 ≤ ((List.range n).map fun i => Rows.uptoBulk (D i)).sum + _ + 1
  omega
theorem bulk_pos {H : Type} (d : DataW H) : 1 ≤ Rows.uptoBulk d := by
  cases d with
  | lit l => cases l <;> simp [Rows.uptoBulk]
  | _ => simp [Rows.uptoBulk]

theorem ba_data (s : ByteArray) : ba s.data.toList = s := rfl

section
variable {H : Type} {enc : TypeId × Value → H} {w : World} {base : Nat} {spare : Nat → Bool} {held : Bool} {fuel : Nat} {v : Value} {x : DataW H × List MemPlace}

theorem open_lines (h : DataW.trod enc Tryd.prog w base spare held fuel 46 [v] = some x) :
    ∃ (ls : List Bs) (pa : Option Addr) (c : Nat), v = .slice pa ls.length c ∧ ls.length ≤ c ∧ Cl w pa (strs ls) ∧ (ls.map fun l => l.length + 1).sum ≤ Rows.uptoBulk x.1 := by
  rcases Go.Deep.open_strs Tryd.underlying46 Tryd.underlying9 (by kernel_rfl) h with ⟨h1, rfl⟩ | ⟨a, len, cap, m, Sx, h1, hb, hl, hm, hmm, rfl, hx⟩
  · obtain rfl : v = .slice none 0 0 := by simpa using h1
    exact ⟨[], none, 0, rfl, Nat.le_refl _, fun h0 => absurd h0 (by simp [strs]), by simp⟩
  · obtain rfl : v = .slice (some a) len cap := by simpa using h1
    have hlm : len ≤ m := by rw [hmm]; split <;> omega
    refine ⟨(List.range len).map fun i => (Sx i).data.toList, some a, cap, by simp, by simp; exact hl, fun h0 => ?_, ?_⟩
    · have h0' : 0 < len := by simpa [strs] using h0
      have h4 := (hx 0 (by omega)).1
      rw [add_zero'] at h4
      obtain ⟨e1, e2⟩ := plain_a h4
      refine ⟨a.block, a.off, by rw [← e1], fun i u hi => ?_⟩
      have hi' : i < len := by have := (List.getElem?_eq_some_iff.1 hi).1; simpa [strs] using this
      rw [plain_i e1 (hx i (by omega)).1, ← hi]
      simp [strs, hi', ba_data]
    · have hB := bulk_slice (H := H) (fun i => .lit (.string (Sx i).data.toList)) len ((List.range (m - len)).map fun j => .lit (.string (Sx (len + j)).data.toList))
      refine Nat.le_trans ?_ (Nat.le_trans (Nat.le_succ _) hB)
      rw [List.map_map]
      exact sum_le len fun i _ => by simp [Rows.uptoBulk]

theorem open_ats (h : DataW.trod enc Tryd.prog w base spare held fuel 47 [v] = some x) :
    ∃ (az : List Value) (pa : Option Addr) (c : Nat), v = .slice pa az.length c ∧ Cl w pa az ∧ (∀ u ∈ az, u.oneCell' = true) ∧ az.length ≤ Rows.uptoBulk x.1 := by
  rcases open_ints Tryd.underlying47 Tryd.underlying3 (by kernel_rfl) h with ⟨h1, rfl⟩ | ⟨a, len, cap, zs, h1, hb, hl, hm, hz, rfl, hcell, hwz⟩
  · obtain rfl : v = .slice none 0 0 := by simpa using h1
    exact ⟨[], none, 0, rfl, fun h0 => absurd h0 (by simp), (fun u hu => by cases hu), by simp⟩
  · obtain rfl : v = .slice (some a) len cap := by simpa using h1
    have hlz : len ≤ zs.length := by rw [hz]; split <;> omega
    have hlen : ((zs.take len).map fun n => Value.int .i64 n).length = len := by simp; omega
    refine ⟨(zs.take len).map fun n => Value.int .i64 n, some a, cap, by rw [hlen], fun h0 => ?_, fun u hu => ?_, ?_⟩
    · have h4 := hcell 0 (by omega)
      rw [add_zero'] at h4
      obtain ⟨e1, e2⟩ := plain_a h4
      refine ⟨a.block, a.off, by rw [← e1], fun i u hi => ?_⟩
      have hi' : i < len := by have := (List.getElem?_eq_some_iff.1 hi).1; omega
      rw [plain_i e1 (hcell i (by omega)), ← hi]
      have h5 : i < zs.length := by omega
      simp [hi', h5]
    · obtain ⟨n, _, rfl⟩ := List.mem_map.1 hu
      rfl
    · rw [hlen, Rows.uptoBulk, bulkAll]
      have : len ≤ ((lits (H := H) .i64 (zs.take len)).map Rows.uptoBulk).sum := by
        have h6 : (lits (H := H) .i64 (zs.take len)).map Rows.uptoBulk = (zs.take len).map fun _ => 1 := by
          simp [lits, Rows.uptoBulk, Function.comp_def]
        rw [h6, List.map_const', List.sum_replicate_nat, List.length_take]
        omega
      omega

theorem cells49 : Tryd.prog.cellsOf 49 = 3 := by kernel_rfl

set_option maxRecDepth 100000 in
theorem open_par (h : DataW.trod enc Tryd.prog w base spare held fuel 39 [v] = some x) (hB : Rows.uptoBulk x.1 ≤ 1048576) :
    ∃ p : List Fd, ParG w v p ∧ wP p ≤ Rows.uptoBulk x.1 := by
  rcases Go.Deep.open_slice Tryd.underlying39 h with ⟨h1, rfl⟩ | ⟨a, len, cap, m, n, D, Pl, h1, hb, hl, hm, hmm, rfl, hx⟩
  · obtain rfl : v = .slice none 0 0 := by simpa using h1
    exact ⟨[], ⟨none, 0, rfl, fun h0 => absurd h0 (by simp)⟩, by simp [wP, Rows.uptoBulk]⟩
  · obtain rfl : v = .slice (some a) len cap := by simpa using h1
    have hlm : len ≤ m := by rw [hmm]; split <;> omega
    have hS := bulk_slice (H := H) D len ((List.range (m - len)).map fun j => D (len + j))
    have each0 : 0 < len → a = ⟨a.block, a.off, none⟩ ∧ a.block < w.heap.size := fun hi => by
      obtain ⟨cs', h2, h3⟩ := hx 0 (by omega)
      rw [cells49] at h2
      obtain ⟨_, hlen, hcell⟩ := World.cells?_some h2
      have k0 := hcell 0 (by omega)
      rw [Nat.zero_mul, add_zero', add_zero', List.getElem?_eq_getElem (by omega)] at k0
      exact plain_a k0
    have each : ∀ i, i < len → ∃ f : Fd, FdG w a.block (a.off + i * 3) f ∧ wF f ≤ Rows.uptoBulk (D i) := fun i hi => by
      obtain ⟨cs', h2, h3⟩ := hx i (by omega)
      rw [cells49] at h2
      obtain ⟨_, hlen, hcell⟩ := World.cells?_some h2
      match cs', hlen with
      | [c0, c1, c2], _ =>
        obtain ⟨xs, n', _, hx', hl', hlen', hfs⟩ := DataW.trod_struct Tryd.underlying49 h3
        match xs, hlen' with
        | [y0, y1, y2], _ =>
          have g0 := hfs 0 _ rfl
          have g1 := hfs 1 _ rfl
          have g2 := hfs 2 _ rfl
          simp [show Tryd.prog.cellsOf 9 = 1 by kernel_rfl, show Tryd.prog.cellsOf 46 = 1 by kernel_rfl, show Tryd.prog.cellsOf 47 = 1 by kernel_rfl] at g0 g1 g2
          obtain ⟨e, e0, rfl, z0⟩ := DataW.trod_string Tryd.underlying9 g0
          simp at e0
          subst e0
          obtain ⟨ls, la, lc, rfl, l2, l3, l4⟩ := open_lines g1
          obtain ⟨az, na, nc, rfl, n2, n3, n4⟩ := open_ats g2
          have k0 := hcell 0 (by omega)
          have k1 := hcell 1 (by omega)
          have k2 := hcell 2 (by omega)
          rw [Go.Deep.add_add] at k0 k1 k2
          simp only [List.getElem?_cons_zero, List.getElem?_cons_succ] at k0 k1 k2
          obtain ⟨p1, p2⟩ := each0 (by omega)
          simp only [Prod.mk.injEq] at hx'
          have hDi : D i = .agg [.lit (.string e.data.toList), y1.1, y2.1] := hx'.1
          have hbulk : Rows.uptoBulk (D i) = (e.data.toList.length + 1) + (Rows.uptoBulk y1.1 + (Rows.uptoBulk y2.1 + 0)) + 1 := by
            rw [hDi]
            simp [Rows.uptoBulk, Rows.uptoBulkAll]
          have hle := le_sum (f := fun i => Rows.uptoBulk (D i)) len i hi
          refine ⟨⟨e.data.toList, ls, []⟩, ⟨by have := plain_i p1 k0; simpa [ba_data] using this, ⟨la, lc, plain_i p1 k1, l2, l3⟩, ⟨na, nc, az, plain_i p1 k2, n2, n3, ?_⟩⟩, ?_⟩
          · have := hB
            simp only at this
            omega
          · unfold wF
            simp only
            omega
    have : Inhabited Fd := ⟨⟨[], [], []⟩⟩
    obtain ⟨q, hq⟩ := Go.Deep.choose_lt each
    refine ⟨(List.range len).map q, ⟨some a, cap, by simp, fun h0 => ?_⟩, ?_⟩
    · have h0' : 0 < len := by simpa using h0
      obtain ⟨p1, _⟩ := each0 h0'
      refine ⟨a.block, a.off, by rw [← p1], fun i f hi => ?_⟩
      have hi' : i < len := by have := (List.getElem?_eq_some_iff.1 hi).1; simpa using this
      have e : q i = f := by simpa [hi'] using hi
      rw [← e]
      exact (hq i hi').1
    · unfold wP
      rw [List.map_map]
      have := sum_le (f := fun i => wF (q i)) (g := fun i => Rows.uptoBulk (D i)) len fun i hi => (hq i hi).2
      refine Nat.le_trans (Nat.add_le_add_right ?_ 1) hS
      exact this

set_option maxRecDepth 100000 in
theorem open_doc (h : DataW.trod enc Tryd.prog w base spare held fuel 24 [v] = some x) (hB : Rows.uptoBulk x.1 ≤ 1048576) :
    ∃ ps : List (List Fd), DocG w v ps ∧ wD ps ≤ Rows.uptoBulk x.1 := by
  rcases Go.Deep.open_slice1 Tryd.underlying24 (by kernel_rfl) h with ⟨h1, rfl⟩ | ⟨a, len, cap, m, n, V, D, Pl, h1, hb, hl, hm, hmm, rfl, hx⟩
  · obtain rfl : v = .slice none 0 0 := by simpa using h1
    exact ⟨[], ⟨none, 0, rfl, fun h0 => absurd h0 (by simp)⟩, by simp [wD, Rows.uptoBulk]⟩
  · obtain rfl : v = .slice (some a) len cap := by simpa using h1
    have hlm : len ≤ m := by rw [hmm]; split <;> omega
    have hS := bulk_slice (H := H) D len ((List.range (m - len)).map fun j => D (len + j))
    have each : ∀ i, i < len → ∃ p : List Fd, ParG w (V i) p ∧ wP p ≤ Rows.uptoBulk (D i) := fun i hi => by
      have hle := le_sum (f := fun i => Rows.uptoBulk (D i)) len i hi
      exact open_par (hx i (by omega)).2 (by have := hB; simp only at this ⊢; omega)
    obtain ⟨q, hq⟩ := Go.Deep.choose_lt each
    refine ⟨(List.range len).map q, ⟨some a, cap, by simp, fun h0 => ?_⟩, ?_⟩
    · have h0' : 0 < len := by simpa using h0
      have h4 := (hx 0 (by omega)).1
      rw [add_zero'] at h4
      obtain ⟨e1, e2⟩ := plain_a h4
      refine ⟨a.block, a.off, by rw [← e1], fun i p hi => ?_⟩
      have hi' : i < len := by have := (List.getElem?_eq_some_iff.1 hi).1; simpa using this
      have e : q i = p := by simpa [hi'] using hi
      rw [← e]
      exact ⟨V i, plain_i e1 (hx i (by omega)).1, (hq i hi').1⟩
    · unfold wD
      rw [List.map_map]
      have := sum_le (f := fun i => wP (q i)) (g := fun i => Rows.uptoBulk (D i)) len fun i hi => (hq i hi).2
      refine Nat.le_trans (Nat.add_le_add_right ?_ 1) hS
      exact this
end

/-- WHAT THE WEIGHTS SAY. -/
theorem mem_sum {α : Type} {f : α → Nat} : ∀ (L : List α) (a : α), a ∈ L → f a ≤ (L.map f).sum
  | [], _, h => by cases h
  | b :: r, a, h => by
    rw [List.map_cons, List.sum_cons]
    rcases List.mem_cons.1 h with rfl | h
    · omega
    · have := mem_sum (f := f) r a h; omega
theorem len_le {α : Type} {f : α → Nat} : ∀ (L : List α), (∀ a ∈ L, 1 ≤ f a) → L.length ≤ (L.map f).sum
  | [], _ => by simp
  | b :: r, h => by
    have := len_le (f := f) r (fun a ha => h a (List.mem_cons_of_mem _ ha))
    have h1 := h b List.mem_cons_self
    rw [List.map_cons, List.sum_cons, List.length_cons]
    omega
theorem wF_sz {f : Fd} (h : wF f ≤ 1048576) : szG f := by
  unfold wF at h
  refine ⟨by omega, fun l hl => ?_, ?_⟩
  · have := mem_sum (f := fun l : Bs => l.length + 1) f.ls l hl
    omega
  · have := len_le (f := fun l : Bs => l.length + 1) f.ls (fun a _ => by omega)
    omega
theorem wP_sz {p : List Fd} (h : wP p ≤ 1048576) : p.length ≤ 16777216 ∧ ∀ f ∈ p, szG f := by
  unfold wP at h
  refine ⟨?_, fun f hf => wF_sz ?_⟩
  · have := len_le (f := wF) p (fun a _ => by unfold wF; omega)
    omega
  · have := mem_sum (f := wF) p f hf
    omega
theorem wD_sz {ps : List (List Fd)} (h : wD ps ≤ 1048576) : ps.length ≤ 16777216 ∧ ∀ p ∈ ps, p.length ≤ 16777216 ∧ ∀ f ∈ p, szG f := by
  unfold wD at h
  refine ⟨?_, fun p hp => wP_sz ?_⟩
  · have := len_le (f := wP) ps (fun a _ => by unfold wP; omega)
    omega
  · have := mem_sum (f := wP) ps p hp
    omega
theorem flat_nl : ∀ L : List Bs, ((L.map (fun l => (32 : UInt8) :: l)).flatMap fun l => l ++ [10]).length ≤ 2 * (L.map fun l => l.length + 1).sum
  | [] => by simp
  | l :: r => by
    have := flat_nl r
    simp only [List.map_cons, List.flatMap_cons, List.length_append, List.length_cons, List.length_nil, List.sum_cons] at this ⊢
    omega
theorem fld_w (f : Fd) : (fldT f).length ≤ 3 * wF f := by
  obtain ⟨nm, ls, ns⟩ := f
  cases ls with
  | nil => simp [fldT, linF]
  | cons a r =>
    have h := flat_nl r
    have e : fldT ⟨nm, a :: r, ns⟩ = (headL nm a ++ [10]) ++ (r.map (fun l => (32 : UInt8) :: l)).flatMap (fun l => l ++ [10]) := by simp [fldT, linF]
    have hh : (headL nm a).length ≤ nm.length + a.length + 2 := by
      unfold headL
      split
      · simp; omega
      · simp; omega
    rw [e]
    unfold wF
    simp only [List.length_append, List.length_cons, List.length_nil, List.map_cons, List.sum_cons] at h ⊢
    omega
theorem par_w : ∀ p : List Fd, (parT p).length ≤ 3 * (p.map wF).sum
  | [] => by simp [parT]
  | f :: r => by
    have := par_w r
    have h1 := fld_w f
    simp only [parT, List.flatMap_cons, List.length_append, List.map_cons, List.sum_cons] at this ⊢
    omega
theorem wtL_w : ∀ ps : List (List Fd), wtL ps ≤ 3 * (ps.map wP).sum
  | [] => by simp [wtL]
  | p :: r => by
    have := wtL_w r
    have h1 := par_w p
    simp only [wtL, List.map_cons, List.sum_cons]
    unfold wP at this ⊢
    omega
theorem prT_w {ps : List (List Fd)} (h : wD ps ≤ 1048576) : (prT ps).length ≤ 16777216 := by
  have h1 := prT_wt ps
  have h2 := wtL_w ps
  unfold wD at h
  omega

end Go.Proofs.YtiibobjbcgbknaaDoor

namespace Go.Proofs.YtiibobjbcgbknaaDoor
open Go.RowKit

/-! turnedAbout: lines swapped within each field's own block, then the paragraphs within the row. -/

theorem row_set {W : World} {base : Nat} {e : TypeId} {g n cap : Nat} {xs : List Value} (h : W.ownsRow base e 1 (.slice (some ⟨g, 0, none⟩) n cap) n xs) (k : Nat) (u : Value) :
    (W.setCell ⟨g, k, none⟩ u).ownsRow base e 1 (.slice (some ⟨g, 0, none⟩) n cap) n (xs.set k u) := by
  obtain ⟨h1, h2⟩ := h
  refine ⟨by rw [List.length_set]; exact h1, ?_⟩
  rcases h2 with ⟨h2, _⟩ | ⟨g', cap', cur, hv, hg, hh, r1, r2, r3, r4⟩
  · cases h2
  · cases hv
    exact Or.inr ⟨g, cap, cur.setIfInBounds k u, rfl, hg, set_blk hh k u, r1, r2, by simpa using r3, by rw [Array.toList_setIfInBounds, List.take_set, r4]⟩
theorem row_caps {W : World} {b b' : Nat} {e : TypeId} {g n n' m m' c c' : Nat} {xs xs' : List Value} (h : W.ownsRow b e 1 (.slice (some ⟨g, 0, none⟩) n c) m xs) (h' : W.ownsRow b' e 1 (.slice (some ⟨g, 0, none⟩) n' c') m' xs') : c = c' := by
  rcases h.2 with ⟨q, _⟩ | ⟨g1, cap, cur, hv, _, hh, _, _, r3, _⟩
  · cases q
  · rcases h'.2 with ⟨q, _⟩ | ⟨g2, cap2, cur2, hv2, _, hh2, _, _, r32, _⟩
    · cases q
    · cases hv
      cases hv2
      rw [hh] at hh2
      cases hh2
      omega
theorem row_blk {W : World} {b : Nat} {e : TypeId} {s g n c m : Nat} {xs : List Value} (h : W.ownsRow b e s (.slice (some ⟨g, 0, none⟩) n c) m xs) : ∃ cur, W.heap[g]? = some (.cells cur e (0, 0)) := by
  obtain ⟨c', h1, _⟩ := ownsRow_blk h rfl
  exact ⟨c', h1⟩

def upF (E : Nat → List Bs) (x : Lf) : Lf := { x with f := ⟨x.f.nm, E x.lb, x.f.ns⟩ }
def upE (E : Nat → List Bs) (q : Lq) : Lq := { q with xs := q.xs.map (upF E) }
def updE (E : Nat → List Bs) (b : Nat) (l : List Bs) : Nat → List Bs := fun k => if k = b then l else E k
structure LS (b0 : Nat) (W : World) (lg lgc : Nat) (ms : List Value) (qs : List Lq) : Prop where
  l : W.ownsRow b0 39 1 (.slice (some ⟨lg, 0, none⟩) (qs.length + 2) lgc) (qs.length + 2) (qs.map pcell ++ ms)
  q : ∀ q ∈ qs, LqOk b0 W q
theorem LN.ls {b0 : Nat} {W : World} {lg lgc m1 m2 : Nat} {P F : Value} {qs : List Lq} (h : LN b0 W lg lgc P F qs m1 m2) : LS b0 W lg lgc [.slice (some ⟨m1, 0, none⟩) 1 1, .slice (some ⟨m2, 0, none⟩) 1 1] qs := ⟨h.l, h.q⟩
theorem LS.docZ {b0 : Nat} {W : World} {lg lgc : Nat} {ms : List Value} {qs : List Lq} (h : LS b0 W lg lgc ms qs) : DocZ W (.slice (some ⟨lg, 0, none⟩) qs.length lgc) (qs.map fun q => q.xs.map (·.f)) := by
  refine ⟨_, _, by rw [List.length_map], fun _ => ⟨lg, 0, rfl, fun i p hi => ?_⟩⟩
  rw [List.getElem?_map] at hi
  cases hx : qs[i]? with
  | none => rw [hx] at hi; cases hi
  | some x =>
    rw [hx] at hi
    cases hi
    have hlt := (List.getElem?_eq_some_iff.1 hx).1
    refine ⟨pcell x, (row_cells h.l).2 _ _ ?_, (h.q x (List.mem_of_getElem? hx)).c.parZ⟩
    rw [Nat.zero_add, List.getElem?_append_left (by simpa using hlt), List.getElem?_map, hx]
    rfl
theorem upE_cells {E E' : Nat → List Bs} (hE : ∀ k, (E' k).length = (E k).length) (xs : List Lf) : (xs.map (upF E')).flatMap cellsL = (xs.map (upF E)).flatMap cellsL := by
  induction xs with
  | nil => rfl
  | cons y ys ih =>
    rw [List.map_cons, List.map_cons, List.flatMap_cons, List.flatMap_cons, ih]
    congr 1
    simp [cellsL, upF, hE]
/-- One field's lines are others, as many. -/
theorem LS.swapL {b0 : Nat} {W W' : World} {lg lgc : Nat} {ms : List Value} {qs : List Lq} {E : Nat → List Bs} (h : LS b0 W lg lgc ms (qs.map (upE E))) {q0 : Lq} {x : Lf} (hq0 : q0 ∈ qs) (hx : x ∈ q0.xs) {ls' : List Bs} (hlen : ls'.length = (E x.lb).length)
    (hr : W'.ownsRow 0 9 1 (.slice (some ⟨x.lb, 0, none⟩) ((E x.lb).length + 2) x.lc) ((E x.lb).length + 2) (strs ls' ++ markS)) (hk : ∀ k, k ≠ x.lb → W'.heap[k]? = W.heap[k]?) (hs : W'.heap.size = W.heap.size) :
    LS b0 W' lg lgc ms (qs.map (upE (updE E x.lb ls'))) := by
  have hE : ∀ k, (updE E x.lb ls' k).length = (E k).length := fun k => by
    unfold updE
    split
    · rename_i e; subst e; exact hlen
    · rfl
  have hx1 := ((h.q _ (List.mem_map_of_mem hq0)).f (upF E x) (List.mem_map_of_mem hx)).1.l
  obtain ⟨cx, hcx⟩ := row_blk hx1
  have hne : ∀ (k : Nat) (c : Array Value) (t : TypeId), t ≠ 9 → W.heap[k]? = some (.cells c t (0, 0)) → W'.heap[k]? = W.heap[k]? := fun k c t ht hkk => hk k fun e => by
    subst e
    have := hcx.symm.trans hkk
    cases this
    exact ht rfl
  refine ⟨?_, fun q hq => ?_⟩
  · have e1 : (qs.map (upE (updE E x.lb ls'))).map pcell = (qs.map (upE E)).map pcell := by
      rw [List.map_map, List.map_map]
      refine List.map_congr_left fun q _ => ?_
      simp [pcell, upE]
    have e2 : (qs.map (upE (updE E x.lb ls'))).length = (qs.map (upE E)).length := by simp
    rw [e1, e2]
    exact ownsRow_same h.l fun g c hg hc => hne g c 39 (by decide) hc
  · obtain ⟨q1, hq1, rfl⟩ := List.mem_map.1 hq
    have hq2 := h.q _ (List.mem_map_of_mem hq1)
    have ec : (upE (updE E x.lb ls') q1).xs.flatMap cellsL = (upE E q1).xs.flatMap cellsL := upE_cells hE q1.xs
    have el : (upE (updE E x.lb ls') q1).xs.length = (upE E q1).xs.length := by simp [upE]
    refine ⟨?_, ?_, fun y hy => ?_⟩
    · have := ownsRow_same hq2.p fun g c hg hc => hne g c 49 (by decide) hc
      rw [ec, el]
      exact this
    · have := ownsRow_same hq2.o fun g c hg hc => hne g c 49 (by decide) hc
      rw [ec, el]
      exact this
    · obtain ⟨y1, hy1, rfl⟩ := List.mem_map.1 hy
      obtain ⟨f1, f2, f3⟩ := hq2.f (upF E y1) (List.mem_map_of_mem hy1)
      refine ⟨⟨?_, ownsRow_same f1.a fun g c hg hc => hne g c 3 (by decide) hc⟩, f2, by rw [hs]; exact f3⟩
      by_cases e : y1.lb = x.lb
      · have f1l := f1.l
        have hcap : y1.lc = x.lc := by
          have f1m : W.ownsRow 0 9 1 (.slice (some ⟨x.lb, 0, none⟩) ((E y1.lb).length + 2) y1.lc) ((E y1.lb).length + 2) (strs (E y1.lb) ++ markS) := e ▸ f1l
          exact row_caps f1m hx1
        show W'.ownsRow 0 9 1 (.slice (some ⟨y1.lb, 0, none⟩) ((updE E x.lb ls' y1.lb).length + 2) y1.lc) ((updE E x.lb ls' y1.lb).length + 2) (strs (updE E x.lb ls' y1.lb) ++ markS)
        rw [e, hcap, hE, show updE E x.lb ls' x.lb = ls' from if_pos rfl]
        exact hr
      · show W'.ownsRow 0 9 1 (.slice (some ⟨y1.lb, 0, none⟩) ((updE E x.lb ls' y1.lb).length + 2) y1.lc) ((updE E x.lb ls' y1.lb).length + 2) (strs (updE E x.lb ls' y1.lb) ++ markS)
        rw [show updE E x.lb ls' y1.lb = E y1.lb from if_neg e]
        exact ownsRow_same f1.l fun g c hg hc => hk g (by cases hg; exact e)
/-- Two paragraphs change places. -/
theorem LS.swapP {b0 : Nat} {W W' : World} {lg lgc : Nat} {ms : List Value} {qs qs' : List Lq} (h : LS b0 W lg lgc ms qs) (hp : qs'.Perm qs)
    (hr : W'.ownsRow b0 39 1 (.slice (some ⟨lg, 0, none⟩) (qs.length + 2) lgc) (qs.length + 2) (qs'.map pcell ++ ms)) (hk : ∀ k, k ≠ lg → W'.heap[k]? = W.heap[k]?) (hs : W'.heap.size = W.heap.size) : LS b0 W' lg lgc ms qs' := by
  obtain ⟨cx, hcx⟩ := row_blk h.l
  refine ⟨by rw [hp.length_eq]; exact hr, fun q hq => (h.q q (hp.mem_iff.1 hq)).keep (by omega) fun k c t ht hkk => hk k fun e => ?_⟩
  subst e
  have := hcx.symm.trans hkk
  cases this
  simp at ht

theorem LS.drew {b0 : Nat} {W : World} {lg lgc : Nat} {ms : List Value} {qs : List Lq} (h : LS b0 W lg lgc ms qs) : LS b0 W.drew lg lgc ms qs := ⟨h.l, fun q hq => ⟨(h.q q hq).p, (h.q q hq).o, fun x hx => ⟨⟨((h.q q hq).f x hx).1.l, ((h.q q hq).f x hx).1.a⟩, ((h.q q hq).f x hx).2⟩⟩⟩
/-- Two cells of an own row change their places. -/
theorem row_two {W : World} {base : Nat} {e : TypeId} {g n cap : Nat} {xs : List Value} (h : W.ownsRow base e 1 (.slice (some ⟨g, 0, none⟩) n cap) n xs) {a b : Nat} {u v : Value} (hab : a ≠ b) (ha : xs[a]? = some u) (hb : xs[b]? = some v) :
    (W.cell? ⟨g, a, none⟩ = some u ∧ W.cell? ⟨g, b, none⟩ = some v ∧ W.frozen? ⟨g, a, none⟩ = false ∧ W.frozen? ⟨g, b, none⟩ = false ∧ (W.setCell ⟨g, a, none⟩ v).cell? ⟨g, b, none⟩ = some v) ∧
    ((W.setCell ⟨g, a, none⟩ v).setCell ⟨g, b, none⟩ u).ownsRow base e 1 (.slice (some ⟨g, 0, none⟩) n cap) n ((xs.set a v).set b u) ∧ (∀ k, k ≠ g → ((W.setCell ⟨g, a, none⟩ v).setCell ⟨g, b, none⟩ u).heap[k]? = W.heap[k]?) ∧ ((W.setCell ⟨g, a, none⟩ v).setCell ⟨g, b, none⟩ u).heap.size = W.heap.size := by
  obtain ⟨cur, hc⟩ := row_blk h
  have r1 := row_set h a v
  have r2 := row_set r1 b u
  refine ⟨⟨(row_cells h).2 a u ha, (row_cells h).2 b v hb, (cell_blk hc a).2, (cell_blk hc b).2, (row_cells r1).2 b v (by rw [List.getElem?_set_ne hab]; exact hb)⟩, r2, fun k hk => (set_other _ _ _ _ _ hk).trans (set_other _ _ _ _ _ hk), by simp only [set_size]⟩
theorem below_two {b0 g a b : Nat} {w W : World} {u v : Value} (h : Below b0 w W) (hg : b0 ≤ g) : Below b0 w ((W.setCell ⟨g, a, none⟩ v).setCell ⟨g, b, none⟩ u) :=
  ⟨h.os, h.tape, h.output, by simp only [set_size]; exact h.size, fun k hk => ((set_other _ _ _ _ _ (by omega)).trans (set_other _ _ _ _ _ (by omega))).trans (h.block k hk)⟩
theorem strs_two (L : List Bs) (ms : List Value) (a b : Nat) (ha : a < L.length) (hb : b < L.length) : ((strs L ++ ms).set a (.string (ba L[b]))).set b (.string (ba L[a])) = strs ((L.set a L[b]).set b L[a]) ++ ms := by
  have h1 : (strs L).length = L.length := by simp [strs]
  rw [List.set_append_left _ _ (by omega), List.set_append_left _ _ (by rw [List.length_set]; omega)]
  simp [strs, List.map_set]

/-- The lines by their block. -/
def E0 (qs : List Lq) : Nat → List Bs := fun b => (((qs.flatMap (·.xs)).find? fun x => x.lb == b).map fun x => x.f.ls).getD []
theorem lb_inj : ∀ (l : List Lf), (l.map (·.lb)).Pairwise (· < ·) → ∀ x ∈ l, ∀ y ∈ l, x.lb = y.lb → x = y
  | [], _, x, hx, _, _, _ => by cases hx
  | a :: r, h, x, hx, y, hy, e => by
    rw [List.map_cons, List.pairwise_cons] at h
    rcases List.mem_cons.1 hx with hx2 | hx2 <;> rcases List.mem_cons.1 hy with hy2 | hy2
    · rw [hx2, hy2]
    · have := h.1 y.lb (List.mem_map_of_mem hy2)
      rw [hx2] at e
      omega
    · have := h.1 x.lb (List.mem_map_of_mem hx2)
      rw [hy2] at e
      omega
    · exact lb_inj r h.2 x hx2 y hy2 e
theorem E0_at {qs : List Lq} (hs : (qs.flatMap fun q => q.xs.map (·.lb)).Pairwise (· < ·)) {q : Lq} (hq : q ∈ qs) {x : Lf} (hx : x ∈ q.xs) : E0 qs x.lb = x.f.ls := by
  have hm : x ∈ qs.flatMap (·.xs) := List.mem_flatMap.2 ⟨q, hq, hx⟩
  have hp : ((qs.flatMap (·.xs)).map (·.lb)).Pairwise (· < ·) := by rw [List.map_flatMap]; exact hs
  unfold E0
  cases hf : (qs.flatMap (·.xs)).find? fun y => y.lb == x.lb with
  | none => exact absurd (List.find?_eq_none.1 hf x hm) (by simp)
  | some y =>
    have h1 := List.mem_of_find?_eq_some hf
    have h2 : y.lb = x.lb := by have := List.find?_some hf; simpa using this
    rw [lb_inj _ hp y h1 x hm h2]
    rfl
theorem upE_E0 {qs : List Lq} (hs : (qs.flatMap fun q => q.xs.map (·.lb)).Pairwise (· < ·)) : qs.map (upE (E0 qs)) = qs := by
  refine (List.map_congr_left (g := id) fun q hq => ?_).trans (List.map_id qs)
  have : q.xs.map (upF (E0 qs)) = q.xs := (List.map_congr_left (g := id) fun x hx => by
    unfold upF
    rw [E0_at hs hq hx]
    rfl).trans (List.map_id _)
  unfold upE
  rw [this]
  rfl

end Go.Proofs.YtiibobjbcgbknaaDoor

namespace Go.Proofs.YtiibobjbcgbknaaDoor
open Go.RowKit

theorem swap_perm {α : Type} (l : List α) (a b : Nat) (ha : a < l.length) (hb : b < l.length) : ((l.set a l[b]).set b l[a]).Perm l := List.set_set_perm ha hb

set_option maxRecDepth 100000 in
set_option maxHeartbeats 8000000 in
theorem turnedAbout_any (b0 : Nat) (qs : List Lq) (w : World) (lg lgc : Nat) (ms : List Value) (hl : qs.length ≤ 16777216) (hls : ∀ q ∈ qs, q.xs.length ≤ 16777216 ∧ ∀ x ∈ q.xs, x.f.ls.length ≤ 16777216) (hs : (qs.flatMap fun q => q.xs.map (·.lb)).Pairwise (· < ·)) (hN : LS b0 w lg lgc ms qs) :
    Calls Tryd.prog 25 #[.slice (some ⟨lg, 0, none⟩) qs.length lgc] w fun e w' => e = .returned (.tuple #[]) ∧ ∃ (E : Nat → List Bs) (qs' : List Lq), qs'.Perm (qs.map (upE E)) ∧ (∀ q ∈ qs, ∀ x ∈ q.xs, (E x.lb).Perm x.f.ls) ∧ LS b0 w' lg lgc ms qs' ∧ Below b0 w w' ∧ (∀ (k : Nat) (c : Array Value), w.heap[k]? = some (Obj.cells c 42 (0, 0)) → w'.heap[k]? = w.heap[k]?) := by
  have HS0 := hide (show LS b0 w lg lgc ms (qs.map (upE (E0 qs))) by rw [upE_E0 hs]; exact hN)
  have HE0 := hide (show ∀ q ∈ qs, ∀ x ∈ q.xs, (E0 qs x.lb).Perm x.f.ls from fun q hq x hx => by rw [E0_at hs hq hx])
  have HLS := hide hls
  clear hls hs hN
  generalize E0 qs = E1 at *
  obtain ⟨N, hN⟩ : ∃ N, qs.length = N := ⟨_, rfl⟩
  have HN := hide hN
  rw [hN] at hl ⊢
  clear hN
  go_enter Tryd.func25, Tryd.ntmps25
  go_wp2_with fail
  go_loopw [2] (fun iv wr => ∃ (i : Nat) (E : Nat → List Bs), i ≤ N ∧ iv = .int .i64 i ∧ Hid (∀ q ∈ qs, ∀ x ∈ q.xs, (E x.lb).Perm x.f.ls) ∧ Hid (LS b0 wr lg lgc ms (qs.map (upE E))) ∧ Hid (Below b0 w wr) ∧ Hid (∀ (k : Nat) (c : Array Value), w.heap[k]? = some (Obj.cells c 42 (0, 0)) → wr.heap[k]? = w.heap[k]?)) (fun iv _ => N - (intOf iv).toNat)
  case atStart => exact ⟨0, E1, Nat.zero_le _, rfl, HE0, HS0, hide (Below.refl _ _), hide (fun k c h => rfl)⟩
  case round =>
    obtain ⟨i, E, hi, rfl, HE, HL, HB, HT⟩ := hrel
    clear HE0 HS0
    rename World => W2
    by_cases hlt : i < N
    · have hNq := unhide HN
      obtain ⟨q, hqi⟩ : ∃ q, qs[i]? = some q := ⟨_, List.getElem?_eq_getElem (by omega)⟩
      have hqm := List.mem_of_getElem? hqi
      obtain ⟨q1, q2⟩ := unhide HLS q hqm
      have HQ2 := hide q2
      have HC := hide (show ∀ (W : World) (E : Nat → List Bs), LS b0 W lg lgc ms (qs.map (upE E)) → W.cell? ⟨lg, i, none⟩ = some (.slice (some ⟨q.pb, 0, none⟩) q.xs.length q.pc) from fun W E h => by
        have h1 : (qs.map (upE E)).map pcell ++ ms = (qs.map (upE E)).map pcell ++ ms := rfl
        refine (row_cells h.l).2 i _ ?_
        rw [List.getElem?_append_left (by simp; omega), List.getElem?_map, List.getElem?_map, hqi]
        simp [pcell, upE])
      have c0 := unhide HC W2 E (unhide HL)
      clear q2 hNq
      generalize hn : q.xs.length = n at *
      go_wp2_with fail
      go_loopw [3] (fun kv wr => ∃ (k : Nat) (E : Nat → List Bs), k ≤ n ∧ kv = .int .i64 k ∧ Hid (∀ q ∈ qs, ∀ x ∈ q.xs, (E x.lb).Perm x.f.ls) ∧ Hid (LS b0 wr lg lgc ms (qs.map (upE E))) ∧ Hid (Below b0 w wr) ∧ Hid (∀ (k : Nat) (c : Array Value), w.heap[k]? = some (Obj.cells c 42 (0, 0)) → wr.heap[k]? = w.heap[k]?)) (fun kv _ => n - (intOf kv).toNat)
      case atStart => exact ⟨0, E, Nat.zero_le _, rfl, HE, HL, HB, HT⟩
      case round =>
        obtain ⟨k, E', hk, rfl, HE', HL', HB', HT'⟩ := hrel
        clear HE HL HB HT c0
        rename World => W3
        have c0 := unhide HC W3 E' (unhide HL')
        by_cases hlt2 : k < n
        · obtain ⟨x, hxk⟩ : ∃ x, q.xs[k]? = some x := ⟨_, List.getElem?_eq_getElem (by omega)⟩
          have hxm := List.mem_of_getElem? hxk
          have hx1 := unhide HQ2 x hxm
          have hpl := (unhide HE' q hqm x hxm).length_eq
          have hqk := (unhide HL').q _ (List.mem_map_of_mem hqm)
          have c1 := hqk.c.p k (upF E' x) 1 _ (by simp [upE, hxk]) rfl
          have c1' : W3.cell? ⟨q.pb, k * 3 + 1, none⟩ = some (.slice (some ⟨x.lb, 0, none⟩) x.f.ls.length x.lc) := by rw [← hpl]; exact c1
          clear c1
          generalize hnl : x.f.ls.length = nl at *
          go_wp2_with fail
          go_loopw [5] (fun av wr => ∃ (a : Nat) (E : Nat → List Bs), a ≤ nl / 2 ∧ av = .int .i64 a ∧ Hid (∀ q ∈ qs, ∀ x ∈ q.xs, (E x.lb).Perm x.f.ls) ∧ Hid (LS b0 wr lg lgc ms (qs.map (upE E))) ∧ Hid (Below b0 w wr) ∧ Hid (∀ (k : Nat) (c : Array Value), w.heap[k]? = some (Obj.cells c 42 (0, 0)) → wr.heap[k]? = w.heap[k]?)) (fun av _ => nl / 2 - (intOf av).toNat)
          case atStart => exact ⟨0, E', Nat.zero_le _, rfl, HE', HL', HB', HT'⟩
          case round =>
            obtain ⟨a, E4, ha, rfl, HE4, HL4, HB4, HT4⟩ := hrel
            clear HE' HL' HB' HT' c0 c1' hpl
            rename World => W4
            by_cases hlt3 : a < nl / 2
            · have hltz : (a : Int) < (nl : Int) / 2 := by omega
              have hpl := (unhide HE4 q hqm x hxm).length_eq
              have hqk := (unhide HL4).q _ (List.mem_map_of_mem hqm)
              obtain ⟨hfk, hlo, _⟩ := hqk.f (upF E4 x) (List.mem_map_of_mem hxm)
              have hrow : W4.ownsRow 0 9 1 (.slice (some ⟨x.lb, 0, none⟩) ((E4 x.lb).length + 2) x.lc) ((E4 x.lb).length + 2) (strs (E4 x.lb) ++ markS) := hfk.l
              obtain ⟨bq, hbq⟩ : ∃ bq, bq = nl - 1 - a := ⟨_, rfl⟩
              have ha' : a < (E4 x.lb).length := by omega
              have hb' : bq < (E4 x.lb).length := by omega
              have hl1 : (strs (E4 x.lb)).length = (E4 x.lb).length := by simp [strs]
              obtain ⟨⟨c1, c2, f1, f2, c3⟩, hr2, hk2, hs2⟩ := row_two (a := a) (b := bq) (u := .string (ba (E4 x.lb)[a])) (v := .string (ba (E4 x.lb)[bq])) hrow (by omega) (by rw [List.getElem?_append_left (by omega)]; simp [strs, ha']) (by rw [List.getElem?_append_left (by omega)]; simp [strs, hb'])
              rw [strs_two _ _ _ _ ha' hb'] at hr2
              have HL5 := hide ((unhide HL4).swapL hqm hxm (by simp) hr2 hk2 hs2).drew
              have HB5 := hide ((below_two (g := x.lb) (a := a) (b := bq) (u := .string (ba (E4 x.lb)[a])) (v := .string (ba (E4 x.lb)[bq])) (unhide HB4) hlo)).drew
              have HT5 := hide (show ∀ (k : Nat) (c : Array Value), w.heap[k]? = some (Obj.cells c 42 (0, 0)) → ((W4.setCell ⟨x.lb, a, none⟩ (.string (ba (E4 x.lb)[bq]))).setCell ⟨x.lb, bq, none⟩ (.string (ba (E4 x.lb)[a]))).drew.heap[k]? = w.heap[k]? from fun k c hc => (hk2 k (fun e => by
                obtain ⟨cur, hcur⟩ := row_blk hrow
                rw [← e, unhide HT4 k c hc, hc] at hcur
                cases hcur)).trans (unhide HT4 k c hc))
              have HE5 := hide (show ∀ q ∈ qs, ∀ y ∈ q.xs, (updE E4 x.lb (((E4 x.lb).set a (E4 x.lb)[bq]).set bq (E4 x.lb)[a]) y.lb).Perm y.f.ls from fun q' hq' y hy => by
                unfold updE
                split
                · rename_i e
                  refine (swap_perm _ a bq ha' hb').trans ?_
                  rw [← e]
                  exact unhide HE4 q' hq' y hy
                · exact unhide HE4 q' hq' y hy)
              have ec : ((nl : Int) - 1 - (a : Int)).toNat = bq := by omega
              have pc : (0 : Int) ≤ (nl : Int) - 1 - (a : Int) := by omega
              have bc : (nl : Int) - 1 - (a : Int) < (nl : Int) := by omega
              have aa : (a : Int) < (nl : Int) := by omega
              have a0 : (0 : Int) ≤ (a : Int) := by omega
              generalize (((E4 x.lb).set a (E4 x.lb)[bq]).set bq (E4 x.lb)[a]) = ls' at *
              generalize ba (E4 x.lb)[a] = va at *
              generalize ba (E4 x.lb)[bq] = vb at *
              clear hqk hfk hlo hrow hr2 hk2 hs2 ha' hb' hl1 hpl
              subst hbq
              clear ec
              go_wp2_with fail
              go_big_region
              clear c1 c2 c3 f1 f2
              generalize ((W4.setCell ⟨x.lb, a, none⟩ (.string vb)).setCell ⟨x.lb, nl - 1 - a, none⟩ (.string va)).drew = W5 at HL5 HB5 HT5 ⊢
              go_wp2
              go_roundw
              case rel => exact ⟨a + 1, _, by omega, by go_num, HE5, HL5, HB5, HT5⟩
              case measure => simp [intOf]; omega
            · have hgez : ¬ (a : Int) < (nl : Int) / 2 := by omega
              go_wp2
              go_roundw
              case rel => exact ⟨k + 1, E4, by omega, by go_num, HE4, HL4, HB4, HT4⟩
              case measure => simp [intOf]; omega
        · obtain rfl : k = n := by omega
          go_wp2
          go_roundw
          case rel => exact ⟨i + 1, E', by omega, by go_num, HE', HL', HB', HT'⟩
          case measure => simp [intOf]; omega
    · obtain rfl : i = N := by omega
      go_wp2_with fail
      go_loopw [7] (fun av wr => ∃ (a : Nat) (qs' : List Lq), a ≤ i / 2 ∧ av = .int .i64 a ∧ Hid (qs'.Perm (qs.map (upE E))) ∧ Hid (LS b0 wr lg lgc ms qs') ∧ Hid (Below b0 w wr) ∧ Hid (∀ (k : Nat) (c : Array Value), w.heap[k]? = some (Obj.cells c 42 (0, 0)) → wr.heap[k]? = w.heap[k]?)) (fun av _ => i / 2 - (intOf av).toNat)
      case atStart => exact ⟨0, _, Nat.zero_le _, rfl, hide (List.Perm.refl _), HL, HB, HT⟩
      case round =>
        obtain ⟨a, qs', ha, rfl, HP, HL4, HB4, HT4⟩ := hrel
        clear HL HB HT
        rename World => W4
        by_cases hlt3 : a < i / 2
        · have hltz : (a : Int) < (i : Int) / 2 := by omega
          have hpl : qs'.length = i := by rw [(unhide HP).length_eq, List.length_map]; exact unhide HN
          obtain ⟨bq, hbq⟩ : ∃ bq, bq = i - 1 - a := ⟨_, rfl⟩
          have ha' : a < qs'.length := by omega
          have hb' : bq < qs'.length := by omega
          have hrow := (unhide HL4).l
          have hlo := (ownsRow_blk hrow rfl).choose_spec.2.1
          obtain ⟨⟨c1, c2, f1, f2, c3⟩, hr2, hk2, hs2⟩ := row_two (a := a) (b := bq) (u := pcell qs'[a]) (v := pcell qs'[bq]) hrow (by omega) (by rw [List.getElem?_append_left (by simpa using ha')]; simp [ha']) (by rw [List.getElem?_append_left (by simpa using hb')]; simp [hb'])
          rw [List.set_append_left _ _ (by simpa using ha'), List.set_append_left _ _ (by simpa using hb'), ← List.map_set, ← List.map_set] at hr2
          have HL5 := hide ((unhide HL4).swapP (swap_perm qs' a bq ha' hb') hr2 hk2 hs2).drew
          have HB5 := hide ((below_two (a := a) (b := bq) (u := pcell qs'[a]) (v := pcell qs'[bq]) (unhide HB4) hlo)).drew
          have HT5 := hide (show ∀ (k : Nat) (c : Array Value), w.heap[k]? = some (Obj.cells c 42 (0, 0)) → ((W4.setCell ⟨lg, a, none⟩ (pcell qs'[bq])).setCell ⟨lg, bq, none⟩ (pcell qs'[a])).drew.heap[k]? = w.heap[k]? from fun k c hc => (hk2 k (fun e => by
            obtain ⟨cur, hcur⟩ := row_blk hrow
            rw [← e, unhide HT4 k c hc, hc] at hcur
            cases hcur)).trans (unhide HT4 k c hc))
          have HP5 := hide ((swap_perm qs' a bq ha' hb').trans (unhide HP))
          have ec : ((i : Int) - 1 - (a : Int)).toNat = bq := by omega
          have pc : (0 : Int) ≤ (i : Int) - 1 - (a : Int) := by omega
          have bc : (i : Int) - 1 - (a : Int) < (i : Int) := by omega
          have aa : (a : Int) < (i : Int) := by omega
          have a0 : (0 : Int) ≤ (a : Int) := by omega
          generalize ((qs'.set a qs'[bq]).set bq qs'[a]) = qs5 at *
          unfold pcell at c1 c2 c3 HL5 HB5 HT5
          generalize qs'[a] = qa at *
          generalize qs'[bq] = qb at *
          clear hrow hr2 hk2 hs2 ha' hb' hpl hlo
          subst hbq
          clear ec
          go_wp2_with fail
          go_big_region
          clear c1 c2 c3 f1 f2
          generalize ((W4.setCell ⟨lg, a, none⟩ (.slice (some ⟨qb.pb, 0, none⟩) qb.xs.length qb.pc)).setCell ⟨lg, i - 1 - a, none⟩ (.slice (some ⟨qa.pb, 0, none⟩) qa.xs.length qa.pc)).drew = W5 at HL5 HB5 HT5 ⊢
          go_wp2
          go_roundw
          case rel => exact ⟨a + 1, qs5, by omega, by go_num, HP5, HL5, HB5, HT5⟩
          case measure => simp [intOf]; omega
        · have hgez : ¬ (a : Int) < (i : Int) / 2 := by omega
          go_wp2
          go_end0
          exact ⟨rfl, E, qs', unhide HP, unhide HE, unhide HL4, unhide HB4, unhide HT4⟩
end Go.Proofs.YtiibobjbcgbknaaDoor

namespace Go.Proofs.YtiibobjbcgbknaaDoor
open Go.RowKit

def toF (f : Gd) : Fd := ⟨f.nm, f.ls, []⟩
def docF (ps : List (List Gd)) : List (List Fd) := ps.map fun p => p.map toF
structure Sz (ps : List (List Gd)) : Prop where
  w : wD (docF ps) ≤ 1048576
  n : ∀ p ∈ ps, ∀ f ∈ p, f.ns.length ≤ 16777216
theorem Sz.all {ps : List (List Gd)} (h : Sz ps) : ps.length ≤ 16777216 ∧ ∀ x ∈ ps, x.length ≤ 16777216 ∧ ∀ f ∈ x, f.ls.length ≤ 16777216 ∧ f.ns.length ≤ 16777216 := by
  obtain ⟨h1, h2⟩ := wD_sz h.w
  refine ⟨by simpa [docF] using h1, fun x hx => ?_⟩
  obtain ⟨h3, h4⟩ := h2 (x.map toF) (List.mem_map_of_mem hx)
  exact ⟨by simpa using h3, fun f hf => ⟨(h4 (toF f) (List.mem_map_of_mem hf)).2.2, h.n x hx f hf⟩⟩
theorem Sz.fd {ps : List (List Gd)} (h : Sz ps) {p : List Gd} (hp : p ∈ ps) {f : Gd} (hf : f ∈ p) : szG (toF f) :=
  ((wD_sz h.w).2 (p.map toF) (List.mem_map_of_mem hp)).2 (toF f) (List.mem_map_of_mem hf)
theorem FdZ.g {W : World} {g o : Nat} {f : Gd} (h : FdZ W g o f) (hn : f.ns.length ≤ 16777216) : FdG W g o (toF f) := by
  obtain ⟨na, nc, h1, h2⟩ := h.ns
  exact ⟨h.nm, h.ls, na, nc, intz f.ns, by simpa [intz] using h1, h2, by simp [intz, Value.oneCell'], by simpa [intz] using hn⟩
theorem DocZ.g {W : World} {v : Value} {ps : List (List Gd)} (h : DocZ W v ps) (hs : Sz ps) : DocG W v (docF ps) := by
  obtain ⟨pa, c, h1, h2⟩ := h
  refine ⟨pa, c, by rw [h1]; simp [docF], fun h0 => ?_⟩
  obtain ⟨g, o, h3, h4⟩ := h2 (by simpa [docF] using h0)
  refine ⟨g, o, h3, fun i p hi => ?_⟩
  unfold docF at hi
  rw [List.getElem?_map] at hi
  cases hp : ps[i]? with
  | none => rw [hp] at hi; cases hi
  | some p0 =>
    rw [hp] at hi
    cases hi
    obtain ⟨u, h5, ua, uc, h6, _, h7⟩ := h4 i p0 hp
    refine ⟨u, h5, ua, uc, by rw [h6]; simp, fun h8 => ?_⟩
    obtain ⟨g2, o2, h9, h10⟩ := h7 (by simpa using h8)
    refine ⟨g2, o2, h9, fun k f hk => ?_⟩
    rw [List.getElem?_map] at hk
    cases hf : p0[k]? with
    | none => rw [hf] at hk; cases hk
    | some f0 =>
      rw [hf] at hk
      cases hk
      exact (h10 k f0 hf).g (hs.n p0 (List.mem_of_getElem? hp) f0 (List.mem_of_getElem? hf))
theorem DocZ.cap {W : World} {va : Option Addr} {n vc : Nat} {ps : List (List Gd)} (h : DocZ W (.slice va n vc) ps) : ∀ g0 o0, va = some ⟨g0, o0, none⟩ → ∀ i, i < ps.length → ∀ pa n c, W.cell? ⟨g0, o0 + i, none⟩ = some (.slice pa n c) → n ≤ c := by
  intro g0 o0 e i hi pa m c hc
  obtain ⟨a', c', e1, h2⟩ := h
  cases e1
  obtain ⟨g, o, e2, h3⟩ := h2 (by omega)
  rw [e] at e2
  cases e2
  obtain ⟨u, hu, ua, uc, h6, h7, _⟩ := h3 i ps[i] (List.getElem?_eq_getElem hi)
  rw [hc] at hu
  cases hu
  cases h6
  exact h7

def outT (ps : List (List Fd)) : Bs := if ps.all okP = true then prT ps else []
def outN (ps : List (List Fd)) : Int := if ps.all okP = true then 0 else 34
theorem all_ok {ps : List (List Fd)} : ps.all okP = true ↔ ∀ p ∈ ps, okP p = true := List.all_eq_true
theorem Print_u (ps : List (List Gd)) (v : Value) (w : World) (hs : Sz ps) (hD : DocZ w v ps) :
    Calls Tryd.prog 14 #[v] w fun e w' => ∃ qa qc, e = .returned (.tuple #[.slice qa (outT (docF ps)).length qc, .int .i64 (outN (docF ps))]) ∧ w'.ownsRow w.heap.size 5 1 (.slice qa (outT (docF ps)).length qc) (outT (docF ps)).length (encB (outT (docF ps))) ∧ Below w.heap.size w w' := by
  obtain ⟨h1, h2⟩ := wD_sz hs.w
  refine (Print_a (docF ps) v w h1 h2 (fun _ => prT_w hs.w) (hD.g hs)).mono ?_
  rintro e w' ⟨hb, ⟨ok, qa, qc, rfl, hr⟩ | ⟨bad, rfl⟩⟩
  · have e1 : outT (docF ps) = prT (docF ps) := if_pos (all_ok.2 ok)
    have e2 : outN (docF ps) = 0 := if_pos (all_ok.2 ok)
    rw [e1, e2]
    exact ⟨qa, qc, rfl, hr, hb⟩
  · have e1 : outT (docF ps) = [] := if_neg (fun h => bad (all_ok.1 h))
    have e2 : outN (docF ps) = 34 := if_neg (fun h => bad (all_ok.1 h))
    rw [e1, e2]
    exact ⟨none, 0, rfl, World.ownsRow_nil _ _ _ _, hb⟩
theorem rPrint_u (ps : List (List Gd)) (va : Option Addr) (vc : Nat) (w : World) (hs : Sz ps) (hD : DocZ w (.slice va ps.length vc) ps) :
    Calls Tryd.prog 19 #[.slice va ps.length vc] w fun e w' => ∃ qa qc, e = .returned (.tuple #[.slice qa (outT (docF ps)).length qc, .int .i64 (outN (docF ps))]) ∧ Ro w.heap.size w' qa (outT (docF ps)) ∧ Below w.heap.size w w' := by
  obtain ⟨h1, h2⟩ := wD_sz hs.w
  have hlen : (docF ps).length = ps.length := by simp [docF]
  have hD' := hD.g hs
  have hc := hD.cap
  rw [← hlen] at hD' hc ⊢
  refine (rPrint_any (docF ps) va vc w h1 h2 (fun _ => prT_w hs.w) hD' hc).mono ?_
  rintro e w' ⟨hb, ⟨ok, qa, qc, rfl, hr⟩ | ⟨bad, rfl⟩⟩
  · have e1 : outT (docF ps) = prT (docF ps) := if_pos (all_ok.2 ok)
    have e2 : outN (docF ps) = 0 := if_pos (all_ok.2 ok)
    rw [e1, e2]
    exact ⟨qa, qc, rfl, hr, hb⟩
  · have e1 : outT (docF ps) = [] := if_neg (fun h => bad (all_ok.1 h))
    have e2 : outN (docF ps) = 34 := if_neg (fun h => bad (all_ok.1 h))
    rw [e1, e2]
    exact ⟨none, 0, rfl, ⟨fun h => absurd h (by simp), fun a h => by cases h⟩, hb⟩
theorem outT_le {ps : List (List Gd)} (hs : Sz ps) : (outT (docF ps)).length ≤ 16777216 := by
  unfold outT
  split
  · exact prT_w hs.w
  · simp

/-! What turnedAbout leaves weighs the same. -/
def docL (qs : List Lq) : List (List Gd) := qs.map fun q => q.xs.map (·.f)
theorem sum_perm {l l' : List Nat} (h : l.Perm l') : l.sum = l'.sum := by
  induction h with
  | nil => rfl
  | cons x _ ih => simp [ih]
  | swap x y l => simp; omega
  | trans _ _ h1 h2 => exact h1.trans h2
theorem turned_sz {qs qs' : List Lq} {E : Nat → List Bs} (hp : qs'.Perm (qs.map (upE E))) (hE : ∀ q ∈ qs, ∀ x ∈ q.xs, (E x.lb).Perm x.f.ls) (hs : Sz (docL qs)) : Sz (docL qs') := by
  have e1 : wD (docF (docL qs')) = wD (docF (docL (qs.map (upE E)))) := by
    unfold wD docF docL
    rw [sum_perm (((hp.map (fun q => q.xs.map (·.f))).map (fun p => p.map toF)).map wP)]
  have e2 : wD (docF (docL (qs.map (upE E)))) = wD (docF (docL qs)) := by
    unfold wD docF docL
    congr 2
    simp only [List.map_map]
    refine List.map_congr_left fun q hq => ?_
    show wP ((((upE E q).xs).map (·.f)).map toF) = wP ((q.xs.map (·.f)).map toF)
    unfold wP upE
    congr 2
    simp only [List.map_map]
    refine List.map_congr_left fun x hx => ?_
    show wF (toF (upF E x).f) = wF (toF x.f)
    unfold wF toF upF
    simp only
    rw [sum_perm ((hE q hq x hx).map fun l => l.length + 1)]
  refine ⟨by rw [e1, e2]; exact hs.w, fun p hp' f hf => ?_⟩
  obtain ⟨q, hq, rfl⟩ := List.mem_map.1 hp'
  obtain ⟨q1, hq1, rfl⟩ := List.mem_map.1 (hp.mem_iff.1 hq)
  obtain ⟨x, hx, rfl⟩ := List.mem_map.1 hf
  obtain ⟨x1, hx1, rfl⟩ := List.mem_map.1 hx
  exact hs.n (q1.xs.map (·.f)) (List.mem_map_of_mem hq1) x1.f (List.mem_map_of_mem hx1)

/-! The law's own list. -/
def oneP : List (List Gd) := [[⟨[88], [[49], [121]], []⟩]]
theorem one_sz : Sz oneP := ⟨by decide, by decide⟩
theorem one_out : outT (docF oneP) = [88, 58, 32, 49, 10, 32, 121, 10] := by decide

theorem one_doc (w : World) : DocZ (((w.alloc (.cells #[.string ⟨#[49]⟩, .string ⟨#[121]⟩] 9)).alloc (.cells #[.string ⟨#[88]⟩, .slice (some ⟨w.heap.size, 0, none⟩) 2 2, .slice none 0 0] 49)).alloc (.cells #[.slice (some ⟨w.heap.size + 1, 0, none⟩) 1 1] 39)) (.slice (some ⟨w.heap.size + 1 + 1, 0, none⟩) 1 1) oneP ∧ Below w.heap.size w (((w.alloc (.cells #[.string ⟨#[49]⟩, .string ⟨#[121]⟩] 9)).alloc (.cells #[.string ⟨#[88]⟩, .slice (some ⟨w.heap.size, 0, none⟩) 2 2, .slice none 0 0] 49)).alloc (.cells #[.slice (some ⟨w.heap.size + 1, 0, none⟩) 1 1] 39)) := by
  generalize hA : Obj.cells #[.string ⟨#[49]⟩, .string ⟨#[121]⟩] 9 = A
  generalize hB : Obj.cells #[.string ⟨#[88]⟩, .slice (some ⟨w.heap.size, 0, none⟩) 2 2, .slice none 0 0] 49 = B
  generalize hC : Obj.cells #[.slice (some ⟨w.heap.size + 1, 0, none⟩) 1 1] 39 = C
  have h1 : (((w.alloc A).alloc B).alloc C).heap[w.heap.size]? = some A := (Below.heap_alloc _ _ _ (by simp; omega)).trans ((Below.heap_alloc _ _ _ (by simp)).trans (World.alloc_heap_new w A))
  have h2 : (((w.alloc A).alloc B).alloc C).heap[w.heap.size + 1]? = some B := (Below.heap_alloc _ _ _ (by simp)).trans (by have := World.alloc_heap_new (w.alloc A) B; rw [show (w.alloc A).heap.size = w.heap.size + 1 by simp] at this; exact this)
  have h3 : (((w.alloc A).alloc B).alloc C).heap[w.heap.size + 1 + 1]? = some C := by have := World.alloc_heap_new ((w.alloc A).alloc B) C; rw [show ((w.alloc A).alloc B).heap.size = w.heap.size + 1 + 1 by simp] at this; exact this
  have hb : Below w.heap.size w (((w.alloc A).alloc B).alloc C) := (((Below.refl _ _).alloc (Nat.le_refl _) _).alloc (by simp) _).alloc (by simp; omega) _
  subst hA hB hC
  refine ⟨⟨_, _, rfl, fun _ => ⟨_, 0, rfl, fun i p hi => ?_⟩⟩, hb⟩
  cases i with
  | succ i => simp [oneP] at hi
  | zero =>
    cases hi
    refine ⟨_, (cell_blk h3 0).1, _, _, rfl, by simp, fun _ => ⟨_, 0, rfl, fun k f hk => ?_⟩⟩
    cases k with
    | succ k => simp at hk
    | zero =>
      cases hk
      refine ⟨(cell_blk h2 0).1, ⟨_, _, (cell_blk h2 1).1, by simp, fun _ => ⟨_, 0, rfl, fun j u hj => ?_⟩⟩, ⟨_, _, (cell_blk h2 2).1, fun h0 => absurd h0 (by simp [intz])⟩⟩
      match j, hj with
      | 0, hj => cases hj; exact (cell_blk h1 0).1
      | 1, hj => cases hj; exact (cell_blk h1 1).1
      | j + 2, hj => simp [strs] at hj

theorem rb_blkz {W : World} {g : Nat} {C : Array Value} {t : TypeId} {q : Nat × Nat} {l : Bs} (hb : W.heap[g]? = some (.cells C t q)) (hC : C.toList = encB l) : Rb W (some ⟨g, 0, none⟩) l := fun _ =>
  ⟨g, 0, rfl, fun i hi => by
    rw [Nat.zero_add]
    have h1 : W.cell? ⟨g, i, none⟩ = C[i]? := by simp [World.cell?, hb]
    rw [h1, ← Array.getElem?_toList, hC]
    simp [encB, hi]⟩

theorem Rb.keep4 {W W' : World} {pa : Option Addr} {t : Bs} (h : Rb W pa t) (hk : ∀ a, pa = some a → a.block < W.heap.size → W'.heap[a.block]? = W.heap[a.block]?) : Rb W' pa t := fun h0 => by
  obtain ⟨b, o, e, h2⟩ := h h0
  refine ⟨b, o, e, fun i hi => ?_⟩
  have hc := h2 i hi
  have hb := World.block_lt_of_cell? _ _ hc
  have := hk ⟨b, o, none⟩ e hb
  simp only [World.cell?] at hc ⊢
  rw [this]
  exact hc
/-- A row is written in its own block. -/
theorem grown_set {W W' : World} {g k : Nat} {u : Value} (h : W.grownBy W' (some g)) : W.grownBy (W'.setCell ⟨g, k, none⟩ u) (some g) :=
  ⟨h.os, h.tape, h.output, by rw [set_size]; exact h.size, fun j hj hne => (set_other _ _ _ _ _ (fun e => hne (by rw [e]))).trans (h.block j hj hne)⟩
theorem grown_refl (W : World) (r : Option Nat) : W.grownBy W r := ⟨rfl, rfl, rfl, Nat.le_refl _, fun _ _ _ => rfl⟩

/-- Nothing of W but the bad blocks is written. -/
structure Gp (Bad : Nat → Prop) (W W' : World) : Prop where
  os : W'.os = W.os
  tape : W'.tape = W.tape
  output : W'.output = W.output
  size : W.heap.size ≤ W'.heap.size
  block : ∀ k, k < W.heap.size → ¬ Bad k → W'.heap[k]? = W.heap[k]?
theorem Gp.refl (Bad : Nat → Prop) (W : World) : Gp Bad W W := ⟨rfl, rfl, rfl, Nat.le_refl _, fun _ _ _ => rfl⟩
theorem Gp.set {Bad : Nat → Prop} {W W' : World} (h : Gp Bad W W') (g k : Nat) (u : Value) (hg : Bad g) : Gp Bad W (W'.setCell ⟨g, k, none⟩ u) :=
  ⟨h.os, h.tape, h.output, by rw [set_size]; exact h.size, fun j hj hne => (set_other _ _ _ _ _ (fun e => hne (by rw [e]; exact hg))).trans (h.block j hj hne)⟩
theorem Gp.grown {Bad : Nat → Prop} {W W' W'' : World} {o : Obj} {r : Option Nat} (h : Gp Bad W W') (g : (W'.alloc o).grownBy W'' r) (hr : ∀ j, r = some j → Bad j ∨ W.heap.size ≤ j) : Gp Bad W W'' := by
  have hz := g.size
  have hs := h.size
  rw [show (W'.alloc o).heap.size = W'.heap.size + 1 by simp] at hz
  refine ⟨g.os.trans h.os, g.tape.trans h.tape, g.output.trans h.output, by omega, fun k hk hne => ?_⟩
  refine (g.block k (by simp; omega) (fun e => ?_)).trans ((Below.heap_alloc W' o k (by omega)).trans (h.block k hk hne))
  rcases hr k e.symm with q | q
  · exact hne q
  · omega
theorem Gp.below {Bad : Nat → Prop} {n : Nat} {w W W' : World} (h : Gp Bad W W') (b : Below n w W) (hb : ∀ k, Bad k → n ≤ k) (hn : n ≤ W.heap.size) : Below n w W' :=
  ⟨h.os.trans b.os, h.tape.trans b.tape, h.output.trans b.output, Nat.le_trans b.size h.size, fun k hk => (h.block k (by omega) (fun e => by have := hb k e; omega)).trans (b.block k hk)⟩
theorem row_same_at {W W' : World} {base : Nat} {e : TypeId} {s n : Nat} {v : Value} {m : Nat} {xs : List Value} (h : W.ownsRow base e s v m xs) (g k : Nat) (u : Value) (hne : ∀ j, v.ownBlock = some j → j ≠ g) (hW : W' = W.setCell ⟨g, k, none⟩ u) (_hn : n = n) : W'.ownsRow base e s v m xs := by
  subst hW
  exact ownsRow_same h fun j c hj hc => set_other _ _ _ _ _ (hne j hj)

theorem num3_any (n : Int) (w : World) : Calls Tryd.prog 21 #[.int .i64 n] w fun e w' => e = .returned (.int .i64 n) ∧ w = w' := by
  go_enter Tryd.func21, Tryd.ntmps21
  go_wp2
  go_ret
  exact ⟨rfl, rfl⟩

end Go.Proofs.YtiibobjbcgbknaaDoor

namespace Go.Proofs.YtiibobjbcgbknaaDoor
open Go.ChangeShapes Go.WideShapes Go.ChangeAt Go.RowKit

section
variable {H : Type} {enc : TypeId × Value → H} {w : World} {base : Nat} {spare : Nat → Bool} {held : Bool} {fuel : Nat} {v : Value} {x : DataW H × List MemPlace}

theorem open_atsZ (h : DataW.trod enc Tryd.prog w base spare held fuel 47 [v] = some x) :
    ∃ (ns : List Int) (pa : Option Addr) (c : Nat), v = .slice pa ns.length c ∧ Cl w pa (intz ns) ∧ ns.length ≤ Rows.uptoBulk x.1 := by
  rcases open_ints Tryd.underlying47 Tryd.underlying3 (by kernel_rfl) h with ⟨h1, rfl⟩ | ⟨a, len, cap, zs, h1, hb, hl, hm, hz, rfl, hcell, hwz⟩
  · obtain rfl : v = .slice none 0 0 := by simpa using h1
    exact ⟨[], none, 0, rfl, fun h0 => absurd h0 (by simp [intz]), by simp⟩
  · obtain rfl : v = .slice (some a) len cap := by simpa using h1
    have hlz : len ≤ zs.length := by rw [hz]; split <;> omega
    have hlen : (zs.take len).length = len := by simp; omega
    refine ⟨zs.take len, some a, cap, by rw [hlen], fun h0 => ?_, ?_⟩
    · have h00 : 0 < len := by simp [intz] at h0; omega
      have h4 := hcell 0 (by omega)
      rw [add_zero'] at h4
      obtain ⟨e1, e2⟩ := plain_a h4
      refine ⟨a.block, a.off, by rw [← e1], fun i u hi => ?_⟩
      have hi' : i < len := by have := (List.getElem?_eq_some_iff.1 hi).1; simp [intz] at this; omega
      rw [plain_i e1 (hcell i (by omega)), ← hi]
      have h5 : i < zs.length := by omega
      simp [intz, hi', h5]
    · rw [hlen, Rows.uptoBulk, bulkAll]
      have : len ≤ ((lits (H := H) .i64 (zs.take len)).map Rows.uptoBulk).sum := by
        have h6 : (lits (H := H) .i64 (zs.take len)).map Rows.uptoBulk = (zs.take len).map fun _ => 1 := by
          simp [lits, Rows.uptoBulk, Function.comp_def]
        rw [h6, List.map_const', List.sum_replicate_nat, List.length_take]
        omega
      omega

set_option maxRecDepth 100000 in
theorem open_parZ (h : DataW.trod enc Tryd.prog w base spare held fuel 39 [v] = some x) (hB : Rows.uptoBulk x.1 ≤ 1048576) :
    ∃ p : List Gd, ParZ w v p ∧ wP (p.map toF) ≤ Rows.uptoBulk x.1 ∧ ∀ f ∈ p, f.ns.length ≤ 16777216 := by
  rcases Go.Deep.open_slice Tryd.underlying39 h with ⟨h1, rfl⟩ | ⟨a, len, cap, m, n, D, Pl, h1, hb, hl, hm, hmm, rfl, hx⟩
  · obtain rfl : v = .slice none 0 0 := by simpa using h1
    exact ⟨[], ⟨none, 0, rfl, Nat.le_refl _, fun h0 => absurd h0 (by simp)⟩, by simp [wP, Rows.uptoBulk], fun f hf => by cases hf⟩
  · obtain rfl : v = .slice (some a) len cap := by simpa using h1
    have hlm : len ≤ m := by rw [hmm]; split <;> omega
    have hS := bulk_slice (H := H) D len ((List.range (m - len)).map fun j => D (len + j))
    have each0 : 0 < len → a = ⟨a.block, a.off, none⟩ ∧ a.block < w.heap.size := fun hi => by
      obtain ⟨cs', h2, h3⟩ := hx 0 (by omega)
      rw [cells49] at h2
      obtain ⟨_, hlen, hcell⟩ := World.cells?_some h2
      have k0 := hcell 0 (by omega)
      rw [Nat.zero_mul, add_zero', add_zero', List.getElem?_eq_getElem (by omega)] at k0
      exact plain_a k0
    have each : ∀ i, i < len → ∃ f : Gd, FdZ w a.block (a.off + i * 3) f ∧ wF (toF f) ≤ Rows.uptoBulk (D i) ∧ f.ns.length ≤ 16777216 := fun i hi => by
      obtain ⟨cs', h2, h3⟩ := hx i (by omega)
      rw [cells49] at h2
      obtain ⟨_, hlen, hcell⟩ := World.cells?_some h2
      match cs', hlen with
      | [c0, c1, c2], _ =>
        obtain ⟨xs, n', _, hx', hl', hlen', hfs⟩ := DataW.trod_struct Tryd.underlying49 h3
        match xs, hlen' with
        | [y0, y1, y2], _ =>
          have g0 := hfs 0 _ rfl
          have g1 := hfs 1 _ rfl
          have g2 := hfs 2 _ rfl
          simp [show Tryd.prog.cellsOf 9 = 1 by kernel_rfl, show Tryd.prog.cellsOf 46 = 1 by kernel_rfl, show Tryd.prog.cellsOf 47 = 1 by kernel_rfl] at g0 g1 g2
          obtain ⟨e, e0, rfl, z0⟩ := DataW.trod_string Tryd.underlying9 g0
          simp at e0
          subst e0
          obtain ⟨ls, la, lc, rfl, l2, l3, l4⟩ := open_lines g1
          obtain ⟨az, na, nc, rfl, n2, n4⟩ := open_atsZ g2
          have k0 := hcell 0 (by omega)
          have k1 := hcell 1 (by omega)
          have k2 := hcell 2 (by omega)
          rw [Go.Deep.add_add] at k0 k1 k2
          simp only [List.getElem?_cons_zero, List.getElem?_cons_succ] at k0 k1 k2
          obtain ⟨p1, p2⟩ := each0 (by omega)
          simp only [Prod.mk.injEq] at hx'
          have hDi : D i = .agg [.lit (.string e.data.toList), y1.1, y2.1] := hx'.1
          have hbulk : Rows.uptoBulk (D i) = (e.data.toList.length + 1) + (Rows.uptoBulk y1.1 + (Rows.uptoBulk y2.1 + 0)) + 1 := by
            rw [hDi]
            simp [Rows.uptoBulk, Rows.uptoBulkAll]
          have hle := le_sum (f := fun i => Rows.uptoBulk (D i)) len i hi
          refine ⟨⟨e.data.toList, ls, az⟩, ⟨by have := plain_i p1 k0; simpa [ba_data] using this, ⟨la, lc, plain_i p1 k1, l2, l3⟩, ⟨na, nc, plain_i p1 k2, n2⟩⟩, ?_, ?_⟩
          · unfold wF toF
            simp only
            omega
          · have := hB
            simp only at this ⊢
            omega
    have : Inhabited Gd := ⟨⟨[], [], []⟩⟩
    obtain ⟨q, hq⟩ := Go.Deep.choose_lt each
    refine ⟨(List.range len).map q, ⟨some a, cap, by simp, by simpa using hl, fun h0 => ?_⟩, ?_, fun f hf => ?_⟩
    · have h0' : 0 < len := by simpa using h0
      obtain ⟨p1, _⟩ := each0 h0'
      refine ⟨a.block, a.off, by rw [← p1], fun i f hi => ?_⟩
      have hi' : i < len := by have := (List.getElem?_eq_some_iff.1 hi).1; simpa using this
      have e : q i = f := by simpa [hi'] using hi
      rw [← e]
      exact (hq i hi').1
    · unfold wP
      rw [List.map_map, List.map_map]
      have := sum_le (f := fun i => wF (toF (q i))) (g := fun i => Rows.uptoBulk (D i)) len fun i hi => (hq i hi).2.1
      refine Nat.le_trans (Nat.add_le_add_right ?_ 1) hS
      exact this
    · obtain ⟨i, hi, rfl⟩ := List.mem_map.1 hf
      exact (hq i (List.mem_range.1 hi)).2.2

set_option maxRecDepth 100000 in
theorem open_docZ (h : DataW.trod enc Tryd.prog w base spare held fuel 24 [v] = some x) (hB : Rows.uptoBulk x.1 ≤ 1048576) :
    ∃ ps : List (List Gd), DocZ w v ps ∧ wD (docF ps) ≤ Rows.uptoBulk x.1 ∧ ∀ p ∈ ps, ∀ f ∈ p, f.ns.length ≤ 16777216 := by
  rcases Go.Deep.open_slice1 Tryd.underlying24 (by kernel_rfl) h with ⟨h1, rfl⟩ | ⟨a, len, cap, m, n, V, D, Pl, h1, hb, hl, hm, hmm, rfl, hx⟩
  · obtain rfl : v = .slice none 0 0 := by simpa using h1
    exact ⟨[], ⟨none, 0, rfl, fun h0 => absurd h0 (by simp)⟩, by simp [wD, docF, Rows.uptoBulk], fun p hp => by cases hp⟩
  · obtain rfl : v = .slice (some a) len cap := by simpa using h1
    have hlm : len ≤ m := by rw [hmm]; split <;> omega
    have hS := bulk_slice (H := H) D len ((List.range (m - len)).map fun j => D (len + j))
    have each : ∀ i, i < len → ∃ p : List Gd, ParZ w (V i) p ∧ wP (p.map toF) ≤ Rows.uptoBulk (D i) ∧ ∀ f ∈ p, f.ns.length ≤ 16777216 := fun i hi => by
      have hle := le_sum (f := fun i => Rows.uptoBulk (D i)) len i hi
      exact open_parZ (hx i (by omega)).2 (by have := hB; simp only at this ⊢; omega)
    obtain ⟨q, hq⟩ := Go.Deep.choose_lt each
    refine ⟨(List.range len).map q, ⟨some a, cap, by simp, fun h0 => ?_⟩, ?_, fun p hp => ?_⟩
    · have h0' : 0 < len := by simpa using h0
      have h4 := (hx 0 (by omega)).1
      rw [add_zero'] at h4
      obtain ⟨e1, e2⟩ := plain_a h4
      refine ⟨a.block, a.off, by rw [← e1], fun i p hi => ?_⟩
      have hi' : i < len := by have := (List.getElem?_eq_some_iff.1 hi).1; simpa using this
      have e : q i = p := by simpa [hi'] using hi
      rw [← e]
      exact ⟨V i, plain_i e1 (hx i (by omega)).1, (hq i hi').1⟩
    · unfold wD docF
      rw [List.map_map, List.map_map]
      have := sum_le (f := fun i => wP ((q i).map toF)) (g := fun i => Rows.uptoBulk (D i)) len fun i hi => (hq i hi).2.1
      refine Nat.le_trans (Nat.add_le_add_right ?_ 1) hS
      exact this
    · obtain ⟨i, hi, rfl⟩ := List.mem_map.1 hp
      exact (hq i (List.mem_range.1 hi)).2.2
end

end Go.Proofs.YtiibobjbcgbknaaDoor

