import Derived.Test.YtjmomdnlibfbkaaDoorAbX
import Derived.Test.YtjmomdnlibfbkaaDoorRows
import Derived.Deep.Strs
import Derived.MapViews
import Derived.DeepKeys2
import Derived.ProofKit
import Derived.OpenShut
import Derived.ShutString
import Derived.ChangeOld
import Derived.SizedLaws
import Derived.ChangeSlices
import Derived.WideShapes
namespace Go.Proofs.YtjmomdnlibfbkaaDoor
open Go.ChangeShapes Go.WideShapes Go.ChangeAt Go.RowKit

theorem plain_a {w : World} {a : Addr} {v : Value} (h : w.cell? a = some v) : a = ⟨a.block, a.off, none⟩ ∧ a.block < w.heap.size := by
  have hs := World.cell?_spot h
  have hb := World.block_lt_of_cell? _ _ h
  obtain ⟨b, o, sp⟩ := a
  have e : sp = none := hs
  subst e
  exact ⟨rfl, hb⟩
theorem add_zero' (a : Addr) : a.add 0 = a := by unfold Addr.add; simp
theorem add_plain' (b o i : Nat) : (⟨b, o, none⟩ : Addr).add i = ⟨b, o + i, none⟩ := by unfold Addr.add; split <;> simp_all
theorem plain_i {w : World} {a : Addr} {i : Nat} {v : Value} (ha : a = ⟨a.block, a.off, none⟩) (h : w.cell? (a.add i) = some v) : w.cell? ⟨a.block, a.off + i, none⟩ = some v := by
  rw [ha, add_plain'] at h
  exact h
theorem all_mem {H : Type} {P : Program} {e : TypeId} {n : Nat} {d : DataW H} (hn : n ∈ d.weights P e) : ∀ L : List (DataW H), d ∈ L → n ∈ DataW.weightsAll P e L
  | [], h => by cases h
  | a :: r, h => by
    rw [DataW.weightsAll]
    rcases List.mem_cons.1 h with rfl | h
    · exact List.mem_append_left _ hn
    · exact List.mem_append_right _ (all_mem hn r h)
theorem slice_w {H : Type} {P : Program} {t e : TypeId} {D : Nat → DataW H} {len : Nat} {sp : List (DataW H)} {B : Nat} (ht : P.underlying t = some (.slice e)) (hB : ∀ n ∈ (DataW.slice ((List.range len).map D) sp).weights P t, n ≤ B) : len * P.bytesOf e ≤ B ∧ ∀ i, i < len → ∀ n ∈ (D i).weights P e, n ≤ B := by
  rw [DataW.weights, ht] at hB
  refine ⟨?_, fun i hi n hn => hB n (List.mem_cons_of_mem _ (List.mem_append_left _ (all_mem hn _ (List.mem_map.2 ⟨i, List.mem_range.2 hi, rfl⟩))))⟩
  have := hB _ List.mem_cons_self
  rw [List.length_map, List.length_range] at this
  exact Nat.le_trans (Nat.mul_le_mul_right _ (Nat.le_add_right _ _)) this
theorem field_w {H : Type} {P : Program} {t : TypeId} {fs : Array Field} {xs : List (DataW H × List MemPlace)} {B : Nat} (ht : P.underlying t = some (.struct fs)) (hB : ∀ n ∈ (DataW.agg (xs.map (·.1))).weights P t, n ≤ B) {i : Nat} {f : Field} (hf : fs.toList[i]? = some f) (hi : i < xs.length) : ∀ n ∈ (xs[i]).1.weights P f.type, n ≤ B := fun n hn => by
  refine hB n ?_
  rw [DataW.weights, ht]
  exact DataW.weights_mem_each (j := i) (t := f.type) (d := (xs[i]).1) (by rw [List.getElem?_map, hf]; rfl) (by rw [List.getElem?_map, List.getElem?_eq_getElem hi]; rfl) n hn
variable {H : Type} {enc : TypeId × Value → H} {w : World} {base : Nat} {spare : Nat → Bool} {held : Bool} {fuel : Nat} {v : Value} {x : DataW H × List MemPlace}
theorem cellsY : Tryd.prog.cellsOf 5 = 1 := by kernel_rfl
theorem bytesY : Tryd.prog.bytesOf 5 = 1 := by kernel_rfl
set_option maxRecDepth 100000 in
/-- BYTES THAT CAME IN, by the memory that they take. -/
theorem open_bytesW (h : DataW.trod enc Tryd.prog w base spare held fuel 23 [v] = some x) (hW : ∀ n ∈ x.1.weights Tryd.prog 23, n ≤ 140737488351232) : ∃ l : Bs, Rb w v l ∧ l.length ≤ 140737488351232 := by
  rcases Go.Deep.open_slice Tryd.underlying23 h with ⟨h1, rfl⟩ | ⟨a, len, cap, m, n, D, Pl, h1, hb, hl, hm, hmm, rfl, hx⟩
  · obtain rfl : v = .slice none 0 0 := by simpa using h1
    exact ⟨[], Rb.nil' _ _ _, Nat.zero_le _⟩
  · obtain rfl : v = .slice (some a) len cap := by simpa using h1
    have hlm : len ≤ m := by rw [hmm]; split <;> omega
    have hlen0 : len ≤ 140737488351232 := by
      have := hW _ (by unfold DataW.weights; rw [Tryd.underlying23]; exact List.mem_cons_self)
      rw [bytesY] at this
      simp at this
      omega
    have each : ∀ i, i < len → ∃ y : UInt8, a = ⟨a.block, a.off, none⟩ ∧ a.block < w.heap.size ∧ w.cell? ⟨a.block, a.off + i, none⟩ = some (cb y) := fun i hi => by
      obtain ⟨cs0, z2, z3⟩ := hx 0 (by omega)
      rw [cellsY] at z2
      obtain ⟨_, hlen0, hcell0⟩ := World.cells?_some z2
      have k0 := hcell0 0 (by omega)
      rw [Nat.zero_mul, add_zero', add_zero', List.getElem?_eq_getElem (by omega)] at k0
      obtain ⟨p1, p2⟩ := plain_a k0
      obtain ⟨cs', h2, h3⟩ := hx i (by omega)
      rw [cellsY] at h2
      obtain ⟨_, hlen, hcell⟩ := World.cells?_some h2
      obtain ⟨q, rfl⟩ : ∃ q, cs' = [q] := by
        match cs', hlen with
        | [q], _ => exact ⟨q, rfl⟩
      obtain ⟨z, hqz, _, hz⟩ := DataW.trod_int Tryd.underlying5 h3
      obtain rfl : q = .int .u8 z := by simpa using hqz
      have k1 := hcell 0 (by omega)
      rw [add_zero', Nat.mul_one] at k1
      have k2 := plain_i p1 k1
      have hz2 : 0 ≤ z ∧ z ≤ 255 := by
        have q := hz
        simp only [Lit.wf, Bool.and_eq_true, decide_eq_true_eq] at q
        have h1 : IntKind.u8.min = 0 := rfl
        have h2 : IntKind.u8.max = 255 := rfl
        rw [h1, h2] at q
        exact q
      have e : (UInt8.ofNat z.toNat).toNat = z.toNat := UInt8.toNat_ofNat_of_lt (by show z.toNat < 256; omega)
      have e2 : ((z.toNat : Nat) : Int) = z := Int.toNat_of_nonneg hz2.1
      have e3 : cb (UInt8.ofNat z.toNat) = .int .u8 z := by unfold cb; rw [e, e2]
      exact ⟨UInt8.ofNat z.toNat, p1, p2, by rw [e3]; exact k2⟩
    haveI : Inhabited UInt8 := ⟨0⟩
    obtain ⟨q, hq⟩ := Go.Deep.choose_lt each
    have hR : Rb w (.slice (some a) len cap) ((List.range len).map q) := by
      refine ⟨some a, cap, by simp, by simpa using hl, fun h0 => ?_⟩
      have h0' : 0 < len := by simpa using h0
      obtain ⟨p1, p2, _⟩ := hq 0 h0'
      refine ⟨a.block, a.off, by rw [← p1], p2, fun i y hi => ?_⟩
      have hi' : i < len := by have := (List.getElem?_eq_some_iff.1 hi).1; simpa using this
      rw [List.getElem?_map, List.getElem?_range hi'] at hi
      cases hi
      exact (hq i hi').2.2
    exact ⟨(List.range len).map q, hR, by simpa using hlen0⟩
theorem cellsBl : Tryd.prog.cellsOf 40 = 2 := by kernel_rfl
theorem cells9 : Tryd.prog.cellsOf 9 = 1 := by kernel_rfl
theorem cellsYs : Tryd.prog.cellsOf 23 = 1 := by kernel_rfl
theorem bytesBl : Tryd.prog.bytesOf 40 = 40 := by kernel_rfl
set_option maxRecDepth 100000 in
theorem open_blobsW (h : DataW.trod enc Tryd.prog w base spare held fuel 22 [v] = some x) (hW : ∀ n ∈ x.1.weights Tryd.prog 22, n ≤ 140737488351232) : ∃ fs : List Fl, Fb w v fs ∧ fs.length ≤ 3518437208780 ∧ ∀ f ∈ fs, f.1.size ≤ maxLen ∧ f.2.length ≤ 140737488351232 := by
  rcases Go.Deep.open_slice Tryd.underlying22 h with ⟨h1, rfl⟩ | ⟨a, len, cap, m, n, D, Pl, h1, hb, hl, hm, hmm, rfl, hx⟩
  · obtain rfl : v = .slice none 0 0 := by simpa using h1
    exact ⟨[], ⟨none, 0, rfl, Nat.le_refl _, fun i f hi => by cases hi⟩, Nat.zero_le _, fun f hf => by cases hf⟩
  · obtain rfl : v = .slice (some a) len cap := by simpa using h1
    have hlm : len ≤ m := by rw [hmm]; split <;> omega
    have hS := slice_w Tryd.underlying22 hW
    rw [bytesBl] at hS
    have hS1 : len ≤ 3518437208780 := by have := hS.1; omega
    have each : ∀ i, i < len → ∃ f : Fl, a = ⟨a.block, a.off, none⟩ ∧ a.block < w.heap.size ∧ (f.1.size ≤ maxLen ∧ f.2.length ≤ 140737488351232) ∧ ∃ y, w.rangeAt a.block (a.off + i * 2) [.string f.1, y] ∧ Rb w y f.2 := fun i hi => by
      obtain ⟨cs0, z2, z3⟩ := hx 0 (by omega)
      rw [cellsBl] at z2
      obtain ⟨_, hlen0, hcell0⟩ := World.cells?_some z2
      have k0 := hcell0 0 (by omega)
      rw [Nat.zero_mul, add_zero', add_zero', List.getElem?_eq_getElem (by omega)] at k0
      obtain ⟨p1, p2⟩ := plain_a k0
      obtain ⟨cs', h2, h3⟩ := hx i (by omega)
      rw [cellsBl] at h2
      obtain ⟨_, hlen, hcell⟩ := World.cells?_some h2
      obtain ⟨c1, c2, rfl⟩ : ∃ c1 c2, cs' = [c1, c2] := by
        match cs', hlen with
        | [c1, c2], _ => exact ⟨c1, c2, rfl⟩
      obtain ⟨xs, n2, _, hx2, hl2, hlen2, hfs⟩ := DataW.trod_struct Tryd.underlying40 h3
      have hxl : xs.length = 2 := hlen2
      have hd : D i = .agg (xs.map (·.1)) := (Prod.mk.inj hx2).1
      have g0 := hfs 0 _ rfl
      have g1 := hfs 1 _ rfl
      change DataW.trod enc Tryd.prog w base spare held n2 9 (([c1, c2].drop 0).take (Tryd.prog.cellsOf 9)) = xs[0]? at g0
      change DataW.trod enc Tryd.prog w base spare held n2 23 (([c1, c2].drop 1).take (Tryd.prog.cellsOf 23)) = xs[1]? at g1
      rw [cells9, List.getElem?_eq_getElem (show 0 < xs.length by omega)] at g0
      rw [cellsYs, List.getElem?_eq_getElem (show 1 < xs.length by omega)] at g1
      obtain ⟨s, e0, _, zs⟩ := DataW.trod_string Tryd.underlying9 g0
      obtain ⟨l, hR, hlb⟩ := open_bytesW (v := c2) g1 (field_w (i := 1) Tryd.underlying40 (fun n hn => hS.2 i hi n (by rw [hd]; exact hn)) rfl (by omega))
      obtain rfl : c1 = .string s := by simpa using e0
      refine ⟨(s, l), p1, p2, ⟨zs, hlb⟩, c2, fun j u hj => ?_, hR⟩
      have hj' : j < 2 := (List.getElem?_eq_some_iff.1 hj).1
      have k1 := hcell j (by omega)
      rw [Go.Deep.add_add, hj] at k1
      have := plain_i p1 k1
      rw [show a.off + i * 2 + j = a.off + (i * 2 + j) by omega]
      exact this
    haveI : Inhabited Fl := ⟨(⟨#[]⟩, [])⟩
    obtain ⟨q, hq⟩ := Go.Deep.choose_lt each
    refine ⟨(List.range len).map q, ⟨some a, cap, by simp, by simpa using hl, fun i f hi => ?_⟩, by simpa using hS1, fun f hf => ?_⟩
    · have hi' : i < len := by have := (List.getElem?_eq_some_iff.1 hi).1; simpa using this
      rw [List.getElem?_map, List.getElem?_range hi'] at hi
      cases hi
      obtain ⟨p1, p2, _, y, hr, hR⟩ := hq i hi'
      exact ⟨a.block, a.off, y, by rw [← p1], p2, hr, hR⟩
    · obtain ⟨i, hi, rfl⟩ := List.mem_map.1 hf
      obtain ⟨_, _, ⟨q1, q2⟩, _⟩ := hq i (List.mem_range.1 hi)
      exact ⟨q1, q2⟩
end Go.Proofs.YtjmomdnlibfbkaaDoor
