import Derived.Test.YtfembjjpmjfklaaDoorAtomV
import Derived.Test.YtfembjjpmjfklaaDoorLawM
import Derived.Deep.Strs
namespace Go.Proofs.YtfembjjpmjfklaaDoor
open Go.ChangeShapes Go.WideShapes Go.ChangeAt Go.RowKit

theorem cell_oneCell {P : Program} {w : World} {r : Reach} {b : Nat} {t : TypeId} {v : Value} (h : Cell.okWide P w r b t v) : v.oneCell' = true := by
  cases v with
  | agg a =>
    rcases hu : P.underlying t with _ | u
    · simp [Cell.okWide, Cell.ok, hu] at h
    · cases u <;> simp [Cell.okWide, Cell.ok, hu] at h
  | tuple a =>
    rcases hu : P.underlying t with _ | u
    · simp [Cell.okWide, Cell.ok, hu] at h
    · cases u <;> simp [Cell.okWide, Cell.ok, hu] at h
  | _ => rfl

theorem plain_a {w : World} {a : Addr} {v : Value} (h : w.cell? a = some v) : a = ⟨a.block, a.off, none⟩ ∧ a.block < w.heap.size := by
  have hs := World.cell?_spot h
  have hb := World.block_lt_of_cell? _ _ h
  obtain ⟨b, o, sp⟩ := a
  have e : sp = none := hs
  subst e
  exact ⟨rfl, hb⟩
theorem add_zero' (a : Addr) : a.add 0 = a := by unfold Addr.add; simp
theorem plain_i {w : World} {a : Addr} {i : Nat} {v : Value} (ha : a = ⟨a.block, a.off, none⟩) (h : w.cell? (a.add i) = some v) : w.cell? ⟨a.block, a.off + i, none⟩ = some v := by
  rw [ha, add_plain] at h
  exact h

theorem open_texts {H : Type} {enc : TypeId × Value → H} {w : World} {base : Nat} {spare : Nat → Bool} {held : Bool} {fuel : Nat} {v : Value} {x : DataW H × List MemPlace}
    (h : DataW.trod enc Tryd.prog w base spare held fuel 44 [v] = some x) :
    ∃ pl : List ByteArray, Strs w v pl ∧ ((x.1 = .nil ∧ pl = []) ∨ ∃ e s, x.1 = .slice e s ∧ e.length = pl.length) := by
  rcases Go.Deep.open_strs Tryd.underlying44 Tryd.underlying9 cells9 h with ⟨h1, rfl⟩ | ⟨a, len, cap, m, Sx, h1, hb, hl, hm, hmm, rfl, hx⟩
  · obtain rfl : v = .slice none 0 0 := by simpa using h1
    exact ⟨[], ⟨none, 0, rfl, by simp, fun i hi => absurd hi (Nat.not_lt_zero _)⟩, Or.inl ⟨rfl, rfl⟩⟩
  · obtain rfl : v = .slice (some a) len cap := by simpa using h1
    have hlm : len ≤ m := by rw [hmm]; split <;> omega
    have hmx : maxLen = 9223372036854775807 := by decide
    refine ⟨(List.range len).map Sx, ⟨some a, cap, by simp, by simp; omega, fun i hi => ?_⟩, Or.inr ⟨_, _, rfl, by simp⟩⟩
    have hi' : i < len := by simpa using hi
    obtain ⟨h2, h3⟩ := hx i (by omega)
    obtain ⟨h4, h5⟩ := hx 0 (by omega)
    rw [add_zero'] at h4
    obtain ⟨e1, e2⟩ := plain_a h4
    refine ⟨a.block, a.off, by rw [← e1], e2, ?_⟩
    rw [plain_i e1 h2]
    simp

theorem bytes9 : Tryd.prog.bytesOf 9 = 16 := by kernel_rfl
theorem bytesA : Tryd.prog.bytesOf 34 = 40 := by kernel_rfl

set_option maxRecDepth 100000 in
theorem open_atoms {H : Type} {enc : TypeId × Value → H} {w : World} {base : Nat} {spare : Nat → Bool} {held : Bool} {fuel : Nat} {v : Value} {x : DataW H × List MemPlace}
    (h : DataW.trod enc Tryd.prog w base spare held fuel 52 [v] = some x) :
    ∃ al : List At, (al.length ≤ 3518437208883 → Ats w v al) ∧ (∀ i (h : i < al.length), al[i].v.size ≤ maxLen) ∧ ((x.1 = .nil ∧ al = []) ∨ ∃ e s, x.1 = .slice e s ∧ e.length = al.length) := by
  rcases Go.Deep.open_slice Tryd.underlying52 h with ⟨h1, rfl⟩ | ⟨a, len, cap, m, n, D, Pl, h1, hb, hl, hm, hmm, rfl, hx⟩
  · obtain rfl : v = .slice none 0 0 := by simpa using h1
    exact ⟨[], fun _ => ⟨none, 0, rfl, by simp, fun i hi => absurd hi (Nat.not_lt_zero _)⟩, fun i hi => absurd hi (Nat.not_lt_zero _), Or.inl ⟨rfl, rfl⟩⟩
  · obtain rfl : v = .slice (some a) len cap := by simpa using h1
    have hlm : len ≤ m := by rw [hmm]; split <;> omega
    have each0 : 0 < len → a = ⟨a.block, a.off, none⟩ ∧ a.block < w.heap.size := fun hi => by
      obtain ⟨cs', h2, h3⟩ := hx 0 (by omega)
      rw [cellsAtom] at h2
      obtain ⟨_, hlen, hcell⟩ := World.cells?_some h2
      have k0 := hcell 0 (by omega)
      rw [Nat.zero_mul, add_zero', add_zero', List.getElem?_eq_getElem (by omega)] at k0
      exact plain_a k0
    have each : ∀ i, i < len → ∃ q : At, a = ⟨a.block, a.off, none⟩ ∧ a.block < w.heap.size ∧ w.cell? ⟨a.block, a.off + i * 3, none⟩ = some (.string q.n) ∧ w.cell? ⟨a.block, a.off + i * 3 + 1, none⟩ = some (.int .i64 q.op) ∧ w.cell? ⟨a.block, a.off + i * 3 + 2, none⟩ = some (.string q.v) ∧ q.v.size ≤ maxLen := fun i hi => by
      obtain ⟨cs', h2, h3⟩ := hx i (by omega)
      rw [cellsAtom] at h2
      obtain ⟨_, hlen, hcell⟩ := World.cells?_some h2
      match cs', hlen with
      | [c0, c1, c2], _ =>
        obtain ⟨xs, n', _, hx', hl', hlen', hfs⟩ := DataW.trod_struct Tryd.underlying34 h3
        match xs, hlen' with
        | [y0, y1, y2], _ =>
          have g0 := hfs 0 _ rfl
          have g1 := hfs 1 _ rfl
          have g2 := hfs 2 _ rfl
          simp [cells9, cells3] at g0 g1 g2
          obtain ⟨e, e0, rfl, z0⟩ := DataW.trod_string Tryd.underlying9 g0
          obtain ⟨o, e1, rfl, z1⟩ := DataW.trod_int Tryd.underlying3 g1
          obtain ⟨r, e2, rfl, z2⟩ := DataW.trod_string Tryd.underlying9 g2
          simp at e0 e1 e2
          subst e0 e1 e2
          have k0 := hcell 0 (by omega)
          have k1 := hcell 1 (by omega)
          have k2 := hcell 2 (by omega)
          rw [Go.Deep.add_add] at k0 k1 k2
          simp only [List.getElem?_cons_zero, List.getElem?_cons_succ] at k0 k1 k2
          obtain ⟨p1, p2⟩ := each0 (by omega)
          exact ⟨⟨e, o, r⟩, p1, p2, plain_i p1 k0, plain_i p1 k1, plain_i p1 k2, z2⟩
    have : Inhabited At := ⟨⟨.empty, 0, .empty⟩⟩
    obtain ⟨q, hq⟩ := Go.Deep.choose_lt each
    refine ⟨(List.range len).map q, fun hle => ⟨some a, cap, by simp, by omega, fun i hi => ?_⟩, fun i hi => ?_, Or.inr ⟨_, _, rfl, by simp⟩⟩
    · have hi' : i < len := by simpa using hi
      obtain ⟨p1, p2, p3, p4, p5, p6⟩ := hq i hi'
      refine ⟨a.block, a.off, by rw [← p1], p2, ?_, ?_, ?_⟩
      · rw [p3]; simp
      · rw [p4]; simp
      · rw [p5]; simp
    · have hi' : i < len := by simpa using hi
      simpa using (hq i hi').2.2.2.2.2

theorem cellsPkg : Tryd.prog.cellsOf 77 = 43 := by kernel_rfl
theorem cellsS : Tryd.prog.cellsOf 44 = 1 := by kernel_rfl

theorem row_one {P : Program} {w : World} {r : Reach} {b : Nat} {t : TypeId} {cs : Array Value} (h : Row.okWide P w r b t cs) : ∀ v ∈ cs.toList, v.oneCell' = true := by
  obtain ⟨ts, _, _, h3⟩ := h
  intro v hv
  obtain ⟨i, hi, rfl⟩ := List.getElem_of_mem hv
  obtain ⟨u, _, h4⟩ := h3 i (cs.toList[i]) (by rw [← Array.getElem?_toList]; exact List.getElem?_eq_getElem hi)
  exact cell_oneCell h4

set_option maxRecDepth 100000 in
theorem open_pkg {H : Type} {enc : TypeId × Value → H} {w : World} {base : Nat} {spare : Nat → Bool} {held : Bool} {r : Reach} {b0 : Nat} {v : Value} {d : DataW H} {p : List MemPlace}
    (hv : Value.okWide Tryd.prog w r b0 77 v) (h : DataW.Trod enc Tryd.prog w base spare held 77 v d p) :
    ∃ (cs : List Value) (nm vr : ByteArray) (pv : Value) (pl : List ByteArray) (xs : List (DataW H)), v = .agg cs.toArray ∧ Pkg cs nm vr pv ∧ Strs w pv pl ∧ vr.size ≤ maxLen ∧ (∀ v ∈ cs, v.oneCell' = true) ∧ d = .agg xs ∧
      ((pl = []) ∨ ∃ e s, xs[6]? = some (.slice e s) ∧ e.length = pl.length) := by
  have hv' := hv
  simp only [Value.okWide, Tryd.underlying77] at hv'
  obtain ⟨cs, rfl, hsz, hrow⟩ := hv'
  obtain ⟨fuel, hf⟩ := h
  obtain ⟨xs, n, _, hx, hl, hlen, hfs⟩ := DataW.trod_struct Tryd.underlying77 hf
  have hlen0 : cs.toList.length = 43 := by simpa [cellsPkg] using hsz
  have hxl : xs.length = 12 := hlen
  have g0 := hfs 0 _ rfl
  have g1 := hfs 1 _ rfl
  have g6 := hfs 6 _ rfl
  change DataW.trod enc Tryd.prog w base spare held n 9 ((cs.toList.drop 0).take (Tryd.prog.cellsOf 9)) = xs[0]? at g0
  change DataW.trod enc Tryd.prog w base spare held n 9 ((cs.toList.drop 1).take (Tryd.prog.cellsOf 9)) = xs[1]? at g1
  change DataW.trod enc Tryd.prog w base spare held n 44 ((cs.toList.drop 6).take (Tryd.prog.cellsOf 44)) = xs[6]? at g6
  rw [cells9] at g0 g1
  rw [cellsS] at g6
  have t0 : ∀ k, k < 43 → (cs.toList.drop k).take 1 = [cs.toList.getD k (.bool false)] := fun k hk => by
    rw [List.drop_eq_getElem_cons (by omega)]
    simp [List.getD, List.getElem?_eq_getElem (show k < cs.toList.length by omega)]
  rw [t0 0 (by omega), List.getElem?_eq_getElem (show 0 < xs.length by omega)] at g0
  rw [t0 1 (by omega), List.getElem?_eq_getElem (show 1 < xs.length by omega)] at g1
  rw [t0 6 (by omega), List.getElem?_eq_getElem (show 6 < xs.length by omega)] at g6
  obtain ⟨nm, e0, _, z0⟩ := DataW.trod_string Tryd.underlying9 g0
  obtain ⟨vr, e1, _, z1⟩ := DataW.trod_string Tryd.underlying9 g1
  obtain ⟨pl, hS, hd⟩ := open_texts g6
  have gk : ∀ k, k < 43 → cs.toList[k]? = some (cs.toList.getD k (.bool false)) := fun k hk => by
    simp only [List.getD, List.getElem?_eq_getElem (show k < cs.toList.length by omega)]
    rfl
  have hx1 := (Prod.mk.inj hx).1
  refine ⟨cs.toList, nm, vr, _, pl, xs.map (·.1), by simp, ⟨hlen0, ?_, ?_, gk 6 (by omega)⟩, hS, z1, row_one hrow, hx1, ?_⟩
  · rw [gk 0 (by omega)]; simpa using e0
  · rw [gk 1 (by omega)]; simpa using e1
  · rcases hd with ⟨_, h⟩ | ⟨e, s, h, h'⟩
    · exact Or.inl h
    · refine Or.inr ⟨e, s, ?_, h'⟩
      rw [List.getElem?_map, List.getElem?_eq_getElem (show 6 < xs.length by omega)]
      simp [h]

set_option maxRecDepth 100000 in
theorem sized_pkg {H : Type} {ts : List TypeId} {ds : List (DataW H)} (h : (DataW.weightsEach Tryd.prog ts ds).all (· ≤ reachBytes) = true) {j : Nat} {xs e s : List (DataW H)} (ht : ts[j]? = some 77) (hd : ds[j]? = some (.agg xs)) (h6 : xs[6]? = some (.slice e s)) :
    e.length * 16 ≤ reachBytes := by
  have hw : ∀ n, n ∈ DataW.weights Tryd.prog 77 (DataW.agg (H := H) xs) → n ≤ reachBytes := fun n hn => by
    have := List.all_eq_true.1 h _ (DataW.weights_mem_each ht hd n hn)
    simpa using this
  have hm : (e.length + s.length) * Tryd.prog.bytesOf 9 ∈ DataW.weights Tryd.prog 77 (DataW.agg (H := H) xs) := by
    simp only [DataW.weights, Tryd.underlying77]
    refine DataW.weights_mem_each (j := 6) (t := 44) rfl h6 _ ?_
    simp [DataW.weights, Tryd.underlying44]
  have := hw _ hm
  rw [bytes9] at this
  omega

end Go.Proofs.YtfembjjpmjfklaaDoor
