import Derived.Test.YtjlgfljfokmemaaDoorTcH
import Derived.Test.YtjlgfljfokmemaaDoorGlobT
import Derived.SizedLaws
import Derived.Deep.Strs
import Derived.MapViews
import Derived.DeepKeys2
import Derived.ProofKit
import Derived.OpenShut
import Derived.ShutString
import Derived.ChangeOld
import Derived.ChangeSlices
import Derived.WideShapes
namespace Go.Proofs.YtjlgfljfokmemaaDoor
open Go.ChangeShapes Go.WideShapes Go.RowKit Go.Maps Go.Shelf

theorem plain_a {w : World} {a : Addr} {v : Value} (h : w.cell? a = some v) : a = ⟨a.block, a.off, none⟩ ∧ a.block < w.heap.size := by
  have hs := World.cell?_spot h
  have hb := World.block_lt_of_cell? _ _ h
  obtain ⟨b, o, sp⟩ := a
  have e : sp = none := hs
  subst e
  exact ⟨rfl, hb⟩
theorem add_zero' (a : Addr) : a.add 0 = a := by unfold Addr.add; simp
theorem add_plain' (b o i : Nat) : (⟨b, o, none⟩ : Addr).add i = ⟨b, o + i, none⟩ := by unfold Addr.add; split <;> simp_all
theorem plain_i {w : World} {a : Addr} {i : Nat} {v : Value} (ha : a = ⟨a.block, a.off, none⟩) (h : w.cell? (a.add i) = some v) : w.cell? ⟨a.block, a.off + i, none⟩ = some v := by
  rw [ha, add_plain'] at h
  exact h
theorem weights_all {H : Type} (P : Program) (e : TypeId) : ∀ (l : List (DataW H)) (d : DataW H), d ∈ l → ∀ n ∈ d.weights P e, n ∈ DataW.weightsAll P e l
  | [], d, h, _, _ => by cases h
  | a :: l, d, h, n, hn => by
    unfold DataW.weightsAll
    rcases List.mem_cons.1 h with rfl | h
    · exact List.mem_append_left _ hn
    · exact List.mem_append_right _ (weights_all P e l d h n hn)
section
variable {H : Type} {enc : TypeId × Value → H} {w : World} {base : Nat} {spare : Nat → Bool} {held : Bool} {fuel : Nat} {v : Value} {x : DataW H × List MemPlace}
set_option maxRecDepth 100000 in
theorem open_step {cs : List Value} {d : DataW H} {pl : List MemPlace} (hl : cs.length = 3) (h : DataW.trod enc Tryd.prog w base spare held fuel 41 cs = some (d, pl)) : ∃ p : Stp, cs = p.cs ∧ d = .agg [.lit (.int .i64 p.k), .lit (.string p.f.data.toList), .lit (.string p.t.data.toList)] := by
  obtain ⟨xs, n', _, hx', hl', hlen', hfs⟩ := DataW.trod_struct Tryd.underlying41 h
  match cs, hl with
  | [c0, c1, c2], _ =>
    match xs, hlen' with
    | [z0, z1, z2], _ =>
      have g0 := hfs 0 _ rfl
      have g1 := hfs 1 _ rfl
      have g2 := hfs 2 _ rfl
      simp [show Tryd.prog.cellsOf 3 = 1 by kernel_rfl, show Tryd.prog.cellsOf 9 = 1 by kernel_rfl] at g0 g1 g2
      obtain ⟨k, e0, d0, _⟩ := DataW.trod_int Tryd.underlying3 g0
      obtain ⟨f, e1, d1, _⟩ := DataW.trod_string Tryd.underlying9 g1
      obtain ⟨t, e2, d2, _⟩ := DataW.trod_string Tryd.underlying9 g2
      simp at e0 e1 e2
      subst e0 e1 e2
      refine ⟨⟨k, f, t⟩, rfl, ?_⟩
      have hd := congrArg Prod.fst hx'
      simp only [List.map_cons, List.map_nil] at hd
      rw [d0, d1, d2] at hd
      exact hd
set_option maxRecDepth 100000 in
theorem open_steps (h : DataW.trod enc Tryd.prog w base spare held fuel 35 [v] = some x) (hW : ∀ n ∈ x.1.weights Tryd.prog 35, n ≤ 140737488351232) : ∃ ws : List Stp, Sps w v ws ∧ (∀ p ∈ ws, SpOk p) ∧ ws.length ≤ 3518437208883 := by
  rcases Go.Deep.open_slice Tryd.underlying35 h with ⟨h1, rfl⟩ | ⟨a, len, cap, m, n, D, Pl, h1, hb, hl, hm, hmm, rfl, hx⟩
  · obtain rfl : v = .slice none 0 0 := by simpa using h1
    exact ⟨[], ⟨none, 0, rfl, by simp, fun i hi => absurd hi (Nat.not_lt_zero _)⟩, fun p hp => (by cases hp), by simp⟩
  · obtain rfl : v = .slice (some a) len cap := by simpa using h1
    have hlm : len ≤ m := by rw [hmm]; split <;> omega
    have cA : Tryd.prog.cellsOf 41 = 3 := by kernel_rfl
    have hby : Tryd.prog.bytesOf 41 = 40 := by kernel_rfl
    have hlen40 : len ≤ 3518437208883 := by
      have := hW _ (by unfold DataW.weights; rw [Tryd.underlying35]; exact List.mem_cons_self)
      rw [hby] at this
      simp at this
      omega
    have hstr : ∀ i, i < len → ∀ k ∈ (D i).weights Tryd.prog 41, k ≤ 140737488351232 := fun i hi k hk => by
      refine hW k ?_
      unfold DataW.weights
      rw [Tryd.underlying35]
      refine List.mem_cons_of_mem _ (List.mem_append_left _ ?_)
      exact weights_all _ _ _ (D i) (List.mem_map.2 ⟨i, by simpa using hi, rfl⟩) k hk
    have each0 : 0 < len → a = ⟨a.block, a.off, none⟩ ∧ a.block < w.heap.size := fun hi => by
      obtain ⟨cs', h2, h3⟩ := hx 0 (by omega)
      rw [cA] at h2
      obtain ⟨_, hlen, hcell⟩ := World.cells?_some h2
      have k0 := hcell 0 (by omega)
      rw [Nat.zero_mul, add_zero', add_zero', List.getElem?_eq_getElem (by omega)] at k0
      exact plain_a k0
    have each : ∀ i, i < len → ∃ p : Stp, w.rangeAt a.block (a.off + i * 3) p.cs ∧ SpOk p := fun i hi => by
      obtain ⟨cs', h2, h3⟩ := hx i (by omega)
      rw [cA] at h2
      obtain ⟨_, hlen, hcell⟩ := World.cells?_some h2
      obtain ⟨p, e, hd⟩ := open_step hlen h3
      obtain ⟨p1, p2⟩ := each0 (by omega)
      refine ⟨p, fun j u hj => ?_, ?_⟩
      · have hj' : j < 3 := (List.getElem?_eq_some_iff.1 hj).1
        have k0 := hcell j (by omega)
        rw [Go.Deep.add_add, e, hj] at k0
        have := plain_i p1 k0
        rw [show a.off + i * 3 + j = a.off + (i * 3 + j) by omega]
        exact this
      · have hs := hstr i hi
        rw [hd] at hs
        have e3 : ∀ l1 l2 : List UInt8, (DataW.agg [.lit (.int .i64 p.k), .lit (.string l1), .lit (.string l2)] : DataW H).weights Tryd.prog 41 = [l1.length, l2.length] := fun l1 l2 => by
          unfold DataW.weights
          rw [Tryd.underlying41]
          rfl
        rw [e3] at hs
        have s1 := hs p.f.data.toList.length (by simp)
        have s2 := hs p.t.data.toList.length (by simp)
        rw [size_list] at s1 s2
        exact ⟨by omega, by omega⟩
    have : Inhabited Stp := ⟨⟨0, .empty, .empty⟩⟩
    obtain ⟨q, hq⟩ := Go.Deep.choose_lt each
    refine ⟨(List.range len).map q, ⟨some a, cap, by simp, by simp; omega, fun i hi => ?_⟩, fun p hp => ?_, by simpa using hlen40⟩
    · have hi' : i < len := by simpa using hi
      obtain ⟨p1, p2⟩ := each0 (by omega)
      have hr := (hq i hi').1
      refine ⟨a.block, a.off, by rw [← p1], p2, ?_, ?_, ?_⟩
      · simp only [List.getElem_map, List.getElem_range]; exact hr 0 _ rfl
      · simp only [List.getElem_map, List.getElem_range]; exact hr 1 _ rfl
      · simp only [List.getElem_map, List.getElem_range]; exact hr 2 _ rfl
    · obtain ⟨i, hi, rfl⟩ := List.mem_map.1 hp
      exact (hq i (by simpa using hi)).2
end
theorem glob_ofC {W : World} (hl : laidMetH Tryd.prog Rows.treeChecksRow.laid W) (hs : W.ShapedOpen Tryd.prog) : Glob W := by
  rw [Go.MakeChecks.laidMetH_plain _ _ _ (by kernel_rfl)] at hl
  have h1 := Lib.laidMet.reads hl (n := "math/bits.deBruijn64tab") (d := Rows.laid_math_bits_deBruijn64tab) (List.mem_cons_of_mem _ List.mem_cons_self)
  have h2 := Lib.laidMet.reads hl (n := "internal/strconv.uint64pow10") (d := Rows.laid_internal_strconv_uint64pow10) (List.mem_cons_of_mem _ (List.mem_cons_of_mem _ List.mem_cons_self))
  have h3 := Lib.laidMet.reads hl (n := "strconv.ErrRange") (d := Rows.laid_strconv_ErrRange) (List.mem_cons_of_mem _ (List.mem_cons_of_mem _ (List.mem_cons_of_mem _ (List.mem_cons_of_mem _ List.mem_cons_self))))
  have h4 := Lib.laidMet.reads hl (n := "strconv.ErrSyntax") (d := Rows.laid_strconv_ErrSyntax) (List.mem_cons_of_mem _ (List.mem_cons_of_mem _ (List.mem_cons_of_mem _ (List.mem_cons_of_mem _ (List.mem_cons_of_mem _ List.mem_cons_self)))))
  refine ⟨lt_of_reads h1 (by kernel_rfl), ?_, ?_, ?_, ?_⟩
  · exact Go.Proofs.cell_of_shapedOpen_int (zero := #[.int .i64 0]) (t := 3) hs (of_decide_eq_true (by kernel_rfl)) (by kernel_rfl) rfl (by kernel_rfl) (by kernel_rfl) Tryd.underlying3
  · exact iface_of_reads h4 (by kernel_rfl) (by kernel_rfl)
  · exact iface_of_reads h3 (by kernel_rfl) (by kernel_rfl)
  · obtain ⟨g, t, cs, fuel, p, g1, g2, g3, g4⟩ := h2
    have hg : Tryd.prog.globalNamed "internal/strconv.uint64pow10" = some 3 := by kernel_rfl
    obtain rfl := Option.some.inj (hg.symm.trans g1)
    have hty : (Tryd.prog.globals[3]?).map (·.type) = some 96 := by kernel_rfl
    obtain rfl := Option.some.inj (hty.symm.trans g2)
    unfold Lib.TabIs
    rw [g3]
    have e := Lib.cells_of_tab (k := .u64) (zs := Lib.pow10Tab) (n := 20) (e := 82) Tryd.underlying96 Tryd.underlying82 (by kernel_rfl) (by kernel_rfl) g4
    rw [← e]

end Go.Proofs.YtjlgfljfokmemaaDoor
