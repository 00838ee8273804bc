import Derived.Test.YtodlmbhlinpoeaaAuM
import Derived.Test.YtodlmbhlinpoeaaRows
import Derived.Deep.Strs
import Derived.MapViews
import Derived.DeepKeys2
import Derived.ProofKit
import Derived.OpenShut
import Derived.ShutString
import Derived.ChangeOld
import Derived.SizedLaws
import Derived.ChangeSlices
import Derived.WideShapes
namespace Go.Proofs.Ytodlmbhlinpoeaa
open Go.ChangeShapes Go.WideShapes Go.ChangeAt Go.RowKit

theorem plain_a {w : World} {a : Addr} {v : Value} (h : w.cell? a = some v) : a = ⟨a.block, a.off, none⟩ ∧ a.block < w.heap.size := by
  have hs := World.cell?_spot h
  have hb := World.block_lt_of_cell? _ _ h
  obtain ⟨b, o, sp⟩ := a
  have e : sp = none := hs
  subst e
  exact ⟨rfl, hb⟩
theorem add_zero' (a : Addr) : a.add 0 = a := by unfold Addr.add; simp
theorem add_plain' (b o i : Nat) : (⟨b, o, none⟩ : Addr).add i = ⟨b, o + i, none⟩ := by unfold Addr.add; split <;> simp_all
theorem plain_i {w : World} {a : Addr} {i : Nat} {v : Value} (ha : a = ⟨a.block, a.off, none⟩) (h : w.cell? (a.add i) = some v) : w.cell? ⟨a.block, a.off + i, none⟩ = some v := by
  rw [ha, add_plain'] at h
  exact h
/-- LITERALS OF TEXTS AND NUMBERS. -/
def flatL : Lit → Bool
  | .string _ => true
  | .int _ _ => true
  | _ => false
/-- A TYPE OF TEXTS AND NUMBERS ALONE. -/
def nbT (P : Program) : Nat → TypeId → Bool
  | 0, _ => false
  | d + 1, t => match P.underlying t with
    | some (.int _) => true
    | some .string => true
    | some (.array _ e) => nbT P d e
    | some (.struct fs) => fs.toList.all fun f => nbT P d f.type
    | _ => false
theorem mapM_in {α β : Type} (f : α → Option β) : ∀ (L : List α) (ys : List β), L.mapM f = some ys → ∀ y ∈ ys, ∃ x ∈ L, f x = some y
  | [], ys, h, y, hy => by simp at h; subst h; cases hy
  | a :: L, ys, h, y, hy => by
    rw [List.mapM_cons] at h
    simp only [bind, Option.bind_eq_some_iff, pure, Option.some.injEq] at h
    obtain ⟨b, hb, bs, hbs, rfl⟩ := h
    rcases List.mem_cons.1 hy with rfl | hy
    · exact ⟨a, List.mem_cons_self, hb⟩
    · obtain ⟨x, hx, hfx⟩ := mapM_in f L bs hbs y hy
      exact ⟨x, List.mem_cons_of_mem _ hx, hfx⟩
theorem nb_flat {P : Program} : ∀ (d : Nat) (t : TypeId) (cs : List Value) (l : List Lit), nbT P d t = true → P.keyLits d t cs = some l → ∀ c ∈ l, flatL c = true
  | 0, _, _, _, h, _ => by simp [nbT] at h
  | d + 1, t, cs, l, hn, h => by
    unfold nbT at hn
    intro c hc
    cases hu : P.underlying t with
    | none => rw [hu] at hn; cases hn
    | some u =>
      rw [hu] at hn
      cases u with
      | int q =>
        obtain ⟨n, hl⟩ := keyLits_int hu h
        rcases hl with rfl | ⟨rfl, _⟩
        all_goals (simp at hc; subst hc; rfl)
      | string =>
        obtain ⟨n, hl⟩ := keyLits_string hu h
        rcases hl with rfl | ⟨rfl, _⟩
        all_goals (simp at hc; subst hc; rfl)
      | array n e =>
        unfold Program.keyLits at h
        rw [hu] at h
        simp only at hn h
        split at h
        · obtain ⟨ls, h1, rfl⟩ := Option.map_eq_some_iff.1 h
          obtain ⟨m, hm, hcm⟩ := List.mem_flatten.1 hc
          obtain ⟨i, _, hi⟩ := mapM_in _ _ _ h1 m hm
          exact nb_flat d e _ _ hn hi c hcm
        · cases h
      | struct fs =>
        unfold Program.keyLits at h
        rw [hu] at h
        simp only at hn h
        split at h
        · obtain ⟨ls, h1, rfl⟩ := Option.map_eq_some_iff.1 h
          obtain ⟨m, hm, hcm⟩ := List.mem_flatten.1 hc
          obtain ⟨f, hf, hi⟩ := mapM_in _ _ _ h1 m hm
          exact nb_flat d f.type _ _ (List.all_eq_true.1 hn f hf) hi c hcm
        · cases h
      | _ => simp at hn
theorem all_mem {H : Type} {P : Program} {e : TypeId} {n : Nat} {d : DataW H} (hn : n ∈ d.weights P e) : ∀ L : List (DataW H), d ∈ L → n ∈ DataW.weightsAll P e L
  | [], h => by cases h
  | a :: r, h => by
    rw [DataW.weightsAll]
    rcases List.mem_cons.1 h with rfl | h
    · exact List.mem_append_left _ hn
    · exact List.mem_append_right _ (all_mem hn r h)
/-- WHAT A SLICE WEIGHS. -/
theorem slice_w {H : Type} {P : Program} {t e : TypeId} {D : Nat → DataW H} {len : Nat} {sp : List (DataW H)} {B : Nat} (ht : P.underlying t = some (.slice e)) (hB : ∀ n ∈ (DataW.slice ((List.range len).map D) sp).weights P t, n ≤ B) : len * P.bytesOf e ≤ B ∧ ∀ i, i < len → ∀ n ∈ (D i).weights P e, n ≤ B := by
  rw [DataW.weights, ht] at hB
  refine ⟨?_, fun i hi n hn => hB n (List.mem_cons_of_mem _ (List.mem_append_left _ (all_mem hn _ (List.mem_map.2 ⟨i, List.mem_range.2 hi, rfl⟩))))⟩
  have := hB _ List.mem_cons_self
  rw [List.length_map, List.length_range] at this
  exact Nat.le_trans (Nat.mul_le_mul_right _ (Nat.le_add_right _ _)) this
variable {H : Type} {enc : TypeId × Value → H} {w : World} {base : Nat} {spare : Nat → Bool} {held : Bool} {fuel : Nat} {v : Value} {x : DataW H × List MemPlace}
/-- A VALUE OF TEXTS AND NUMBERS. -/
theorem open_isT {t k : Nat} {cs : List Value} (kt : Try.prog.keyTypeAt 6 t = true) (nb : nbT Try.prog 6 t = true) (ti : Try.prog.tiled 6 t = true) (hl : cs.length = k) (h : DataW.trod enc Try.prog w base spare held fuel t cs = some x) : isT t k cs := by
  obtain ⟨ka, _⟩ := keyLits_of_trod 6 t kt _ _ _ h
  refine ⟨hl, ⟨_, ka⟩, fun u hu => ?_⟩
  have e := cells_of_lits 6 t ti 6 _ _ ka
  rw [e] at hu
  obtain ⟨l, hl2, rfl⟩ := List.mem_map.1 hu
  have hf := nb_flat 6 t _ _ nb ka l hl2
  cases l <;> first | rfl | cases hf
/-- A ROW OF SUCH. -/
theorem open_rws {t e k : Nat} (ht : Try.prog.underlying t = some (.slice e)) (hk : Try.prog.cellsOf e = k) (h0 : 0 < k) (kt : Try.prog.keyTypeAt 6 e = true) (nb : nbT Try.prog 6 e = true) (ti : Try.prog.tiled 6 e = true) (h : DataW.trod enc Try.prog w base spare held fuel t [v] = some x) (hB : ∀ n ∈ x.1.weights Try.prog t, n ≤ 140737488351232) : ∃ fl : List (List Value), Rws e k w v fl ∧ fl.length * Try.prog.bytesOf e ≤ 140737488351232 := by
  rcases Go.Deep.open_slice ht h with ⟨h1, rfl⟩ | ⟨a, len, cap, m, n, D, Pl, h1, hb, hl, hm, hmm, rfl, hx⟩
  · obtain rfl : v = .slice none 0 0 := by simpa using h1
    exact ⟨[], Rws.nil _ _ _ _ _, by simp⟩
  · obtain rfl : v = .slice (some a) len cap := by simpa using h1
    have hlm : len ≤ m := by rw [hmm]; split <;> omega
    obtain ⟨hw1, _⟩ := slice_w ht hB
    have each0 : 0 < len → a = ⟨a.block, a.off, none⟩ ∧ a.block < w.heap.size := fun hi => by
      obtain ⟨cs', h2, h3⟩ := hx 0 (by omega)
      rw [hk] at h2
      obtain ⟨_, hlen, hcell⟩ := World.cells?_some h2
      have k0 := hcell 0 (by omega)
      rw [Nat.zero_mul, add_zero', add_zero', List.getElem?_eq_getElem (by omega)] at k0
      exact plain_a k0
    have each : ∀ i, i < len → ∃ f : List Value, isT e k f ∧ w.rangeAt a.block (a.off + i * k) f := fun i hi => by
      obtain ⟨cs', h2, h3⟩ := hx i (by omega)
      rw [hk] at h2
      obtain ⟨_, hlen, hcell⟩ := World.cells?_some h2
      obtain ⟨p1, p2⟩ := each0 (by omega)
      refine ⟨cs', open_isT kt nb ti hlen h3, fun j u hj => ?_⟩
      have hj' : j < k := by have h := (List.getElem?_eq_some_iff.1 hj).1; rw [← hlen]; exact h
      have k0 := hcell j (by omega)
      rw [Go.Deep.add_add, hj] at k0
      have := plain_i p1 k0
      rw [show a.off + i * k + j = a.off + (i * k + j) by omega]
      exact this
    haveI : Inhabited (List Value) := ⟨[]⟩
    obtain ⟨q, hq⟩ := Go.Deep.choose_lt each
    refine ⟨(List.range len).map q, ⟨some a, cap, by simp, fun f hf => ?_, fun h0 => ?_⟩, by simpa using hw1⟩
    · obtain ⟨i, hi, rfl⟩ := List.mem_map.1 hf
      exact (hq i (List.mem_range.1 hi)).1
    · have h0' : 0 < len := by simpa using h0
      obtain ⟨p1, p2⟩ := each0 h0'
      refine ⟨a.block, a.off, by rw [← p1], p2, fun i f hi => ?_⟩
      have hi' : i < len := by have := (List.getElem?_eq_some_iff.1 hi).1; simpa using this
      rw [List.getElem?_map, List.getElem?_range hi'] at hi
      cases hi
      exact (hq i hi').2
theorem bytesA : Try.prog.bytesOf 55 = 40 := by kernel_rfl
theorem bytesF : Try.prog.bytesOf 49 = 56 := by kernel_rfl
theorem bytesW : Try.prog.bytesOf 31 = 56 := by kernel_rfl
theorem bytes9 : Try.prog.bytesOf 9 = 16 := by kernel_rfl
theorem bytesK : Try.prog.bytesOf 63 = 24 := by kernel_rfl
theorem bytesH : Try.prog.bytesOf 47 = 240 := by kernel_rfl
theorem open_atoms {t : Nat} (ht : Try.prog.underlying t = some (.slice 55)) (h : DataW.trod enc Try.prog w base spare held fuel t [v] = some x) (hB : ∀ n ∈ x.1.weights Try.prog t, n ≤ 140737488351232) : ∃ fl : List (List Value), Rws 55 3 w v fl ∧ fl.length ≤ 3518437208780 := by
  obtain ⟨fl, h1, h2⟩ := open_rws ht cellsA (by decide) (by kernel_rfl) (by kernel_rfl) (by kernel_rfl) h hB
  exact ⟨fl, h1, by rw [bytesA] at h2; omega⟩
theorem open_texts (h : DataW.trod enc Try.prog w base spare held fuel 41 [v] = some x) (hB : ∀ n ∈ x.1.weights Try.prog 41, n ≤ 140737488351232) : ∃ fl : List (List Value), Rws 9 1 w v fl ∧ fl.length ≤ 8796093021952 := by
  obtain ⟨fl, h1, h2⟩ := open_rws Try.underlying41 cells9 (by decide) (by kernel_rfl) (by kernel_rfl) (by kernel_rfl) h hB
  exact ⟨fl, h1, by rw [bytes9] at h2; omega⟩
theorem open_files (h : DataW.trod enc Try.prog w base spare held fuel 42 [v] = some x) (hB : ∀ n ∈ x.1.weights Try.prog 42, n ≤ 140737488351232) : ∃ fl : List (List Value), Rws 49 34 w v fl ∧ fl.length ≤ 2513169434843 := by
  obtain ⟨fl, h1, h2⟩ := open_rws Try.underlying42 cellsF (by decide) (by kernel_rfl) (by kernel_rfl) (by kernel_rfl) h hB
  exact ⟨fl, h1, by rw [bytesF] at h2; omega⟩
theorem open_wrongs (h : DataW.trod enc Try.prog w base spare held fuel 23 [v] = some x) (hB : ∀ n ∈ x.1.weights Try.prog 23, n ≤ 140737488351232) : ∃ fl : List (List Value), Rws 31 4 w v fl ∧ fl.length ≤ 2513169434843 := by
  obtain ⟨fl, h1, h2⟩ := open_rws Try.underlying23 cellsW (by decide) (by kernel_rfl) (by kernel_rfl) (by kernel_rfl) h hB
  exact ⟨fl, h1, by rw [bytesW] at h2; omega⟩
theorem cellsK : Try.prog.cellsOf 63 = 1 := by kernel_rfl
theorem open_cls (h : DataW.trod enc Try.prog w base spare held fuel 39 [v] = some x) (hB : ∀ n ∈ x.1.weights Try.prog 39, n ≤ 140737488351232) : ∃ cl : List (List (List Value)), Cls w v cl ∧ cl.length ≤ 5864062014634 ∧ ∀ al ∈ cl, al.length ≤ 3518437208780 := by
  rcases Go.Deep.open_slice1 Try.underlying39 cellsK h with ⟨h1, rfl⟩ | ⟨a, len, cap, m, n, V, D, Pl, h1, hb, hl, hm, hmm, rfl, hx⟩
  · obtain rfl : v = .slice none 0 0 := by simpa using h1
    exact ⟨[], ⟨none, 0, rfl, fun h0 => absurd h0 (Nat.not_lt_zero _)⟩, by simp, fun al hal => by cases hal⟩
  · obtain rfl : v = .slice (some a) len cap := by simpa using h1
    have hlm : len ≤ m := by rw [hmm]; split <;> omega
    obtain ⟨hw1, hw2⟩ := slice_w Try.underlying39 hB
    rw [bytesK] at hw1
    have each : ∀ i, i < len → ∃ al : List (List Value), Rws 55 3 w (V i) al ∧ al.length ≤ 3518437208780 := fun i hi => open_atoms Try.underlying63 (hx i (by omega)).2 (hw2 i hi)
    haveI : Inhabited (List (List Value)) := ⟨[]⟩
    obtain ⟨q, hq⟩ := Go.Deep.choose_lt each
    refine ⟨(List.range len).map q, ⟨some a, cap, by simp, fun h0 => ?_⟩, by simp; omega, fun al hal => ?_⟩
    · have h0' : 0 < len := by simpa using h0
      have k0 := (hx 0 (by omega)).1
      rw [add_zero'] at k0
      obtain ⟨p1, p2⟩ := plain_a k0
      refine ⟨a.block, a.off, by rw [← p1], p2, fun i al hi => ?_⟩
      have hi' : i < len := by have := (List.getElem?_eq_some_iff.1 hi).1; simpa using this
      rw [List.getElem?_map, List.getElem?_range hi'] at hi
      cases hi
      exact ⟨V i, plain_i p1 (hx i (by omega)).1, (hq i hi').1⟩
    · obtain ⟨i, hi, rfl⟩ := List.mem_map.1 hal
      exact (hq i (List.mem_range.1 hi)).2
/-- WHAT A STRUCT'S FIELD WEIGHS. -/
theorem field_w {P : Program} {t : TypeId} {fs : Array Field} {xs : List (DataW H × List MemPlace)} {B : Nat} (ht : P.underlying t = some (.struct fs)) (hB : ∀ n ∈ (DataW.agg (xs.map (·.1))).weights P t, n ≤ B) {i : Nat} {f : Field} (hf : fs.toList[i]? = some f) (hi : i < xs.length) : ∀ n ∈ (xs[i]).1.weights P f.type, n ≤ B := fun n hn => by
  refine hB n ?_
  rw [DataW.weights, ht]
  exact DataW.weights_mem_each (j := i) (t := f.type) (d := (xs[i]).1) (by rw [List.getElem?_map, hf]; rfl) (by rw [List.getElem?_map, List.getElem?_eq_getElem hi]; rfl) n hn
theorem slice_one {t e : TypeId} (ht : Try.prog.underlying t = some (.slice e)) (h : DataW.trod enc Try.prog w base spare held fuel t [v] = some x) : v.oneCell' = true := by
  rcases Go.Deep.open_slice ht h with ⟨h1, rfl⟩ | ⟨a, len, cap, m, n, D, Pl, h1, hb, hl, hm, hmm, rfl, hx⟩
  · obtain rfl : v = .slice none 0 0 := by simpa using h1
    rfl
  · obtain rfl : v = .slice (some a) len cap := by simpa using h1
    rfl
set_option maxRecDepth 100000 in
theorem open_pk {cs : List Value} {d : DataW H} {pl : List MemPlace} (hlen0 : cs.length = 43) (hf : DataW.trod enc Try.prog w base spare held fuel 45 cs = some (d, pl)) (hB : ∀ n ∈ d.weights Try.prog 45, n ≤ 140737488351232) :
    ∃ (p : Hk) (d r c v f : Value), HkL w p d r c v f ∧ HkZ p ∧ p.vr.size ≤ 140737488351232 ∧ p.mr = 0 ∧ (∀ x ∈ cs, x.oneCell' = true) ∧ cs[0]? = some (.string p.nm) ∧ cs[1]? = some (.string p.vr) ∧ cs[2]? = some (.bool p.es) ∧ cs[3]? = some d ∧ cs[4]? = some r ∧ cs[5]? = some c ∧ cs[6]? = some v ∧ cs[7]? = some f ∧ cs[8]? = some (.string p.ar) ∧ cs[9]? = some (.int .i64 p.sz) ∧ (∀ j x, p.sm[j]? = some x → cs[10 + j]? = some x) ∧ cs[42]? = some (.string p.sy) := by
  obtain ⟨xs, n, _, hx, hl, hlen, hfs⟩ := DataW.trod_struct Try.underlying45 hf
  have hxl : xs.length = 12 := hlen
  have hd : d = .agg (xs.map (·.1)) := (Prod.mk.inj hx).1
  subst hd
  have fw := fun {i : Nat} {f : Field} (hf : _) (hi : i < xs.length) => field_w (i := i) (f := f) Try.underlying45 hB hf hi
  have gk : ∀ k, k < 43 → cs[k]? = some (cs.getD k (.bool false)) := fun k hk => by
    simp only [List.getD, List.getElem?_eq_getElem (show k < cs.length by omega)]
    rfl
  have t0 : ∀ k, k < 43 → (cs.drop k).take 1 = [cs.getD k (.bool false)] := fun k hk => by
    rw [List.drop_eq_getElem_cons (show k < cs.length by omega), List.getD_eq_getElem?_getD, List.getElem?_eq_getElem (show k < cs.length by omega)]
    rfl
  have g0 := hfs 0 _ rfl
  have g1 := hfs 1 _ rfl
  have g2 := hfs 2 _ rfl
  have g3 := hfs 3 _ rfl
  have g4 := hfs 4 _ rfl
  have g5 := hfs 5 _ rfl
  have g6 := hfs 6 _ rfl
  have g7 := hfs 7 _ rfl
  have g8 := hfs 8 _ rfl
  have g9 := hfs 9 _ rfl
  have g10 := hfs 10 _ rfl
  have g11 := hfs 11 _ rfl
  change DataW.trod enc Try.prog w base spare held n 9 ((cs.drop 0).take (Try.prog.cellsOf 9)) = xs[0]? at g0
  change DataW.trod enc Try.prog w base spare held n 9 ((cs.drop 1).take (Try.prog.cellsOf 9)) = xs[1]? at g1
  change DataW.trod enc Try.prog w base spare held n 4 ((cs.drop 2).take (Try.prog.cellsOf 4)) = xs[2]? at g2
  change DataW.trod enc Try.prog w base spare held n 39 ((cs.drop 3).take (Try.prog.cellsOf 39)) = xs[3]? at g3
  change DataW.trod enc Try.prog w base spare held n 39 ((cs.drop 4).take (Try.prog.cellsOf 39)) = xs[4]? at g4
  change DataW.trod enc Try.prog w base spare held n 40 ((cs.drop 5).take (Try.prog.cellsOf 40)) = xs[5]? at g5
  change DataW.trod enc Try.prog w base spare held n 41 ((cs.drop 6).take (Try.prog.cellsOf 41)) = xs[6]? at g6
  change DataW.trod enc Try.prog w base spare held n 42 ((cs.drop 7).take (Try.prog.cellsOf 42)) = xs[7]? at g7
  change DataW.trod enc Try.prog w base spare held n 9 ((cs.drop 8).take (Try.prog.cellsOf 9)) = xs[8]? at g8
  change DataW.trod enc Try.prog w base spare held n 3 ((cs.drop 9).take (Try.prog.cellsOf 3)) = xs[9]? at g9
  change DataW.trod enc Try.prog w base spare held n 43 ((cs.drop 10).take (Try.prog.cellsOf 43)) = xs[10]? at g10
  change DataW.trod enc Try.prog w base spare held n 9 ((cs.drop 42).take (Try.prog.cellsOf 9)) = xs[11]? at g11
  rw [cells9] at g0 g1 g8 g11
  rw [show Try.prog.cellsOf 4 = 1 by kernel_rfl] at g2
  rw [show Try.prog.cellsOf 39 = 1 by kernel_rfl] at g3 g4
  rw [show Try.prog.cellsOf 40 = 1 by kernel_rfl] at g5
  rw [show Try.prog.cellsOf 41 = 1 by kernel_rfl] at g6
  rw [show Try.prog.cellsOf 42 = 1 by kernel_rfl] at g7
  rw [show Try.prog.cellsOf 3 = 1 by kernel_rfl] at g9
  rw [cellsU] at g10
  rw [t0 0 (by omega), List.getElem?_eq_getElem (show 0 < xs.length by omega)] at g0
  rw [t0 1 (by omega), List.getElem?_eq_getElem (show 1 < xs.length by omega)] at g1
  rw [t0 2 (by omega), List.getElem?_eq_getElem (show 2 < xs.length by omega)] at g2
  rw [t0 3 (by omega), List.getElem?_eq_getElem (show 3 < xs.length by omega)] at g3
  rw [t0 4 (by omega), List.getElem?_eq_getElem (show 4 < xs.length by omega)] at g4
  rw [t0 5 (by omega), List.getElem?_eq_getElem (show 5 < xs.length by omega)] at g5
  rw [t0 6 (by omega), List.getElem?_eq_getElem (show 6 < xs.length by omega)] at g6
  rw [t0 7 (by omega), List.getElem?_eq_getElem (show 7 < xs.length by omega)] at g7
  rw [t0 8 (by omega), List.getElem?_eq_getElem (show 8 < xs.length by omega)] at g8
  rw [t0 9 (by omega), List.getElem?_eq_getElem (show 9 < xs.length by omega)] at g9
  rw [List.getElem?_eq_getElem (show 10 < xs.length by omega)] at g10
  rw [t0 42 (by omega), List.getElem?_eq_getElem (show 11 < xs.length by omega)] at g11
  obtain ⟨nm, e0, _, _⟩ := DataW.trod_string Try.underlying9 g0
  obtain ⟨vr, e1, e1b, _⟩ := DataW.trod_string Try.underlying9 g1
  obtain ⟨es, e2, _⟩ := DataW.trod_bool Try.underlying4 g2
  obtain ⟨ar, e8, _, _⟩ := DataW.trod_string Try.underlying9 g8
  obtain ⟨sz, e9, _, _⟩ := DataW.trod_int Try.underlying3 g9
  obtain ⟨sy, eb, _, _⟩ := DataW.trod_string Try.underlying9 g11
  obtain ⟨dp, q3, z3, y3⟩ := open_cls g3 (fw (i := 3) rfl (by omega))
  obtain ⟨pr, q4, z4, y4⟩ := open_cls g4 (fw (i := 4) rfl (by omega))
  obtain ⟨cf, q5, z5⟩ := open_atoms Try.underlying40 g5 (fw (i := 5) rfl (by omega))
  obtain ⟨pv, q6, z6⟩ := open_texts g6 (fw (i := 6) rfl (by omega))
  obtain ⟨fs, q7, z7⟩ := open_files g7 (fw (i := 7) rfl (by omega))
  have hl32 : ((cs.drop 10).take 32).length = 32 := by simp only [List.length_take, List.length_drop]; omega
  have hU := open_isT (k := 32) (by kernel_rfl) (by kernel_rfl) (by kernel_rfl) hl32 g10
  have hv1 : vr.size ≤ 140737488351232 := by
    have h1 := fw (i := 1) rfl (by omega) vr.data.toList.length (by rw [show xs[1].1 = .lit (.string vr.data.toList) from congrArg Prod.fst e1b]; unfold DataW.weights; exact List.mem_cons_self)
    have e : vr.data.toList.length = vr.size := Array.length_toList
    omega
  have c0 : cs[0]? = some (.string nm) := by rw [gk 0 (by omega)]; simpa using e0
  have c1 : cs[1]? = some (.string vr) := by rw [gk 1 (by omega)]; simpa using e1
  have c2 : cs[2]? = some (.bool es) := by rw [gk 2 (by omega)]; simpa using e2
  have c8 : cs[8]? = some (.string ar) := by rw [gk 8 (by omega)]; simpa using e8
  have c9 : cs[9]? = some (.int .i64 sz) := by rw [gk 9 (by omega)]; simpa using e9
  have c42 : cs[42]? = some (.string sy) := by rw [gk 42 (by omega)]; simpa using eb
  have o3 := slice_one Try.underlying39 g3
  have o4 := slice_one Try.underlying39 g4
  have o5 := slice_one Try.underlying40 g5
  have o6 := slice_one Try.underlying41 g6
  have o7 := slice_one Try.underlying42 g7
  have one : ∀ x ∈ cs, x.oneCell' = true := fun x hx => by
    obtain ⟨j, hj, rfl⟩ := List.mem_iff_getElem.1 hx
    have hg := List.getElem?_eq_getElem hj
    by_cases h10 : 10 ≤ j ∧ j < 42
    · refine hU.2.2 _ ?_
      refine List.mem_of_getElem? (i := j - 10) ?_
      rw [List.getElem?_take_of_lt (by omega), List.getElem?_drop, show 10 + (j - 10) = j by omega]
      exact hg
    · have hjs : j = 0 ∨ j = 1 ∨ j = 2 ∨ j = 3 ∨ j = 4 ∨ j = 5 ∨ j = 6 ∨ j = 7 ∨ j = 8 ∨ j = 9 ∨ j = 42 := by omega
      rcases hjs with rfl | rfl | rfl | rfl | rfl | rfl | rfl | rfl | rfl | rfl | rfl
      · rw [c0] at hg; rw [← Option.some.inj hg]; rfl
      · rw [c1] at hg; rw [← Option.some.inj hg]; rfl
      · rw [c2] at hg; rw [← Option.some.inj hg]; rfl
      · rw [gk 3 (by omega)] at hg; rw [← Option.some.inj hg]; exact o3
      · rw [gk 4 (by omega)] at hg; rw [← Option.some.inj hg]; exact o4
      · rw [gk 5 (by omega)] at hg; rw [← Option.some.inj hg]; exact o5
      · rw [gk 6 (by omega)] at hg; rw [← Option.some.inj hg]; exact o6
      · rw [gk 7 (by omega)] at hg; rw [← Option.some.inj hg]; exact o7
      · rw [c8] at hg; rw [← Option.some.inj hg]; rfl
      · rw [c9] at hg; rw [← Option.some.inj hg]; rfl
      · rw [c42] at hg; rw [← Option.some.inj hg]; rfl
  refine ⟨⟨nm, vr, es, dp, pr, cf, pv, fs, ar, sz, (cs.drop 10).take 32, sy, 0⟩, _, _, _, _, _, ⟨q3, q4, q5, q6, q7⟩, ⟨z3, y3, z4, y4, z5, z6, z7, hU⟩, hv1, rfl, one, c0, c1, c2, gk 3 (by omega), gk 4 (by omega), gk 5 (by omega), gk 6 (by omega), gk 7 (by omega), c8, c9, fun j x hj => ?_, c42⟩
  have hj2 : ((cs.drop 10).take 32)[j]? = some x := hj
  have hj' : j < 32 := by
    have := (List.getElem?_eq_some_iff.1 hj2).1
    omega
  rw [List.getElem?_take_of_lt hj', List.getElem?_drop] at hj2
  exact hj2
theorem open_held {cs : List Value} {d : DataW H} {pl : List MemPlace} (hlen0 : cs.length = 44) (hf : DataW.trod enc Try.prog w base spare held fuel 47 cs = some (d, pl)) (hB : ∀ n ∈ d.weights Try.prog 47, n ≤ 140737488351232) :
    ∃ (p : Hk) (d r c v f : Value), HkC cs p d r c v f ∧ HkL w p d r c v f ∧ HkZ p ∧ p.vr.size ≤ 140737488351232 := by
  obtain ⟨xs, n, _, hx, hl, hlen, hfs⟩ := DataW.trod_struct Try.underlying47 hf
  have hxl : xs.length = 2 := hlen
  have hd : d = .agg (xs.map (·.1)) := (Prod.mk.inj hx).1
  subst hd
  have fw := fun {i : Nat} {f : Field} (hf : _) (hi : i < xs.length) => field_w (i := i) (f := f) Try.underlying47 hB hf hi
  have g0 := hfs 0 _ rfl
  have g1 := hfs 1 _ rfl
  change DataW.trod enc Try.prog w base spare held n 45 ((cs.drop 0).take (Try.prog.cellsOf 45)) = xs[0]? at g0
  change DataW.trod enc Try.prog w base spare held n 3 ((cs.drop 43).take (Try.prog.cellsOf 3)) = xs[1]? at g1
  rw [show Try.prog.cellsOf 45 = 43 by kernel_rfl, List.drop_zero, List.getElem?_eq_getElem (show 0 < xs.length by omega)] at g0
  rw [show Try.prog.cellsOf 3 = 1 by kernel_rfl, List.drop_eq_getElem_cons (show 43 < cs.length by omega), List.getElem?_eq_getElem (show 1 < xs.length by omega)] at g1
  obtain ⟨p, dd, rr, cc, vv, ff, hL, hZ, hv, _, one, c0, c1, c2, c3, c4, c5, c6, c7, c8, c9, c10, c42⟩ := open_pk (pl := xs[0].2) (d := xs[0].1) (by rw [List.length_take]; omega) g0 (fw (i := 0) rfl (by omega))
  obtain ⟨mk, e9, _, _⟩ := DataW.trod_int Try.underlying3 g1
  have c43 : cs[43]? = some (.int .i64 mk) := by
    have e : [cs[43]'(by omega)] = [Value.int .i64 mk] := e9
    rw [List.getElem?_eq_getElem (show 43 < cs.length by omega)]
    exact congrArg some (List.cons.inj e).1
  have up : ∀ {j : Nat} {u : Value}, (cs.take 43)[j]? = some u → cs[j]? = some u := fun {j u} h => by
    have hj : j < 43 := by have := (List.getElem?_eq_some_iff.1 h).1; rw [List.length_take] at this; omega
    rw [List.getElem?_take_of_lt hj] at h
    exact h
  refine ⟨{ p with mr := mk }, dd, rr, cc, vv, ff, ⟨hlen0, fun x hx => ?_, up c0, up c1, up c2, up c3, up c4, up c5, up c6, up c7, up c8, up c9, fun j x hj => up (c10 j x hj), up c42, c43⟩, ⟨hL.dl, hL.rl, hL.cl, hL.vl, hL.fl⟩, ⟨hZ.dl, hZ.dls, hZ.rl, hZ.rls, hZ.cl, hZ.vl, hZ.fl, hZ.sl⟩, hv⟩
  obtain ⟨j, hj, rfl⟩ := List.mem_iff_getElem.1 hx
  by_cases e : j = 43
  · subst e
    rw [List.getElem?_eq_getElem hj] at c43
    rw [Option.some.inj c43]
    rfl
  · refine one _ (List.mem_of_getElem? (i := j) ?_)
    rw [List.getElem?_take_of_lt (by show j < 43; have : j < cs.length := hj; omega)]
    exact List.getElem?_eq_getElem hj
theorem cellsHeld : Try.prog.cellsOf 47 = 44 := by kernel_rfl
theorem open_helds (h : DataW.trod enc Try.prog w base spare held fuel 22 [v] = some x) (hB : ∀ n ∈ x.1.weights Try.prog 22, n ≤ 140737488351232) : ∃ hs : List Hk, Hds w v hs ∧ hs.length ≤ 586406201463 ∧ (∀ p ∈ hs, HkZ p) ∧ ∀ p ∈ hs, p.vr.size ≤ 140737488351232 := by
  rcases Go.Deep.open_slice Try.underlying22 h with ⟨h1, rfl⟩ | ⟨a, len, cap, m, n, D, Pl, h1, hb, hl, hm, hmm, rfl, hx⟩
  · obtain rfl : v = .slice none 0 0 := by simpa using h1
    exact ⟨[], ⟨none, 0, rfl, fun h => absurd h (Nat.not_lt_zero _)⟩, by simp, fun p hp => (by cases hp), fun p hp => (by cases hp)⟩
  · obtain rfl : v = .slice (some a) len cap := by simpa using h1
    have hlm : len ≤ m := by rw [hmm]; split <;> omega
    obtain ⟨hw1, hw2⟩ := slice_w Try.underlying22 hB
    rw [bytesH] at hw1
    have each0 : 0 < len → a = ⟨a.block, a.off, none⟩ ∧ a.block < w.heap.size := fun hi => by
      obtain ⟨cs', h2, h3⟩ := hx 0 (by omega)
      rw [cellsHeld] at h2
      obtain ⟨_, hlen, hcell⟩ := World.cells?_some h2
      have k0 := hcell 0 (by omega)
      rw [Nat.zero_mul, add_zero', add_zero', List.getElem?_eq_getElem (by omega)] at k0
      exact plain_a k0
    have each : ∀ i, i < len → ∃ q : Hk, (∃ cs d r c v f, w.rangeAt a.block (a.off + i * 44) cs ∧ HkC cs q d r c v f ∧ HkL w q d r c v f) ∧ HkZ q ∧ q.vr.size ≤ 140737488351232 := fun i hi => by
      obtain ⟨cs', h2, h3⟩ := hx i (by omega)
      rw [cellsHeld] at h2
      obtain ⟨_, hlen, hcell⟩ := World.cells?_some h2
      obtain ⟨p1, p2⟩ := each0 (by omega)
      obtain ⟨q, d, r, c, v, f, k1, k2, k3, k4⟩ := open_held hlen h3 (hw2 i hi)
      refine ⟨q, ⟨cs', d, r, c, v, f, fun j u hj => ?_, k1, k2⟩, k3, k4⟩
      have hj' : j < 44 := by have h := (List.getElem?_eq_some_iff.1 hj).1; rw [← hlen]; exact h
      have k0 := hcell j (by omega)
      rw [Go.Deep.add_add, hj] at k0
      have := plain_i p1 k0
      rw [show a.off + i * 44 + j = a.off + (i * 44 + j) by omega]
      exact this
    have : Inhabited Hk := ⟨⟨.empty, .empty, false, [], [], [], [], [], .empty, 0, [], .empty, 0⟩⟩
    obtain ⟨q, hq⟩ := Go.Deep.choose_lt each
    refine ⟨(List.range len).map q, ⟨some a, cap, by simp, fun h0 => ?_⟩, by simp; omega, fun p hp => ?_, fun p hp => ?_⟩
    · have h0' : 0 < len := by simpa using h0
      obtain ⟨p1, p2⟩ := each0 h0'
      refine ⟨a.block, a.off, by rw [← p1], p2, fun i h hi => ?_⟩
      have hi' : i < len := by have := (List.getElem?_eq_some_iff.1 hi).1; simpa using this
      rw [List.getElem?_map, List.getElem?_range hi'] at hi
      cases hi
      exact (hq i hi').1
    · obtain ⟨i, hi, rfl⟩ := List.mem_map.1 hp
      exact (hq i (List.mem_range.1 hi)).2.1
    · obtain ⟨i, hi, rfl⟩ := List.mem_map.1 hp
      exact (hq i (List.mem_range.1 hi)).2.2
end Go.Proofs.Ytodlmbhlinpoeaa
