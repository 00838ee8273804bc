import Derived.Test.YtkpkpebljkcmkaaDoorMfC
import Derived.Test.YtkpkpebljkcmkaaDoorRows
import Derived.Deep.Strs
import Derived.MapViews
import Derived.DeepKeys2
import Derived.ProofKit
import Derived.OpenShut
import Derived.ShutString
import Derived.ChangeOld
import Derived.SizedLaws
import Derived.ChangeSlices
import Derived.WideShapes
namespace Go.Proofs.YtkpkpebljkcmkaaDoor
open Go.ChangeShapes Go.WideShapes Go.ChangeAt Go.RowKit

theorem plain_a {w : World} {a : Addr} {v : Value} (h : w.cell? a = some v) : a = ⟨a.block, a.off, none⟩ ∧ a.block < w.heap.size := by
  have hs := World.cell?_spot h
  have hb := World.block_lt_of_cell? _ _ h
  obtain ⟨b, o, sp⟩ := a
  have e : sp = none := hs
  subst e
  exact ⟨rfl, hb⟩
theorem add_zero' (a : Addr) : a.add 0 = a := by unfold Addr.add; simp
theorem add_plain' (b o i : Nat) : (⟨b, o, none⟩ : Addr).add i = ⟨b, o + i, none⟩ := by unfold Addr.add; split <;> simp_all
theorem plain_i {w : World} {a : Addr} {i : Nat} {v : Value} (ha : a = ⟨a.block, a.off, none⟩) (h : w.cell? (a.add i) = some v) : w.cell? ⟨a.block, a.off + i, none⟩ = some v := by
  rw [ha, add_plain'] at h
  exact h
/-- LITERALS OF TEXTS AND NUMBERS. -/
def flatL : Lit → Bool
  | .string _ => true
  | .int _ _ => true
  | _ => false
/-- A TYPE OF TEXTS AND NUMBERS ALONE. -/
def nbT (P : Program) : Nat → TypeId → Bool
  | 0, _ => false
  | d + 1, t => match P.underlying t with
    | some (.int _) => true
    | some .string => true
    | some (.array _ e) => nbT P d e
    | some (.struct fs) => fs.toList.all fun f => nbT P d f.type
    | _ => false
theorem mapM_in {α β : Type} (f : α → Option β) : ∀ (L : List α) (ys : List β), L.mapM f = some ys → ∀ y ∈ ys, ∃ x ∈ L, f x = some y
  | [], ys, h, y, hy => by simp at h; subst h; cases hy
  | a :: L, ys, h, y, hy => by
    rw [List.mapM_cons] at h
    simp only [bind, Option.bind_eq_some_iff, pure, Option.some.injEq] at h
    obtain ⟨b, hb, bs, hbs, rfl⟩ := h
    rcases List.mem_cons.1 hy with rfl | hy
    · exact ⟨a, List.mem_cons_self, hb⟩
    · obtain ⟨x, hx, hfx⟩ := mapM_in f L bs hbs y hy
      exact ⟨x, List.mem_cons_of_mem _ hx, hfx⟩
theorem nb_flat {P : Program} : ∀ (d : Nat) (t : TypeId) (cs : List Value) (l : List Lit), nbT P d t = true → P.keyLits d t cs = some l → ∀ c ∈ l, flatL c = true
  | 0, _, _, _, h, _ => by simp [nbT] at h
  | d + 1, t, cs, l, hn, h => by
    unfold nbT at hn
    intro c hc
    cases hu : P.underlying t with
    | none => rw [hu] at hn; cases hn
    | some u =>
      rw [hu] at hn
      cases u with
      | int q =>
        obtain ⟨n, hl⟩ := keyLits_int hu h
        rcases hl with rfl | ⟨rfl, _⟩
        all_goals (simp at hc; subst hc; rfl)
      | string =>
        obtain ⟨n, hl⟩ := keyLits_string hu h
        rcases hl with rfl | ⟨rfl, _⟩
        all_goals (simp at hc; subst hc; rfl)
      | array n e =>
        unfold Program.keyLits at h
        rw [hu] at h
        simp only at hn h
        split at h
        · obtain ⟨ls, h1, rfl⟩ := Option.map_eq_some_iff.1 h
          obtain ⟨m, hm, hcm⟩ := List.mem_flatten.1 hc
          obtain ⟨i, _, hi⟩ := mapM_in _ _ _ h1 m hm
          exact nb_flat d e _ _ hn hi c hcm
        · cases h
      | struct fs =>
        unfold Program.keyLits at h
        rw [hu] at h
        simp only at hn h
        split at h
        · obtain ⟨ls, h1, rfl⟩ := Option.map_eq_some_iff.1 h
          obtain ⟨m, hm, hcm⟩ := List.mem_flatten.1 hc
          obtain ⟨f, hf, hi⟩ := mapM_in _ _ _ h1 m hm
          exact nb_flat d f.type _ _ (List.all_eq_true.1 hn f hf) hi c hcm
        · cases h
      | _ => simp at hn
/-- WEIGHTS. -/
theorem bulkAll {H : Type} : ∀ L : List (DataW H), Rows.uptoBulkAll L = (L.map Rows.uptoBulk).sum
  | [] => by simp [Rows.uptoBulkAll]
  | d :: r => by rw [Rows.uptoBulkAll, bulkAll r, List.map_cons, List.sum_cons]
theorem leSum {f : Nat → Nat} : ∀ n i, i < n → f i ≤ ((List.range n).map f).sum
  | 0, i, h => by omega
  | n + 1, i, h => by
    simp only [List.range_succ, List.map_append, List.map_cons, List.map_nil, List.sum_append, List.sum_cons, List.sum_nil]
    by_cases e : i < n
    · have := leSum (f := f) n i e; omega
    · obtain rfl : i = n := by omega
      omega
theorem len_sum {f : Nat → Nat} : ∀ n, (∀ i, 1 ≤ f i) → n ≤ ((List.range n).map f).sum
  | 0, _ => by simp
  | n + 1, h => by
    have := len_sum (f := f) n h
    have h1 := h n
    simp only [List.range_succ, List.map_append, List.map_cons, List.map_nil, List.sum_append, List.sum_cons, List.sum_nil]
    omega
theorem bulk_pos {H : Type} (d : DataW H) : 1 ≤ Rows.uptoBulk d := by
  cases d with
  | lit l => cases l <;> simp [Rows.uptoBulk]
  | _ => simp [Rows.uptoBulk]
theorem bulk_slice {H : Type} (D : Nat → DataW H) (n : Nat) (r : List (DataW H)) : n ≤ Rows.uptoBulk (.slice ((List.range n).map D) r) ∧ ∀ i, i < n → Rows.uptoBulk (D i) ≤ Rows.uptoBulk (.slice ((List.range n).map D) r) := by
  rw [Rows.uptoBulk, bulkAll, List.map_map]
  have h1 := len_sum (f := fun i => Rows.uptoBulk (D i)) n (fun i => bulk_pos _)
  refine ⟨Nat.le_trans h1 (Nat.le_trans (Nat.le_add_right _ _) (Nat.le_add_right _ _)), fun i hi => ?_⟩
  have h2 := leSum (f := fun i => Rows.uptoBulk (D i)) n i hi
  exact Nat.le_trans h2 (Nat.le_trans (Nat.le_add_right _ _) (Nat.le_add_right _ _))
theorem mem_bulk {H : Type} : ∀ (L : List (DataW H)) (d : DataW H), d ∈ L → Rows.uptoBulk d ≤ Rows.uptoBulkAll L
  | [], _, h => by cases h
  | b :: r, a, h => by
    rw [Rows.uptoBulkAll]
    rcases List.mem_cons.1 h with rfl | h
    · omega
    · have := mem_bulk r a h; omega

variable {H : Type} {enc : TypeId × Value → H} {w : World} {base : Nat} {spare : Nat → Bool} {held : Bool} {fuel : Nat} {v : Value} {x : DataW H × List MemPlace}
/-- A VALUE OF TEXTS AND NUMBERS. -/
theorem open_isT {t k : Nat} {cs : List Value} (kt : Tryd.prog.keyTypeAt 6 t = true) (nb : nbT Tryd.prog 6 t = true) (ti : Tryd.prog.tiled 6 t = true) (hl : cs.length = k) (h : DataW.trod enc Tryd.prog w base spare held fuel t cs = some x) : isT t k cs := by
  obtain ⟨ka, _⟩ := keyLits_of_trod 6 t kt _ _ _ h
  refine ⟨hl, ⟨_, ka⟩, fun u hu => ?_⟩
  have e := cells_of_lits 6 t ti 6 _ _ ka
  rw [e] at hu
  obtain ⟨l, hl2, rfl⟩ := List.mem_map.1 hu
  have hf := nb_flat 6 t _ _ nb ka l hl2
  cases l <;> first | rfl | cases hf
theorem allF_cnt (ps : List Pk) : (allF ps).length = (ps.map (·.fs.length)).sum := by
  unfold allF
  rw [List.length_flatMap]
theorem sum_up {f g : Nat → Nat} : ∀ n, (∀ i, i < n → f i ≤ g i) → ((List.range n).map f).sum ≤ ((List.range n).map g).sum
  | 0, _ => by simp
  | n + 1, h => by
    have := sum_up (f := f) (g := g) n fun i hi => h i (by omega)
    have := h n (by omega)
    simp only [List.range_succ, List.map_append, List.map_cons, List.map_nil, List.sum_append, List.sum_cons, List.sum_nil]
    omega
theorem bulk_sum {H : Type} (D : Nat → DataW H) (n : Nat) (r : List (DataW H)) : ((List.range n).map fun i => Rows.uptoBulk (D i)).sum ≤ Rows.uptoBulk (.slice ((List.range n).map D) r) := by
  rw [Rows.uptoBulk, bulkAll, List.map_map]
  exact Nat.le_trans (Nat.le_add_right _ _) (Nat.le_add_right _ _)
/-- A FILE: its path is no longer than what it holds. -/
theorem open_file {cs : List Value} {d : DataW H} {pl : List MemPlace} (hlen0 : cs.length = 34) (h : DataW.trod enc Tryd.prog w base spare held fuel 40 cs = some (d, pl)) : isT 40 34 cs ∧ (pth cs).size ≤ Rows.uptoBulk d := by
  refine ⟨open_isT (by kernel_rfl) (by kernel_rfl) (by kernel_rfl) hlen0 h, ?_⟩
  obtain ⟨xs, n, _, hx, hl, hlen, hfs⟩ := DataW.trod_struct Tryd.underlying40 h
  have hxl : xs.length = 3 := hlen
  have hd : d = .agg (xs.map (·.1)) := (Prod.mk.inj hx).1
  have g0 := hfs 0 _ rfl
  change DataW.trod enc Tryd.prog w base spare held n 9 ((cs.drop 0).take (Tryd.prog.cellsOf 9)) = xs[0]? at g0
  rw [cells9, List.getElem?_eq_getElem (show 0 < xs.length by omega), List.drop_zero] at g0
  have e1 : cs.take 1 = [cs[0]'(by omega)] := by
    cases cs with
    | nil => simp at hlen0
    | cons a l => rfl
  rw [e1] at g0
  obtain ⟨s, e0, e0b, _⟩ := DataW.trod_string Tryd.underlying9 g0
  have e0' : cs[0]'(by omega) = .string s := by simpa using e0
  have hp : pth cs = s := by
    unfold pth
    rw [List.getElem?_eq_getElem (show 0 < cs.length by omega), e0']
  rw [hp]
  have hb := mem_bulk (xs.map (·.1)) xs[0].1 (List.mem_map.2 ⟨_, List.getElem_mem _, rfl⟩)
  rw [show xs[0].1 = .lit (.string s.data.toList) from congrArg Prod.fst e0b, Rows.uptoBulk] at hb
  have e : s.data.toList.length = s.size := Array.length_toList
  rw [hd, Rows.uptoBulk]
  omega
set_option maxRecDepth 100000 in
theorem open_files (h : DataW.trod enc Tryd.prog w base spare held fuel 24 [v] = some x) : ∃ fl : List (List Value), Rws 40 34 w v fl ∧ fl.length ≤ Rows.uptoBulk x.1 ∧ ∀ r ∈ fl, (pth r).size ≤ Rows.uptoBulk x.1 := by
  rcases Go.Deep.open_slice Tryd.underlying24 h with ⟨h1, rfl⟩ | ⟨a, len, cap, m, n, D, Pl, h1, hb, hl, hm, hmm, rfl, hx⟩
  · obtain rfl : v = .slice none 0 0 := by simpa using h1
    exact ⟨[], Rws.nil _ _ _ _ _, Nat.zero_le _, fun r hr => by cases hr⟩
  · obtain rfl : v = .slice (some a) len cap := by simpa using h1
    have hlm : len ≤ m := by rw [hmm]; split <;> omega
    have hS := bulk_slice (H := H) D len ((List.range (m - len)).map fun j => D (len + j))
    have each0 : 0 < len → a = ⟨a.block, a.off, none⟩ ∧ a.block < w.heap.size := fun hi => by
      obtain ⟨cs', h2, h3⟩ := hx 0 (by omega)
      rw [cellsF] at h2
      obtain ⟨_, hlen, hcell⟩ := World.cells?_some h2
      have k0 := hcell 0 (by omega)
      rw [Nat.zero_mul, add_zero', add_zero', List.getElem?_eq_getElem (by omega)] at k0
      exact plain_a k0
    have each : ∀ i, i < len → ∃ f : List Value, (isT 40 34 f ∧ (pth f).size ≤ Rows.uptoBulk (D i)) ∧ w.rangeAt a.block (a.off + i * 34) f := fun i hi => by
      obtain ⟨cs', h2, h3⟩ := hx i (by omega)
      rw [cellsF] at h2
      obtain ⟨_, hlen, hcell⟩ := World.cells?_some h2
      obtain ⟨p1, p2⟩ := each0 (by omega)
      refine ⟨cs', open_file hlen h3, fun j u hj => ?_⟩
      have hj' : j < 34 := by have h := (List.getElem?_eq_some_iff.1 hj).1; rw [← hlen]; exact h
      have k0 := hcell j (by omega)
      rw [Go.Deep.add_add, hj] at k0
      have := plain_i p1 k0
      rw [show a.off + i * 34 + j = a.off + (i * 34 + j) by omega]
      exact this
    haveI : Inhabited (List Value) := ⟨[]⟩
    obtain ⟨q, hq⟩ := Go.Deep.choose_lt each
    refine ⟨(List.range len).map q, ⟨some a, cap, by simp, fun f hf => ?_, fun h0 => ?_⟩, by simpa using hS.1, fun f hf => ?_⟩
    · obtain ⟨i, hi, rfl⟩ := List.mem_map.1 hf
      exact (hq i (List.mem_range.1 hi)).1.1
    · have h0' : 0 < len := by simpa using h0
      obtain ⟨p1, p2⟩ := each0 h0'
      refine ⟨a.block, a.off, by rw [← p1], p2, fun i f hi => ?_⟩
      have hi' : i < len := by have := (List.getElem?_eq_some_iff.1 hi).1; simpa using this
      rw [List.getElem?_map, List.getElem?_range hi'] at hi
      cases hi
      exact (hq i hi').2
    · obtain ⟨i, hi, rfl⟩ := List.mem_map.1 hf
      exact Nat.le_trans (hq i (List.mem_range.1 hi)).1.2 (hS.2 i (List.mem_range.1 hi))
theorem slice_one {t e : TypeId} (ht : Tryd.prog.underlying t = some (.slice e)) (h : DataW.trod enc Tryd.prog w base spare held fuel t [v] = some x) : v.oneCell' = true := by
  rcases Go.Deep.open_slice ht h with ⟨h1, rfl⟩ | ⟨a, len, cap, m, n, D, Pl, h1, hb, hl, hm, hmm, rfl, hx⟩
  · obtain rfl : v = .slice none 0 0 := by simpa using h1
    rfl
  · obtain rfl : v = .slice (some a) len cap := by simpa using h1
    rfl
set_option maxRecDepth 100000 in
theorem open_pk {cs : List Value} {d : DataW H} {pl : List MemPlace} (hlen0 : cs.length = 43) (hf : DataW.trod enc Tryd.prog w base spare held fuel 49 cs = some (d, pl)) :
    ∃ (p : Pk) (x : Value), PkC cs p x ∧ Rws 40 34 w x p.fs ∧ p.fs.length ≤ Rows.uptoBulk d ∧ ∀ r ∈ p.fs, (pth r).size ≤ Rows.uptoBulk d := by
  obtain ⟨xs, n, _, hx, hl, hlen, hfs⟩ := DataW.trod_struct Tryd.underlying49 hf
  have hxl : xs.length = 12 := hlen
  have hd : d = .agg (xs.map (·.1)) := (Prod.mk.inj hx).1
  have hbk : ∀ i (hi : i < xs.length), Rows.uptoBulk xs[i].1 ≤ Rows.uptoBulk d := fun i hi => by
    have := mem_bulk (xs.map (·.1)) xs[i].1 (List.mem_map.2 ⟨_, List.getElem_mem hi, rfl⟩)
    rw [hd, Rows.uptoBulk]
    omega
  have t0 : ∀ k, k < 43 → (cs.drop k).take 1 = [cs.getD k (.bool false)] := fun k hk => by
    rw [List.drop_eq_getElem_cons (show k < cs.length by omega), List.getD_eq_getElem?_getD, List.getElem?_eq_getElem (show k < cs.length by omega)]
    rfl
  have gk : ∀ k, k < 43 → cs[k]? = some (cs.getD k (.bool false)) := fun k hk => by
    simp only [List.getD, List.getElem?_eq_getElem (show k < cs.length by omega)]
    rfl
  have g0 := hfs 0 _ rfl
  have g1 := hfs 1 _ rfl
  have g2 := hfs 2 _ rfl
  have g3 := hfs 3 _ rfl
  have g4 := hfs 4 _ rfl
  have g5 := hfs 5 _ rfl
  have g6 := hfs 6 _ rfl
  have g7 := hfs 7 _ rfl
  have g8 := hfs 8 _ rfl
  have g9 := hfs 9 _ rfl
  have g10 := hfs 10 _ rfl
  have g11 := hfs 11 _ rfl
  change DataW.trod enc Tryd.prog w base spare held n 9 ((cs.drop 0).take (Tryd.prog.cellsOf 9)) = xs[0]? at g0
  change DataW.trod enc Tryd.prog w base spare held n 9 ((cs.drop 1).take (Tryd.prog.cellsOf 9)) = xs[1]? at g1
  change DataW.trod enc Tryd.prog w base spare held n 4 ((cs.drop 2).take (Tryd.prog.cellsOf 4)) = xs[2]? at g2
  change DataW.trod enc Tryd.prog w base spare held n 45 ((cs.drop 3).take (Tryd.prog.cellsOf 45)) = xs[3]? at g3
  change DataW.trod enc Tryd.prog w base spare held n 45 ((cs.drop 4).take (Tryd.prog.cellsOf 45)) = xs[4]? at g4
  change DataW.trod enc Tryd.prog w base spare held n 46 ((cs.drop 5).take (Tryd.prog.cellsOf 46)) = xs[5]? at g5
  change DataW.trod enc Tryd.prog w base spare held n 47 ((cs.drop 6).take (Tryd.prog.cellsOf 47)) = xs[6]? at g6
  change DataW.trod enc Tryd.prog w base spare held n 24 ((cs.drop 7).take (Tryd.prog.cellsOf 24)) = xs[7]? at g7
  change DataW.trod enc Tryd.prog w base spare held n 9 ((cs.drop 8).take (Tryd.prog.cellsOf 9)) = xs[8]? at g8
  change DataW.trod enc Tryd.prog w base spare held n 3 ((cs.drop 9).take (Tryd.prog.cellsOf 3)) = xs[9]? at g9
  change DataW.trod enc Tryd.prog w base spare held n 38 ((cs.drop 10).take (Tryd.prog.cellsOf 38)) = xs[10]? at g10
  change DataW.trod enc Tryd.prog w base spare held n 9 ((cs.drop 42).take (Tryd.prog.cellsOf 9)) = xs[11]? at g11
  rw [show Tryd.prog.cellsOf 9 = 1 by kernel_rfl] at g0 g1 g8 g11
  rw [show Tryd.prog.cellsOf 4 = 1 by kernel_rfl] at g2
  rw [show Tryd.prog.cellsOf 45 = 1 by kernel_rfl] at g3 g4
  rw [show Tryd.prog.cellsOf 46 = 1 by kernel_rfl] at g5
  rw [show Tryd.prog.cellsOf 47 = 1 by kernel_rfl] at g6
  rw [show Tryd.prog.cellsOf 24 = 1 by kernel_rfl] at g7
  rw [show Tryd.prog.cellsOf 3 = 1 by kernel_rfl] at g9
  rw [show Tryd.prog.cellsOf 38 = 32 by kernel_rfl] at g10
  rw [t0 0 (by omega), List.getElem?_eq_getElem (show 0 < xs.length by omega)] at g0
  rw [t0 1 (by omega), List.getElem?_eq_getElem (show 1 < xs.length by omega)] at g1
  rw [t0 2 (by omega), List.getElem?_eq_getElem (show 2 < xs.length by omega)] at g2
  rw [t0 3 (by omega), List.getElem?_eq_getElem (show 3 < xs.length by omega)] at g3
  rw [t0 4 (by omega), List.getElem?_eq_getElem (show 4 < xs.length by omega)] at g4
  rw [t0 5 (by omega), List.getElem?_eq_getElem (show 5 < xs.length by omega)] at g5
  rw [t0 6 (by omega), List.getElem?_eq_getElem (show 6 < xs.length by omega)] at g6
  rw [t0 7 (by omega), List.getElem?_eq_getElem (show 7 < xs.length by omega)] at g7
  rw [t0 8 (by omega), List.getElem?_eq_getElem (show 8 < xs.length by omega)] at g8
  rw [t0 9 (by omega), List.getElem?_eq_getElem (show 9 < xs.length by omega)] at g9
  rw [List.getElem?_eq_getElem (show 10 < xs.length by omega)] at g10
  rw [t0 42 (by omega), List.getElem?_eq_getElem (show 11 < xs.length by omega)] at g11
  obtain ⟨nm, e0, e0b, zn⟩ := DataW.trod_string Tryd.underlying9 g0
  obtain ⟨vr, e1, _, zv⟩ := DataW.trod_string Tryd.underlying9 g1
  obtain ⟨es, e2, _⟩ := DataW.trod_bool Tryd.underlying4 g2
  obtain ⟨ar, e8, _, _⟩ := DataW.trod_string Tryd.underlying9 g8
  obtain ⟨sz, e9, _, _⟩ := DataW.trod_int Tryd.underlying3 g9
  obtain ⟨ka, _⟩ := keyLits_of_trod 6 38 (by kernel_rfl) _ _ _ g10
  obtain ⟨sy, eb, _, _⟩ := DataW.trod_string Tryd.underlying9 g11
  have o3 := slice_one Tryd.underlying45 g3
  have o4 := slice_one Tryd.underlying45 g4
  have o5 := slice_one Tryd.underlying46 g5
  have o6 := slice_one Tryd.underlying47 g6
  have o7 := slice_one Tryd.underlying24 g7
  have hl32 : ((cs.drop 10).take 32).length = 32 := by simp only [List.length_take, List.length_drop]; omega
  have ho : ∀ u ∈ (cs.drop 10).take 32, u.oneCell' = true := fun u hu => by
    have e := cells_of_lits 6 38 (by kernel_rfl) 6 _ _ ka
    have hu' : u ∈ xs[10].1.flat.map Lit.toCell := by rw [← e]; exact hu
    obtain ⟨l, hl2, rfl⟩ := List.mem_map.1 hu'
    have hf := nb_flat 6 38 _ _ (by kernel_rfl) ka l hl2
    cases l <;> first | rfl | cases hf
  have c0 : cs[0]? = some (.string nm) := by rw [gk 0 (by omega)]; simpa using e0
  have c1 : cs[1]? = some (.string vr) := by rw [gk 1 (by omega)]; simpa using e1
  have c2 : cs[2]? = some (.bool es) := by rw [gk 2 (by omega)]; simpa using e2
  have c8 : cs[8]? = some (.string ar) := by rw [gk 8 (by omega)]; simpa using e8
  have c9 : cs[9]? = some (.int .i64 sz) := by rw [gk 9 (by omega)]; simpa using e9
  have c42 : cs[42]? = some (.string sy) := by rw [gk 42 (by omega)]; simpa using eb
  have one : ∀ x ∈ cs, x.oneCell' = true := fun x hx => by
    obtain ⟨j, hj, rfl⟩ := List.mem_iff_getElem.1 hx
    have hg := List.getElem?_eq_getElem hj
    by_cases h10 : 10 ≤ j ∧ j < 42
    · refine ho _ ?_
      refine List.mem_of_getElem? (i := j - 10) ?_
      rw [List.getElem?_take_of_lt (by omega), List.getElem?_drop, show 10 + (j - 10) = j by omega]
      exact hg
    · have hjs : j = 0 ∨ j = 1 ∨ j = 2 ∨ j = 3 ∨ j = 4 ∨ j = 5 ∨ j = 6 ∨ j = 7 ∨ j = 8 ∨ j = 9 ∨ j = 42 := by omega
      rcases hjs with rfl | rfl | rfl | rfl | rfl | rfl | rfl | rfl | rfl | rfl | rfl
      · rw [c0] at hg; rw [← Option.some.inj hg]; rfl
      · rw [c1] at hg; rw [← Option.some.inj hg]; rfl
      · rw [c2] at hg; rw [← Option.some.inj hg]; rfl
      · rw [gk 3 (by omega)] at hg; rw [← Option.some.inj hg]; exact o3
      · rw [gk 4 (by omega)] at hg; rw [← Option.some.inj hg]; exact o4
      · rw [gk 5 (by omega)] at hg; rw [← Option.some.inj hg]; exact o5
      · rw [gk 6 (by omega)] at hg; rw [← Option.some.inj hg]; exact o6
      · rw [gk 7 (by omega)] at hg; rw [← Option.some.inj hg]; exact o7
      · rw [c8] at hg; rw [← Option.some.inj hg]; rfl
      · rw [c9] at hg; rw [← Option.some.inj hg]; rfl
      · rw [c42] at hg; rw [← Option.some.inj hg]; rfl
  obtain ⟨fs, q7, z7, y7⟩ := open_files g7
  have h7 := hbk 7 (by omega)
  exact ⟨⟨nm, vr, fs⟩, _, ⟨hlen0, one, c0, c1, gk 7 (by omega)⟩, q7, Nat.le_trans z7 h7, fun r hr => Nat.le_trans (y7 r hr) h7⟩
theorem cellsK43 : Tryd.prog.cellsOf 49 = 43 := by kernel_rfl
set_option maxRecDepth 100000 in
theorem open_pks (h : DataW.trod enc Tryd.prog w base spare held fuel 22 [v] = some x) (hB : Rows.uptoBulk x.1 ≤ 1048576) : ∃ ps : List Pk, Pks w v ps ∧ ps.length ≤ 1048576 ∧ (allF ps).length ≤ 1048576 ∧ ∀ r ∈ allF ps, (pth r).size ≤ 1048576 := by
  rcases Go.Deep.open_slice Tryd.underlying22 h with ⟨h1, rfl⟩ | ⟨a, len, cap, m, n, D, Pl, h1, hb, hl, hm, hmm, rfl, hx⟩
  · obtain rfl : v = .slice none 0 0 := by simpa using h1
    exact ⟨[], ⟨none, 0, rfl, fun h => absurd h (Nat.not_lt_zero _)⟩, by simp, by simp [allF], fun r hr => by cases hr⟩
  · obtain rfl : v = .slice (some a) len cap := by simpa using h1
    have hlm : len ≤ m := by rw [hmm]; split <;> omega
    have hS := bulk_slice (H := H) D len ((List.range (m - len)).map fun j => D (len + j))
    have hT := bulk_sum (H := H) D len ((List.range (m - len)).map fun j => D (len + j))
    have hB' : Rows.uptoBulk (DataW.slice ((List.range len).map D) ((List.range (m - len)).map fun j => D (len + j))) ≤ 1048576 := hB
    have each0 : 0 < len → a = ⟨a.block, a.off, none⟩ ∧ a.block < w.heap.size := fun hi => by
      obtain ⟨cs', h2, h3⟩ := hx 0 (by omega)
      rw [cellsK43] at h2
      obtain ⟨_, hlen, hcell⟩ := World.cells?_some h2
      have k0 := hcell 0 (by omega)
      rw [Nat.zero_mul, add_zero', add_zero', List.getElem?_eq_getElem (by omega)] at k0
      exact plain_a k0
    have each : ∀ i, i < len → ∃ q : Pk, (∃ cs x, w.rangeAt a.block (a.off + i * 43) cs ∧ PkC cs q x ∧ Rws 40 34 w x q.fs) ∧ q.fs.length ≤ Rows.uptoBulk (D i) ∧ ∀ r ∈ q.fs, (pth r).size ≤ Rows.uptoBulk (D i) := fun i hi => by
      obtain ⟨cs', h2, h3⟩ := hx i (by omega)
      rw [cellsK43] at h2
      obtain ⟨_, hlen, hcell⟩ := World.cells?_some h2
      obtain ⟨p1, p2⟩ := each0 (by omega)
      obtain ⟨q, x, k1, k2, k3, k4⟩ := open_pk hlen h3
      refine ⟨q, ⟨cs', x, fun j u hj => ?_, k1, k2⟩, k3, k4⟩
      have hj' : j < 43 := by have h := (List.getElem?_eq_some_iff.1 hj).1; rw [← hlen]; exact h
      have k0 := hcell j (by omega)
      rw [Go.Deep.add_add, hj] at k0
      have := plain_i p1 k0
      rw [show a.off + i * 43 + j = a.off + (i * 43 + j) by omega]
      exact this
    haveI : Inhabited Pk := ⟨⟨.empty, .empty, []⟩⟩
    obtain ⟨q, hq⟩ := Go.Deep.choose_lt each
    refine ⟨(List.range len).map q, ⟨some a, cap, by simp, fun h0 => ?_⟩, by simpa using Nat.le_trans hS.1 hB', ?_, fun r hr => ?_⟩
    · have h0' : 0 < len := by simpa using h0
      obtain ⟨p1, p2⟩ := each0 h0'
      refine ⟨a.block, a.off, by rw [← p1], p2, fun i h hi => ?_⟩
      have hi' : i < len := by have := (List.getElem?_eq_some_iff.1 hi).1; simpa using this
      rw [List.getElem?_map, List.getElem?_range hi'] at hi
      cases hi
      exact (hq i hi').1
    · rw [allF_cnt, List.map_map]
      exact Nat.le_trans (sum_up (f := fun i => (q i).fs.length) (g := fun i => Rows.uptoBulk (D i)) len fun i hi => (hq i hi).2.1) (Nat.le_trans hT hB')
    · obtain ⟨p, hp, hr⟩ := List.mem_flatMap.1 hr
      obtain ⟨i, hi, rfl⟩ := List.mem_map.1 hp
      have hi' := List.mem_range.1 hi
      exact Nat.le_trans ((hq i hi').2.2 r hr) (Nat.le_trans (hS.2 i hi') hB')
end Go.Proofs.YtkpkpebljkcmkaaDoor
