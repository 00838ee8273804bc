import Derived.Test.YtdkpglmdncjnbaaGreatDoorZf49
import Derived.Test.YtdkpglmdncjnbaaGreatDoorRows
import Derived.MapViews
import Derived.DeepKeys2
import Derived.ProofKit
import Derived.OpenShut
import Derived.ShutString
import Derived.ChangeOld
import Derived.SizedLaws
import Derived.ChangeSlices
import Derived.WideShapes
namespace Go.Proofs.YtdkpglmdncjnbaaGreatDoor
open Go.ChangeShapes Go.WideShapes Go.ChangeAt Go.RowKit
theorem plain_a {w : World} {a : Addr} {v : Value} (h : w.cell? a = some v) : a = ⟨a.block, a.off, none⟩ ∧ a.block < w.heap.size := by
 have hs := World.cell?_spot h
 have hb := World.block_lt_of_cell? _ _ h
 obtain ⟨b, o, sp⟩ := a
 have e : sp = none := hs
 subst e
 exact ⟨rfl, hb⟩
theorem add_zero' (a : Addr) : a.add 0 = a := by unfold Addr.add; simp
theorem add_plain' (b o i : Nat) : (⟨b, o, none⟩ : Addr).add i = ⟨b, o + i, none⟩ := by unfold Addr.add; split <;> simp_all
theorem plain_i {w : World} {a : Addr} {i : Nat} {v : Value} (ha : a = ⟨a.block, a.off, none⟩) (h : w.cell? (a.add i) = some v) : w.cell? ⟨a.block, a.off + i, none⟩ = some v := by
 rw [ha, add_plain'] at h
 exact h
theorem maxLen_eq : maxLen = 9223372036854775807 := by decide
theorem bulkAll {H : Type} : ∀ L : List (DataW H), Rows.uptoBulkAll L = (L.map Rows.uptoBulk).sum
 | [] => by simp [Rows.uptoBulkAll]
 | d :: r => by rw [Rows.uptoBulkAll, bulkAll r, List.map_cons, List.sum_cons]
theorem leSum {f : Nat → Nat} : ∀ n i, i < n → f i ≤ ((List.range n).map f).sum
 | 0, i, h => by omega
 | n + 1, i, h => by
   simp only [List.range_succ, List.map_append, List.map_cons, List.map_nil, List.sum_append, List.sum_cons, List.sum_nil]
   by_cases e : i < n
   ·have := leSum (f := f) n i e; omega
   ·obtain rfl : i = n := by omega
    omega
theorem len_sum {f : Nat → Nat} : ∀ n, (∀ i, 1 ≤ f i) → n ≤ ((List.range n).map f).sum
 | 0, _ => by simp
 | n + 1, h => by
   have := len_sum (f := f) n h
   have h1 := h n
   simp only [List.range_succ, List.map_append, List.map_cons, List.map_nil, List.sum_append, List.sum_cons, List.sum_nil]
   omega
theorem bulk_pos {H : Type} (d : DataW H) : 1 ≤ Rows.uptoBulk d := by
 cases d with
 | lit l => cases l <;> simp [Rows.uptoBulk]
 | _ => simp [Rows.uptoBulk]
theorem bulk_slice {H : Type} (D : Nat → DataW H) (n : Nat) (r : List (DataW H)) : n ≤ Rows.uptoBulk (.slice ((List.range n).map D) r) ∧ ∀ i, i < n → Rows.uptoBulk (D i) ≤ Rows.uptoBulk (.slice ((List.range n).map D) r) := by
 rw [Rows.uptoBulk, bulkAll, List.map_map]
 have h1 := len_sum (f := fun i => Rows.uptoBulk (D i)) n (fun i => bulk_pos _)
 refine ⟨Nat.le_trans h1 (Nat.le_trans (Nat.le_add_right _ _) (Nat.le_add_right _ _)), fun i hi => ?_⟩
 have h2 := leSum (f := fun i => Rows.uptoBulk (D i)) n i hi
 exact Nat.le_trans h2 (Nat.le_trans (Nat.le_add_right _ _) (Nat.le_add_right _ _))
theorem mem_bulk {H : Type} : ∀ (L : List (DataW H)) (d : DataW H), d ∈ L → Rows.uptoBulk d ≤ Rows.uptoBulkAll L
 | [], _, h => by cases h
 | b :: r, a, h => by
   rw [Rows.uptoBulkAll]
   rcases List.mem_cons.1 h with rfl | h
   ·omega
   ·have := mem_bulk r a h; omega
def flatL : Lit → Bool
 | .string _ => true
 | .int _ _ => true
 | _ => false
def nbT (P : Program) : Nat → TypeId → Bool
 | 0, _ => false
 | d + 1, t => match P.underlying t with
   | some (.int _) => true
   | some .string => true
   | some (.array _ e) => nbT P d e
   | some (.struct fs) => fs.toList.all fun f => nbT P d f.type
   | _ => false
theorem mapM_mem {α β : Type} (f : α → Option β) : ∀ (L : List α) (ys : List β), L.mapM f = some ys → ∀ y ∈ ys, ∃ x ∈ L, f x = some y
 | [], ys, h, y, hy => by simp at h; subst h; cases hy
 | a :: L, ys, h, y, hy => by
   rw [List.mapM_cons] at h
   simp only [bind, Option.bind_eq_some_iff, pure, Option.some.injEq] at h
   obtain ⟨b, hb, bs, hbs, rfl⟩ := h
   rcases List.mem_cons.1 hy with rfl | hy
   ·exact ⟨a, List.mem_cons_self, hb⟩
   ·obtain ⟨x, hx, hfx⟩ := mapM_mem f L bs hbs y hy
    exact ⟨x, List.mem_cons_of_mem _ hx, hfx⟩
theorem nb_flat {P : Program} : ∀ (d : Nat) (t : TypeId) (cs : List Value) (l : List Lit), nbT P d t = true → P.keyLits d t cs = some l → ∀ c ∈ l, flatL c = true
 | 0, _, _, _, h, _ => by simp [nbT] at h
 | d + 1, t, cs, l, hn, h => by
   unfold nbT at hn
   intro c hc
   cases hu : P.underlying t with
   | none => rw [hu] at hn; cases hn
   | some u =>
     rw [hu] at hn
     cases u with
     | int q =>
       obtain ⟨n, hl⟩ := keyLits_int hu h
       rcases hl with rfl | ⟨rfl, _⟩
       all_goals (simp at hc; subst hc; rfl)
     | string =>
       obtain ⟨n, hl⟩ := keyLits_string hu h
       rcases hl with rfl | ⟨rfl, _⟩
       all_goals (simp at hc; subst hc; rfl)
     | array n e =>
       unfold Program.keyLits at h
       rw [hu] at h
       simp only at hn h
       split at h
       ·obtain ⟨ls, h1, rfl⟩ := Option.map_eq_some_iff.1 h
        obtain ⟨m, hm, hcm⟩ := List.mem_flatten.1 hc
        obtain ⟨i, _, hi⟩ := mapM_mem _ _ _ h1 m hm
        exact nb_flat d e _ _ hn hi c hcm
       ·cases h
     | struct fs =>
       unfold Program.keyLits at h
       rw [hu] at h
       simp only at hn h
       split at h
       ·obtain ⟨ls, h1, rfl⟩ := Option.map_eq_some_iff.1 h
        obtain ⟨m, hm, hcm⟩ := List.mem_flatten.1 hc
        obtain ⟨f, hf, hi⟩ := mapM_mem _ _ _ h1 m hm
        exact nb_flat d f.type _ _ (List.all_eq_true.1 hn f hf) hi c hcm
       ·cases h
     | _ => simp at hn
section
variable {H : Type} {enc : TypeId × Value → H} {w : World} {base : Nat} {spare : Nat → Bool} {held : Bool} {fuel : Nat} {v : Value} {x : DataW H × List MemPlace}
theorem open_texts (h : DataW.trod enc Tryz.prog w base spare held fuel 42 [v] = some x) : ∃ pl : List ByteArray, Strs w v pl ∧ pl.length ≤ Rows.uptoBulk x.1 ∧ ∀ n ∈ pl, n.size ≤ maxLen := by
 rcases Go.Deep.open_strs Tryz.underlying42 Tryz.underlying9 (by kernel_rfl) h with ⟨h1, rfl⟩ | ⟨a, len, cap, m, Sx, h1, hb, hl, hm, hmm, rfl, hx⟩
 ·obtain rfl : v = .slice none 0 0 := by simpa using h1
  exact ⟨[], ⟨none, 0, rfl, by simp, fun i hi => absurd hi (Nat.not_lt_zero _)⟩, by simp, fun n hn => by cases hn⟩
 ·obtain rfl : v = .slice (some a) len cap := by simpa using h1
  have hlm : len ≤ m := by rw [hmm]; split <;> omega
  have hmx := maxLen_eq
  refine ⟨(List.range len).map Sx, ⟨some a, cap, by simp, by simp; omega, fun i hi => ?_⟩, ?_, fun n hn => ?_⟩
  ·have hi' : i < len := by simpa using hi
   have h4 := (hx 0 (by omega)).1
   rw [add_zero'] at h4
   obtain ⟨e1, e2⟩ := plain_a h4
   refine ⟨a.block, a.off, by rw [← e1], e2, ?_⟩
   rw [plain_i e1 (hx i (by omega)).1]
   simp
  ·have := (bulk_slice (H := H) (fun i => .lit (.string (Sx i).data.toList)) len ((List.range (m - len)).map fun j => .lit (.string (Sx (len + j)).data.toList))).1
   simpa using this
  ·obtain ⟨i, hi, rfl⟩ := List.mem_map.1 hn
   exact (hx i (by have : i < len := by simpa using hi
                   omega)).2
set_option maxRecDepth 100000 in
theorem open_atoms {t : TypeId} (ht : Tryz.prog.underlying t = some (.slice 48)) (h : DataW.trod enc Tryz.prog w base spare held fuel t [v] = some x) (hB : Rows.uptoBulk x.1 ≤ 1048576) : ∃ al : List At, Ats w v al ∧ al.length ≤ Rows.uptoBulk x.1 ∧ ∀ i (h : i < al.length), al[i].n.size ≤ maxLen ∧ al[i].v.size ≤ maxLen := by
 rcases Go.Deep.open_slice ht h with ⟨h1, rfl⟩ | ⟨a, len, cap, m, n, D, Pl, h1, hb, hl, hm, hmm, rfl, hx⟩
 ·obtain rfl : v = .slice none 0 0 := by simpa using h1
  exact ⟨[], ⟨none, 0, rfl, by simp, fun i hi => absurd hi (Nat.not_lt_zero _)⟩, by simp, fun i hi => absurd hi (Nat.not_lt_zero _)⟩
 ·obtain rfl : v = .slice (some a) len cap := by simpa using h1
  have hlm : len ≤ m := by rw [hmm]; split <;> omega
  have hmx := maxLen_eq
  have cA : Tryz.prog.cellsOf 48 = 3 := by kernel_rfl
  have each0 : 0 < len → a = ⟨a.block, a.off, none⟩ ∧ a.block < w.heap.size := fun hi => by
   obtain ⟨cs', h2, h3⟩ := hx 0 (by omega)
   rw [cA] at h2
   obtain ⟨_, hlen, hcell⟩ := World.cells?_some h2
   have k0 := hcell 0 (by omega)
   rw [Nat.zero_mul, add_zero', add_zero', List.getElem?_eq_getElem (by omega)] at k0
   exact plain_a k0
  have each : ∀ i, i < len → ∃ q : At, w.cell? ⟨a.block, a.off + i * 3, none⟩ = some (.string q.n) ∧ w.cell? ⟨a.block, a.off + i * 3 + 1, none⟩ = some (.int .i64 q.op) ∧ w.cell? ⟨a.block, a.off + i * 3 + 2, none⟩ = some (.string q.v) ∧ q.n.size ≤ maxLen ∧ q.v.size ≤ maxLen := fun i hi => by
   obtain ⟨cs', h2, h3⟩ := hx i (by omega)
   rw [cA] at h2
   obtain ⟨_, hlen, hcell⟩ := World.cells?_some h2
   match cs', hlen with
   | [c0, c1, c2], _ =>
     obtain ⟨xs, n', _, hx', hl', hlen', hfs⟩ := DataW.trod_struct Tryz.underlying48 h3
     match xs, hlen' with
     | [y0, y1, y2], _ =>
       have g0 := hfs 0 _ rfl
       have g1 := hfs 1 _ rfl
       have g2 := hfs 2 _ rfl
       simp [show Tryz.prog.cellsOf 9 = 1 by kernel_rfl, show Tryz.prog.cellsOf 3 = 1 by kernel_rfl] at g0 g1 g2
       obtain ⟨e, e0, rfl, z0⟩ := DataW.trod_string Tryz.underlying9 g0
       obtain ⟨o, e1, rfl, z1⟩ := DataW.trod_int Tryz.underlying3 g1
       obtain ⟨r, e2, rfl, z2⟩ := DataW.trod_string Tryz.underlying9 g2
       simp at e0 e1 e2
       subst e0 e1 e2
       have k0 := hcell 0 (by omega)
       have k1 := hcell 1 (by omega)
       have k2 := hcell 2 (by omega)
       rw [Go.Deep.add_add] at k0 k1 k2
       simp only [List.getElem?_cons_zero, List.getElem?_cons_succ] at k0 k1 k2
       obtain ⟨p1, p2⟩ := each0 (by omega)
       exact ⟨⟨e, o, r⟩, plain_i p1 k0, plain_i p1 k1, plain_i p1 k2, z0, z2⟩
  have : Inhabited At := ⟨⟨.empty, 0, .empty⟩⟩
  obtain ⟨q, hq⟩ := Go.Deep.choose_lt each
  have hbk := (bulk_slice (H := H) D len ((List.range (m - len)).map fun j => D (len + j))).1
  have hbl : len ≤ 1048576 := by
   have h9 : len ≤ Rows.uptoBulk (DataW.slice ((List.range len).map D) ((List.range (m - len)).map fun j => D (len + j))) := hbk
   exact Nat.le_trans h9 hB
  refine ⟨(List.range len).map q, ⟨some a, cap, by simp, by simp; omega, fun i hi => ?_⟩, by simpa using hbk, fun i hi => ?_⟩
  ·have hi' : i < len := by simpa using hi
   obtain ⟨p1, p2⟩ := each0 (by omega)
   obtain ⟨p3, p4, p5, _⟩ := hq i hi'
   refine ⟨a.block, a.off, by rw [← p1], p2, ?_, ?_, ?_⟩
   ·rw [p3]; simp
   ·rw [p4]; simp
   ·rw [p5]; simp
  ·have hi' : i < len := by simpa using hi
   have := (hq i hi').2.2.2
   simpa using this
theorem open_clauses (h : DataW.trod enc Tryz.prog w base spare held fuel 40 [v] = some x) (hB : Rows.uptoBulk x.1 ≤ 1048576) : ∃ cl : List (List At), Cls w v cl ∧ cl.length ≤ Rows.uptoBulk x.1 ∧ (∀ al ∈ cl, al.length ≤ 1048576 ∧ ∀ a ∈ al, a.n.size ≤ maxLen ∧ a.v.size ≤ maxLen) ∧ (clN cl).length ≤ Rows.uptoBulk x.1 := by
 rcases Go.Deep.open_slice1 Tryz.underlying40 (by kernel_rfl) h with ⟨h1, rfl⟩ | ⟨a, len, cap, m, n, V, D, Pl, h1, hb, hl, hm, hmm, rfl, hx⟩
 ·obtain rfl : v = .slice none 0 0 := by simpa using h1
  exact ⟨[], ⟨none, 0, rfl, fun h => absurd h (Nat.not_lt_zero _)⟩, by simp, (fun al h => by cases h), Nat.zero_le _⟩
 ·obtain rfl : v = .slice (some a) len cap := by simpa using h1
  have hlm : len ≤ m := by rw [hmm]; split <;> omega
  have hS := bulk_slice (H := H) D len ((List.range (m - len)).map fun j => D (len + j))
  have hB' : Rows.uptoBulk (DataW.slice ((List.range len).map D) ((List.range (m - len)).map fun j => D (len + j))) ≤ 1048576 := hB
  have each : ∀ i, i < len → ∃ al : List At, Ats w (V i) al ∧ al.length ≤ Rows.uptoBulk (D i) ∧ ∀ k (h : k < al.length), al[k].n.size ≤ maxLen ∧ al[k].v.size ≤ maxLen := fun i hi => open_atoms Tryz.underlying49 (hx i (by omega)).2 (Nat.le_trans (hS.2 i hi) hB')
  obtain ⟨q, hq⟩ := Go.Deep.choose_lt each
  refine ⟨(List.range len).map q, ⟨some a, cap, by simp, fun h0 => ?_⟩, by simpa using hS.1, fun al ha => ?_, ?_⟩
  ·have h0' : 0 < len := by simpa using h0
   have h4 := (hx 0 (by omega)).1
   rw [add_zero'] at h4
   obtain ⟨e1, e2⟩ := plain_a h4
   refine ⟨a.block, a.off, by rw [← e1], e2, fun i al hi => ?_⟩
   rw [List.getElem?_map] at hi
   obtain ⟨k, hk, rfl⟩ := Option.map_eq_some_iff.1 hi
   obtain ⟨hk', hk2⟩ := List.getElem?_eq_some_iff.1 hk
   have hi' : i < len := by simpa using hk'
   obtain rfl : i = k := by simpa using hk2
   have := (hq i hi').1
   obtain ⟨xa, xc, e, z⟩ := this
   refine ⟨xa, xc, ?_, ⟨xa, xc, rfl, z⟩⟩
   rw [← e]
   exact plain_i e1 (hx i (by omega)).1
  ·obtain ⟨i, hi, rfl⟩ := List.mem_map.1 ha
   have hi' : i < len := by simpa using hi
   refine ⟨Nat.le_trans (hq i hi').2.1 (Nat.le_trans (hS.2 i hi') hB'), fun a haa => ?_⟩
   obtain ⟨k, hk, rfl⟩ := List.getElem_of_mem haa
   exact (hq i hi').2.2 k hk
  ·have step : ∀ k, k ≤ len → (clN ((List.range k).map q)).length ≤ ((List.range k).map fun i => Rows.uptoBulk (D i)).sum := fun k => by
    induction k with
    | zero => intro _; simp [clN]
    | succ k ih =>
      intro hk
      have h1 := ih (by omega)
      have h2 := (hq k (by omega)).2.1
      have e : clN ((List.range (k + 1)).map q) = clN ((List.range k).map q) ++ (q k).map (·.n) := by
       unfold clN
       rw [List.range_succ, List.map_append, List.map_append, List.flatten_append]
       simp
      rw [e, List.length_append, List.length_map, List.range_succ, List.map_append, List.sum_append]
      simp only [List.map_cons, List.map_nil, List.sum_cons, List.sum_nil]
      omega
   refine Nat.le_trans (step len (Nat.le_refl _)) ?_
   show _ ≤ Rows.uptoBulk (DataW.slice ((List.range len).map D) ((List.range (m - len)).map fun j => D (len + j)))
   rw [Rows.uptoBulk, bulkAll, List.map_map]
   exact Nat.le_trans (Nat.le_add_right _ _) (Nat.le_add_right _ _)
set_option maxRecDepth 100000 in
theorem open_files (h : DataW.trod enc Tryz.prog w base spare held fuel 43 [v] = some x) : ∃ fl : List (List Value), Fls w v fl ∧ fl.length ≤ Rows.uptoBulk x.1 ∧ ∀ f ∈ fl, ∃ s : Nm, f[0]? = some (Value.string s) ∧ s.size ≤ maxLen := by
 rcases Go.Deep.open_slice Tryz.underlying43 h with ⟨h1, rfl⟩ | ⟨a, len, cap, m, n, D, Pl, h1, hb, hl, hm, hmm, rfl, hx⟩
 ·obtain rfl : v = .slice none 0 0 := by simpa using h1
  exact ⟨[], ⟨none, 0, rfl, by simp, fun i hi => absurd hi (Nat.not_lt_zero _)⟩, by simp, fun f hf => by cases hf⟩
 ·obtain rfl : v = .slice (some a) len cap := by simpa using h1
  have hlm : len ≤ m := by rw [hmm]; split <;> omega
  have hmx := maxLen_eq
  have cF : Tryz.prog.cellsOf 58 = 34 := by kernel_rfl
  have each0 : 0 < len → a = ⟨a.block, a.off, none⟩ ∧ a.block < w.heap.size := fun hi => by
   obtain ⟨cs', h2, h3⟩ := hx 0 (by omega)
   rw [cF] at h2
   obtain ⟨_, hlen, hcell⟩ := World.cells?_some h2
   have k0 := hcell 0 (by omega)
   rw [Nat.zero_mul, add_zero', add_zero', List.getElem?_eq_getElem (by omega)] at k0
   exact plain_a k0
  have each : ∀ i, i < len → ∃ q : List Value, isF q ∧ w.rangeAt a.block (a.off + i * 34) q ∧ ∃ s : Nm, q[0]? = some (Value.string s) ∧ s.size ≤ maxLen := fun i hi => by
   obtain ⟨cs', h2, h3⟩ := hx i (by omega)
   rw [cF] at h2
   obtain ⟨_, hlen, hcell⟩ := World.cells?_some h2
   obtain ⟨k1, _⟩ := keyLits_of_trod 6 58 (by kernel_rfl) _ _ _ h3
   obtain ⟨p1, p2⟩ := each0 (by omega)
   have hpath : ∃ s : Nm, cs'[0]? = some (Value.string s) ∧ s.size ≤ maxLen := by
    obtain ⟨xs, n2, _, hx2, hl2, hlen2, hfs⟩ := DataW.trod_struct Tryz.underlying58 h3
    have g0 := hfs 0 _ rfl
    change DataW.trod enc Tryz.prog w base spare held n2 9 ((cs'.drop 0).take (Tryz.prog.cellsOf 9)) = xs[0]? at g0
    rw [show Tryz.prog.cellsOf 9 = 1 by kernel_rfl, List.drop_eq_getElem_cons (show 0 < cs'.length by omega), List.getElem?_eq_getElem (show 0 < xs.length by rw [show xs.length = _ from hlen2]; decide)] at g0
    obtain ⟨s, e0, _, zs⟩ := DataW.trod_string Tryz.underlying9 g0
    refine ⟨s, ?_, zs⟩
    rw [List.getElem?_eq_getElem (show 0 < cs'.length by omega)]
    simpa using e0
   refine ⟨cs', ⟨hlen, ⟨_, k1⟩, fun u hu => ?_⟩, fun j u hj => ?_, hpath⟩; rotate_left
   ·have hj' : j < 34 := by have h := (List.getElem?_eq_some_iff.1 hj).1; rw [← hlen]; exact h
    have k0 := hcell j (by omega)
    rw [Go.Deep.add_add, hj] at k0
    have := plain_i p1 k0
    rw [show a.off + i * 34 + j = a.off + (i * 34 + j) by omega]
    exact this
   ·have e := cells_of_lits 6 58 (by kernel_rfl) 6 _ _ k1
    have hu' : u ∈ (D i).flat.map Lit.toCell := by rw [← e]; exact hu
    obtain ⟨l, hl2, rfl⟩ := List.mem_map.1 hu'
    have hf := nb_flat 6 58 _ _ (by kernel_rfl) k1 l hl2
    cases l <;> first | rfl | cases hf
  obtain ⟨q, hq⟩ := Go.Deep.choose_lt each
  refine ⟨(List.range len).map q, ⟨some a, cap, by simp, by simp; omega, fun i hi => ?_⟩, ?_, fun f hf => ?_⟩
  ·have hi' : i < len := by simpa using hi
   obtain ⟨p1, p2⟩ := each0 (by omega)
   obtain ⟨p3, p4, _⟩ := hq i hi'
   refine ⟨by simpa using p3, a.block, a.off, by rw [← p1], p2, ?_⟩
   simpa using p4
  ·have := (bulk_slice (H := H) D len ((List.range (m - len)).map fun j => D (len + j))).1
   simpa using this
  ·obtain ⟨i, hi, rfl⟩ := List.mem_map.1 hf
   exact (hq i (by simpa using hi)).2.2
structure SmD (p : Pk) (B : Nat) : Prop where
 n4 : 4 ≤ B
 k : (akN p).length ≤ B
 kd : p.dp.length + (clN p.pr).length ≤ B
 t : p.pv.length ≤ B
 sd : p.dp.length ≤ B
 sr : p.pr.length ≤ B
 sc : p.cf.length ≤ B
 sf : p.fs.length ≤ B
 z : p.nm.size ≤ maxLen ∧ p.vr.size ≤ maxLen ∧ ∀ n ∈ p.pv, n.size ≤ maxLen
 d : ∀ al ∈ p.dp, al.length ≤ 1048576 ∧ ∀ a ∈ al, a.n.size ≤ maxLen ∧ a.v.size ≤ maxLen
 r : ∀ al ∈ p.pr, al.length ≤ 1048576 ∧ ∀ a ∈ al, a.n.size ≤ maxLen ∧ a.v.size ≤ maxLen
 c : ∀ a ∈ p.cf, a.n.size ≤ maxLen ∧ a.v.size ≤ maxLen
 f : ∀ x ∈ p.fs, ∃ s : Nm, x[0]? = some (Value.string s) ∧ s.size ≤ maxLen
 u : isU p.sm
theorem two_bulk {H : Type} : ∀ (L : List (DataW H)) (i j : Nat) (x y : DataW H), i < j → L[i]? = some x → L[j]? = some y → Rows.uptoBulk x + Rows.uptoBulk y ≤ Rows.uptoBulkAll L
 | [], i, j, x, y, _, h, _ => by simp at h
 | d :: r, 0, j + 1, x, y, _, h1, h2 => by
   simp at h1 h2
   subst h1
   have := mem_bulk r y (List.mem_of_getElem? h2)
   rw [Rows.uptoBulkAll]
   omega
 | d :: r, i + 1, j + 1, x, y, h, h1, h2 => by
   simp at h1 h2
   have := two_bulk r i j x y (by omega) h1 h2
   rw [Rows.uptoBulkAll]
   omega
theorem bulk_len {H : Type} : ∀ L : List (DataW H), L.length ≤ Rows.uptoBulkAll L
 | [] => Nat.zero_le _
 | d :: r => by
   have := bulk_len r
   have := bulk_pos d
   rw [Rows.uptoBulkAll, List.length_cons]
   omega
theorem sum4 (L : List Pk) : (L.map fun _ => 4).sum = L.length * 4 := by
 induction L with
 | nil => rfl
 | cons a L ih => rw [List.map_cons, List.sum_cons, ih, List.length_cons]; omega
theorem cellsPkg : Tryz.prog.cellsOf 46 = 43 := by kernel_rfl
set_option maxRecDepth 100000 in
theorem open_pkg {cs : List Value} {d : DataW H} {pl : List MemPlace} (hlen0 : cs.length = 43) (hf : DataW.trod enc Tryz.prog w base spare held fuel 46 cs = some (d, pl)) (hB : Rows.uptoBulk d ≤ 1048576) :
 ∃ (p : Pk) (v3 v4 v5 v6 v7 : Value), PkC cs p v3 v4 v5 v6 v7 ∧ PkL w p v3 v4 v5 v6 v7 ∧ SmD p (Rows.uptoBulk d) := by
 obtain ⟨xs, n, _, hx, hl, hlen, hfs⟩ := DataW.trod_struct Tryz.underlying46 hf
 have hxl : xs.length = 12 := hlen
 have hd : d = .agg (xs.map (·.1)) := (Prod.mk.inj hx).1
 have hbt : ∀ i (hi : i < xs.length), Rows.uptoBulk xs[i].1 ≤ Rows.uptoBulk d := fun i hi => by
  have := mem_bulk (xs.map (·.1)) xs[i].1 (List.mem_map.2 ⟨_, List.getElem_mem hi, rfl⟩)
  rw [hd, Rows.uptoBulk]
  omega
 have hn4 : 4 ≤ Rows.uptoBulk d := by
  have := bulk_len (xs.map (·.1))
  rw [List.length_map, hxl] at this
  rw [hd, Rows.uptoBulk]
  omega
 have hbk : ∀ i (hi : i < xs.length), Rows.uptoBulk xs[i].1 ≤ 1048576 := fun i hi => by
  have := mem_bulk (xs.map (·.1)) xs[i].1 (List.mem_map.2 ⟨_, List.getElem_mem hi, rfl⟩)
  rw [hd, Rows.uptoBulk] at hB
  omega
 have t0 : ∀ k, k < 43 → (cs.drop k).take 1 = [cs.getD k (.bool false)] := fun k hk => by
  rw [List.drop_eq_getElem_cons (show k < cs.length by omega), List.getD_eq_getElem?_getD, List.getElem?_eq_getElem (show k < cs.length by omega)]
  rfl
 have gk : ∀ k, k < 43 → cs[k]? = some (cs.getD k (.bool false)) := fun k hk => by
  simp only [List.getD, List.getElem?_eq_getElem (show k < cs.length by omega)]
  rfl
 have g0 := hfs 0 _ rfl
 have g1 := hfs 1 _ rfl
 have g2 := hfs 2 _ rfl
 have g3 := hfs 3 _ rfl
 have g4 := hfs 4 _ rfl
 have g5 := hfs 5 _ rfl
 have g6 := hfs 6 _ rfl
 have g7 := hfs 7 _ rfl
 have g8 := hfs 8 _ rfl
 have g9 := hfs 9 _ rfl
 have ga := hfs 10 _ rfl
 have gb := hfs 11 _ rfl
 change DataW.trod enc Tryz.prog w base spare held n 9 ((cs.drop 0).take (Tryz.prog.cellsOf 9)) = xs[0]? at g0
 change DataW.trod enc Tryz.prog w base spare held n 9 ((cs.drop 1).take (Tryz.prog.cellsOf 9)) = xs[1]? at g1
 change DataW.trod enc Tryz.prog w base spare held n 4 ((cs.drop 2).take (Tryz.prog.cellsOf 4)) = xs[2]? at g2
 change DataW.trod enc Tryz.prog w base spare held n 40 ((cs.drop 3).take (Tryz.prog.cellsOf 40)) = xs[3]? at g3
 change DataW.trod enc Tryz.prog w base spare held n 40 ((cs.drop 4).take (Tryz.prog.cellsOf 40)) = xs[4]? at g4
 change DataW.trod enc Tryz.prog w base spare held n 41 ((cs.drop 5).take (Tryz.prog.cellsOf 41)) = xs[5]? at g5
 change DataW.trod enc Tryz.prog w base spare held n 42 ((cs.drop 6).take (Tryz.prog.cellsOf 42)) = xs[6]? at g6
 change DataW.trod enc Tryz.prog w base spare held n 43 ((cs.drop 7).take (Tryz.prog.cellsOf 43)) = xs[7]? at g7
 change DataW.trod enc Tryz.prog w base spare held n 9 ((cs.drop 8).take (Tryz.prog.cellsOf 9)) = xs[8]? at g8
 change DataW.trod enc Tryz.prog w base spare held n 3 ((cs.drop 9).take (Tryz.prog.cellsOf 3)) = xs[9]? at g9
 change DataW.trod enc Tryz.prog w base spare held n 44 ((cs.drop 10).take (Tryz.prog.cellsOf 44)) = xs[10]? at ga
 change DataW.trod enc Tryz.prog w base spare held n 9 ((cs.drop 42).take (Tryz.prog.cellsOf 9)) = xs[11]? at gb
 rw [show Tryz.prog.cellsOf 9 = 1 by kernel_rfl] at g0 g1 g8 gb
 rw [show Tryz.prog.cellsOf 4 = 1 by kernel_rfl] at g2
 rw [show Tryz.prog.cellsOf 40 = 1 by kernel_rfl] at g3 g4
 rw [show Tryz.prog.cellsOf 41 = 1 by kernel_rfl] at g5
 rw [show Tryz.prog.cellsOf 42 = 1 by kernel_rfl] at g6
 rw [show Tryz.prog.cellsOf 43 = 1 by kernel_rfl] at g7
 rw [show Tryz.prog.cellsOf 3 = 1 by kernel_rfl] at g9
 rw [show Tryz.prog.cellsOf 44 = 32 by kernel_rfl] at ga
 rw [t0 0 (by omega), List.getElem?_eq_getElem (show 0 < xs.length by omega)] at g0
 rw [t0 1 (by omega), List.getElem?_eq_getElem (show 1 < xs.length by omega)] at g1
 rw [t0 2 (by omega), List.getElem?_eq_getElem (show 2 < xs.length by omega)] at g2
 rw [t0 3 (by omega), List.getElem?_eq_getElem (show 3 < xs.length by omega)] at g3
 rw [t0 4 (by omega), List.getElem?_eq_getElem (show 4 < xs.length by omega)] at g4
 rw [t0 5 (by omega), List.getElem?_eq_getElem (show 5 < xs.length by omega)] at g5
 rw [t0 6 (by omega), List.getElem?_eq_getElem (show 6 < xs.length by omega)] at g6
 rw [t0 7 (by omega), List.getElem?_eq_getElem (show 7 < xs.length by omega)] at g7
 rw [t0 8 (by omega), List.getElem?_eq_getElem (show 8 < xs.length by omega)] at g8
 rw [t0 9 (by omega), List.getElem?_eq_getElem (show 9 < xs.length by omega)] at g9
 rw [List.getElem?_eq_getElem (show 10 < xs.length by omega)] at ga
 rw [t0 42 (by omega), List.getElem?_eq_getElem (show 11 < xs.length by omega)] at gb
 obtain ⟨nm, e0, _, zn⟩ := DataW.trod_string Tryz.underlying9 g0
 obtain ⟨vr, e1, _, zv⟩ := DataW.trod_string Tryz.underlying9 g1
 obtain ⟨es, e2, _⟩ := DataW.trod_bool Tryz.underlying4 g2
 have b3 := hbk 3 (by omega)
 have b4 := hbk 4 (by omega)
 have b5 := hbk 5 (by omega)
 have b6 := hbk 6 (by omega)
 have b7 := hbk 7 (by omega)
 obtain ⟨dp, L3, z3, y3, k3⟩ := open_clauses g3 b3
 obtain ⟨pr, L4, z4, y4, k4⟩ := open_clauses g4 b4
 have hk34 : (clN dp).length + (clN pr).length ≤ Rows.uptoBulk d := by
  have := two_bulk (xs.map (·.1)) 3 4 xs[3].1 xs[4].1 (by omega) (by rw [List.getElem?_map, List.getElem?_eq_getElem (show 3 < xs.length by omega)]; rfl) (by rw [List.getElem?_map, List.getElem?_eq_getElem (show 4 < xs.length by omega)]; rfl)
  rw [hd, Rows.uptoBulk]
  (try simp only at k3 k4)
  omega
 have hk35 : dp.length + (clN pr).length ≤ Rows.uptoBulk d := by
  have := two_bulk (xs.map (·.1)) 3 4 xs[3].1 xs[4].1 (by omega) (by rw [List.getElem?_map, List.getElem?_eq_getElem (show 3 < xs.length by omega)]; rfl) (by rw [List.getElem?_map, List.getElem?_eq_getElem (show 4 < xs.length by omega)]; rfl)
  rw [hd, Rows.uptoBulk]
  (try simp only at z3 k4)
  omega
 obtain ⟨cf, L5, z5, s5⟩ := open_atoms Tryz.underlying41 g5 b5
 obtain ⟨pv, L6, z6, s6⟩ := open_texts g6
 obtain ⟨fs, L7, z7, s7⟩ := open_files g7
 obtain ⟨ar, e8, _, _⟩ := DataW.trod_string Tryz.underlying9 g8
 obtain ⟨sz, e9, _, _⟩ := DataW.trod_int Tryz.underlying3 g9
 obtain ⟨ka, _⟩ := keyLits_of_trod 6 44 (by kernel_rfl) _ _ _ ga
 obtain ⟨sy, eb, _, _⟩ := DataW.trod_string Tryz.underlying9 gb
 have hl32 : ((cs.drop 10).take 32).length = 32 := by simp only [List.length_take, List.length_drop]; omega
 have ho : ∀ u ∈ (cs.drop 10).take 32, u.oneCell' = true := fun u hu => by
  have e := cells_of_lits 6 44 (by kernel_rfl) 6 _ _ ka
  have hu' : u ∈ xs[10].1.flat.map Lit.toCell := by rw [← e]; exact hu
  obtain ⟨l, hl2, rfl⟩ := List.mem_map.1 hu'
  have hf := nb_flat 6 44 _ _ (by kernel_rfl) ka l hl2
  cases l <;> first | rfl | cases hf
 have c0 : cs[0]? = some (.string nm) := by rw [gk 0 (by omega)]; simpa using e0
 have c1 : cs[1]? = some (.string vr) := by rw [gk 1 (by omega)]; simpa using e1
 have c2 : cs[2]? = some (.bool es) := by rw [gk 2 (by omega)]; simpa using e2
 have c8 : cs[8]? = some (.string ar) := by rw [gk 8 (by omega)]; simpa using e8
 have c9 : cs[9]? = some (.int .i64 sz) := by rw [gk 9 (by omega)]; simpa using e9
 have c42 : cs[42]? = some (.string sy) := by rw [gk 42 (by omega)]; simpa using eb
 have cm : ∀ j x, ((cs.drop 10).take 32)[j]? = some x → cs[10 + j]? = some x := fun j x hj => by
  have hj' : j < 32 := by have h := (List.getElem?_eq_some_iff.1 hj).1; rw [← hl32]; exact h
  rw [List.getElem?_take_of_lt hj', List.getElem?_drop] at hj
  exact hj
 have o3 : (cs.getD 3 (.bool false)).oneCell' = true := by obtain ⟨_, _, e, _⟩ := L3; rw [e]; rfl
 have o4 : (cs.getD 4 (.bool false)).oneCell' = true := by obtain ⟨_, _, e, _⟩ := L4; rw [e]; rfl
 have o5 : (cs.getD 5 (.bool false)).oneCell' = true := by obtain ⟨_, _, e, _⟩ := L5; rw [e]; rfl
 have o6 : (cs.getD 6 (.bool false)).oneCell' = true := by obtain ⟨_, _, e, _⟩ := L6; rw [e]; rfl
 have o7 : (cs.getD 7 (.bool false)).oneCell' = true := by obtain ⟨_, _, e, _⟩ := L7; rw [e]; rfl
 have one : ∀ x ∈ cs, x.oneCell' = true := fun x hx => by
  obtain ⟨j, hj, rfl⟩ := List.mem_iff_getElem.1 hx
  have hg := List.getElem?_eq_getElem hj
  by_cases h10 : 10 ≤ j ∧ j < 42
  ·refine ho _ ?_
   refine List.mem_of_getElem? (i := j - 10) ?_
   rw [List.getElem?_take_of_lt (by omega), List.getElem?_drop, show 10 + (j - 10) = j by omega]
   exact hg
  ·have hjs : j = 0 ∨ j = 1 ∨ j = 2 ∨ j = 3 ∨ j = 4 ∨ j = 5 ∨ j = 6 ∨ j = 7 ∨ j = 8 ∨ j = 9 ∨ j = 42 := by omega
   rcases hjs with rfl | rfl | rfl | rfl | rfl | rfl | rfl | rfl | rfl | rfl | rfl
   ·rw [c0] at hg; rw [← Option.some.inj hg]; rfl
   ·rw [c1] at hg; rw [← Option.some.inj hg]; rfl
   ·rw [c2] at hg; rw [← Option.some.inj hg]; rfl
   ·rw [gk 3 (by omega)] at hg; rw [← Option.some.inj hg]; exact o3
   ·rw [gk 4 (by omega)] at hg; rw [← Option.some.inj hg]; exact o4
   ·rw [gk 5 (by omega)] at hg; rw [← Option.some.inj hg]; exact o5
   ·rw [gk 6 (by omega)] at hg; rw [← Option.some.inj hg]; exact o6
   ·rw [gk 7 (by omega)] at hg; rw [← Option.some.inj hg]; exact o7
   ·rw [c8] at hg; rw [← Option.some.inj hg]; rfl
   ·rw [c9] at hg; rw [← Option.some.inj hg]; rfl
   ·rw [c42] at hg; rw [← Option.some.inj hg]; rfl
 refine ⟨⟨nm, vr, es, dp, pr, cf, pv, fs, ar, sz, (cs.drop 10).take 32, sy⟩, _, _, _, _, _, ⟨hlen0, one, c0, c1, c2, gk 3 (by omega), gk 4 (by omega), gk 5 (by omega), gk 6 (by omega), gk 7 (by omega), c8, c9, cm, c42⟩, ⟨L3, L4, L5, L6, L7⟩, ⟨hn4, by unfold akN; rw [List.length_append]; exact hk34, hk35, Nat.le_trans z6 (hbt 6 (by omega)), Nat.le_trans z3 (hbt 3 (by omega)), Nat.le_trans z4 (hbt 4 (by omega)), Nat.le_trans z5 (hbt 5 (by omega)), Nat.le_trans z7 (hbt 7 (by omega)), ⟨zn, zv, s6⟩, y3, y4, fun a haa => ?_, s7, ⟨hl32, ⟨_, ka⟩, ho⟩⟩⟩
 obtain ⟨k, hk, rfl⟩ := List.getElem_of_mem haa
 exact s5 k hk
set_option maxRecDepth 100000 in
theorem open_pkgs (h : DataW.trod enc Tryz.prog w base spare held fuel 22 [v] = some x) (hB : Rows.uptoBulk x.1 ≤ 1048576) : ∃ ps : List Pk, Pkl w v ps ∧ SmP ps ∧ akK ps ps.length ≤ 1048576 ∧ (ps.map fun p => p.dp.length + (clN p.pr).length).sum ≤ 1048576 ∧ ∀ p ∈ ps, PkZ p := by
 rcases Go.Deep.open_slice Tryz.underlying22 h with ⟨h1, rfl⟩ | ⟨a, len, cap, m, n, D, Pl, h1, hb, hl, hm, hmm, rfl, hx⟩
 ·obtain rfl : v = .slice none 0 0 := by simpa using h1
  exact ⟨[], ⟨none, 0, rfl, fun h => absurd h (Nat.not_lt_zero _)⟩, ⟨by simp, by simp, by simp, by simp, by simp, by simp, fun p hp => (by cases hp), fun p hp => (by cases hp), fun p hp => (by cases hp), fun p hp => (by cases hp), fun p hp => (by cases hp)⟩, Nat.zero_le _, Nat.zero_le _, fun p hp => (by cases hp)⟩
 ·obtain rfl : v = .slice (some a) len cap := by simpa using h1
  have hlm : len ≤ m := by rw [hmm]; split <;> omega
  have hS := bulk_slice (H := H) D len ((List.range (m - len)).map fun j => D (len + j))
  have hB' : Rows.uptoBulk (DataW.slice ((List.range len).map D) ((List.range (m - len)).map fun j => D (len + j))) ≤ 1048576 := hB
  have each0 : 0 < len → a = ⟨a.block, a.off, none⟩ ∧ a.block < w.heap.size := fun hi => by
   obtain ⟨cs', h2, h3⟩ := hx 0 (by omega)
   rw [cellsPkg] at h2
   obtain ⟨_, hlen, hcell⟩ := World.cells?_some h2
   have k0 := hcell 0 (by omega)
   rw [Nat.zero_mul, add_zero', add_zero', List.getElem?_eq_getElem (by omega)] at k0
   exact plain_a k0
  have each : ∀ i, i < len → ∃ p : Pk, (∃ cs d r c v f, w.rangeAt a.block (a.off + i * 43) cs ∧ PkC cs p d r c v f ∧ PkL w p d r c v f) ∧ SmD p (Rows.uptoBulk (D i)) := fun i hi => by
   obtain ⟨cs', h2, h3⟩ := hx i (by omega)
   rw [cellsPkg] at h2
   obtain ⟨_, hlen, hcell⟩ := World.cells?_some h2
   obtain ⟨p1, p2⟩ := each0 (by omega)
   obtain ⟨p, v3, v4, v5, v6, v7, q1, q2, q3⟩ := open_pkg hlen h3 (Nat.le_trans (hS.2 i hi) hB')
   refine ⟨p, ⟨cs', _, _, _, _, _, fun j u hj => ?_, q1, q2⟩, q3⟩
   have hj' : j < 43 := by have h := (List.getElem?_eq_some_iff.1 hj).1; rw [← hlen]; exact h
   have k0 := hcell j (by omega)
   rw [Go.Deep.add_add, hj] at k0
   have := plain_i p1 k0
   rw [show a.off + i * 43 + j = a.off + (i * 43 + j) by omega]
   exact this
  have : Inhabited Pk := ⟨⟨.empty, .empty, false, [], [], [], [], [], .empty, 0, [], .empty⟩⟩
  obtain ⟨q, hq⟩ := Go.Deep.choose_lt each
  have hsum : ∀ g : Pk → Nat, (∀ i, i < len → g (q i) ≤ Rows.uptoBulk (D i)) → (((List.range len).map q).map g).sum ≤ 1048576 := fun g hg => by
   have step : ∀ k, k ≤ len → (((List.range k).map q).map g).sum ≤ ((List.range k).map fun i => Rows.uptoBulk (D i)).sum := fun k => by
    induction k with
    | zero => intro _; simp
    | succ k ih =>
      intro hk
      have h1 := ih (by omega)
      have h2 := hg k (by omega)
      rw [List.range_succ, List.map_append, List.map_append, List.sum_append, List.map_append, List.sum_append]
      simp only [List.map_cons, List.map_nil, List.sum_cons, List.sum_nil]
      omega
   have h1 := step len (Nat.le_refl _)
   have h2 : ((List.range len).map fun i => Rows.uptoBulk (D i)).sum ≤ Rows.uptoBulk (DataW.slice ((List.range len).map D) ((List.range (m - len)).map fun j => D (len + j))) := by
    rw [Rows.uptoBulk, bulkAll, List.map_map]
    exact Nat.le_trans (Nat.le_add_right _ _) (Nat.le_add_right _ _)
   omega
  have hlen4 : len * 4 ≤ 1048576 := by
   have h1 := hsum (fun _ => 4) fun i hi => (hq i hi).2.n4
   rw [sum4] at h1
   simpa using h1
  have mem : ∀ p ∈ (List.range len).map q, ∃ B, SmD p B := fun p hp => by
   obtain ⟨i, hi, rfl⟩ := List.mem_map.1 hp
   exact ⟨_, (hq i (by simpa using hi)).2⟩
  refine ⟨(List.range len).map q, ⟨some a, cap, by simp, fun h0 => ?_⟩, ⟨by simp; omega, hsum _ fun i hi => (hq i hi).2.t, hsum _ fun i hi => (hq i hi).2.sd, hsum _ fun i hi => (hq i hi).2.sr, hsum _ fun i hi => (hq i hi).2.sc, hsum _ fun i hi => (hq i hi).2.sf, fun p hp => let ⟨_, h⟩ := mem p hp; h.z, fun p hp => let ⟨_, h⟩ := mem p hp; h.d, fun p hp => let ⟨_, h⟩ := mem p hp; h.r, fun p hp => let ⟨_, h⟩ := mem p hp; h.c, fun p hp => let ⟨_, h⟩ := mem p hp; h.f⟩, by unfold akK; rw [List.take_length]; exact hsum _ fun i hi => (hq i hi).2.k, hsum _ fun i hi => (hq i hi).2.kd, fun p hp => ?_⟩
  ·have h0' : 0 < len := by simpa using h0
   obtain ⟨p1, p2⟩ := each0 h0'
   refine ⟨a.block, a.off, by rw [← p1], p2, fun i p hi => ?_⟩
   rw [List.getElem?_map] at hi
   obtain ⟨k, hk, rfl⟩ := Option.map_eq_some_iff.1 hi
   obtain ⟨hk', hk2⟩ := List.getElem?_eq_some_iff.1 hk
   have hi' : i < len := by simpa using hk'
   obtain rfl : i = k := by simpa using hk2
   exact (hq i hi').1
  ·obtain ⟨i, hi, rfl⟩ := List.mem_map.1 hp
   have hi' : i < len := by simpa using hi
   have s := (hq i hi').2
   have hb := Nat.le_trans (hS.2 i hi') hB'
   have h1 := s.sd
   have h2 := s.sr
   have h3 := s.sc
   have h4 := s.t
   have h5 := s.sf
   exact ⟨by omega, fun al ha => by have := (s.d al ha).1; omega, by omega, fun al ha => by have := (s.r al ha).1; omega, by omega, by omega, by omega, s.u⟩
end
end Go.Proofs.YtdkpglmdncjnbaaGreatDoor
