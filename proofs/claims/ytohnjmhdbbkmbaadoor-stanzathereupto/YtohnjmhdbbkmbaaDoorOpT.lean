import Derived.Test.YtohnjmhdbbkmbaaDoorGlobS
import Derived.Test.YtohnjmhdbbkmbaaDoorSgG
import Derived.Deep.Strs
namespace Go.Proofs.YtohnjmhdbbkmbaaDoor
open Go.ChangeShapes Go.WideShapes Go.ChangeAt Go.RowKit

theorem plain_a {w : World} {a : Addr} {v : Value} (h : w.cell? a = some v) : a = ⟨a.block, a.off, none⟩ ∧ a.block < w.heap.size := by
  have hs := World.cell?_spot h
  have hb := World.block_lt_of_cell? _ _ h
  obtain ⟨b, o, sp⟩ := a
  have e : sp = none := hs
  subst e
  exact ⟨rfl, hb⟩
theorem add_zero' (a : Addr) : a.add 0 = a := by unfold Addr.add; simp
theorem plain_i {w : World} {a : Addr} {i : Nat} {v : Value} (ha : a = ⟨a.block, a.off, none⟩) (h : w.cell? (a.add i) = some v) : w.cell? ⟨a.block, a.off + i, none⟩ = some v := by
  rw [ha, add_plain] at h
  exact h

/-- WEIGHTS. -/
def wF (f : Fd) : Nat := f.nm.length + (f.ls.map fun l => l.length + 1).sum + 1
def wP (p : List Fd) : Nat := (p.map wF).sum + 1
def wD (ps : List (List Fd)) : Nat := (ps.map wP).sum + 1
theorem bulkAll {H : Type} : ∀ L : List (DataW H), Rows.uptoBulkAll L = (L.map Rows.uptoBulk).sum
  | [] => by simp [Rows.uptoBulkAll]
  | d :: r => by rw [Rows.uptoBulkAll, bulkAll r, List.map_cons, List.sum_cons]
theorem sum_le {f g : Nat → Nat} : ∀ n, (∀ i, i < n → f i ≤ g i) → ((List.range n).map f).sum ≤ ((List.range n).map g).sum
  | 0, _ => by simp
  | n + 1, h => by
    have := sum_le n (fun i hi => h i (by omega))
    have h1 := h n (by omega)
    simp only [List.range_succ, List.map_append, List.map_cons, List.map_nil, List.sum_append, List.sum_cons, List.sum_nil]
    omega
theorem le_sum {f : Nat → Nat} : ∀ n i, i < n → f i ≤ ((List.range n).map f).sum
  | 0, i, h => by omega
  | n + 1, i, h => by
    simp only [List.range_succ, List.map_append, List.map_cons, List.map_nil, List.sum_append, List.sum_cons, List.sum_nil]
    by_cases e : i < n
    · have := le_sum (f := f) n i e; omega
    · obtain rfl : i = n := by omega
      omega
theorem len_sum {f : Nat → Nat} : ∀ n, (∀ i, 1 ≤ f i) → n ≤ ((List.range n).map f).sum
  | 0, _ => by simp
  | n + 1, h => by
    have := len_sum (f := f) n h
    have h1 := h n
    simp only [List.range_succ, List.map_append, List.map_cons, List.map_nil, List.sum_append, List.sum_cons, List.sum_nil]
    omega
theorem bulk_slice {H : Type} (D : Nat → DataW H) (n : Nat) (r : List (DataW H)) : ((List.range n).map fun i => Rows.uptoBulk (D i)).sum + 1 ≤ Rows.uptoBulk (.slice ((List.range n).map D) r) := by
  rw [Rows.uptoBulk, bulkAll, List.map_map]
  show ((List.range n).map fun i => Rows.uptoBulk (D i)).sum + 1 ≤ ((List.range n).map fun i => Rows.uptoBulk (D i)).sum + _ + 1
  omega
theorem bulk_pos {H : Type} (d : DataW H) : 1 ≤ Rows.uptoBulk d := by
  cases d with
  | lit l => cases l <;> simp [Rows.uptoBulk]
  | _ => simp [Rows.uptoBulk]

theorem ba_data (s : ByteArray) : ba s.data.toList = s := rfl

section
variable {H : Type} {enc : TypeId × Value → H} {w : World} {base : Nat} {spare : Nat → Bool} {held : Bool} {fuel : Nat} {v : Value} {x : DataW H × List MemPlace}

theorem open_lines (h : DataW.trod enc Tryd.prog w base spare held fuel 46 [v] = some x) :
    ∃ (ls : List Bs) (pa : Option Addr) (c : Nat), v = .slice pa ls.length c ∧ ls.length ≤ c ∧ Cl w pa (strs ls) ∧ (ls.map fun l => l.length + 1).sum ≤ Rows.uptoBulk x.1 := by
  rcases Go.Deep.open_strs Tryd.underlying46 Tryd.underlying9 (by kernel_rfl) h with ⟨h1, rfl⟩ | ⟨a, len, cap, m, Sx, h1, hb, hl, hm, hmm, rfl, hx⟩
  · obtain rfl : v = .slice none 0 0 := by simpa using h1
    exact ⟨[], none, 0, rfl, Nat.le_refl _, fun h0 => absurd h0 (by simp [strs]), by simp⟩
  · obtain rfl : v = .slice (some a) len cap := by simpa using h1
    have hlm : len ≤ m := by rw [hmm]; split <;> omega
    refine ⟨(List.range len).map fun i => (Sx i).data.toList, some a, cap, by simp, by simp; exact hl, fun h0 => ?_, ?_⟩
    · have h0' : 0 < len := by simpa [strs] using h0
      have h4 := (hx 0 (by omega)).1
      rw [add_zero'] at h4
      obtain ⟨e1, e2⟩ := plain_a h4
      refine ⟨a.block, a.off, by rw [← e1], fun i u hi => ?_⟩
      have hi' : i < len := by have := (List.getElem?_eq_some_iff.1 hi).1; simpa [strs] using this
      rw [plain_i e1 (hx i (by omega)).1, ← hi]
      simp [strs, hi', ba_data]
    · have hB := bulk_slice (H := H) (fun i => .lit (.string (Sx i).data.toList)) len ((List.range (m - len)).map fun j => .lit (.string (Sx (len + j)).data.toList))
      refine Nat.le_trans ?_ (Nat.le_trans (Nat.le_succ _) hB)
      rw [List.map_map]
      exact sum_le len fun i _ => by simp [Rows.uptoBulk]

theorem open_ats (h : DataW.trod enc Tryd.prog w base spare held fuel 47 [v] = some x) :
    ∃ (az : List Value) (pa : Option Addr) (c : Nat), v = .slice pa az.length c ∧ Cl w pa az ∧ (∀ u ∈ az, u.oneCell' = true) ∧ az.length ≤ Rows.uptoBulk x.1 := by
  rcases open_ints Tryd.underlying47 Tryd.underlying3 (by kernel_rfl) h with ⟨h1, rfl⟩ | ⟨a, len, cap, zs, h1, hb, hl, hm, hz, rfl, hcell, hwz⟩
  · obtain rfl : v = .slice none 0 0 := by simpa using h1
    exact ⟨[], none, 0, rfl, fun h0 => absurd h0 (by simp), (fun u hu => by cases hu), by simp⟩
  · obtain rfl : v = .slice (some a) len cap := by simpa using h1
    have hlz : len ≤ zs.length := by rw [hz]; split <;> omega
    have hlen : ((zs.take len).map fun n => Value.int .i64 n).length = len := by simp; omega
    refine ⟨(zs.take len).map fun n => Value.int .i64 n, some a, cap, by rw [hlen], fun h0 => ?_, fun u hu => ?_, ?_⟩
    · have h4 := hcell 0 (by omega)
      rw [add_zero'] at h4
      obtain ⟨e1, e2⟩ := plain_a h4
      refine ⟨a.block, a.off, by rw [← e1], fun i u hi => ?_⟩
      have hi' : i < len := by have := (List.getElem?_eq_some_iff.1 hi).1; omega
      rw [plain_i e1 (hcell i (by omega)), ← hi]
      have h5 : i < zs.length := by omega
      simp [hi', h5]
    · obtain ⟨n, _, rfl⟩ := List.mem_map.1 hu
      rfl
    · rw [hlen, Rows.uptoBulk, bulkAll]
      have : len ≤ ((lits (H := H) .i64 (zs.take len)).map Rows.uptoBulk).sum := by
        have h6 : (lits (H := H) .i64 (zs.take len)).map Rows.uptoBulk = (zs.take len).map fun _ => 1 := by
          simp [lits, Rows.uptoBulk, Function.comp_def]
        rw [h6, List.map_const', List.sum_replicate_nat, List.length_take]
        omega
      omega

theorem cells49 : Tryd.prog.cellsOf 49 = 3 := by kernel_rfl

set_option maxRecDepth 100000 in
theorem open_par (h : DataW.trod enc Tryd.prog w base spare held fuel 39 [v] = some x) (hB : Rows.uptoBulk x.1 ≤ 1048576) :
    ∃ p : List Fd, ParG w v p ∧ wP p ≤ Rows.uptoBulk x.1 := by
  rcases Go.Deep.open_slice Tryd.underlying39 h with ⟨h1, rfl⟩ | ⟨a, len, cap, m, n, D, Pl, h1, hb, hl, hm, hmm, rfl, hx⟩
  · obtain rfl : v = .slice none 0 0 := by simpa using h1
    exact ⟨[], ⟨none, 0, rfl, fun h0 => absurd h0 (by simp)⟩, by simp [wP, Rows.uptoBulk]⟩
  · obtain rfl : v = .slice (some a) len cap := by simpa using h1
    have hlm : len ≤ m := by rw [hmm]; split <;> omega
    have hS := bulk_slice (H := H) D len ((List.range (m - len)).map fun j => D (len + j))
    have each0 : 0 < len → a = ⟨a.block, a.off, none⟩ ∧ a.block < w.heap.size := fun hi => by
      obtain ⟨cs', h2, h3⟩ := hx 0 (by omega)
      rw [cells49] at h2
      obtain ⟨_, hlen, hcell⟩ := World.cells?_some h2
      have k0 := hcell 0 (by omega)
      rw [Nat.zero_mul, add_zero', add_zero', List.getElem?_eq_getElem (by omega)] at k0
      exact plain_a k0
    have each : ∀ i, i < len → ∃ f : Fd, FdG w a.block (a.off + i * 3) f ∧ wF f ≤ Rows.uptoBulk (D i) := fun i hi => by
      obtain ⟨cs', h2, h3⟩ := hx i (by omega)
      rw [cells49] at h2
      obtain ⟨_, hlen, hcell⟩ := World.cells?_some h2
      match cs', hlen with
      | [c0, c1, c2], _ =>
        obtain ⟨xs, n', _, hx', hl', hlen', hfs⟩ := DataW.trod_struct Tryd.underlying49 h3
        match xs, hlen' with
        | [y0, y1, y2], _ =>
          have g0 := hfs 0 _ rfl
          have g1 := hfs 1 _ rfl
          have g2 := hfs 2 _ rfl
          simp [show Tryd.prog.cellsOf 9 = 1 by kernel_rfl, show Tryd.prog.cellsOf 46 = 1 by kernel_rfl, show Tryd.prog.cellsOf 47 = 1 by kernel_rfl] at g0 g1 g2
          obtain ⟨e, e0, rfl, z0⟩ := DataW.trod_string Tryd.underlying9 g0
          simp at e0
          subst e0
          obtain ⟨ls, la, lc, rfl, l2, l3, l4⟩ := open_lines g1
          obtain ⟨az, na, nc, rfl, n2, n3, n4⟩ := open_ats g2
          have k0 := hcell 0 (by omega)
          have k1 := hcell 1 (by omega)
          have k2 := hcell 2 (by omega)
          rw [Go.Deep.add_add] at k0 k1 k2
          simp only [List.getElem?_cons_zero, List.getElem?_cons_succ] at k0 k1 k2
          obtain ⟨p1, p2⟩ := each0 (by omega)
          simp only [Prod.mk.injEq] at hx'
          have hDi : D i = .agg [.lit (.string e.data.toList), y1.1, y2.1] := hx'.1
          have hbulk : Rows.uptoBulk (D i) = (e.data.toList.length + 1) + (Rows.uptoBulk y1.1 + (Rows.uptoBulk y2.1 + 0)) + 1 := by
            rw [hDi]
            simp [Rows.uptoBulk, Rows.uptoBulkAll]
          have hle := le_sum (f := fun i => Rows.uptoBulk (D i)) len i hi
          refine ⟨⟨e.data.toList, ls, []⟩, ⟨by have := plain_i p1 k0; simpa [ba_data] using this, ⟨la, lc, plain_i p1 k1, l2, l3⟩, ⟨na, nc, az, plain_i p1 k2, n2, n3, ?_⟩⟩, ?_⟩
          · have := hB
            simp only at this
            omega
          · unfold wF
            simp only
            omega
    have : Inhabited Fd := ⟨⟨[], [], []⟩⟩
    obtain ⟨q, hq⟩ := Go.Deep.choose_lt each
    refine ⟨(List.range len).map q, ⟨some a, cap, by simp, fun h0 => ?_⟩, ?_⟩
    · have h0' : 0 < len := by simpa using h0
      obtain ⟨p1, _⟩ := each0 h0'
      refine ⟨a.block, a.off, by rw [← p1], fun i f hi => ?_⟩
      have hi' : i < len := by have := (List.getElem?_eq_some_iff.1 hi).1; simpa using this
      have e : q i = f := by simpa [hi'] using hi
      rw [← e]
      exact (hq i hi').1
    · unfold wP
      rw [List.map_map]
      have := sum_le (f := fun i => wF (q i)) (g := fun i => Rows.uptoBulk (D i)) len fun i hi => (hq i hi).2
      refine Nat.le_trans (Nat.add_le_add_right ?_ 1) hS
      exact this

set_option maxRecDepth 100000 in
theorem open_doc (h : DataW.trod enc Tryd.prog w base spare held fuel 24 [v] = some x) (hB : Rows.uptoBulk x.1 ≤ 1048576) :
    ∃ ps : List (List Fd), DocG w v ps ∧ wD ps ≤ Rows.uptoBulk x.1 := by
  rcases Go.Deep.open_slice1 Tryd.underlying24 (by kernel_rfl) h with ⟨h1, rfl⟩ | ⟨a, len, cap, m, n, V, D, Pl, h1, hb, hl, hm, hmm, rfl, hx⟩
  · obtain rfl : v = .slice none 0 0 := by simpa using h1
    exact ⟨[], ⟨none, 0, rfl, fun h0 => absurd h0 (by simp)⟩, by simp [wD, Rows.uptoBulk]⟩
  · obtain rfl : v = .slice (some a) len cap := by simpa using h1
    have hlm : len ≤ m := by rw [hmm]; split <;> omega
    have hS := bulk_slice (H := H) D len ((List.range (m - len)).map fun j => D (len + j))
    have each : ∀ i, i < len → ∃ p : List Fd, ParG w (V i) p ∧ wP p ≤ Rows.uptoBulk (D i) := fun i hi => by
      have hle := le_sum (f := fun i => Rows.uptoBulk (D i)) len i hi
      exact open_par (hx i (by omega)).2 (by have := hB; simp only at this ⊢; omega)
    obtain ⟨q, hq⟩ := Go.Deep.choose_lt each
    refine ⟨(List.range len).map q, ⟨some a, cap, by simp, fun h0 => ?_⟩, ?_⟩
    · have h0' : 0 < len := by simpa using h0
      have h4 := (hx 0 (by omega)).1
      rw [add_zero'] at h4
      obtain ⟨e1, e2⟩ := plain_a h4
      refine ⟨a.block, a.off, by rw [← e1], fun i p hi => ?_⟩
      have hi' : i < len := by have := (List.getElem?_eq_some_iff.1 hi).1; simpa using this
      have e : q i = p := by simpa [hi'] using hi
      rw [← e]
      exact ⟨V i, plain_i e1 (hx i (by omega)).1, (hq i hi').1⟩
    · unfold wD
      rw [List.map_map]
      have := sum_le (f := fun i => wP (q i)) (g := fun i => Rows.uptoBulk (D i)) len fun i hi => (hq i hi).2
      refine Nat.le_trans (Nat.add_le_add_right ?_ 1) hS
      exact this
end

/-- WHAT THE WEIGHTS SAY. -/
theorem mem_sum {α : Type} {f : α → Nat} : ∀ (L : List α) (a : α), a ∈ L → f a ≤ (L.map f).sum
  | [], _, h => by cases h
  | b :: r, a, h => by
    rw [List.map_cons, List.sum_cons]
    rcases List.mem_cons.1 h with rfl | h
    · omega
    · have := mem_sum (f := f) r a h; omega
theorem len_le {α : Type} {f : α → Nat} : ∀ (L : List α), (∀ a ∈ L, 1 ≤ f a) → L.length ≤ (L.map f).sum
  | [], _ => by simp
  | b :: r, h => by
    have := len_le (f := f) r (fun a ha => h a (List.mem_cons_of_mem _ ha))
    have h1 := h b List.mem_cons_self
    rw [List.map_cons, List.sum_cons, List.length_cons]
    omega
theorem wF_sz {f : Fd} (h : wF f ≤ 1048576) : szG f := by
  unfold wF at h
  refine ⟨by omega, fun l hl => ?_, ?_⟩
  · have := mem_sum (f := fun l : Bs => l.length + 1) f.ls l hl
    omega
  · have := len_le (f := fun l : Bs => l.length + 1) f.ls (fun a _ => by omega)
    omega
theorem wP_sz {p : List Fd} (h : wP p ≤ 1048576) : p.length ≤ 16777216 ∧ ∀ f ∈ p, szG f := by
  unfold wP at h
  refine ⟨?_, fun f hf => wF_sz ?_⟩
  · have := len_le (f := wF) p (fun a _ => by unfold wF; omega)
    omega
  · have := mem_sum (f := wF) p f hf
    omega
theorem wD_sz {ps : List (List Fd)} (h : wD ps ≤ 1048576) : ps.length ≤ 16777216 ∧ ∀ p ∈ ps, p.length ≤ 16777216 ∧ ∀ f ∈ p, szG f := by
  unfold wD at h
  refine ⟨?_, fun p hp => wP_sz ?_⟩
  · have := len_le (f := wP) ps (fun a _ => by unfold wP; omega)
    omega
  · have := mem_sum (f := wP) ps p hp
    omega
theorem flat_nl : ∀ L : List Bs, ((L.map (fun l => (32 : UInt8) :: l)).flatMap fun l => l ++ [10]).length ≤ 2 * (L.map fun l => l.length + 1).sum
  | [] => by simp
  | l :: r => by
    have := flat_nl r
    simp only [List.map_cons, List.flatMap_cons, List.length_append, List.length_cons, List.length_nil, List.sum_cons] at this ⊢
    omega
theorem fld_w (f : Fd) : (fldT f).length ≤ 3 * wF f := by
  obtain ⟨nm, ls, ns⟩ := f
  cases ls with
  | nil => simp [fldT, linF]
  | cons a r =>
    have h := flat_nl r
    have e : fldT ⟨nm, a :: r, ns⟩ = (headL nm a ++ [10]) ++ (r.map (fun l => (32 : UInt8) :: l)).flatMap (fun l => l ++ [10]) := by simp [fldT, linF]
    have hh : (headL nm a).length ≤ nm.length + a.length + 2 := by
      unfold headL
      split
      · simp; omega
      · simp; omega
    rw [e]
    unfold wF
    simp only [List.length_append, List.length_cons, List.length_nil, List.map_cons, List.sum_cons] at h ⊢
    omega
theorem par_w : ∀ p : List Fd, (parT p).length ≤ 3 * (p.map wF).sum
  | [] => by simp [parT]
  | f :: r => by
    have := par_w r
    have h1 := fld_w f
    simp only [parT, List.flatMap_cons, List.length_append, List.map_cons, List.sum_cons] at this ⊢
    omega
theorem wtL_w : ∀ ps : List (List Fd), wtL ps ≤ 3 * (ps.map wP).sum
  | [] => by simp [wtL]
  | p :: r => by
    have := wtL_w r
    have h1 := par_w p
    simp only [wtL, List.map_cons, List.sum_cons]
    unfold wP at this ⊢
    omega
theorem prT_w {ps : List (List Fd)} (h : wD ps ≤ 1048576) : (prT ps).length ≤ 16777216 := by
  have h1 := prT_wt ps
  have h2 := wtL_w ps
  unfold wD at h
  omega

end Go.Proofs.YtohnjmhdbbkmbaaDoor
