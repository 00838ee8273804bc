import Derived.Test.YtodlmbhlinpoeaaSvA
import Derived.Deep.WholeRow
import Derived.BigFrame
import Derived.DeepKeys
import Derived.Deep.MidRow
import Derived.Deep.LoopGhost
import Derived.MakeChecks
import Derived.ChangeKeysEq
namespace Go.Proofs.Ytodlmbhlinpoeaa
open Go.RowKit

abbrev Nm := ByteArray
theorem blk_lt {W : World} {g : Nat} {o : Obj} (h : W.heap[g]? = some o) : g < W.heap.size := (Array.getElem?_eq_some_iff.1 h).1
theorem cell_blk {W : World} {g : Nat} {cur : Array Value} {t : TypeId} (h : W.heap[g]? = some (.cells cur t (0, 0))) (i : Nat) : W.cell? ⟨g, i, none⟩ = cur[i]? ∧ W.frozen? ⟨g, i, none⟩ = false := by
  refine ⟨?_, by simp [World.frozen?, h]⟩
  simp [World.cell?, h]
theorem own_same {W W2 : World} {base : Nat} {e : TypeId} {size : Nat} {v : Value} {n : Nat} {xs : List Value} (h : W.ownsRow base e size v n xs) (hb : ∀ g, v.ownBlock = some g → W2.heap[g]? = W.heap[g]?) : W2.ownsRow base e size v n xs := by
  refine ⟨h.1, ?_⟩
  rcases h.2 with h' | ⟨g, cap, cur, rfl, h2, h3, h4⟩
  · exact .inl h'
  · exact .inr ⟨g, cap, cur, rfl, h2, (hb g rfl).trans h3, h4⟩
theorem cell_later {W W2 : World} {p : Addr} {v : Value} (h : W.cell? p = some v) (hb : Below W.heap.size W W2) : W2.cell? p = some v := by
  have hlt := World.block_lt_of_cell? _ _ h
  exact (hb.cell hlt).trans h
theorem rangeAt_later {w w' : World} {b o : Nat} {cs : List Value} (h : w.rangeAt b o cs) (hl : b < w.heap.size) (hb : Below w.heap.size w w') : w'.rangeAt b o cs := fun j v hv => (hb.cell (p := ⟨b, o + j, none⟩) hl).trans (h j v hv)
theorem bx_eq (x : Nm) : (ByteArray.toList x == ByteArray.toList x) = true := by simp
theorem ba_if (x y : Nm) : (ByteArray.toList x == ByteArray.toList y) = decide (x = y) := by
  by_cases e : x = y
  · subst e; simp
  · rw [decide_eq_false e, beq_eq_false_iff_ne, ByteArray.toList_eq, ByteArray.toList_eq]
    intro z
    apply e
    have : x.data = y.data := by simpa using z
    cases x; cases y; simp_all
/-- ROWS OF k CELLS, ONE BEHIND ANOTHER. -/
theorem flat_lenm {k : Nat} : ∀ {rs : List (List Value)}, (∀ r ∈ rs, r.length = k) → rs.flatten.length = rs.length * k
  | [], _ => by simp
  | r :: rs, h => by
    rw [List.flatten_cons, List.length_append, h r List.mem_cons_self, flat_lenm fun x hx => h x (List.mem_cons_of_mem _ hx), List.length_cons]
    rw [Nat.succ_mul]; omega
theorem flat_at {k : Nat} : ∀ {rs : List (List Value)}, (∀ r ∈ rs, r.length = k) → ∀ {i : Nat} {r : List Value}, rs[i]? = some r → ∀ {j : Nat} {u : Value}, r[j]? = some u → rs.flatten[i * k + j]? = some u
  | [], _, _, _, hi, _, _, _ => by cases hi
  | x :: rs, ok, i, r, hi, j, u, hj => by
    have hx := ok x List.mem_cons_self
    rw [List.flatten_cons]
    cases i with
    | zero =>
      cases hi
      have hl := (List.getElem?_eq_some_iff.1 hj).1
      rw [List.getElem?_append_left (by omega)]
      simpa using hj
    | succ i =>
      rw [Nat.succ_mul, List.getElem?_append_right (by omega)]
      have := flat_at (fun y hy => ok y (List.mem_cons_of_mem _ hy)) (i := i) (by simpa using hi) hj
      rw [show i * k + k + j - x.length = i * k + j by omega]
      exact this
theorem flat_inv {k : Nat} : ∀ {rs : List (List Value)}, (∀ r ∈ rs, r.length = k) → ∀ {t : Nat} {u : Value}, rs.flatten[t]? = some u → ∃ i r j, rs[i]? = some r ∧ r[j]? = some u ∧ t = i * k + j
  | [], _, t, u, h => by simp at h
  | x :: rs, ok, t, u, h => by
    have hx := ok x List.mem_cons_self
    rw [List.flatten_cons] at h
    by_cases hl : t < k
    · rw [List.getElem?_append_left (by omega)] at h
      exact ⟨0, x, t, rfl, h, by simp⟩
    · rw [List.getElem?_append_right (by omega)] at h
      obtain ⟨i, q, j, h1, h2, h3⟩ := flat_inv (fun y hy => ok y (List.mem_cons_of_mem _ hy)) h
      exact ⟨i + 1, q, j, by simpa using h1, h2, by rw [Nat.succ_mul]; omega⟩
/-- THE CELLS OF A VALUE OF TEXTS, NUMBERS AND THE LIKE. -/
def isT (t k : Nat) (cs : List Value) : Prop := cs.length = k ∧ (∃ ls, Try.prog.keyLits 6 t cs = some ls) ∧ ∀ v ∈ cs, v.oneCell' = true
theorem cellsA : Try.prog.cellsOf 55 = 3 := by kernel_rfl
theorem cellsF : Try.prog.cellsOf 49 = 34 := by kernel_rfl
theorem cellsU : Try.prog.cellsOf 43 = 32 := by kernel_rfl
theorem cellsW : Try.prog.cellsOf 31 = 4 := by kernel_rfl
theorem cells9 : Try.prog.cellsOf 9 = 1 := by kernel_rfl
theorem neqT {t k : Nat} (hk : Try.prog.keyTypeAt 5 t = true) (hf : ∀ x : List Value, x.length = k → (Value.agg x.toArray).formed Try.prog t = true) {x : List Value} (hx : isT t k x) (w : World) : (binOp .neq t (.agg x.toArray) (.agg x.toArray)).run Try.prog w = .ok (.bool false) w := by
  obtain ⟨ls, hls⟩ := hx.2.1
  obtain ⟨r, hr, hiff⟩ := run_equalIn_deep (P := Try.prog) (10000 - 5) 5 t hk w 6 6 (.agg x.toArray) (.agg x.toArray) ls ls (hf x hx.1) (hf x hx.1) (by simpa [Value.cells] using hls) (by simpa [Value.cells] using hls)
  rw [run_neq_struct, show (10000 : Nat) = 10000 - 5 + 5 from rfl, hr, hiff.2 rfl]
  rfl
theorem formA (x : List Value) (hx : x.length = 3) : (Value.agg x.toArray).formed Try.prog 55 = true := by
  unfold Value.formed
  rw [Try.underlying55, cellsA]
  simp [hx]
theorem formF (x : List Value) (hx : x.length = 34) : (Value.agg x.toArray).formed Try.prog 49 = true := by
  unfold Value.formed
  rw [Try.underlying49, cellsF]
  simp [hx]
theorem formU (x : List Value) (hx : x.length = 32) : (Value.agg x.toArray).formed Try.prog 43 = true := by
  unfold Value.formed
  rw [Try.underlying43, cellsU]
  simp [hx]
theorem formW (x : List Value) (hx : x.length = 4) : (Value.agg x.toArray).formed Try.prog 31 = true := by
  unfold Value.formed
  rw [Try.underlying31, cellsW]
  simp [hx]
theorem neqA {x : List Value} (hx : isT 55 3 x) (w : World) : (binOp .neq 55 (.agg x.toArray) (.agg x.toArray)).run Try.prog w = .ok (.bool false) w := neqT (by kernel_rfl) formA hx w
theorem neqF {x : List Value} (hx : isT 49 34 x) (w : World) : (binOp .neq 49 (.agg x.toArray) (.agg x.toArray)).run Try.prog w = .ok (.bool false) w := neqT (by kernel_rfl) formF hx w
theorem neqU {x : List Value} (hx : isT 43 32 x) (w : World) : (binOp .neq 43 (.agg x.toArray) (.agg x.toArray)).run Try.prog w = .ok (.bool false) w := neqT (by kernel_rfl) formU hx w
theorem neqW {x : List Value} (hx : isT 31 4 x) (w : World) : (binOp .neq 31 (.agg x.toArray) (.agg x.toArray)).run Try.prog w = .ok (.bool false) w := neqT (by kernel_rfl) formW hx w
theorem neqK (n v : Nm) (w : World) : (binOp .neq 29 (.agg #[.string n, .string v]) (.agg #[.string n, .string v])).run Try.prog w = .ok (.bool false) w := by go_simp
theorem infoA : (Try.prog.info? 55).map (·.size) = some 3 := by kernel_rfl
theorem infoF : (Try.prog.info? 49).map (·.size) = some 34 := by kernel_rfl
theorem infoU : (Try.prog.info? 43).map (·.size) = some 32 := by kernel_rfl
theorem infoW : (Try.prog.info? 31).map (·.size) = some 4 := by kernel_rfl
theorem infoH : (Try.prog.info? 47).map (·.size) = some 44 := by kernel_rfl
theorem infoP : (Try.prog.info? 45).map (·.size) = some 43 := by kernel_rfl
/-- A TEXT'S ONE CELL. -/
theorem isT.str {r : List Value} (h : isT 9 1 r) : ∃ s : Nm, r = [.string s] := by
  obtain ⟨_, ⟨ls, hl⟩, _⟩ := h
  obtain ⟨s, e, _⟩ := keyLits_string' Try.underlying9 hl
  exact ⟨s, e⟩
theorem mapM_mem {α β : Type} (f : α → Option β) : ∀ (L : List α) (ys : List β), L.mapM f = some ys → ∀ x ∈ L, ∃ y, f x = some y
  | [], _, _, x, hx => by cases hx
  | a :: L, ys, h, x, hx => by
    rw [List.mapM_cons] at h
    simp only [bind, Option.bind_eq_some_iff, pure, Option.some.injEq] at h
    obtain ⟨b, hb, bs, hbs, rfl⟩ := h
    rcases List.mem_cons.1 hx with rfl | hx
    · exact ⟨b, hb⟩
    · exact mapM_mem f L bs hbs x hx
/-- A FILE'S PATH; WHAT AN ENTRY IS OF. -/
theorem isT.path {r : List Value} (h : isT 49 34 r) : ∃ s : Nm, r[0]? = some (.string s) := by
  obtain ⟨hl, ⟨ls, hk⟩, _⟩ := h
  unfold Program.keyLits at hk
  rw [Try.underlying49] at hk
  simp only at hk
  split at hk
  · obtain ⟨L, h1, _⟩ := Option.map_eq_some_iff.1 hk
    obtain ⟨y, hy⟩ := mapM_mem _ _ _ h1 _ List.mem_cons_self
    obtain ⟨s, e, _⟩ := keyLits_string' Try.underlying9 hy
    refine ⟨s, ?_⟩
    have e2 : ((r.drop 0).take 1)[0]? = some (.string s) := by
      rw [cells9] at e
      rw [e]; rfl
    rw [List.getElem?_take_of_lt (by decide), List.getElem?_drop, Nat.add_zero] at e2
    exact e2
  · cases hk
theorem isT.kind {r : List Value} (h : isT 31 4 r) : ∃ n : Int, r[0]? = some (.int .i64 n) := by
  obtain ⟨hl, ⟨ls, hk⟩, _⟩ := h
  unfold Program.keyLits at hk
  rw [Try.underlying31] at hk
  simp only at hk
  split at hk
  · obtain ⟨L, h1, _⟩ := Option.map_eq_some_iff.1 hk
    obtain ⟨y, hy⟩ := mapM_mem _ _ _ h1 _ List.mem_cons_self
    obtain ⟨n, e, _⟩ := keyLits_int' Try.underlying3 hy
    refine ⟨n, ?_⟩
    have e2 : ((r.drop 0).take 1)[0]? = some (.int .i64 n) := by
      rw [show Try.prog.cellsOf 3 = 1 by kernel_rfl] at e
      rw [e]; rfl
    rw [List.getElem?_take_of_lt (by decide), List.getElem?_drop, Nat.add_zero] at e2
    exact e2
  · cases hk
/-- SUCH ROWS AS THEY LIE. -/
def Rws (t k : Nat) (w : World) (v : Value) (fl : List (List Value)) : Prop :=
  ∃ a c, v = .slice a fl.length c ∧ (∀ r ∈ fl, isT t k r) ∧ (0 < fl.length → ∃ b o, a = some ⟨b, o, none⟩ ∧ b < w.heap.size ∧ ∀ (i : Nat) (r : List Value), fl[i]? = some r → w.rangeAt b (o + i * k) r)
section
variable {t k : Nat} {w w2 : World} {v : Value} {fl : List (List Value)}
theorem Rws.form (h : Rws t k w v fl) : ∃ a c, v = .slice a fl.length c := let ⟨a, c, e, _⟩ := h; ⟨a, c, e⟩
theorem Rws.ok (h : Rws t k w v fl) : ∀ r ∈ fl, isT t k r := let ⟨_, _, _, o, _⟩ := h; o
theorem Rws.later (h : Rws t k w v fl) (hb : Below w.heap.size w w2) : Rws t k w2 v fl := by
  obtain ⟨a, c, e, ho, hr⟩ := h
  refine ⟨a, c, e, ho, fun h0 => ?_⟩
  obtain ⟨b, o, ea, hl, hc⟩ := hr h0
  exact ⟨b, o, ea, Nat.lt_of_lt_of_le hl hb.size, fun i r hi => rangeAt_later (hc i r hi) hl hb⟩
theorem Rws.at {a : Option Addr} {n c : Nat} (h : Rws t k w (.slice a n c) fl) {i : Nat} (hi : i < fl.length) : ∃ b o, a = some ⟨b, o, none⟩ ∧ b < w.heap.size ∧ isT t k fl[i] ∧ w.rangeAt b (o + i * k) fl[i] := by
  obtain ⟨a2, c2, e, ho, hr⟩ := h
  cases e
  obtain ⟨b, o, ea, hl, hc⟩ := hr (by omega)
  exact ⟨b, o, ea, hl, ho _ (List.getElem_mem hi), hc i _ (List.getElem?_eq_getElem hi)⟩
theorem Rws.src {a : Option Addr} {n c : Nat} (h : Rws t k w (.slice a n c) fl) : n = 0 ∨ ∃ b o, a = some ⟨b, o, none⟩ ∧ b < w.heap.size ∧ ∀ j u, fl.flatten[j]? = some u → w.cell? ⟨b, o + j, none⟩ = some u := by
  obtain ⟨a2, c2, e, ok, hr⟩ := h
  cases e
  by_cases h0 : fl.length = 0
  · exact .inl h0
  · obtain ⟨b, o, ea, hl, hc⟩ := hr (by omega)
    refine .inr ⟨b, o, ea, hl, fun j u hj => ?_⟩
    obtain ⟨i, x, t, h1, h2, rfl⟩ := flat_inv (fun r hr => (ok r hr).1) hj
    rw [← Nat.add_assoc]
    exact hc i x h1 t u h2
theorem flat_one (ok : ∀ r ∈ fl, isT t k r) : ∀ u ∈ fl.flatten, u.oneCell' = true := fun u hu => by
  obtain ⟨r, hr, q⟩ := List.mem_flatten.1 hu
  exact (ok r hr).2.2 u q
theorem flat_len (ok : ∀ r ∈ fl, isT t k r) : fl.flatten.length = fl.length * k := flat_lenm fun r hr => (ok r hr).1
theorem Rws.nil (t k : Nat) (w : World) (a : Option Addr) (c : Nat) : Rws t k w (.slice a 0 c) [] := ⟨a, c, rfl, fun _ h => (by cases h), fun h => absurd h (Nat.not_lt_zero _)⟩
/-- THE FIRST OF A ROW OF ONE'S OWN. -/
theorem own_rws {base e g n cap m : Nat} {ys : List Value} (ok : ∀ r ∈ fl, isT t k r) (h : w.ownsRow base e k (.slice (some ⟨g, 0, none⟩) n cap) m (fl.flatten ++ ys)) (c2 : Nat) : Rws t k w (.slice (some ⟨g, 0, none⟩) fl.length c2) fl := by
  refine ⟨_, _, rfl, ok, fun h0 => ⟨g, 0, rfl, (World.ownsRow.lt h g rfl).2, fun i r hi j u hj => ?_⟩⟩
  rw [Nat.zero_add]
  refine owns_at h _ _ ?_
  have hq := flat_at (fun r hr => (ok r hr).1) hi hj
  rw [List.getElem?_append_left (List.getElem?_eq_some_iff.1 hq).1]
  exact hq
end
/-- CLAUSES AS THEY LIE. -/
def Cls (w : World) (v : Value) (cl : List (List (List Value))) : Prop := ∃ a c, v = .slice a cl.length c ∧ (0 < cl.length → ∃ b o, a = some ⟨b, o, none⟩ ∧ b < w.heap.size ∧ ∀ (i : Nat) (al : List (List Value)), cl[i]? = some al → ∃ x, w.cell? ⟨b, o + i, none⟩ = some x ∧ Rws 55 3 w x al)
theorem Cls.form {w : World} {v : Value} {cl : List (List (List Value))} (h : Cls w v cl) : ∃ a c, v = .slice a cl.length c := let ⟨a, c, e, _⟩ := h; ⟨a, c, e⟩
theorem Cls.later {w w' : World} {v : Value} {cl : List (List (List Value))} (h : Cls w v cl) (hb : Below w.heap.size w w') : Cls w' v cl := by
  obtain ⟨a, c, h1, h2⟩ := h
  refine ⟨a, c, h1, fun h0 => ?_⟩
  obtain ⟨b, o, h3, h4, h5⟩ := h2 h0
  refine ⟨b, o, h3, Nat.lt_of_lt_of_le h4 hb.size, fun i al hi => ?_⟩
  obtain ⟨x, h6, h7⟩ := h5 i al hi
  exact ⟨x, cell_later h6 hb, h7.later hb⟩
theorem Cls.at {w : World} {a : Option Addr} {n c : Nat} {cl : List (List (List Value))} (h : Cls w (.slice a n c) cl) {i : Nat} (hi : i < cl.length) : ∃ b o xa xc, a = some ⟨b, o, none⟩ ∧ b < w.heap.size ∧ w.cell? ⟨b, o + i, none⟩ = some (.slice xa (cl[i]).length xc) ∧ Rws 55 3 w (.slice xa (cl[i]).length xc) cl[i] := by
  obtain ⟨a2, c2, e, hr⟩ := h
  cases e
  obtain ⟨b, o, ea, hl, hc⟩ := hr (by omega)
  obtain ⟨x, h1, h2⟩ := hc i _ (List.getElem?_eq_getElem hi)
  obtain ⟨xa, xc, rfl⟩ := h2.form
  exact ⟨b, o, xa, xc, ea, hl, h1, h2⟩
/-- ONE THAT IS HELD, AS IT READS. -/
structure Hk where
  nm : Nm
  vr : Nm
  es : Bool
  dp : List (List (List Value))
  pr : List (List (List Value))
  cf : List (List Value)
  pv : List (List Value)
  fs : List (List Value)
  ar : Nm
  sz : Int
  sm : List Value
  sy : Nm
  mr : Int
/-- ITS CELLS. -/
structure HkC (cs : List Value) (p : Hk) (d r c v f : Value) : Prop where
  len : cs.length = 44
  one : ∀ x ∈ cs, x.oneCell' = true
  c0 : cs[0]? = some (.string p.nm)
  c1 : cs[1]? = some (.string p.vr)
  c2 : cs[2]? = some (.bool p.es)
  c3 : cs[3]? = some d
  c4 : cs[4]? = some r
  c5 : cs[5]? = some c
  c6 : cs[6]? = some v
  c7 : cs[7]? = some f
  c8 : cs[8]? = some (.string p.ar)
  c9 : cs[9]? = some (.int .i64 p.sz)
  cs0 : ∀ j x, p.sm[j]? = some x → cs[10 + j]? = some x
  c42 : cs[42]? = some (.string p.sy)
  c43 : cs[43]? = some (.int .i64 p.mr)
/-- ITS LISTS. -/
structure HkL (w : World) (p : Hk) (d r c v f : Value) : Prop where
  dl : Cls w d p.dp
  rl : Cls w r p.pr
  cl : Rws 55 3 w c p.cf
  vl : Rws 9 1 w v p.pv
  fl : Rws 49 34 w f p.fs
/-- WHAT MAY BE ASKED OF THEM. -/
structure HkZ (p : Hk) : Prop where
  dl : p.dp.length ≤ 5864062014634
  dls : ∀ al ∈ p.dp, al.length ≤ 3518437208780
  rl : p.pr.length ≤ 5864062014634
  rls : ∀ al ∈ p.pr, al.length ≤ 3518437208780
  cl : p.cf.length ≤ 3518437208780
  vl : p.pv.length ≤ 8796093021952
  fl : p.fs.length ≤ 2513169434843
  sl : isT 43 32 p.sm
theorem HkL.later {w w' : World} {p : Hk} {d r c v f : Value} (h : HkL w p d r c v f) (hb : Below w.heap.size w w') : HkL w' p d r c v f :=
  ⟨h.dl.later hb, h.rl.later hb, h.cl.later hb, h.vl.later hb, h.fl.later hb⟩
/-- THOSE THAT ARE HELD, AS THEY LIE. -/
def Hds (w : World) (v : Value) (hs : List Hk) : Prop := ∃ a c, v = .slice a hs.length c ∧ (0 < hs.length → ∃ b o, a = some ⟨b, o, none⟩ ∧ b < w.heap.size ∧ ∀ (i : Nat) (p : Hk), hs[i]? = some p → ∃ cs d r c v f, w.rangeAt b (o + i * 44) cs ∧ HkC cs p d r c v f ∧ HkL w p d r c v f)
theorem Hds.form {w : World} {v : Value} {hs : List Hk} (h : Hds w v hs) : ∃ a c, v = .slice a hs.length c := let ⟨a, c, e, _⟩ := h; ⟨a, c, e⟩
theorem Hds.later {w w' : World} {v : Value} {ps : List Hk} (h : Hds w v ps) (hb : Below w.heap.size w w') : Hds w' v ps := by
  obtain ⟨a, c, h1, h2⟩ := h
  refine ⟨a, c, h1, fun h0 => ?_⟩
  obtain ⟨b, o, h3, h4, h5⟩ := h2 h0
  refine ⟨b, o, h3, Nat.lt_of_lt_of_le h4 hb.size, fun i p hp => ?_⟩
  obtain ⟨cs, d, r, c, v, f, k1, k2, k3⟩ := h5 i p hp
  exact ⟨cs, d, r, c, v, f, rangeAt_later k1 h4 hb, k2, k3.later hb⟩
theorem Hds.at {w : World} {a : Option Addr} {n c : Nat} {hs : List Hk} (h : Hds w (.slice a n c) hs) {i : Nat} (hi : i < hs.length) : ∃ b o cs d r c v f, a = some ⟨b, o, none⟩ ∧ b < w.heap.size ∧ w.rangeAt b (o + i * 44) cs ∧ HkC cs hs[i] d r c v f ∧ HkL w hs[i] d r c v f := by
  obtain ⟨a2, c2, e, hr⟩ := h
  cases e
  obtain ⟨b, o, ea, hl, hc⟩ := hr (by omega)
  obtain ⟨cs, d, r, c, v, f, k⟩ := hc i _ (List.getElem?_eq_getElem hi)
  exact ⟨b, o, cs, d, r, c, v, f, ea, hl, k⟩
/-- WHOSE A PATH IS. -/
def pth (r : List Value) : Nm := match (r[0]? : Option Value) with | some (Value.string s) => s | _ => ⟨#[]⟩
def hasP (p : Nm) (fs : List (List Value)) : Bool := fs.any fun r => decide (pth r = p)
def ownK : List Hk → Nm → Nm × Nm × Bool
  | [], _ => (⟨#[]⟩, ⟨#[]⟩, false)
  | h :: r, p => if hasP p h.fs = true then (h.nm, h.vr, true) else ownK r p
/-- HOW MANY OF EACH KIND. -/
def knd (r : List Value) : Int := match (r[0]? : Option Value) with | some (Value.int IntKind.i64 n) => n | _ => 0
def kix (r : List Value) : Nat := if 1 ≤ knd r ∧ knd r ≤ 6 then (knd r).toNat else 0
def cnt (fl : List (List Value)) (k : Nat) : Nat := (fl.filter fun r => decide (kix r = k)).length
theorem kix_lt (r : List Value) : kix r < 7 := by
  unfold kix
  split
  · omega
  · omega
theorem cnt_snoc (fl : List (List Value)) (r : List Value) (k : Nat) : cnt (fl ++ [r]) k = cnt fl k + if kix r = k then 1 else 0 := by
  unfold cnt
  rw [List.filter_append, List.length_append]
  congr 1
  by_cases e : kix r = k
  · simp [e]
  · simp [e]
theorem cnt_le (fl : List (List Value)) (k : Nat) : cnt fl k ≤ fl.length := List.length_filter_le _ _
end Go.Proofs.Ytodlmbhlinpoeaa
