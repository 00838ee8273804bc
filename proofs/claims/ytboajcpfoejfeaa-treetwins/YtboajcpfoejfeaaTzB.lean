import Derived.Test.YtboajcpfoejfeaaTzF
import Derived.Deep.RegionWith
import Derived.OwnWalk
import Derived.Laws.IdiomCopy
import Derived.Laws.MakeOwn
namespace Go.Proofs.Ytboajcpfoejfeaa
open Go.RowKit Go.Maps

theorem run_copy_many {P : Program} (w : World) (dT sT ty elem : TypeId) (k b o dLen dCap : Nat) (a : Addr) (sLen sCap : Nat) (cs : List Value)
    (hu : P.underlying dT = some (.slice elem)) (hs : (P.info? elem).map (·.size) = some k) (hn : cs.length = Nat.min sLen dLen * k)
    (hsrc : ∀ j v, cs[j]? = some v → w.cell? (a.add j) = some v) (hc : ∀ j, j < cs.length → (w.cell? ⟨b, o + j, none⟩).isSome = true) (hf : ∀ j, j < cs.length → w.frozen? ⟨b, o + j, none⟩ = false) (h1 : ∀ v ∈ cs, v.oneCell' = true) :
    (Builtin.copy_ #[dT, sT] ty #[.slice (some ⟨b, o, none⟩) dLen dCap, .slice (some a) sLen sCap]).run P w = .ok (goInt (Nat.min sLen dLen)) (w.setCells b o cs) := by
  have hl := run_loadCells_list (P := P) w a cs hsrc
  have hst := run_storeCells_cells (P := P) b o cs 0 w (by simpa using hc) (by simpa using hf) h1
  cases hq : P.info? elem with
  | none => simp [hq] at hs
  | some i =>
    have hi : i.size = k := by simpa [hq] using hs
    simp [Builtin.copy_, run_underlying hu, Builtin.lenOf, Builtin.firstCells, sizeOf, typeInfo, hq, hi, ← hn, hl, hst]

theorem run_copy_nothing {P : Program} (w : World) (dT sT ty elem : TypeId) (d a : Option Addr) (k dLen dCap sCap : Nat) (hu : P.underlying dT = some (.slice elem)) (hs : (P.info? elem).map (·.size) = some k) :
    (Builtin.copy_ #[dT, sT] ty #[.slice d dLen dCap, .slice a 0 sCap]).run P w = .ok (goInt 0) w := by
  cases hq : P.info? elem with
  | none => simp [hq] at hs
  | some i =>
    have hl : ∀ (x : Addr), (loadCells x 0).run P w = .ok #[] w := fun x => by simpa using run_loadCells_list (P := P) w x [] (by simp)
    cases d <;> cases a <;> simp [Builtin.copy_, run_underlying hu, Builtin.lenOf, Builtin.firstCells, sizeOf, typeInfo, hq, storeCells, hl]
theorem size_setCells (b : Nat) : ∀ (vs : List Value) (o : Nat) (u : World), (u.setCells b o vs).heap.size = u.heap.size
  | [], _, _ => rfl
  | v :: r, o, u => by rw [World.setCells, size_setCells b r]; simp
theorem below_setCells {w : World} {base : Nat} (b : Nat) (hb : base ≤ b) : ∀ (vs : List Value) (o : Nat) (u : World), Below base w u → Below base w (u.setCells b o vs)
  | [], _, _, h => h
  | v :: r, o, u, h => by
    rw [World.setCells]
    exact below_setCells b hb r (o + 1) _ (h.setCell (p := ⟨b, o, none⟩) hb v)

theorem made_some (z : Array Value) (n j : Nat) (h : j < n) : ((madeCells z n)[j]?).isSome = true := by
  rw [Array.getElem?_eq_getElem (by rw [size_madeCells]; exact h)]; rfl

theorem off_ne {b i j : Nat} (h : i ≠ j) : (⟨b, i, none⟩ : Addr) ≠ ⟨b, j, none⟩ := fun e => h (by injection e)
theorem blk_ne {b c i j : Nat} (h : b ≠ c) : (⟨b, i, none⟩ : Addr) ≠ ⟨c, j, none⟩ := fun e => h (by injection e)

theorem flat_get (m : Nat) (hm : 0 < m) : ∀ (rs : List (List Value)) (_ : ∀ r ∈ rs, r.length = m) (t : Nat), rs.flatten[t]? = (rs[t / m]?).bind (fun r => r[t % m]?)
  | [], _, t => by simp
  | r :: rs, h, t => by
    have hr : r.length = m := h r List.mem_cons_self
    rw [List.flatten_cons]
    by_cases ht : t < m
    · rw [List.getElem?_append_left (by omega), Nat.div_eq_of_lt ht, Nat.mod_eq_of_lt ht]
      rfl
    · rw [List.getElem?_append_right (by omega), hr, flat_get m hm rs (fun x hx => h x (List.mem_cons_of_mem _ hx)) (t - m)]
      have e : t = (t - m) + m := by omega
      have e1 : t / m = (t - m) / m + 1 := by conv => lhs; rw [e, Nat.add_div_right _ hm]
      have e2 : t % m = (t - m) % m := by conv => lhs; rw [e, Nat.add_mod_right]
      rw [e1, e2, List.getElem?_cons_succ]
theorem flat_lenm (m : Nat) : ∀ (rs : List (List Value)) (_ : ∀ r ∈ rs, r.length = m), rs.flatten.length = rs.length * m
  | [], _ => by simp
  | r :: rs, h => by
    rw [List.flatten_cons, List.length_append, h r List.mem_cons_self, flat_lenm m rs (fun x hx => h x (List.mem_cons_of_mem _ hx)), List.length_cons]
    rw [Nat.add_mul]; omega

/-- A NEW BLOCK OF n CELLS, THE FIRST OF THEM WRITTEN. -/
structure Blk (W : World) (B : Nat) (cs : List Value) (n : Nat) : Prop where
  elem : ∀ j v, cs[j]? = some v → W.cell? ⟨B, j, none⟩ = some v
  spot : ∀ j, j < n → (W.cell? ⟨B, j, none⟩).isSome = true
  fr : ∀ j, W.frozen? ⟨B, j, none⟩ = false
  lt : B < W.heap.size
theorem Blk.of {W W' : World} {B n : Nat} {cs : List Value} (h : Blk W B cs n) (hc : ∀ j, W'.cell? ⟨B, j, none⟩ = W.cell? ⟨B, j, none⟩) (hf : ∀ j, W'.frozen? ⟨B, j, none⟩ = W.frozen? ⟨B, j, none⟩) (hl : W.heap.size ≤ W'.heap.size) : Blk W' B cs n :=
  ⟨fun j v hv => (hc j).trans (h.elem j v hv), fun j hj => by rw [hc]; exact h.spot j hj, fun j => (hf j).trans (h.fr j), Nat.lt_of_lt_of_le h.lt hl⟩
theorem Blk.later {W W' : World} {B n : Nat} {cs : List Value} (h : Blk W B cs n) (hb : Below W.heap.size W W') : Blk W' B cs n :=
  h.of (fun j => hb.cell (p := ⟨B, j, none⟩) h.lt) (fun j => hb.frozen (p := ⟨B, j, none⟩) h.lt) hb.size
theorem blk_of (w : World) (z : Array Value) (n : Nat) (t : TypeId) (cs : List Value) (hn : cs.length ≤ n) : Blk ((w.alloc (.cells (madeCells z n) t)).setCells w.heap.size 0 cs) w.heap.size cs n := by
  have hc : ∀ j, j < n → ((w.alloc (.cells (madeCells z n) t)).cell? ⟨w.heap.size, j, none⟩).isSome = true := fun j hj => by
    rw [World.cell?_alloc_at _ _ _ _ rfl]
    exact made_some _ _ _ hj
  refine ⟨fun j v hv => ?_, fun j hj => ?_, fun j => ?_, ?_⟩
  · have hj := (List.getElem?_eq_some_iff.1 hv).1
    have hin := World.cell?_setCells_in w.heap.size cs 0 _ (fun j hj => by rw [Nat.zero_add]; exact hc j (by omega)) j hj
    rw [Nat.zero_add] at hin
    rw [hin]
    exact (List.getElem?_eq_some_iff.1 hv).2 ▸ rfl
  · exact World.isSome_setCells _ _ _ _ _ (hc j hj)
  · rw [World.frozen?_setCells, World.frozen?_alloc_at _ _ _ _ rfl]
  · rw [size_setCells]; simp
/-- CELLS WRITTEN BEHIND. -/
theorem Blk.put {W : World} {B n : Nat} {cs : List Value} (h : Blk W B cs n) (o : Nat) (vs : List Value) (ho : cs.length ≤ o) : Blk (W.setCells B o vs) B cs n := by
  refine ⟨fun j v hv => ?_, fun j hj => World.isSome_setCells _ _ _ _ _ (h.spot j hj), fun j => ?_, by rw [size_setCells]; exact h.lt⟩
  · have hj := (List.getElem?_eq_some_iff.1 hv).1
    rw [World.cell?_setCells_out _ _ _ _ _ (fun _ _ => Or.inl (by show j < o; omega))]
    exact h.elem j v hv
  · rw [World.frozen?_setCells]; exact h.fr j

section
variable {ops : Array Oper} {rest : List Oper} {o : Oper} {a : Act} {w : World} {Q : Exit → Act → World → Prop}
theorem p_storef (x y : Operand) (ho : o.op = .store 32 x y) (hw : Region.wanted o (yielded ops a.tmps) = true) (b off : Nat) (hx : a.eval x = .pointer (some ⟨b, off, none⟩)) (l : List Value) (hy : a.eval y = .agg l.toArray) (hl : l.length = 34) (h1 : ∀ x ∈ l, x.oneCell' = true) (ht : w.there b off 34)
    (h : wpList Try.prog ops Q rest (a.put o.dst undef) (w.setCells b off l)) : wpList Try.prog ops Q (o :: rest) a w := by
  refine BigFrame.wpList_want hw fun K hK => ?_
  exact wp_store_mid 32 x y ho b off l.toArray hx hy (by rw [List.size_toArray, hl]; exact ht) (by rw [infoF, List.size_toArray, hl]) (all_oneCell_toArray h1) (hK _ _ h)
theorem p_storef' (x y : Operand) (ho : o.op = .store 32 x y) (hw : Region.wanted o (yielded ops a.tmps) = true) (b off : Nat) (hx : a.eval x = .pointer (some ⟨b, off, none⟩)) (l : List Value) (hy : a.eval y = .agg l.toArray) (ht : w.there b off 34) (hl : l.length = 34) (h1 : l.all (fun x => x.oneCell') = true) (h0 : l[0]? = some (.string ⟨#[77, 65, 82, 75]⟩))
    (h : ∀ w2, (∃ ms : List Value, w2 = w.setCells b off ms ∧ ms.length = 34 ∧ ms[0]? = some (.string ⟨#[77, 65, 82, 75]⟩)) → wpList Try.prog ops Q rest (a.put o.dst undef) w2) : wpList Try.prog ops Q (o :: rest) a w :=
  p_storef x y ho hw b off hx l hy hl (List.all_eq_true.1 h1) ht (h _ ⟨l, rfl, hl, h0⟩)
end

def mark : Nm := ⟨#[77, 65, 82, 75]⟩
/-- THE CELLS OF FILES. -/
def fC (fs : List Fi) : List Value := (fs.map Fi.cs).flatten
theorem fC_all {fs : List Fi} (h : ∀ f ∈ fs, f.ok) : ∀ r ∈ fs.map Fi.cs, r.length = 34 := fun r hr => by
  obtain ⟨f, hf, rfl⟩ := List.mem_map.1 hr
  exact (h f hf).len
theorem fC_len {fs : List Fi} (h : ∀ f ∈ fs, f.ok) : (fC fs).length = fs.length * 34 := by
  unfold fC
  rw [flat_lenm 34 _ (fC_all h), List.length_map]
theorem fC_at {fs : List Fi} (h : ∀ f ∈ fs, f.ok) {i j : Nat} {f : Fi} (hf : fs[i]? = some f) (hj : j < 34) : (fC fs)[i * 34 + j]? = f.cs[j]? := by
  unfold fC
  rw [flat_get 34 (by omega) _ (fC_all h), show (i * 34 + j) / 34 = i from by omega, show (i * 34 + j) % 34 = j from by omega, List.getElem?_map, hf]
  rfl
theorem infoFz : ∃ zc : List Value, (Try.prog.info? 32).map (fun i => (i.zero, i.size, i.bytes)) = some (some (.agg zc.toArray), 34, 56) ∧ zc.length = 34 ∧ zc.all (·.oneCell') = true :=
  ⟨((((Try.prog.info? 32).bind (·.zero)).map fun z => z.cells.toList).getD []), by kernel_rfl, by kernel_rfl, by kernel_rfl⟩
theorem makeG : ∃ zc : Array Value, ∀ (n : Nat) (_ : n ≤ 2513169434843) (u : World), (Instr.makeSlice 22 (.int .i64 ((n : Int) + 1)) (.int .i64 ((n : Int) + 1))).run Try.prog u =
    .ok (.slice (some ⟨u.heap.size, 0, none⟩) (n + 1) (n + 1)) (u.alloc (.cells (madeCells zc ((n + 1) * 34)) 32)) := by
  obtain ⟨zc, hzc, _⟩ := infoFz
  obtain ⟨i0, hi, hz0, hz1, hz2⟩ := info_parts hzc
  refine ⟨zc.toArray, fun n hn u => ?_⟩
  have h := run_make (P := Try.prog) u 22 32 i0 (.agg zc.toArray) Try.underlying22 hi hz0 .i64 .i64 ((n : Int) + 1) ((n : Int) + 1) (by omega) (Int.le_refl _) (by rw [hz2]; omega) (by omega)
  have e : ((n : Int) + 1).toNat = n + 1 := by omega
  rw [e] at h
  simpa [hz1, Value.cells] using h
theorem copy_files (fs : List Fi) (x : Value) (ty : TypeId) (C c : Nat) (u : World) (h : Fis u x fs) (hs : ∀ j, j < fs.length * 34 → (u.cell? ⟨C, j, none⟩).isSome = true) (hf : ∀ j, u.frozen? ⟨C, j, none⟩ = false) :
    ∃ v', (Builtin.copy_ #[22, 22] ty #[.slice (some ⟨C, 0, none⟩) (fs.length + 1) c, x]).run Try.prog u = .ok v' (u.setCells C 0 (fC fs)) := by
  obtain ⟨a, xc, rfl, hok, hr⟩ := h
  have hlen := fC_len hok
  cases hfs : fs with
  | nil =>
    exact ⟨goInt 0, run_copy_nothing (P := Try.prog) u 22 22 ty 32 (some ⟨C, 0, none⟩) a 34 _ c xc Try.underlying22 infoF⟩
  | cons y l =>
    rw [← hfs]
    obtain ⟨b, o, rfl, hbl, hc⟩ := hr (by rw [hfs]; simp)
    refine ⟨_, run_copy_many (P := Try.prog) u 22 22 ty 32 34 C 0 _ c ⟨b, o, none⟩ _ xc (fC fs) Try.underlying22 infoF ?_ ?_ ?_ ?_ ?_⟩
    · have e : Nat.min fs.length (fs.length + 1) = fs.length := Nat.min_eq_left (Nat.le_succ _)
      rw [hlen, e]
    · intro j v hj
      rw [Addr.add_mid]
      unfold fC at hj
      rw [flat_get 34 (by omega) _ (fC_all hok) j] at hj
      obtain ⟨r, hr2, hv⟩ := Option.bind_eq_some_iff.1 hj
      rw [List.getElem?_map] at hr2
      obtain ⟨f, hf2, rfl⟩ := Option.map_eq_some_iff.1 hr2
      have := hc _ f hf2 (j % 34) v hv
      rw [show o + j / 34 * 34 + j % 34 = o + j from by omega] at this
      exact this
    · intro j hj
      rw [Nat.zero_add]
      exact hs j (by rw [hlen] at hj; exact hj)
    · intro j _
      exact hf _
    · intro v hv
      unfold fC at hv
      obtain ⟨r, hr2, hv2⟩ := List.mem_flatten.1 hv
      obtain ⟨f, _, rfl⟩ := List.mem_map.1 hr2
      exact f.one v hv2
/-- FILES IN A BLOCK OF THEIR OWN, THE MARK BEHIND THEM. -/
structure Fb (W : World) (B : Nat) (fs : List Fi) : Prop where
  ok : ∀ f ∈ fs, f.ok
  blk : Blk W B (fC fs ++ [.string mark]) ((fs.length + 1) * 34)
theorem Fb.later {W W2 : World} {B : Nat} {fs : List Fi} (h : Fb W B fs) (hb : Below W.heap.size W W2) : Fb W2 B fs := ⟨h.ok, h.blk.later hb⟩
theorem Fb.same {W W2 : World} {B : Nat} {fs : List Fi} (h : Fb W B fs) (hs : W.heap.size ≤ W2.heap.size) (hb : W2.heap[B]? = W.heap[B]?) : Fb W2 B fs :=
  ⟨h.ok, h.blk.of (fun j => World.cell?_of_block (a := ⟨B, j, none⟩) hb) (fun j => by unfold World.frozen?; simp [hb]) hs⟩
theorem Fb.cell {W : World} {B : Nat} {fs : List Fi} (h : Fb W B fs) {i j : Nat} {f : Fi} {u : Value} (hf : fs[i]? = some f) (hj : f.cs[j]? = some u) : W.cell? ⟨B, i * 34 + j, none⟩ = some u := by
  have hl := (List.getElem?_eq_some_iff.1 hj).1
  rw [(h.ok f (List.mem_of_getElem? hf)).len] at hl
  have hi := (List.getElem?_eq_some_iff.1 hf).1
  refine h.blk.elem _ _ ?_
  rw [List.getElem?_append_left (by rw [fC_len h.ok]; omega), fC_at h.ok hf hl]
  exact hj
theorem Fb.mark {W : World} {B : Nat} {fs : List Fi} (h : Fb W B fs) : W.cell? ⟨B, fs.length * 34, none⟩ = some (.string mark) := by
  refine h.blk.elem _ _ ?_
  rw [List.getElem?_append_right (by rw [fC_len h.ok]; exact Nat.le_refl _), fC_len h.ok, Nat.sub_self]
  rfl
theorem Fb.fis {W : World} {B : Nat} {fs : List Fi} (h : Fb W B fs) (c : Nat) : Fis W (.slice (some ⟨B, 0, none⟩) fs.length c) fs :=
  ⟨_, c, rfl, h.ok, fun _ => ⟨B, 0, rfl, h.blk.lt, fun i f hf j u hj => by rw [Nat.zero_add]; exact h.cell hf hj⟩⟩
def Fi.sz (f : Fi) (z : Int) : Fi := { f with z := z }
/-- A SIZE WRITTEN OVER. -/
theorem Fb.write {W : World} {B : Nat} {fs : List Fi} (h : Fb W B fs) {i : Nat} {f : Fi} (hf : fs[i]? = some f) {z : Int} (hz : (Lit.int .i64 z).wf = true) : Fb (W.setCell ⟨B, i * 34 + 1, none⟩ (.int .i64 z)) B (fs.set i (f.sz z)) := by
  have hi := (List.getElem?_eq_some_iff.1 hf).1
  have hfo := h.ok f (List.mem_of_getElem? hf)
  have ok2 : ∀ g ∈ fs.set i (f.sz z), g.ok := fun g hg => by
    rcases List.mem_or_eq_of_mem_set hg with q | rfl
    · exact h.ok g q
    · exact ⟨hfo.sz, hz, hfo.sl, hfo.sr⟩
  have h1 : W.cell? ⟨B, i * 34 + 1, none⟩ = some (.int .i64 f.z) := h.cell (j := 1) hf rfl
  have hl2 : (fC (fs.set i (f.sz z))).length = fs.length * 34 := by rw [fC_len ok2, List.length_set]
  refine ⟨ok2, ⟨fun j v hv => ?_, fun j hj => ?_, fun j => ?_, by rw [set_size]; exact h.blk.lt⟩⟩
  · by_cases e : j = i * 34 + 1
    · subst e
      rw [World.cell?_setCell_same _ _ _ h1]
      rw [List.getElem?_append_left (by rw [hl2]; omega), fC_at ok2 (List.getElem?_set_self hi) (by omega)] at hv
      exact hv
    · rw [World.cell?_setCell_other _ _ _ _ (off_ne (Ne.symm e))]
      by_cases hj : j < fs.length * 34
      · rw [List.getElem?_append_left (by rw [hl2]; exact hj)] at hv
        have hd : j / 34 < fs.length := by omega
        have hm : j % 34 < 34 := by omega
        by_cases q : j / 34 = i
        · rw [show j = i * 34 + j % 34 from by omega, fC_at ok2 (List.getElem?_set_self hi) hm] at hv
          rw [show j = i * 34 + j % 34 from by omega]
          refine h.cell hf ?_
          have hne : j % 34 ≠ 1 := by omega
          match hq : j % 34 with
          | 0 => rw [hq] at hv; exact hv
          | 1 => exact absurd hq hne
          | n + 2 => rw [hq] at hv; exact hv
        · have hf2 : fs[j / 34]? = some fs[j / 34] := List.getElem?_eq_getElem hd
          rw [show j = j / 34 * 34 + j % 34 from by omega, fC_at ok2 (by rw [List.getElem?_set_ne (Ne.symm q)]; exact hf2) hm] at hv
          rw [show j = j / 34 * 34 + j % 34 from by omega]
          exact h.cell hf2 hv
      · rw [List.getElem?_append_right (by rw [hl2]; omega), hl2] at hv
        refine h.blk.elem _ _ ?_
        rw [List.getElem?_append_right (by rw [fC_len h.ok]; omega), fC_len h.ok]
        exact hv
  · rw [List.length_set] at hj
    by_cases e : j = i * 34 + 1
    · subst e; rw [World.cell?_setCell_same _ _ _ h1]; rfl
    · rw [World.cell?_setCell_other _ _ _ _ (off_ne (Ne.symm e))]; exact h.blk.spot j hj
  · rw [World.frozen?_setCell]; exact h.blk.fr j
theorem Fb.made {W : World} {B : Nat} {fs : List Fi} (ok : ∀ f ∈ fs, f.ok) (h : Blk W B (fC fs) ((fs.length + 1) * 34)) (ms : List Value) (hm : ms.length = 34) (h0 : ms[0]? = some (.string ⟨#[77, 65, 82, 75]⟩)) : Fb (W.setCells B (fs.length * 34) ms) B fs := by
  have hl := fC_len ok
  have hp := h.put (fs.length * 34) ms (by omega)
  refine ⟨ok, ⟨fun j v hv => ?_, hp.spot, hp.fr, hp.lt⟩⟩
  by_cases e : j < (fC fs).length
  · rw [List.getElem?_append_left e] at hv
    exact hp.elem j v hv
  · rw [List.getElem?_append_right (by omega)] at hv
    have hj := (List.getElem?_eq_some_iff.1 hv).1
    rw [List.length_singleton] at hj
    obtain rfl : j = fs.length * 34 := by omega
    rw [hl, Nat.sub_self] at hv
    have := World.rangeAt_setCells_same W B (fs.length * 34) ms (by rw [hm]; exact fun j hj => ⟨h.spot _ (by omega), h.fr _⟩) 0 _ h0
    rw [Nat.add_zero] at this
    rw [this]
    exact hv
set_option maxRecDepth 100000 in
set_option maxHeartbeats 4000000 in
theorem lentFiles_any {w : World} {v : Value} {fs : List Fi} (hl : fs.length ≤ 2513169434843) (h : Fis w v fs) :
    Calls Try.prog 4 #[v] w fun e w' => e = .returned (.slice (some ⟨w.heap.size, 0, none⟩) fs.length (fs.length + 1)) ∧ Fb w' w.heap.size fs ∧ Below w.heap.size w w' := by
  obtain ⟨a, c, rfl⟩ := h.form
  obtain ⟨zc, hmk⟩ := makeG
  have mk := hmk fs.length (by omega) w
  have hb := (Below.refl w.heap.size w).alloc (Nat.le_refl _) (.cells (madeCells zc ((fs.length + 1) * 34)) 32)
  obtain ⟨v', hcp⟩ := copy_files fs (.slice a fs.length c) 3 w.heap.size (fs.length + 1) (w.alloc (.cells (madeCells zc ((fs.length + 1) * 34)) 32)) (h.later hb) (fun j hj => by rw [World.cell?_alloc_at _ _ _ _ rfl]; exact made_some _ _ _ (by omega)) (fun j => by rw [World.frozen?_alloc_at _ _ _ _ rfl])
  have hk := blk_of w zc ((fs.length + 1) * 34) 32 (fC fs) (by rw [fC_len h.ok]; omega)
  have hb2 := below_setCells w.heap.size (Nat.le_refl _) (fC fs) 0 _ hb
  have HT := hide (show World.there ((w.alloc (.cells (madeCells zc ((fs.length + 1) * 34)) 32)).setCells w.heap.size 0 (fC fs)) w.heap.size (fs.length * 34) 34 from fun j hj => ⟨hk.spot _ (by omega), hk.fr _⟩)
  have HM := hide (show ∀ w2, (∃ ms : List Value, w2 = ((w.alloc (.cells (madeCells zc ((fs.length + 1) * 34)) 32)).setCells w.heap.size 0 (fC fs)).setCells w.heap.size (fs.length * 34) ms ∧ ms.length = 34 ∧ ms[0]? = some (.string ⟨#[77, 65, 82, 75]⟩)) → Fb w2 w.heap.size fs ∧ Below w.heap.size w w2 from fun w2 ⟨ms, e, h1, h2⟩ => by
    subst e
    exact ⟨Fb.made h.ok hk ms h1 h2, below_setCells w.heap.size (Nat.le_refl _) ms _ _ hb2⟩)
  clear hmk hk hb2 hb h
  obtain ⟨W3, hW3⟩ : ∃ W3, W3 = (w.alloc (.cells (madeCells zc ((fs.length + 1) * 34)) 32)).setCells w.heap.size 0 (fC fs) := ⟨_, rfl⟩
  rw [← hW3] at hcp HT HM
  clear hW3
  obtain ⟨N, hN⟩ : ∃ N, fs.length = N := ⟨_, rfl⟩
  rw [hN] at mk hcp hl HT HM ⊢
  clear hN
  go_enter Try.func4, Try.ntmps4
  go_wp2_with ((with_reducible refine p_storef' _ _ rfl rfl w.heap.size (N * 34) rfl _ rfl (unhide HT) ?fa1 ?fa2 ?fa3 ?fa4); (case fa1 => rfl); (case fa2 => rfl); (case fa3 => rfl); intro w4 hw4; obtain ⟨HF, HB⟩ := unhide HM w4 hw4; clear hw4)
  go_ret
  exact ⟨rfl, HF, HB⟩
set_option maxRecDepth 100000 in
set_option maxHeartbeats 4000000 in
theorem sameFiles_yes {w : World} {u v : Value} {fs : List Fi} (hl : fs.length ≤ 2513169434843) (h : Fis w u fs) (k : Fis w v fs) :
    Calls Try.prog 16 #[u, v] w fun e w' => e = .returned (.bool true) ∧ ∃ n, w' = w.drewN n := by
  obtain ⟨a, c, rfl⟩ := h.form
  obtain ⟨a2, c2, rfl⟩ := k.form
  have HP := hide (show ∀ i (hi : i < fs.length), ∃ b o, a = some ⟨b, o, none⟩ ∧ b < w.heap.size ∧ (fs[i]).ok ∧ w.rangeAt b (o + i * 34) (fs[i]).cs from fun i hi => h.at hi)
  have HR := hide (show ∀ i (hi : i < fs.length), ∃ b o, a2 = some ⟨b, o, none⟩ ∧ b < w.heap.size ∧ (fs[i]).ok ∧ w.rangeAt b (o + i * 34) (fs[i]).cs from fun i hi => k.at hi)
  obtain ⟨N, hN⟩ : ∃ N, N = fs.length := ⟨_, rfl⟩
  have HN := hide hN
  rw [← hN] at hl ⊢
  clear h k hN
  go_enter Try.func16, Try.ntmps16
  go_wp2_with fail
  go_loopg [5] N (fun gq iv wr => ∃ i n : Nat, iv = .int .i64 i ∧ i ≤ N ∧ N - i ≤ gq ∧ wr = w.drewN n)
  case atStart => exact ⟨0, 0, by go_num, by omega, by omega, rfl⟩
  case round =>
    obtain ⟨i, n, rfl, hi, hg, rfl⟩ := hrel
    by_cases hlt : i < N
    · have hin : (i : Int) < (N : Int) := by omega
      have hil : i < fs.length := by have := unhide HN; omega
      obtain ⟨g, o, rfl, hgl, hok, c0⟩ := unhide HP i hil
      obtain ⟨g2, o2, rfl, hgl2, _, d0⟩ := unhide HR i hil
      have he : ∀ X, (binOp .neq 32 (.agg (fs[i]).cs.toArray) (.agg (fs[i]).cs.toArray)).run Try.prog X = .ok (.bool false) X := fun X => neqF hok X
      have hlen := hok.len
      generalize (fs[i]).cs = ys at *
      have l1 : (Try.prog.info? 32).map (·.size) = some ys.length := by rw [hlen]; exact infoF
      have HS := hide (show ∀ X, Below w.heap.size w X → X.rangeAt g (o + i * 34) ys ∧ X.rangeAt g2 (o2 + i * 34) ys from fun X hX => ⟨fun j u hj => (hX.cell (p := ⟨g, _, none⟩) hgl).trans (c0 j u hj), fun j u hj => (hX.cell (p := ⟨g2, _, none⟩) hgl2).trans (d0 j u hj)⟩)
      have HD := hide (show (w.drewN n).drew = w.drewN (n + 1) from rfl)
      have B0 := hide (bl_drewN w n).drew
      clear hok HP HR c0 d0
      go_wp2_with fail
      refine wp_region_held_drew (S := fun w' => w'.rangeAt g (o + i * 34) ys ∧ w'.rangeAt g2 (o2 + i * 34) ys) (by kernel_rfl) ?_ (fun hHeld => ?_)
      · exact unhide HS _ (unhide B0)
      refine wpAnyH_take (i := 0) (oi := { dst := some 17, op := Op.move (Operand.tmp 0), type := 22, pos := "law.go:32", after := #[], guard := none }) (v := ?_) rfl (by kernel_rfl) (by kernel_rfl) (by kernel_rfl) (fun _ _ _ h => h) (Or.inl ⟨by rfl, ?_⟩) (by assumption) ?_
      rotate_left
      · intro w hSw; (try dsimp only at hSw); go_simp; (try with_reducible rfl)
      try simp only [Act.put, List.setIfInBounds_toArray, List.set_cons_zero, List.set_cons_succ]
      refine wpAnyH_take (i := 1) (oi := { dst := some 18, op := Op.move (Operand.tmp 5), type := 3, pos := "law.go:32", after := #[], guard := none }) (v := ?_) rfl (by kernel_rfl) (by kernel_rfl) (by kernel_rfl) (fun _ _ _ h => h) (Or.inl ⟨by rfl, ?_⟩) (by assumption) ?_
      rotate_left
      · intro w hSw; (try dsimp only at hSw); go_simp; (try with_reducible rfl)
      try simp only [Act.put, List.setIfInBounds_toArray, List.set_cons_zero, List.set_cons_succ]
      refine wpAnyH_take (i := 2) (oi := { dst := some 19, op := Op.indexAddr 22 (Operand.tmp 17) (Operand.tmp 18), type := 0, pos := "law.go:32", after := #[{ on := 0, ground := Ground.data }, { on := 1, ground := Ground.data }], guard := none }) (v := ?_) rfl (by kernel_rfl) (by kernel_rfl) (by kernel_rfl) (fun _ _ _ h => h) (Or.inl ⟨by rfl, ?_⟩) (by assumption) ?_
      rotate_left
      · intro w hSw; (try dsimp only at hSw); go_simp; (try with_reducible rfl)
      try simp only [Act.put, List.setIfInBounds_toArray, List.set_cons_zero, List.set_cons_succ]
      refine wpAnyH_take (i := 3) (oi := { dst := some 20, op := Op.load 32 (Operand.tmp 19), type := 32, pos := "law.go:32", after := #[{ on := 2, ground := Ground.data }], guard := none }) (v := .agg (ys).toArray) rfl (by kernel_rfl) (by kernel_rfl) (by kernel_rfl) (fun _ _ _ h => h) (yieldsIf_load_mid (by rfl) 32 (.tmp 19) rfl g (o + i * 34) (by rfl) (ys) _ (fun _ h => h.1) Try.underlying32 rfl l1) (by assumption) ?_
      try simp only [Act.put, List.setIfInBounds_toArray, List.set_cons_zero, List.set_cons_succ]
      refine wpAnyH_take (i := 4) (oi := { dst := some 21, op := Op.move (Operand.tmp 1), type := 22, pos := "law.go:32", after := #[], guard := none }) (v := ?_) rfl (by kernel_rfl) (by kernel_rfl) (by kernel_rfl) (fun _ _ _ h => h) (Or.inl ⟨by rfl, ?_⟩) (by assumption) ?_
      rotate_left
      · intro w hSw; (try dsimp only at hSw); go_simp; (try with_reducible rfl)
      try simp only [Act.put, List.setIfInBounds_toArray, List.set_cons_zero, List.set_cons_succ]
      refine wpAnyH_take (i := 5) (oi := { dst := some 22, op := Op.move (Operand.tmp 5), type := 3, pos := "law.go:32", after := #[], guard := none }) (v := ?_) rfl (by kernel_rfl) (by kernel_rfl) (by kernel_rfl) (fun _ _ _ h => h) (Or.inl ⟨by rfl, ?_⟩) (by assumption) ?_
      rotate_left
      · intro w hSw; (try dsimp only at hSw); go_simp; (try with_reducible rfl)
      try simp only [Act.put, List.setIfInBounds_toArray, List.set_cons_zero, List.set_cons_succ]
      refine wpAnyH_take (i := 6) (oi := { dst := some 23, op := Op.indexAddr 22 (Operand.tmp 21) (Operand.tmp 22), type := 0, pos := "law.go:32", after := #[{ on := 4, ground := Ground.data }, { on := 5, ground := Ground.data }], guard := none }) (v := ?_) rfl (by kernel_rfl) (by kernel_rfl) (by kernel_rfl) (fun _ _ _ h => h) (Or.inl ⟨by rfl, ?_⟩) (by assumption) ?_
      rotate_left
      · intro w hSw; (try dsimp only at hSw); go_simp; (try with_reducible rfl)
      try simp only [Act.put, List.setIfInBounds_toArray, List.set_cons_zero, List.set_cons_succ]
      refine wpAnyH_take (i := 7) (oi := { dst := some 24, op := Op.load 32 (Operand.tmp 23), type := 32, pos := "law.go:32", after := #[{ on := 6, ground := Ground.data }], guard := none }) (v := .agg (ys).toArray) rfl (by kernel_rfl) (by kernel_rfl) (by kernel_rfl) (fun _ _ _ h => h) (yieldsIf_load_mid (by rfl) 32 (.tmp 23) rfl g2 (o2 + i * 34) (by rfl) (ys) _ (fun _ h => h.2) Try.underlying32 rfl l1) (by assumption) ?_
      try simp only [Act.put, List.setIfInBounds_toArray, List.set_cons_zero, List.set_cons_succ]
      refine wpAnyH_take (i := 8) (oi := { dst := some 25, op := Op.binOp BinOp.neq 32 (Operand.tmp 20) (Operand.tmp 24) 32, type := 4, pos := "law.go:32", after := #[{ on := 3, ground := Ground.data }, { on := 7, ground := Ground.data }], guard := none }) (v := ?_) rfl (by kernel_rfl) (by kernel_rfl) (by kernel_rfl) (fun _ _ _ h => h) (Or.inl ⟨by rfl, ?_⟩) (by assumption) ?_
      rotate_left
      · intro w hSw; (try dsimp only at hSw); go_simp; (try with_reducible rfl)
      try simp only [Act.put, List.setIfInBounds_toArray, List.set_cons_zero, List.set_cons_succ]
      refine wpAnyH_done (by kernel_rfl) ?_ _
      go_wp2_with fail
      go_roundg (N - (i + 1))
      case measure => omega
      case rel => exact ⟨i + 1, n + 1, by go_num, by omega, by omega, unhide HD⟩
    · obtain rfl : i = N := by omega
      go_wp2_with fail
      go_ret
      exact ⟨rfl, n, rfl⟩
end Go.Proofs.Ytboajcpfoejfeaa
