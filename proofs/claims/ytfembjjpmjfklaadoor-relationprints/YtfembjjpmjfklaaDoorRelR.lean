import Derived.Test.YtfembjjpmjfklaaDoorRelC
import Derived.OwnWalk
namespace Go.Proofs.YtfembjjpmjfklaaDoor
open Go.RowKit

/-- THE FIRST ERROR OF A ROW OF PIECES. -/
def errOf (p : ByteArray → Int) : List ByteArray → Int
  | [] => 0
  | t :: r => if p t ≠ 0 then p t else errOf p r
theorem errOf_at (p : ByteArray → Int) : ∀ (l : List ByteArray) (k : Nat) (hk : k < l.length), (∀ j (hj : j < l.length), j < k → p l[j] = 0) → p l[k] ≠ 0 → errOf p l = p l[k]
  | [], k, hk, _, _ => absurd hk (Nat.not_lt_zero _)
  | t :: r, 0, _, _, hn => by
    have hn' : p t ≠ 0 := hn
    show (if p t ≠ 0 then p t else errOf p r) = p t
    rw [if_pos hn']
  | t :: r, k + 1, hk, h, hn => by
    have h0 : p t = 0 := h 0 (Nat.succ_pos _) (Nat.succ_pos _)
    show (if p t ≠ 0 then p t else errOf p r) = _
    rw [if_neg (by simp [h0])]
    exact errOf_at p r k (Nat.lt_of_succ_lt_succ hk) (fun j hj hjk => h (j + 1) (Nat.succ_lt_succ hj) (Nat.succ_lt_succ hjk)) hn
theorem errOf_none (p : ByteArray → Int) : ∀ (l : List ByteArray), (∀ j (hj : j < l.length), p l[j] = 0) → errOf p l = 0
  | [], _ => rfl
  | t :: r, h => by
    have h0 : p t = 0 := h 0 (Nat.succ_pos _)
    show (if p t ≠ 0 then p t else errOf p r) = 0
    rw [if_neg (by simp [h0])]
    exact errOf_none p r (fun j hj => h (j + 1) (Nat.succ_lt_succ hj))

/-- A TEXT'S PIECES BETWEEN BYTES c. -/
def pcs (s : ByteArray) (c : UInt8) : List ByteArray := Lib.splitB ⟨#[c]⟩ 0 (Lib.countB s ⟨#[c]⟩) s
theorem pcs_len (s : ByteArray) (c : UInt8) : (pcs s c).length = Lib.countB s ⟨#[c]⟩ + 1 := Lib.splitB_all ⟨#[c]⟩ (Nat.le_refl _) 0 _ s rfl

def amCells (a : Am) : List Value := [.string a.n, .int .i64 a.op, .string a.v]

/-- A SLICE OF THESE ATOMS. -/
def Ams (w : World) (v : Value) (al : List Am) : Prop :=
  ∃ a c, v = .slice a al.length c ∧ al.length ≤ 9223372036854775807 ∧ ∀ i (h : i < al.length), ∃ b o, a = some ⟨b, o, none⟩ ∧ b < w.heap.size ∧ w.cell? ⟨b, o + i * 3, none⟩ = some (.string al[i].n) ∧ w.cell? ⟨b, o + i * 3 + 1, none⟩ = some (.int .i64 al[i].op) ∧ w.cell? ⟨b, o + i * 3 + 2, none⟩ = some (.string al[i].v)
theorem Ams.later {w w' : World} {v : Value} {al : List Am} (h : Ams w v al) (hb : Below w.heap.size w w') : Ams w' v al := by
  obtain ⟨a, c, h1, h2, h3⟩ := h
  refine ⟨a, c, h1, h2, fun i hi => ?_⟩
  obtain ⟨b, o, e1, e2, e3, e4, e5⟩ := h3 i hi
  exact ⟨b, o, e1, Nat.lt_of_lt_of_le e2 hb.size, (hb.cell (p := ⟨b, _, none⟩) e2).trans e3, (hb.cell (p := ⟨b, _, none⟩) e2).trans e4, (hb.cell (p := ⟨b, _, none⟩) e2).trans e5⟩

theorem infoA : (Tryd.prog.info? 34).map (fun i => (i.zero, i.size, i.bytes)) = some (some (.agg #[.string ⟨#[]⟩, .int .i64 0, .string ⟨#[]⟩]), 3, 40) := by kernel_rfl

theorem cSplit (s : ByteArray) (c : UInt8) (w : World) (hs : s.size < 4294967281) (hg : Glob w) :
    Calls Tryd.prog 94 #[.string s, .string ⟨#[c]⟩] w fun e w' => e = .returned (.slice (some ⟨w.heap.size, 0, none⟩) (pcs s c).length (pcs s c).length) ∧ w' = w.alloc (.cells ((pcs s c).map Value.string).toArray 9) := by
  obtain ⟨m, hm⟩ := hg.mx
  rw [pcs_len]
  exact Any.strings_Split Tryd.lays146 (by kernel_rfl) s ⟨#[c]⟩ m w hs hm (Nat.le_refl _)
theorem cCount (s : ByteArray) (c : UInt8) (w : World) (hs : s.size < 4294967281) (hg : Glob w) :
    Calls Tryd.prog 93 #[.string s, .string ⟨#[c]⟩] w fun e w' => e = .returned (.int .i64 ((Lib.countB s ⟨#[c]⟩ : Nat) : Int)) ∧ w' = w := by
  obtain ⟨m, hm⟩ := hg.mx
  exact Any.strings_Count_any Tryd.lays138 s ⟨#[c]⟩ m w hs hm (Nat.le_refl _)

theorem upto_nx (p : ByteArray → Prop) (ps : List ByteArray) (k : Nat) (hk : k < ps.length) (h : ∀ j (hj : j < ps.length), j < k → p ps[j]) (h0 : p ps[k]) : ∀ j (hj : j < ps.length), j < k + 1 → p ps[j] := fun j hj hjk => by
  by_cases e : j < k
  · exact h j hj e
  · obtain rfl : j = k := by omega
    exact h0

/-- WHAT STANDS WHILE A ROW IS READ: the row so far, the pieces. -/
structure Rdg (w wr : World) (e : TypeId) (z P N : Nat) (ps : List ByteArray) (k : Nat) (xs : List Value) : Prop where
  row : wr.ownsRow w.heap.size e z (.slice (some ⟨w.heap.size, 0, none⟩) k N) k xs
  pc : ∀ j (h : j < ps.length), wr.cell? ⟨P, j, none⟩ = some (.string ps[j])
  bel : Below w.heap.size w wr
  lt : w.heap.size < P
  lt2 : P < wr.heap.size

theorem Rdg.start {w w2 : World} {e : TypeId} {z N : Nat} {ps : List ByteArray} (hown : w2.ownsRow w.heap.size e z (.slice (some ⟨w.heap.size, 0, none⟩) 0 N) 0 []) (hg : w.grownBy w2 none) (t : TypeId) :
    Rdg w (w2.alloc (.cells (ps.map Value.string).toArray t)) e z w2.heap.size N ps 0 [] := by
  have hb : Below w.heap.size w w2 := (Below.refl _ w).grown hg (Nat.le_refl _) (fun k h => by cases h)
  refine ⟨hown.alloc _, fun j h => ?_, hb.alloc hb.size _, (hown.lt w.heap.size rfl).2, by simp⟩
  rw [World.cell?_alloc_at _ _ _ _ rfl]
  simp [h]

theorem ownsRow_below {w w' : World} {base : Nat} {e : TypeId} {z : Nat} {v : Value} {n : Nat} {xs : List Value} (h : w.ownsRow base e z v n xs) (hb : Below w.heap.size w w') : w'.ownsRow base e z v n xs := by
  obtain ⟨h1, h2⟩ := h
  refine ⟨h1, ?_⟩
  rcases h2 with h2 | ⟨g, cap, cur, e1, e2, e3, e4⟩
  · exact Or.inl h2
  · exact Or.inr ⟨g, cap, cur, e1, e2, (hb.block g (Array.getElem?_eq_some_iff.1 e3).1).trans e3, e4⟩

theorem Rdg.later {w wr w' : World} {e : TypeId} {z P N : Nat} {ps : List ByteArray} {k : Nat} {xs : List Value} (h : Rdg w wr e z P N ps k xs) (hb : Below wr.heap.size wr w') : Rdg w w' e z P N ps k xs :=
  ⟨ownsRow_below h.row hb, fun j hj => (hb.cell (p := ⟨P, j, none⟩) h.lt2).trans (h.pc j hj), h.bel.trans (hb.mono h.bel.size), h.lt, Nat.lt_of_lt_of_le h.lt2 hb.size⟩

/-- ONE MORE IN THE ROW. -/
theorem Rdg.put {w wr w' : World} {e : TypeId} {z P N : Nat} {ps : List ByteArray} {k : Nat} {xs ys : List Value} (h : Rdg w wr e z P N ps k xs)
    (hown : w'.ownsRow w.heap.size e z (.slice (some ⟨w.heap.size, 0, none⟩) (k + 1) N) (k + 1) (xs ++ ys)) (hg : wr.grownBy w' (some w.heap.size)) : Rdg w w' e z P N ps (k + 1) (xs ++ ys) :=
  ⟨hown, fun j hj => hg.cell (h.pc j hj) (fun e => by have := Option.some.inj e; have := h.lt; simp at *; omega), h.bel.grown hg h.bel.size (fun j e => by cases e; exact Nat.le_refl _), h.lt, Nat.lt_of_lt_of_le h.lt2 hg.size⟩

theorem cells3_new (w : World) (a b c : Value) (t : TypeId) : ∀ j u, [a, b, c][j]? = some u → (w.alloc (.cells #[a, b, c] t)).cell? ((⟨w.heap.size, 0, none⟩ : Addr).add j) = some u := by
  intro j u h
  rw [Go.WideShapes.add_plain, World.cell?_alloc_at _ _ _ _ rfl]
  simpa using h

theorem flat_at {α β : Type} (z : Nat) (f : α → List β) (hf : ∀ a, (f a).length = z) : ∀ (l : List α) (i r : Nat) (hi : i < l.length), r < z → (l.flatMap f)[i * z + r]? = (f l[i])[r]?
  | [], i, r, hi, _ => absurd hi (Nat.not_lt_zero _)
  | a :: l, 0, r, _, hr => by
    rw [List.flatMap_cons, Nat.zero_mul, Nat.zero_add, List.getElem?_append_left (by rw [hf]; exact hr)]
    rfl
  | a :: l, i + 1, r, hi, hr => by
    rw [List.flatMap_cons, List.getElem?_append_right (by rw [hf, Nat.succ_mul]; omega), hf]
    have e : (i + 1) * z + r - z = i * z + r := by rw [Nat.succ_mul]; omega
    rw [e]
    exact flat_at z f hf l i r (Nat.lt_of_succ_lt_succ hi) hr

theorem Rdg.ams {w wr : World} {P N : Nat} {ps : List ByteArray} {k : Nat} {al : List Am} (h : Rdg w wr 34 3 P N ps k (al.flatMap amCells)) (hk : al.length = k) (hN : N ≤ 16777217) (hkN : k ≤ N) : Ams wr (.slice (some ⟨w.heap.size, 0, none⟩) k N) al := by
  subst hk
  refine ⟨_, _, rfl, by omega, fun i hi => ⟨w.heap.size, 0, rfl, (h.row.lt _ rfl).2, ?_, ?_, ?_⟩⟩
  · have := h.row.cells (g := w.heap.size) rfl (i * 3 + 0) _ ((flat_at 3 amCells (fun _ => rfl) al i 0 hi (by omega)).trans rfl)
    rw [Go.WideShapes.add_plain] at this
    simpa using this
  · have := h.row.cells (g := w.heap.size) rfl (i * 3 + 1) _ ((flat_at 3 amCells (fun _ => rfl) al i 1 hi (by omega)).trans rfl)
    rw [Go.WideShapes.add_plain] at this
    simpa [Nat.add_assoc] using this
  · have := h.row.cells (g := w.heap.size) rfl (i * 3 + 2) _ ((flat_at 3 amCells (fun _ => rfl) al i 2 hi (by omega)).trans rfl)
    rw [Go.WideShapes.add_plain] at this
    simpa [Nat.add_assoc] using this

set_option maxRecDepth 100000 in
set_option maxHeartbeats 4000000 in
theorem readRowA_any (s : ByteArray) (c : UInt8) (most : Int) (w : World) (hs : s.size ≤ 16777216) (hm : ((pcs s c).length : Int) ≤ most) (ha : ∀ j (h : j < (pcs s c).length), asc (pcs s c)[j] ∧ (pcs s c)[j].size ≤ 16777216) (hg : Glob w) :
    Calls Tryd.prog 60 #[.string s, .string ⟨#[c]⟩, .int .i64 most, .func (.func 14) #[] #[]] w fun e w' => (∃ v, e = .returned (.tuple #[v, .int .i64 (errOf (fun t => (parseA t).2) (pcs s c))]) ∧ (errOf (fun t => (parseA t).2) (pcs s c) = 0 → Ams w' v ((pcs s c).map fun t => (parseA t).1)) ∧ (errOf (fun t => (parseA t).2) (pcs s c) ≠ 0 → v = .slice none 0 0) ∧ (∀ g, v.ownBlock = some g → w.heap.size ≤ g)) ∧ Below w.heap.size w w' := by
  have c1 := hide (cCount s c w (by omega) hg)
  have c2 := hide (fun w hg => cSplit s c w (by omega) hg)
  have hl := pcs_len s c
  have hcl := Lib.countB_le ⟨#[c]⟩ (Nat.le_refl _) s.size s (Nat.le_refl _)
  have HG := hide hg
  have h1 : ¬ ((16777216 : Int) < (s.size : Int)) := by omega
  clear hg
  obtain ⟨ps, hps⟩ : ∃ ps, pcs s c = ps := ⟨_, rfl⟩
  obtain ⟨n, hn⟩ : ∃ n, Lib.countB s ⟨#[c]⟩ = n := ⟨_, rfl⟩
  rw [hps] at hm ha c2 hl ⊢
  rw [hn] at c1 hl hcl
  clear hps hn
  have HA := hide ha
  clear ha
  obtain ⟨N, hN⟩ : ∃ N : Nat, ps.length = N := ⟨_, rfl⟩
  have hNs : N ≤ 16777217 := by omega
  have hn1 : wrap64 ((n : Int) + 1) = (N : Int) := by unfold wrap64; omega
  have hmo : ¬ most < (N : Int) := by omega
  rw [hN] at c2
  clear hm hl hcl
  obtain ⟨i0, hi, hz0, hz1, hz2⟩ := info_parts infoA
  clear hs
  go_enter Tryd.func60, Tryd.ntmps60
  go_wp2_with fail
  refine (unhide c1).mono ?_
  rintro e w1 ⟨rfl, rfl⟩
  go_wp2_with (first | (at_make; go_must (refine wpList_make_own _ rfl _ _ 39 rfl w1.heap.size 34 i0 (.agg #[.string ⟨#[]⟩, .int .i64 0, .string ⟨#[]⟩]) 3 Tryd.underlying39 hi hz0 hz1 _ _ _ N rfl rfl hn1 (by rw [hz2]; omega) (by unfold maxLen; omega) (Nat.le_refl _) ?_); intro w2 hown hgrow))
  have g2 : Glob w2 := (unhide HG).later ((Below.refl _ w1).grown hgrow (Nat.le_refl _) (fun k h => by cases h))
  refine (unhide c2 _ g2).mono ?_
  rintro e w3 ⟨rfl, hw3⟩
  have HR := hide (Rdg.start (ps := ps) hown hgrow 9)
  rw [← hw3] at HR
  obtain ⟨P, hP⟩ : ∃ P, w2.heap.size = P := ⟨_, rfl⟩
  rw [hP] at HR ⊢
  clear hown hgrow g2 hw3 hP c1 c2 hn1 hmo
  go_wp2_with fail
  go_loopw [11, 32] (fun v i wr => ∃ k : Nat, k ≤ N ∧ i = .int .i64 k ∧ v = .slice (some ⟨w1.heap.size, 0, none⟩) k N ∧ Hid (Rdg w1 wr 34 3 P N ps k ((ps.take k).flatMap fun t => amCells (parseA t).1)) ∧ Hid (∀ j (h : j < ps.length), j < k → (parseA ps[j]).2 = 0)) (fun _ i _ => N - (intOf i).toNat)
  case atStart => exact ⟨0, Nat.zero_le _, rfl, rfl, HR, hide (fun j h hj => absurd hj (Nat.not_lt_zero _))⟩
  case round =>
    obtain ⟨k, hk, rfl, rfl, HR, HZ⟩ := hrel
    by_cases hlt : k < N
    · have hkl : k < ps.length := by omega
      have hpc := (unhide HR).pc k hkl
      have hPl := (unhide HR).lt2
      have ha3 := unhide HA k hkl
      have HT := hide (show (ps.take (k + 1)).flatMap (fun t => amCells (parseA t).1) = (ps.take k).flatMap (fun t => amCells (parseA t).1) ++ amCells (parseA ps[k]).1 by rw [List.take_succ_eq_append_getElem hkl, List.flatMap_append]; simp)
      have HE := hide (fun hn : (parseA ps[k]).2 ≠ 0 => errOf_at (fun t => (parseA t).2) ps k hkl (fun j hj hjk => unhide HZ j hj hjk) hn)
      have HZ' := hide (fun (h0 : (parseA ps[k]).2 = 0) => upto_nx (fun t => (parseA t).2 = 0) ps k hkl (unhide HZ) h0)
      generalize ps[k] = t at *
      have c3 := hide (fun (w' : World) (hb : Below wr.heap.size wr w') => ParseAtom_any t w' (by omega) ha3.1 ((unhide HG).later ((unhide HR).bel.trans (hb.mono (unhide HR).bel.size))))
      rcases hp : parseA t with ⟨⟨an, ao, av⟩, e0⟩
      rw [hp] at c3 HT HE HZ'
      simp only [amV] at c3
      simp only at HE HZ'
      clear hp ha3 HZ
      by_cases he : e0 = 0
      · subst he
        go_wp2_with fail
        refine (unhide c3 _ (Below.refl _ _)).mono ?_
        rintro e w4 ⟨rfl, hb4⟩
        have HR4 := hide ((unhide HR).later hb4)
        clear hb4
        go_wp2_with (first | (at_builtin; go_must (refine wpList_append_fits _ rfl _ _ 39 rfl w1.heap.size 34 i0 3 Tryd.underlying39 hi hz1 w1.heap.size k N _ rfl (((unhide HR4).row.alloc _).alloc _) _ 1 1 [.string an, .int .i64 ao, .string av] rfl rfl (by simpa using cells3_new (w4.alloc _) _ _ _ _) (by simp [Value.oneCell']) (by omega) ?_); intro w5 hown5 hgrow5))
        have HR5 := hide (((unhide HR4).later (((Below.refl _ w4).alloc (Nat.le_refl _) _).alloc (by simp) _)).put hown5 hgrow5)
        clear hown5 hgrow5
        go_wp2_with fail
        go_roundw
        case rel => exact ⟨k + 1, by omega, by go_num, rfl, by rw [unhide HT]; exact HR5, hide (unhide HZ' (by first | trivial | rfl))⟩
        case measure => simp [intOf]; omega
      · have he' : (e0 == 0) = false := by simpa using he
        have HE' := hide (unhide HE he)
        go_wp2_with fail
        refine (unhide c3 _ (Below.refl _ _)).mono ?_
        rintro e w4 ⟨rfl, hb4⟩
        have HB4 := hide ((unhide HR).bel.trans (hb4.mono (unhide HR).bel.size))
        have hq4 := (unhide HB4).size
        have HN := hide he
        clear hb4 he
        go_wp2_with fail
        go_ret2
        rw [unhide HE']
        exact ⟨⟨_, rfl, fun h => absurd h (unhide HN), fun _ => rfl, fun g h => by cases h⟩, (unhide HB4).alloc hq4 _⟩
    · obtain rfl : k = N := by omega
      have HE := hide (errOf_none (fun t => (parseA t).2) ps (fun j hj => unhide HZ j hj (by omega)))
      have HM := hide (Rdg.ams (al := ps.map fun t => (parseA t).1) (by have h := unhide HR; rw [List.take_of_length_le (by omega)] at h; rw [List.flatMap_map]; exact h) (by simpa using hN) hNs (Nat.le_refl _))
      go_wp2_with fail
      go_ret2
      rw [unhide HE]
      exact ⟨⟨_, rfl, fun _ => unhide HM, fun h => absurd rfl h, fun g h => by cases h; exact Nat.le_refl _⟩, (unhide HR).bel⟩


/-- HOW A ROW IS READ. -/
def rowE (p : ByteArray → Int) (s : ByteArray) (c : UInt8) (most : Nat) : Int := if 16777216 < s.size then 2 else if most < (pcs s c).length then 24 else errOf p (pcs s c)

theorem splitB_sub (sep : ByteArray) : ∀ (k : Nat) (s x : ByteArray), x ∈ Lib.splitB sep 0 k s → (∀ b ∈ x.data.toList, b ∈ s.data.toList) ∧ x.size ≤ s.size
  | 0, s, x, h => by
    obtain rfl : x = s := by simpa [Lib.splitB] using h
    exact ⟨fun b hb => hb, Nat.le_refl _⟩
  | k + 1, s, x, h => by
    unfold Lib.splitB at h
    split at h
    · obtain rfl : x = s := by simpa using h
      exact ⟨fun b hb => hb, Nat.le_refl _⟩
    · rcases List.mem_cons.1 h with rfl | h
      · exact ⟨extract_sub _ _ _, size_le_of_extract _ _ _⟩
      · obtain ⟨h1, h2⟩ := splitB_sub sep k _ x h
        exact ⟨fun b hb => extract_sub _ _ _ b (h1 b hb), Nat.le_trans h2 (size_le_of_extract _ _ _)⟩
theorem pcs_sub (s : ByteArray) (c : UInt8) (x : ByteArray) (h : x ∈ pcs s c) : (∀ b ∈ x.data.toList, b ∈ s.data.toList) ∧ x.size ≤ s.size := splitB_sub _ _ s x h
theorem pcs_asc {s : ByteArray} (h : asc s) (c : UInt8) (hs : s.size ≤ 16777216) : ∀ j (hj : j < (pcs s c).length), asc (pcs s c)[j] ∧ (pcs s c)[j].size ≤ 16777216 := fun j hj => by
  obtain ⟨h1, h2⟩ := pcs_sub s c _ (List.getElem_mem hj)
  exact ⟨asc_sub h h1, by omega⟩

set_option maxRecDepth 100000 in
set_option maxHeartbeats 4000000 in
theorem readRowA_all (s : ByteArray) (c : UInt8) (most : Nat) (w : World) (hs : s.size ≤ 9223372036854775807) (ha : asc s) (hg : Glob w) :
    Calls Tryd.prog 60 #[.string s, .string ⟨#[c]⟩, .int .i64 most, .func (.func 14) #[] #[]] w fun e w' => (∃ v, e = .returned (.tuple #[v, .int .i64 (rowE (fun t => (parseA t).2) s c most)]) ∧ (rowE (fun t => (parseA t).2) s c most = 0 → Ams w' v ((pcs s c).map fun t => (parseA t).1)) ∧ (rowE (fun t => (parseA t).2) s c most ≠ 0 → v = .slice none 0 0) ∧ (∀ g, v.ownBlock = some g → w.heap.size ≤ g)) ∧ Below w.heap.size w w' := by
  by_cases h1 : 16777216 < s.size
  · have HF := hide (show rowE (fun t => (parseA t).2) s c most = 2 by unfold rowE; rw [if_pos h1])
    have h2 : ((16777216 : Int) < (s.size : Int)) := by omega
    clear h1 ha hg hs
    go_enter Tryd.func60, Tryd.ntmps60
    go_wp2_with fail
    go_ret2
    rw [unhide HF]
    exact ⟨⟨_, rfl, fun h => absurd h (by decide), fun _ => rfl, fun g h => by cases h⟩, Below.refl _ _⟩
  · by_cases h2 : most < (pcs s c).length
    · have HF := hide (show rowE (fun t => (parseA t).2) s c most = 24 by unfold rowE; rw [if_neg h1, if_pos h2])
      have c1 := hide (cCount s c w (by omega) hg)
      have hl := pcs_len s c
      have hcl := Lib.countB_le ⟨#[c]⟩ (Nat.le_refl _) s.size s (Nat.le_refl _)
      obtain ⟨n, hn⟩ : ∃ n, Lib.countB s ⟨#[c]⟩ = n := ⟨_, rfl⟩
      rw [hn] at c1 hl hcl
      have hn1 : wrap64 ((n : Int) + 1) = (n : Int) + 1 := by unfold wrap64; omega
      have hmo : (most : Int) < (n : Int) + 1 := by omega
      have h3 : ¬ ((16777216 : Int) < (s.size : Int)) := by omega
      clear h1 h2 ha hg hs hn hl hcl
      go_enter Tryd.func60, Tryd.ntmps60
      go_wp2_with fail
      refine (unhide c1).mono ?_
      rintro e w1 ⟨rfl, rfl⟩
      go_wp2_with fail
      go_ret2
      rw [unhide HF]
      exact ⟨⟨_, rfl, fun h => absurd h (by decide), fun _ => rfl, fun g h => by cases h⟩, Below.refl _ _⟩
    · have HF : rowE (fun t => (parseA t).2) s c most = errOf (fun t => (parseA t).2) (pcs s c) := by unfold rowE; rw [if_neg h1, if_neg h2]
      rw [HF]
      exact readRowA_any s c most w (by omega) (by omega) (pcs_asc ha c (by omega)) hg

def clE (t : ByteArray) : Int := rowE (fun t => (parseA t).2) t 124 256
def clL (t : ByteArray) : List Am := (pcs t 124).map fun t => (parseA t).1

set_option maxHeartbeats 1000000 in
theorem ParseClause_any (s : ByteArray) (w : World) (hs : s.size ≤ 9223372036854775807) (ha : asc s) (hg : Glob w) :
    Calls Tryd.prog 23 #[.string s] w fun e w' => (∃ v, e = .returned (.tuple #[v, .int .i64 (clE s)]) ∧ (clE s = 0 → Ams w' v (clL s)) ∧ (clE s ≠ 0 → v = .slice none 0 0) ∧ (∀ g, v.ownBlock = some g → w.heap.size ≤ g)) ∧ Below w.heap.size w w' := by
  have c1 := hide (readRowA_all s 124 256 w hs ha hg)
  clear hs ha hg
  go_enter Tryd.func23, Tryd.ntmps23
  go_wp2_with fail
  refine (unhide c1).mono ?_
  rintro e w1 ⟨⟨v, rfl, h1, h2⟩, hb⟩
  have HH := hide (And.intro h1 (And.intro h2 hb))
  clear h1 h2 hb
  go_wp2_with fail
  go_ret2
  exact ⟨⟨v, rfl, (unhide HH).1, (unhide HH).2.1⟩, (unhide HH).2.2⟩

end Go.Proofs.YtfembjjpmjfklaaDoor
