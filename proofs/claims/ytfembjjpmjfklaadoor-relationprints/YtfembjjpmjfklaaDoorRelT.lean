import Derived.Test.YtfembjjpmjfklaaDoorRelQ
namespace Go.Proofs.YtfembjjpmjfklaaDoor
open Go.RowKit

/-- THE FIRST ERROR OF A ROW. -/
def errG {α : Type} (p : α → Int) : List α → Int
  | [] => 0
  | t :: r => if p t ≠ 0 then p t else errG p r
theorem errG_at {α : Type} (p : α → Int) : ∀ (l : List α) (k : Nat) (hk : k < l.length), (∀ j (hj : j < l.length), j < k → p l[j] = 0) → p l[k] ≠ 0 → errG p l = p l[k]
  | [], k, hk, _, _ => absurd hk (Nat.not_lt_zero _)
  | t :: r, 0, _, _, hn => by
    have hn' : p t ≠ 0 := hn
    show (if p t ≠ 0 then p t else errG p r) = p t
    rw [if_pos hn']
  | t :: r, k + 1, hk, h, hn => by
    have h0 : p t = 0 := h 0 (Nat.succ_pos _) (Nat.succ_pos _)
    show (if p t ≠ 0 then p t else errG p r) = _
    rw [if_neg (by simp [h0])]
    exact errG_at p r k (Nat.lt_of_succ_lt_succ hk) (fun j hj hjk => h (j + 1) (Nat.succ_lt_succ hj) (Nat.succ_lt_succ hjk)) hn
theorem errG_none {α : Type} (p : α → Int) : ∀ (l : List α), (∀ j (hj : j < l.length), p l[j] = 0) → errG p l = 0
  | [], _ => rfl
  | t :: r, h => by
    have h0 : p t = 0 := h 0 (Nat.succ_pos _)
    show (if p t ≠ 0 then p t else errG p r) = 0
    rw [if_neg (by simp [h0])]
    exact errG_none p r (fun j hj => h (j + 1) (Nat.succ_lt_succ hj))
theorem upto_nxG {α : Type} (p : α → Prop) (ps : List α) (k : Nat) (hk : k < ps.length) (h : ∀ j (hj : j < ps.length), j < k → p ps[j]) (h0 : p ps[k]) : ∀ j (hj : j < ps.length), j < k + 1 → p ps[j] := fun j hj hjk => by
  by_cases e : j < k
  · exact h j hj e
  · obtain rfl : j = k := by omega
    exact h0

theorem joinTail_le (sep : List UInt8) (M : Nat) : ∀ r : List (List UInt8), (∀ x ∈ r, x.length ≤ M) → (Lib.joinTail sep r).length ≤ r.length * (M + sep.length)
  | [], _ => by simp [Lib.joinTail]
  | x :: r, h => by
    have ih := joinTail_le sep M r (fun y hy => h y (List.mem_cons_of_mem _ hy))
    have hx := h x List.mem_cons_self
    have e : Lib.joinTail sep (x :: r) = (sep ++ x) ++ Lib.joinTail sep r := by simp [Lib.joinTail]
    rw [e, List.length_append, List.length_append, List.length_cons, Nat.succ_mul]
    omega
theorem join_le (sep : List UInt8) (M : Nat) (xs : List (List UInt8)) (h : ∀ x ∈ xs, x.length ≤ M) : (Lib.join xs sep).length ≤ xs.length * (M + sep.length) := by
  cases xs with
  | nil => simp [Lib.join_nil]
  | cons x r =>
    have ih := joinTail_le sep M r (fun y hy => h y (List.mem_cons_of_mem _ hy))
    have hx := h x List.mem_cons_self
    rw [Lib.join_cons, List.length_append, List.length_cons, Nat.succ_mul]
    omega

/-- A ROW PRINTED. -/
def prJ {α : Type} (tx : α → ByteArray) (al : List α) (sep : ByteArray) : ByteArray := ba (Lib.join (al.map fun a => (tx a).data.toList) sep.data.toList)
def prR {α : Type} (tx : α → ByteArray) (er : α → Int) (al : List α) (sep : ByteArray) (most : Nat) : ByteArray × Int :=
  if most < al.length then (nob, 24) else if errG er al ≠ 0 then (nob, errG er al) else if 16777216 < (prJ tx al sep).size then (nob, 2) else (prJ tx al sep, 0)

theorem printA_size (a : Am) : (printA a).1.size ≤ 16777216 := by
  unfold printA
  split
  · exact Nat.zero_le _
  · rename_i h
    have h' : ckAtom a.n a.op a.v = 0 := by simpa using h
    obtain ⟨z1, z2⟩ := ckAtom_sizes h'
    split
    · show a.n.size ≤ 16777216
      omega
    · have z3 := sg_size a.op.toNat
      have e1 : (⟨#[32, 40]⟩ : ByteArray).size = 2 := rfl
      have e2 : (⟨#[32]⟩ : ByteArray).size = 1 := rfl
      have e3 : (⟨#[41]⟩ : ByteArray).size = 1 := rfl
      simp only [ByteArray.size_append]
      omega
theorem prR_size {α : Type} (tx : α → ByteArray) (er : α → Int) (al : List α) (sep : ByteArray) (most : Nat) : (prR tx er al sep most).1.size ≤ 16777216 := by
  unfold prR
  split
  · exact Nat.zero_le _
  · split
    · exact Nat.zero_le _
    · split
      · exact Nat.zero_le _
      · show (prJ tx al sep).size ≤ 16777216
        omega

theorem Ams.elem {w : World} {va : Option Addr} {n vc : Nat} {al : List Am} (h : Ams w (.slice va n vc) al) (k : Nat) (hk : k < al.length) : ∃ b o, va = some ⟨b, o, none⟩ ∧ b < w.heap.size ∧ w.cell? ⟨b, o + k * 3, none⟩ = some (.string al[k].n) ∧ w.cell? ⟨b, o + k * 3 + 1, none⟩ = some (.int .i64 al[k].op) ∧ w.cell? ⟨b, o + k * 3 + 2, none⟩ = some (.string al[k].v) := by
  obtain ⟨a, c, e, _, h3⟩ := h
  cases e
  exact h3 k hk

theorem info9 : (Tryd.prog.info? 9).map (fun i => (i.zero, i.size, i.bytes)) = some (some (.string ⟨#[]⟩), 1, 16) := by kernel_rfl

theorem cJoin (bk c : Nat) (xs : List ByteArray) (sep : ByteArray) (w : World) (hcells : ∀ (j : Nat) x, xs[j]? = some x → w.cell? ⟨bk, j, none⟩ = some (.string x)) (hbk : bk < w.heap.size) (hN : xs.length ≤ 140737488355328) (hcap : xs.length ≤ c)
    (hlen : (Lib.join (xs.map (·.data.toList)) sep.data.toList).length ≤ 140737488355328) :
    Calls Tryd.prog 95 #[.slice (some ⟨bk, 0, none⟩) xs.length c, .string sep] w fun e w' => e = .returned (.string (ba (Lib.join (xs.map (·.data.toList)) sep.data.toList))) ∧ Below w.heap.size w w' :=
  Any.strings_Join Tryd.lays156 Tryd.Builder_Extra_156 bk 0 c xs sep w (fun j x h => by rw [Nat.zero_add]; exact hcells j x h) hbk hN hcap hlen

/-- WHAT STANDS WHILE A ROW IS PRINTED. -/
structure Prt (w wr : World) (N k : Nat) (xs : List ByteArray) : Prop where
  row : wr.ownsRow w.heap.size 9 1 (.slice (some ⟨w.heap.size, 0, none⟩) k N) k (xs.map Value.string)
  bel : Below w.heap.size w wr
theorem Prt.later {w wr w' : World} {N k : Nat} {xs : List ByteArray} (h : Prt w wr N k xs) (hb : Below wr.heap.size wr w') : Prt w w' N k xs :=
  ⟨ownsRow_below h.row hb, h.bel.trans (hb.mono h.bel.size)⟩
theorem Prt.put {w wr w' : World} {N k : Nat} {xs : List ByteArray} {x : ByteArray} (h : Prt w wr N k xs)
    (hown : w'.ownsRow w.heap.size 9 1 (.slice (some ⟨w.heap.size, 0, none⟩) (k + 1) N) (k + 1) (xs.map Value.string ++ [.string x])) (hg : wr.grownBy w' (some w.heap.size)) : Prt w w' N (k + 1) (xs ++ [x]) :=
  ⟨by rw [List.map_append]; exact hown, h.bel.grown hg h.bel.size (fun j e => by cases e; exact Nat.le_refl _)⟩
theorem Prt.start {w w2 : World} {N : Nat} (hown : w2.ownsRow w.heap.size 9 1 (.slice (some ⟨w.heap.size, 0, none⟩) 0 N) 0 []) (hg : w.grownBy w2 none) : Prt w w2 N 0 [] :=
  ⟨hown, (Below.refl _ w).grown hg (Nat.le_refl _) (fun k h => by cases h)⟩

set_option maxRecDepth 100000 in
set_option maxHeartbeats 4000000 in
theorem printRowA_any (al : List Am) (v : Value) (sep : ByteArray) (most : Nat) (w : World) (hv : Ams w v al) (hz : ∀ j (h : j < al.length), al[j].n.size ≤ maxLen ∧ al[j].v.size ≤ maxLen) (hm : most ≤ 1024) (hsep : sep.size ≤ 3) (hg : Glob w) :
    Calls Tryd.prog 66 #[v, .string sep, .int .i64 most, .func (.func 28) #[] #[]] w fun e w' => e = .returned (.tuple #[.string (prR (fun a => (printA a).1) (fun a => (printA a).2) al sep most).1, .int .i64 (prR (fun a => (printA a).1) (fun a => (printA a).2) al sep most).2]) ∧ Below w.heap.size w w' := by
  have HV := hide hv
  have HF := hide (show prR (fun a => (printA a).1) (fun a => (printA a).2) al sep most = if most < al.length then (nob, 24) else if errG (fun a => (printA a).2) al ≠ 0 then (nob, errG (fun a => (printA a).2) al) else if 16777216 < (prJ (fun a => (printA a).1) al sep).size then (nob, 2) else (prJ (fun a => (printA a).1) al sep, 0) from rfl)
  obtain ⟨va, vc, rfl, hbig, -⟩ := hv
  have HZ := hide hz
  have HG := hide hg
  clear hz hg
  by_cases h1 : most < al.length
  · have HH := hide (show prR (fun a => (printA a).1) (fun a => (printA a).2) al sep most = (nob, 24) by rw [unhide HF, if_pos h1])
    have h2 : (most : Int) < (al.length : Int) := by omega
    clear HF h1
    go_enter Tryd.func66, Tryd.ntmps66
    go_wp2_with fail
    go_ret2
    rw [unhide HH]
    exact ⟨rfl, Below.refl _ _⟩
  · rw [if_neg h1] at HF
    have h2 : ¬ (most : Int) < (al.length : Int) := by omega
    obtain ⟨N, hN⟩ : ∃ N, al.length = N := ⟨_, rfl⟩
    rw [hN] at h2 hbig ⊢
    have hNs : N ≤ 1024 := by omega
    obtain ⟨i0, hi, hz0, hz1, hz2⟩ := info_parts info9
    clear h1
    go_enter Tryd.func66, Tryd.ntmps66
    go_wp2_with (first | (at_make; go_must (refine wpList_make_own _ rfl _ _ 44 rfl w.heap.size 9 i0 (.string ⟨#[]⟩) 1 Tryd.underlying44 hi hz0 hz1 _ _ _ N rfl rfl rfl (by rw [hz2]; omega) (by unfold maxLen; omega) (Nat.le_refl _) ?_); intro w2 hown hgrow))
    have HP := hide (Prt.start hown hgrow)
    clear hown hgrow
    go_wp2_with fail
    go_loopw [10, 25] (fun v i wr => ∃ k : Nat, k ≤ N ∧ i = .int .i64 k ∧ v = .slice (some ⟨w.heap.size, 0, none⟩) k N ∧ Hid (Prt w wr N k ((al.take k).map fun a => (printA a).1)) ∧ Hid (∀ j (h : j < al.length), j < k → (printA al[j]).2 = 0)) (fun _ i _ => N - (intOf i).toNat)
    case atStart => exact ⟨0, Nat.zero_le _, rfl, rfl, HP, hide (fun j h hj => absurd hj (Nat.not_lt_zero _))⟩
    case round =>
      obtain ⟨k, hk, rfl, rfl, HR, HZ0⟩ := hrel
      by_cases hlt : k < N
      · have hkl : k < al.length := by omega
        obtain ⟨b, o, rfl, hbw, q0, q1, q2⟩ := ((unhide HV).later (unhide HR).bel).elem k hkl
        have ha3 := unhide HZ k hkl
        have HT := hide (show (al.take (k + 1)).map (fun a => (printA a).1) = (al.take k).map (fun a => (printA a).1) ++ [(printA al[k]).1] by rw [List.take_succ_eq_append_getElem hkl, List.map_append]; rfl)
        have HE := hide (fun hn : (printA al[k]).2 ≠ 0 => errG_at (fun a => (printA a).2) al k hkl (fun j hj hjk => unhide HZ0 j hj hjk) hn)
        have HZ' := hide (fun (h0 : (printA al[k]).2 = 0) => upto_nxG (fun a => (printA a).2 = 0) al k hkl (unhide HZ0) h0)
        generalize al[k] = a at *
        obtain ⟨an, ao, av⟩ := a
        have c3 := hide (fun (w' : World) (hb : Below wr.heap.size wr w') => PrintAtom_any an ao av w' ha3.1 ha3.2 ((unhide HG).later ((unhide HR).bel.trans (hb.mono (unhide HR).bel.size))))
        rcases hp : printA ⟨an, ao, av⟩ with ⟨tx, e0⟩
        rw [hp] at c3 HT HE HZ'
        simp only at c3 HE HZ' q0 q1 q2
        have hb3 : Below wr.heap.size wr (wr.alloc (.cells #[.string an, .int .i64 ao, .string av] 34)) := (Below.refl _ wr).alloc (Nat.le_refl _) _
        have HB3 := hide hb3
        clear hp ha3 HZ0 hb3
        by_cases he : e0 = 0
        · subst he
          go_wp2_with fail
          refine (unhide c3 _ (unhide HB3)).mono ?_
          rintro e w4 ⟨rfl, hb4⟩
          have HR4 := hide ((unhide HR).later ((unhide HB3).trans (hb4.mono (unhide HB3).size)))
          clear hb4
          go_wp2_with (first | (at_builtin; go_must (refine wpList_append_fits _ rfl _ _ 44 rfl w.heap.size 9 i0 1 Tryd.underlying44 hi hz1 w.heap.size k N _ rfl ((unhide HR4).row.alloc _) _ 1 1 [.string tx] rfl rfl (by simpa using cells1_new w4 _ _) (by simp [Value.oneCell']) (by omega) ?_); intro w5 hown5 hgrow5))
          have HR5 := hide (((unhide HR4).later ((Below.refl _ w4).alloc (Nat.le_refl _) _)).put hown5 hgrow5)
          clear hown5 hgrow5
          go_wp2_with fail
          go_roundw
          case rel => exact ⟨k + 1, by omega, by go_num, rfl, by rw [unhide HT]; exact HR5, hide (unhide HZ' (by first | trivial | rfl))⟩
          case measure => simp [intOf]; omega
        · have he' : (e0 == 0) = false := by simpa using he
          have HE' := hide (unhide HE he)
          have HH := hide (show prR (fun a => (printA a).1) (fun a => (printA a).2) al sep most = (nob, e0) by rw [unhide HF, if_pos (by rw [unhide HE']; exact he), unhide HE'])
          go_wp2_with fail
          refine (unhide c3 _ (unhide HB3)).mono ?_
          rintro e w4 ⟨rfl, hb4⟩
          have HR4 := hide ((unhide HR).later ((unhide HB3).trans (hb4.mono (unhide HB3).size)))
          clear hb4 he
          go_wp2_with fail
          go_ret2
          rw [unhide HH]
          exact ⟨rfl, (unhide HR4).bel⟩
      · obtain rfl : k = N := by omega
        have HE := hide (errG_none (fun a => (printA a).2) al (fun j hj => unhide HZ0 j hj (by omega)))
        have hcells : ∀ (j : Nat) x, (al.map fun a => (printA a).1)[j]? = some x → wr.cell? ⟨w.heap.size, j, none⟩ = some (.string x) := fun j x hx => by
          have h := (unhide HR).row.cells (g := w.heap.size) rfl j (.string x) (by rw [List.take_of_length_le (by omega)]; rw [List.getElem?_map, hx]; rfl)
          rw [Go.WideShapes.add_plain, Nat.zero_add] at h
          exact h
        have hlen : (Lib.join ((al.map fun a => (printA a).1).map (·.data.toList)) sep.data.toList).length ≤ 140737488355328 := by
          have h := join_le sep.data.toList 16777216 ((al.map fun a => (printA a).1).map (·.data.toList)) (fun x hx => by
            obtain ⟨y, hy, rfl⟩ := List.mem_map.1 hx
            obtain ⟨a, _, rfl⟩ := List.mem_map.1 hy
            rw [size_list]
            exact printA_size a)
          rw [size_list, List.length_map, List.length_map, hN] at h
          have h' : k * (16777216 + sep.size) ≤ 1024 * (16777216 + 3) := Nat.mul_le_mul hNs (by omega)
          omega
        have c5 := hide (cJoin w.heap.size k (al.map fun a => (printA a).1) sep wr hcells ((unhide HR).row.lt _ rfl).2 (by simp; omega) (by simp; omega) hlen)
        rw [List.length_map, hN, List.map_map] at c5
        have HJ := hide (show prJ (fun a => (printA a).1) al sep = ba (Lib.join (al.map ((fun x => x.data.toList) ∘ fun a => (printA a).1)) sep.data.toList) from rfl)
        rw [unhide HE, if_neg (by simp)] at HF
        rw [unhide HJ] at HF
        generalize ba (Lib.join (al.map ((fun x => x.data.toList) ∘ fun a => (printA a).1)) sep.data.toList) = jt at *
        clear hcells hlen HJ
        by_cases hbg : 16777216 < jt.size
        · have HH := hide (show prR (fun a => (printA a).1) (fun a => (printA a).2) al sep most = (nob, 2) by rw [unhide HF, if_pos hbg])
          have hbg' : (16777216 : Int) < (jt.size : Int) := by omega
          clear HF hbg
          go_wp2_with fail
          refine (unhide c5).mono ?_
          rintro e w4 ⟨rfl, hb4⟩
          have HB4 := hide ((unhide HR).bel.trans (hb4.mono (unhide HR).bel.size))
          clear hb4
          go_wp2_with fail
          go_ret2
          rw [unhide HH]
          exact ⟨rfl, unhide HB4⟩
        · have HH := hide (show prR (fun a => (printA a).1) (fun a => (printA a).2) al sep most = (jt, 0) by rw [unhide HF, if_neg hbg])
          have hbg' : ¬ (16777216 : Int) < (jt.size : Int) := by omega
          clear HF hbg
          go_wp2_with fail
          refine (unhide c5).mono ?_
          rintro e w4 ⟨rfl, hb4⟩
          have HB4 := hide ((unhide HR).bel.trans (hb4.mono (unhide HR).bel.size))
          clear hb4
          go_wp2_with fail
          go_ret2
          rw [unhide HH]
          exact ⟨rfl, unhide HB4⟩

end Go.Proofs.YtfembjjpmjfklaaDoor
