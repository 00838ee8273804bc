import Derived.Test.YtfembjjpmjfklaaDoorRelT
namespace Go.Proofs.YtfembjjpmjfklaaDoor
open Go.RowKit

def Szs (al : List Am) : Prop := ∀ j (h : j < al.length), al[j].n.size ≤ maxLen ∧ al[j].v.size ≤ maxLen

/-- A CLAUSE PRINTED. -/
def prC (al : List Am) : ByteArray × Int := if al.length = 0 then (nob, 23) else prR (fun a => (printA a).1) (fun a => (printA a).2) al ⟨#[32, 124, 32]⟩ 256
theorem prC_size (al : List Am) : (prC al).1.size ≤ 16777216 := by
  unfold prC
  split
  · exact Nat.zero_le _
  · exact prR_size _ _ _ _ _

theorem Cls.elem {w : World} {va : Option Addr} {n vc : Nat} {al : List (List Am)} (h : Cls w (.slice va n vc) al) (k : Nat) (hk : k < al.length) : ∃ b o x, va = some ⟨b, o, none⟩ ∧ b < w.heap.size ∧ w.cell? ⟨b, o + k, none⟩ = some x ∧ Ams w x al[k] := by
  obtain ⟨a, c, e, _, h3⟩ := h
  cases e
  exact h3 k hk

set_option maxHeartbeats 1000000 in
theorem PrintClause_any (al : List Am) (v : Value) (w : World) (hv : Ams w v al) (hz : Szs al) (hg : Glob w) :
    Calls Tryd.prog 33 #[v] w fun e w' => e = .returned (.tuple #[.string (prC al).1, .int .i64 (prC al).2]) ∧ Below w.heap.size w w' := by
  have c1 := hide (printRowA_any al v ⟨#[32, 124, 32]⟩ 256 w hv hz (by decide) (by decide) hg)
  obtain ⟨va, vc, rfl, hbig, -⟩ := hv
  by_cases h : al.length = 0
  · have HF := hide (show prC al = (nob, 23) by unfold prC; rw [if_pos h])
    have h' : ((al.length : Int) == 0) = true := by simpa using h
    clear c1 hz hg
    go_enter Tryd.func33, Tryd.ntmps33
    go_wp2_with fail
    go_ret2
    rw [unhide HF]
    exact ⟨rfl, Below.refl _ _⟩
  · have HF := hide (show prC al = prR (fun a => (printA a).1) (fun a => (printA a).2) al ⟨#[32, 124, 32]⟩ 256 by unfold prC; rw [if_neg h])
    have h' : ((al.length : Int) == 0) = false := by simpa using h
    rcases hp : prR (fun a => (printA a).1) (fun a => (printA a).2) al ⟨#[32, 124, 32]⟩ 256 with ⟨tx, e0⟩
    rw [hp] at c1 HF
    clear hz hg hp h
    go_enter Tryd.func33, Tryd.ntmps33
    go_wp2_with fail
    refine (unhide c1).mono ?_
    rintro e w1 ⟨rfl, hb⟩
    have HB := hide hb
    clear hb
    go_wp2_with fail
    go_ret2
    rw [unhide HF]
    exact ⟨rfl, unhide HB⟩

set_option maxRecDepth 100000 in
set_option maxHeartbeats 4000000 in
theorem printRowC_any (al : List (List Am)) (v : Value) (sep : ByteArray) (most : Nat) (w : World) (hv : Cls w v al) (hz : ∀ j (h : j < al.length), Szs al[j]) (hm : most ≤ 1024) (hsep : sep.size ≤ 3) (hg : Glob w) :
    Calls Tryd.prog 75 #[v, .string sep, .int .i64 most, .func (.func 33) #[] #[]] w fun e w' => e = .returned (.tuple #[.string (prR (fun a => (prC a).1) (fun a => (prC a).2) al sep most).1, .int .i64 (prR (fun a => (prC a).1) (fun a => (prC a).2) al sep most).2]) ∧ Below w.heap.size w w' := by
  have HV := hide hv
  have HF := hide (show prR (fun a => (prC a).1) (fun a => (prC a).2) al sep most = if most < al.length then (nob, 24) else if errG (fun a => (prC a).2) al ≠ 0 then (nob, errG (fun a => (prC a).2) al) else if 16777216 < (prJ (fun a => (prC a).1) al sep).size then (nob, 2) else (prJ (fun a => (prC a).1) al sep, 0) from rfl)
  obtain ⟨va, vc, rfl, hbig, -⟩ := hv
  have HZ := hide hz
  have HG := hide hg
  clear hz hg
  by_cases h1 : most < al.length
  · have HH := hide (show prR (fun a => (prC a).1) (fun a => (prC a).2) al sep most = (nob, 24) by rw [unhide HF, if_pos h1])
    have h2 : (most : Int) < (al.length : Int) := by omega
    clear HF h1
    go_enter Tryd.func75, Tryd.ntmps75
    go_wp2_with fail
    go_ret2
    rw [unhide HH]
    exact ⟨rfl, Below.refl _ _⟩
  · rw [if_neg h1] at HF
    have h2 : ¬ (most : Int) < (al.length : Int) := by omega
    obtain ⟨N, hN⟩ : ∃ N, al.length = N := ⟨_, rfl⟩
    rw [hN] at h2 hbig ⊢
    have hNs : N ≤ 1024 := by omega
    obtain ⟨i0, hi, hz0, hz1, hz2⟩ := info_parts info9
    clear h1
    go_enter Tryd.func75, Tryd.ntmps75
    go_wp2_with (first | (at_make; go_must (refine wpList_make_own _ rfl _ _ 44 rfl w.heap.size 9 i0 (.string ⟨#[]⟩) 1 Tryd.underlying44 hi hz0 hz1 _ _ _ N rfl rfl rfl (by rw [hz2]; omega) (by unfold maxLen; omega) (Nat.le_refl _) ?_); intro w2 hown hgrow))
    have HP := hide (Prt.start hown hgrow)
    clear hown hgrow
    go_wp2_with fail
    go_loopw [10, 25] (fun v i wr => ∃ k : Nat, k ≤ N ∧ i = .int .i64 k ∧ v = .slice (some ⟨w.heap.size, 0, none⟩) k N ∧ Hid (Prt w wr N k ((al.take k).map fun a => (prC a).1)) ∧ Hid (∀ j (h : j < al.length), j < k → (prC al[j]).2 = 0)) (fun _ i _ => N - (intOf i).toNat)
    case atStart => exact ⟨0, Nat.zero_le _, rfl, rfl, HP, hide (fun j h hj => absurd hj (Nat.not_lt_zero _))⟩
    case round =>
      obtain ⟨k, hk, rfl, rfl, HR, HZ0⟩ := hrel
      by_cases hlt : k < N
      · have hkl : k < al.length := by omega
        obtain ⟨b, o, x, rfl, hbw, q0, hx⟩ := ((unhide HV).later (unhide HR).bel).elem k hkl
        have ha3 := unhide HZ k hkl
        have HT := hide (show (al.take (k + 1)).map (fun a => (prC a).1) = (al.take k).map (fun a => (prC a).1) ++ [(prC al[k]).1] by rw [List.take_succ_eq_append_getElem hkl, List.map_append]; rfl)
        have HE := hide (fun hn : (prC al[k]).2 ≠ 0 => errG_at (fun a => (prC a).2) al k hkl (fun j hj hjk => unhide HZ0 j hj hjk) hn)
        have HZ' := hide (fun (h0 : (prC al[k]).2 = 0) => upto_nxG (fun a => (prC a).2 = 0) al k hkl (unhide HZ0) h0)
        generalize al[k] = a at *
        have c3 := hide (fun (w' : World) (hb : Below wr.heap.size wr w') => PrintClause_any a x w' (hx.later hb) ha3 ((unhide HG).later ((unhide HR).bel.trans (hb.mono (unhide HR).bel.size))))
        obtain ⟨xa, xc, rfl, -⟩ := hx
        rcases hp : prC a with ⟨tx, e0⟩
        rw [hp] at c3 HT HE HZ'
        simp only at c3 HE HZ'
        clear hp ha3 HZ0
        by_cases he : e0 = 0
        · subst he
          go_wp2_with fail
          refine (unhide c3 _ (Below.refl _ _)).mono ?_
          rintro e w4 ⟨rfl, hb4⟩
          have HR4 := hide ((unhide HR).later hb4)
          clear hb4
          go_wp2_with (first | (at_builtin; go_must (refine wpList_append_fits _ rfl _ _ 44 rfl w.heap.size 9 i0 1 Tryd.underlying44 hi hz1 w.heap.size k N _ rfl ((unhide HR4).row.alloc _) _ 1 1 [.string tx] rfl rfl (by simpa using cells1_new w4 _ _) (by simp [Value.oneCell']) (by omega) ?_); intro w5 hown5 hgrow5))
          have HR5 := hide (((unhide HR4).later ((Below.refl _ w4).alloc (Nat.le_refl _) _)).put hown5 hgrow5)
          clear hown5 hgrow5
          go_wp2_with fail
          go_roundw
          case rel => exact ⟨k + 1, by omega, by go_num, rfl, by rw [unhide HT]; exact HR5, hide (unhide HZ' (by first | trivial | rfl))⟩
          case measure => simp [intOf]; omega
        · have he' : (e0 == 0) = false := by simpa using he
          have HE' := hide (unhide HE he)
          have HH := hide (show prR (fun a => (prC a).1) (fun a => (prC a).2) al sep most = (nob, e0) by rw [unhide HF, if_pos (by rw [unhide HE']; exact he), unhide HE'])
          go_wp2_with fail
          refine (unhide c3 _ (Below.refl _ _)).mono ?_
          rintro e w4 ⟨rfl, hb4⟩
          have HR4 := hide ((unhide HR).later hb4)
          clear hb4 he
          go_wp2_with fail
          go_ret2
          rw [unhide HH]
          exact ⟨rfl, (unhide HR4).bel⟩
      · obtain rfl : k = N := by omega
        have HE := hide (errG_none (fun a => (prC a).2) al (fun j hj => unhide HZ0 j hj (by omega)))
        have hcells : ∀ (j : Nat) x, (al.map fun a => (prC a).1)[j]? = some x → wr.cell? ⟨w.heap.size, j, none⟩ = some (.string x) := fun j x hx => by
          have h := (unhide HR).row.cells (g := w.heap.size) rfl j (.string x) (by rw [List.take_of_length_le (by omega)]; rw [List.getElem?_map, hx]; rfl)
          rw [Go.WideShapes.add_plain, Nat.zero_add] at h
          exact h
        have hlen : (Lib.join ((al.map fun a => (prC a).1).map (·.data.toList)) sep.data.toList).length ≤ 140737488355328 := by
          have h := join_le sep.data.toList 16777216 ((al.map fun a => (prC a).1).map (·.data.toList)) (fun x hx => by
            obtain ⟨y, hy, rfl⟩ := List.mem_map.1 hx
            obtain ⟨a, _, rfl⟩ := List.mem_map.1 hy
            rw [size_list]
            exact prC_size a)
          rw [size_list, List.length_map, List.length_map, hN] at h
          have h' : k * (16777216 + sep.size) ≤ 1024 * (16777216 + 3) := Nat.mul_le_mul hNs (by omega)
          omega
        have c5 := hide (cJoin w.heap.size k (al.map fun a => (prC a).1) sep wr hcells ((unhide HR).row.lt _ rfl).2 (by simp; omega) (by simp; omega) hlen)
        rw [List.length_map, hN, List.map_map] at c5
        have HJ := hide (show prJ (fun a => (prC a).1) al sep = ba (Lib.join (al.map ((fun x => x.data.toList) ∘ fun a => (prC a).1)) sep.data.toList) from rfl)
        rw [unhide HE, if_neg (by simp)] at HF
        rw [unhide HJ] at HF
        generalize ba (Lib.join (al.map ((fun x => x.data.toList) ∘ fun a => (prC a).1)) sep.data.toList) = jt at *
        clear hcells hlen HJ
        by_cases hbg : 16777216 < jt.size
        · have HH := hide (show prR (fun a => (prC a).1) (fun a => (prC a).2) al sep most = (nob, 2) by rw [unhide HF, if_pos hbg])
          have hbg' : (16777216 : Int) < (jt.size : Int) := by omega
          clear HF hbg
          go_wp2_with fail
          refine (unhide c5).mono ?_
          rintro e w4 ⟨rfl, hb4⟩
          have HB4 := hide ((unhide HR).bel.trans (hb4.mono (unhide HR).bel.size))
          clear hb4
          go_wp2_with fail
          go_ret2
          rw [unhide HH]
          exact ⟨rfl, unhide HB4⟩
        · have HH := hide (show prR (fun a => (prC a).1) (fun a => (prC a).2) al sep most = (jt, 0) by rw [unhide HF, if_neg hbg])
          have hbg' : ¬ (16777216 : Int) < (jt.size : Int) := by omega
          clear HF hbg
          go_wp2_with fail
          refine (unhide c5).mono ?_
          rintro e w4 ⟨rfl, hb4⟩
          have HB4 := hide ((unhide HR).bel.trans (hb4.mono (unhide HR).bel.size))
          clear hb4
          go_wp2_with fail
          go_ret2
          rw [unhide HH]
          exact ⟨rfl, unhide HB4⟩

def prF (cl : List (List Am)) : ByteArray × Int := prR (fun a => (prC a).1) (fun a => (prC a).2) cl ⟨#[44, 32]⟩ 1024

set_option maxHeartbeats 1000000 in
theorem printFieldC_any (cl : List (List Am)) (v : Value) (w : World) (hv : Cls w v cl) (hz : ∀ j (h : j < cl.length), Szs cl[j]) (hg : Glob w) :
    Calls Tryd.prog 47 #[v, .func (.func 33) #[] #[]] w fun e w' => e = .returned (.tuple #[.string (prF cl).1, .int .i64 (prF cl).2]) ∧ Below w.heap.size w w' := by
  have c1 := hide (printRowC_any cl v ⟨#[44, 32]⟩ 1024 w hv hz (by decide) (by decide) hg)
  have HF := hide (show prF cl = prR (fun a => (prC a).1) (fun a => (prC a).2) cl ⟨#[44, 32]⟩ 1024 from rfl)
  rcases hp : prR (fun a => (prC a).1) (fun a => (prC a).2) cl ⟨#[44, 32]⟩ 1024 with ⟨tx, e0⟩
  rw [hp] at c1 HF
  clear hz hg hp hv
  go_enter Tryd.func47, Tryd.ntmps47
  go_wp2_with fail
  refine (unhide c1).mono ?_
  rintro e w1 ⟨rfl, hb⟩
  have HB := hide hb
  clear hb
  go_wp2_with fail
  go_ret2
  rw [unhide HF]
  exact ⟨rfl, unhide HB⟩

set_option maxHeartbeats 1000000 in
theorem PrintField_any (cl : List (List Am)) (v : Value) (w : World) (hv : Cls w v cl) (hz : ∀ j (h : j < cl.length), Szs cl[j]) (hg : Glob w) :
    Calls Tryd.prog 11 #[v] w fun e w' => e = .returned (.tuple #[.string (prF cl).1, .int .i64 (prF cl).2]) ∧ Below w.heap.size w w' := by
  have c1 := hide (printFieldC_any cl v w hv hz hg)
  rcases hp : prF cl with ⟨tx, e0⟩
  rw [hp] at c1
  clear hz hg hp hv
  go_enter Tryd.func11, Tryd.ntmps11
  go_wp2_with fail
  refine (unhide c1).mono ?_
  rintro e w1 ⟨rfl, hb⟩
  have HB := hide hb
  clear hb
  go_wp2_with fail
  go_ret2
  exact ⟨rfl, unhide HB⟩

end Go.Proofs.YtfembjjpmjfklaaDoor
