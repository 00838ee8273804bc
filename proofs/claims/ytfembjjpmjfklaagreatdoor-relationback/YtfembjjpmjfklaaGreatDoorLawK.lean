import Derived.Test.YtfembjjpmjfklaaGreatDoorSameB
namespace Go.Proofs.YtfembjjpmjfklaaGreatDoor
open Go.RowKit

set_option maxRecDepth 100000 in
set_option maxHeartbeats 4000000 in
theorem relationBack_walk (n : ByteArray) (op : Int) (v : ByteArray) (cl : List (List Am)) (lv : Value) (al : List Am) (av : Value) (nl : List ByteArray) (nv : Value)
    (hn : n.size ≤ maxLen) (hv : v.size ≤ maxLen) (zc : ∀ j (h : j < cl.length), Szs cl[j]) (za : Szs al) (zn : ∀ j (h : j < nl.length), nl[j].size ≤ maxLen)
    (w : World) (hg : Glob w) (h1 : Cls w lv cl) (h2 : Ams w av al) (h3 : Sts w nv nl) :
    Calls Tryz.prog 3 #[.agg #[.string n, .int .i64 op, .string v], lv, av, nv] w fun e w' => e = .returned (.bool true) ∧ Below w.heap.size w w' := by
  have HG := hide hg
  have H1 := hide h1
  have H2 := hide h2
  have H3 := hide h3
  have c1 := hide (fun (w' : World) (hb : Below w.heap.size w w') => PrintAtom_any n op v w' hn hv (hg.later hb))
  have c2 := hide (fun (w' : World) (hb : Below w.heap.size w w') => PrintField_any cl lv w' (h1.later hb) zc (hg.later hb))
  have c3 := hide (fun (w' : World) (hb : Below w.heap.size w w') => PrintAtoms_any al av w' (h2.later hb) za (hg.later hb))
  have c4 := hide (fun (w' : World) (hb : Below w.heap.size w w') => PrintNames_any nl nv w' (h3.later hb) zn (hg.later hb))
  have c5 := hide (fun (w' : World) (hb : Below w.heap.size w w') => little_any w' (hg.later hb))
  have hB := hide ((Below.refl w.heap.size w).alloc (Nat.le_refl _) (.cells #[.string n, .int .i64 op, .string v] 23))
  obtain ⟨la, lc, rfl, -⟩ := h1
  obtain ⟨aa, ac, rfl, -⟩ := h2
  obtain ⟨na, nc, rfl, -⟩ := h3
  clear hn hv zc za zn hg
  go_enter Tryz.func3, Tryz.ntmps3
  go_wp2_with fail
  refine (unhide c1 _ (unhide hB)).mono ?_
  rintro e w1 ⟨rfl, hb1⟩
  have HB1 := hide (bl_t (unhide hB) hb1)
  have q0 : w1.cell? ⟨w.heap.size, 0, none⟩ = some (.string n) := by rw [hb1.cell (p := ⟨w.heap.size, 0, none⟩) (by simp)]; simp
  have q1 : w1.cell? ⟨w.heap.size, 1, none⟩ = some (.int .i64 op) := by rw [hb1.cell (p := ⟨w.heap.size, 1, none⟩) (by simp)]; simp
  have q2 : w1.cell? ⟨w.heap.size, 2, none⟩ = some (.string v) := by rw [hb1.cell (p := ⟨w.heap.size, 2, none⟩) (by simp)]; simp
  have ql : w.heap.size < w1.heap.size := by have := hb1.size; simp at this; omega
  clear hb1
  have hbk := at_back ⟨n, op, v⟩
  have hps := printA_size ⟨n, op, v⟩
  rcases hp : printA ⟨n, op, v⟩ with ⟨tx, e0⟩
  rw [hp] at hbk hps
  simp only at hbk hps
  clear hp c1
  by_cases he : e0 = 0
  case' pos =>
    obtain ⟨hb2, hb3⟩ := hbk he
    have k1 := hide (fun (w' : World) (hb : Below w.heap.size w w') => ParseAtom_any tx w' (by omega) hb3 ((unhide HG).later hb))
    rw [hb2] at k1
    simp only [amV] at k1
    subst he
    clear hbk hps hb2 hb3
    have ce := amV_neq n op v
    go_wp2_with (first | (go_at_call 6; refine (num2_any _ _).mono ?_; rintro e w' ⟨rfl, rfl⟩))
    refine (unhide k1 _ (unhide HB1)).mono ?_
    rintro e w2 ⟨rfl, hb2⟩
    have HB2 := hide (bl_t (unhide HB1) hb2)
    have r0 := (hb2.cell (p := ⟨w.heap.size, 0, none⟩) ql).trans q0
    have r1 := (hb2.cell (p := ⟨w.heap.size, 1, none⟩) ql).trans q1
    have r2 := (hb2.cell (p := ⟨w.heap.size, 2, none⟩) ql).trans q2
    have rl := Nat.lt_of_lt_of_le ql hb2.size
    clear hb2 q0 q1 q2 ql
    go_wp2_with (first | (go_at_call 6; refine (num2_any _ _).mono ?_; rintro e w' ⟨rfl, rfl⟩))
    have HB := hide (show Below w.heap.size w (w2.alloc (.cells #[.string n, .int .i64 op, .string v] 23)) from (unhide HB2).alloc (unhide HB2).size _)
    clear ce k1 r0 r1 r2 rl HB1 HB2
  case' neg =>
    have he' : (e0 == 0) = false := by simpa using he
    clear hbk hps he q0 q1 q2 ql
    go_wp2_with (first | (go_at_call 6; refine (num2_any _ _).mono ?_; rintro e w' ⟨rfl, rfl⟩))
    have HB := HB1
    clear HB1 he'
  all_goals
    refine (unhide c2 _ (unhide HB)).mono ?_
    rintro e w3 ⟨rfl, hb3⟩
    have HB3 := hide (bl_t (unhide HB) hb3)
    have hbk := fd_back cl
    rcases hp : prF cl with ⟨tx3, e3⟩
    rw [hp] at hbk
    simp only at hbk
    clear hp hb3 HB c2
    by_cases he3 : e3 = 0
    case' pos =>
      obtain ⟨x1, x2, x3, x4⟩ := hbk he3
      have k1 := hide (fun (w' : World) (hb : Below w.heap.size w w') => ParseField_any tx3 w' (by omega) x3 ((unhide HG).later hb))
      rw [x1, x2] at k1
      subst he3
      clear hbk x1 x2 x3 x4
      go_wp2_with (first | (go_at_call 6; refine (num2_any _ _).mono ?_; rintro e w' ⟨rfl, rfl⟩))
      refine (unhide k1 _ (unhide HB3)).mono ?_
      rintro e w4 ⟨⟨m, rfl, hm, -, -⟩, hb4⟩
      have HM := hide (hm (by first | trivial | rfl))
      have HB4 := hide (bl_t (unhide HB3) hb4)
      have k2 := hide (sameFieldB cl m _ w4 (unhide HM) ((unhide H1).later (unhide HB4)))
      obtain ⟨ma, mc, rfl, -⟩ := unhide HM
      clear hm hb4 HB3 k1
      go_wp2_with (first | (go_at_call 6; refine (num2_any _ _).mono ?_; rintro e w' ⟨rfl, rfl⟩))
      refine (unhide k2).mono ?_
      rintro e w5 ⟨rfl, hb5⟩
      have HB := hide (bl_t (unhide HB4) hb5)
      clear hb5 HB4 k2 HM
      go_wp2_with fail
    case' neg =>
      have he3' : (e3 == 0) = false := by simpa using he3
      clear hbk he3
      go_wp2_with (first | (go_at_call 6; refine (num2_any _ _).mono ?_; rintro e w' ⟨rfl, rfl⟩))
      have HB := HB3
      clear HB3 he3'
  all_goals
    refine (unhide c3 _ (unhide HB)).mono ?_
    rintro e w3 ⟨rfl, hb3⟩
    have HB3 := hide (bl_t (unhide HB) hb3)
    have hbk := af_back al
    rcases hp : prA al with ⟨tx3, e3⟩
    rw [hp] at hbk
    simp only at hbk
    clear hp hb3 HB c3
    by_cases he3 : e3 = 0
    case' pos =>
      obtain ⟨x1, x2, x3, x4⟩ := hbk he3
      have k1 := hide (fun (w' : World) (hb : Below w.heap.size w w') => ParseAtoms_any tx3 w' (by omega) x3 ((unhide HG).later hb))
      rw [x1, x2] at k1
      subst he3
      clear hbk x1 x2 x3 x4
      go_wp2_with (first | (go_at_call 6; refine (num2_any _ _).mono ?_; rintro e w' ⟨rfl, rfl⟩))
      refine (unhide k1 _ (unhide HB3)).mono ?_
      rintro e w4 ⟨⟨m, rfl, hm, -, -⟩, hb4⟩
      have HM := hide (hm (by first | trivial | rfl))
      have HB4 := hide (bl_t (unhide HB3) hb4)
      have k2 := hide (sameAtomsB al m _ w4 (unhide HM) ((unhide H2).later (unhide HB4)))
      obtain ⟨ma, mc, rfl, -⟩ := unhide HM
      clear hm hb4 HB3 k1
      go_wp2_with (first | (go_at_call 6; refine (num2_any _ _).mono ?_; rintro e w' ⟨rfl, rfl⟩))
      refine (unhide k2).mono ?_
      rintro e w5 ⟨rfl, hb5⟩
      have HB := hide (bl_t (unhide HB4) hb5)
      clear hb5 HB4 k2 HM
      go_wp2_with fail
    case' neg =>
      have he3' : (e3 == 0) = false := by simpa using he3
      clear hbk he3
      go_wp2_with (first | (go_at_call 6; refine (num2_any _ _).mono ?_; rintro e w' ⟨rfl, rfl⟩))
      have HB := HB3
      clear HB3 he3'
  all_goals
    refine (unhide c4 _ (unhide HB)).mono ?_
    rintro e w3 ⟨rfl, hb3⟩
    have HB3 := hide (bl_t (unhide HB) hb3)
    have hbk := nf_back nl
    rcases hp : prNs nl with ⟨tx3, e3⟩
    rw [hp] at hbk
    simp only at hbk
    clear hp hb3 HB c4
    by_cases he3 : e3 = 0
    case' pos =>
      obtain ⟨x1, x2, x3, x4⟩ := hbk he3
      have k1 := hide (fun (w' : World) (hb : Below w.heap.size w w') => ParseNames_any tx3 w' (by omega) x3 ((unhide HG).later hb))
      rw [x1, x2] at k1
      subst he3
      clear hbk x1 x2 x3 x4
      go_wp2_with (first | (go_at_call 6; refine (num2_any _ _).mono ?_; rintro e w' ⟨rfl, rfl⟩))
      refine (unhide k1 _ (unhide HB3)).mono ?_
      rintro e w4 ⟨⟨m, rfl, hm, -, -⟩, hb4⟩
      have HM := hide (hm (by first | trivial | rfl))
      have HB4 := hide (bl_t (unhide HB3) hb4)
      have k2 := hide (sameNamesB nl m _ w4 (unhide HM) ((unhide H3).later (unhide HB4)))
      obtain ⟨ma, mc, rfl, -⟩ := unhide HM
      clear hm hb4 HB3 k1
      go_wp2_with (first | (go_at_call 6; refine (num2_any _ _).mono ?_; rintro e w' ⟨rfl, rfl⟩))
      refine (unhide k2).mono ?_
      rintro e w5 ⟨rfl, hb5⟩
      have HB := hide (bl_t (unhide HB4) hb5)
      clear hb5 HB4 k2 HM
      go_wp2_with fail
    case' neg =>
      have he3' : (e3 == 0) = false := by simpa using he3
      clear hbk he3
      go_wp2_with (first | (go_at_call 6; refine (num2_any _ _).mono ?_; rintro e w' ⟨rfl, rfl⟩))
      have HB := HB3
      clear HB3 he3'
  all_goals
    refine (unhide c5 _ (unhide HB)).mono ?_
    rintro e w3 ⟨rfl, hb3⟩
    have HB3 := hide (bl_t (unhide HB) hb3)
    clear hb3 HB
    go_wp2_with fail
    go_ret
    exact ⟨rfl, unhide HB3⟩

end Go.Proofs.YtfembjjpmjfklaaGreatDoor
