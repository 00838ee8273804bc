import Derived.Test.YtcdajbfoneifaaaDoorSoL
namespace Go.Proofs.YtcdajbfoneifaaaDoor
open Go.RowKit

theorem infoV : (Tryd.prog.info? 29).map (fun i => (i.zero, i.size, i.bytes)) = some (some (.agg #[.string ⟨#[]⟩, .string ⟨#[]⟩, .string ⟨#[]⟩, .bool false, .bool false]), 5, 56) := by kernel_rfl
theorem infoI : (Tryd.prog.info? 3).map (fun i => (i.zero, i.size, i.bytes)) = some (some (.int .i64 0), 1, 8) := by kernel_rfl
theorem makeV (n : Nat) (hn : n ≤ 1099511627776) (u : World) : (Instr.makeSlice 44 (.int .i64 (n : Int)) (.int .i64 (n : Int))).run Tryd.prog u =
    .ok (.slice (some ⟨u.heap.size, 0, none⟩) n n) (u.alloc (.cells (madeCells #[.string ⟨#[]⟩, .string ⟨#[]⟩, .string ⟨#[]⟩, .bool false, .bool false] (n * 5)) 29)) := by
  obtain ⟨i0, hi, hz0, hz1, hz2⟩ := info_parts infoV
  have h := run_make (P := Tryd.prog) u 44 29 i0 (.agg #[.string ⟨#[]⟩, .string ⟨#[]⟩, .string ⟨#[]⟩, .bool false, .bool false]) Tryd.underlying44 hi hz0 .i64 .i64 (n : Int) (n : Int) (by omega) (Int.le_refl _) (by rw [hz2]; omega) (by omega)
  have e : ((n : Int)).toNat = n := by omega
  rw [e] at h
  simpa [hz1, Value.cells] using h
theorem makeI (n : Nat) (hn : n ≤ 1099511627776) (u : World) : (Instr.makeSlice 24 (.int .i64 (n : Int)) (.int .i64 (n : Int))).run Tryd.prog u =
    .ok (.slice (some ⟨u.heap.size, 0, none⟩) n n) (u.alloc (.cells (madeCells #[.int .i64 0] n) 3)) := by
  obtain ⟨i0, hi, hz0, hz1, hz2⟩ := info_parts infoI
  have h := run_make (P := Tryd.prog) u 24 3 i0 (.int .i64 0) Tryd.underlying24 hi hz0 .i64 .i64 (n : Int) (n : Int) (by omega) (Int.le_refl _) (by rw [hz2]; omega) (by omega)
  have e : ((n : Int)).toNat = n := by omega
  rw [e] at h
  simpa [hz1, Value.cells] using h
/-- A ROW JUST MADE IS THE CALL'S OWN. -/
theorem made_own (u : World) (z : Array Value) (n size : Nat) (e : TypeId) (lo : Nat) (hlo : lo ≤ u.heap.size) (hn : n ≤ maxLen) : (u.alloc (.cells (madeCells z (n * size)) e)).ownsRow lo e size (.slice (some ⟨u.heap.size, 0, none⟩) n n) n (madeCells z (n * size)).toList := by
  refine ⟨by simp [size_madeCells], .inr ⟨u.heap.size, n, madeCells z (n * size), rfl, hlo, ?_, Nat.le_refl _, hn, by rw [size_madeCells], ?_⟩⟩
  · show (u.heap.push (.cells (madeCells z (n * size)) e))[u.heap.size]? = some (.cells (madeCells z (n * size)) e (0, 0))
    simp
  · rw [List.take_of_length_le (by simp [size_madeCells])]
theorem made_some (z : Array Value) (n j : Nat) (h : j < n) : ((madeCells z n)[j]?).isSome = true := by
  rw [Array.getElem?_eq_getElem (by rw [size_madeCells]; exact h)]; rfl
theorem cells_at {W : World} {b : Nat} {cs : Array Value} {t : TypeId} (h : W.heap[b]? = some (.cells cs t)) (j : Nat) : W.cell? ⟨b, j, none⟩ = cs[j]? ∧ W.frozen? ⟨b, j, none⟩ = false := by
  constructor
  · simp [World.cell?, h]
  · simp [World.frozen?, h]
theorem Fl.start (w : World) (n : Nat) (vs : Nat → Ver) (hn : n ≤ 1099511627776) : Fl w w.heap.size (w.heap.size + 1) (w.heap.size + 1 + 1) n vs 0
    (((w.alloc (.cells (madeCells #[.string ⟨#[]⟩, .string ⟨#[]⟩, .string ⟨#[]⟩, .bool false, .bool false] (n * 5)) 29)).alloc (.cells #[.slice (some ⟨w.heap.size, 0, none⟩) n n] 44)).alloc (.cells (madeCells #[.int .i64 0] n) 3)) := by
  have e0 : ∀ (A B C : Obj), (((w.alloc A).alloc B).alloc C).heap[w.heap.size]? = some A ∧ (((w.alloc A).alloc B).alloc C).heap[w.heap.size + 1]? = some B ∧ (((w.alloc A).alloc B).alloc C).heap[w.heap.size + 1 + 1]? = some C := fun A B C => by
    refine ⟨?_, ?_, ?_⟩
    · show (((w.heap.push A).push B).push C)[w.heap.size]? = _
      rw [Array.getElem?_push, if_neg (by simp; omega), Array.getElem?_push, if_neg (by simp), Array.getElem?_push, if_pos rfl]
    · show (((w.heap.push A).push B).push C)[w.heap.size + 1]? = _
      rw [Array.getElem?_push, if_neg (by simp), Array.getElem?_push, if_pos (by simp)]
    · show (((w.heap.push A).push B).push C)[w.heap.size + 1 + 1]? = _
      rw [Array.getElem?_push, if_pos (by simp)]
  obtain ⟨h0, h1, h2⟩ := e0 (.cells (madeCells #[.string ⟨#[]⟩, .string ⟨#[]⟩, .string ⟨#[]⟩, .bool false, .bool false] (n * 5)) 29) (.cells #[.slice (some ⟨w.heap.size, 0, none⟩) n n] 44) (.cells (madeCells #[.int .i64 0] n) 3)
  have hb := (((Below.refl w.heap.size w).alloc (Nat.le_refl _) (.cells (madeCells #[.string ⟨#[]⟩, .string ⟨#[]⟩, .string ⟨#[]⟩, .bool false, .bool false] (n * 5)) 29)).alloc (by simp) (.cells #[.slice (some ⟨w.heap.size, 0, none⟩) n n] 44)).alloc (by simp; omega) (.cells (madeCells #[.int .i64 0] n) 3)
  refine ⟨fun i hi => absurd hi (Nat.not_lt_zero _), fun j hj => ?_, fun j => (cells_at h0 j).2, fun i hi => absurd hi (Nat.not_lt_zero _), fun j hj => ?_, fun j => (cells_at h2 j).2, ?_, (cells_at h1 0).1, by simp; omega, by simp, by simp, hb⟩
  · rw [(cells_at h0 j).1]; exact made_some _ _ _ hj
  · rw [(cells_at h2 j).1]; exact made_some _ _ _ hj
  · have ho := made_own ((w.alloc (.cells (madeCells #[.string ⟨#[]⟩, .string ⟨#[]⟩, .string ⟨#[]⟩, .bool false, .bool false] (n * 5)) 29)).alloc (.cells #[.slice (some ⟨w.heap.size, 0, none⟩) n n] 44)) #[.int .i64 0] n 1 3 (w.heap.size + 1 + 1) (by simp) (by unfold maxLen; omega)
    have es : ((w.alloc (.cells (madeCells #[.string ⟨#[]⟩, .string ⟨#[]⟩, .string ⟨#[]⟩, .bool false, .bool false] (n * 5)) 29)).alloc (.cells #[.slice (some ⟨w.heap.size, 0, none⟩) n n] 44)).heap.size = w.heap.size + 1 + 1 := by simp
    rw [es, Nat.mul_one] at ho
    exact ⟨_, ho⟩
/-- THE FIRST ERROR AMONG THE FIRST k. -/
def vsOf (l : List ByteArray) (k : Nat) : Ver := (parse (l.getD k nob)).1
def erOf (l : List ByteArray) (k : Nat) : Int := (parse (l.getD k nob)).2

set_option maxRecDepth 100000 in
set_option maxHeartbeats 4000000 in
theorem Sort_any (l : List ByteArray) (pa : Option Addr) (lc : Nat) (w : World) (hl : l.length ≤ 1099511627776) (hz : ∀ k, k < l.length → (l.getD k nob).size ≤ maxLen) (hL : Ls w pa l) :
    Calls Tryd.prog 6 #[.slice pa l.length lc] w fun e w' => Below w.heap.size w w' ∧
      ((∃ b g, e = .returned (.tuple #[.slice (some ⟨b, 0, none⟩) l.length l.length, .int .i64 0]) ∧ (∀ k, k < l.length → erOf l k = 0) ∧ w.heap.size ≤ b ∧ Rw b 0 l.length g w' ∧ Pm idn g 0 l.length ∧ Srt (Sv (vsOf l)) g 0 l.length)
       ∨ (∃ k, k < l.length ∧ erOf l k ≠ 0 ∧ (∀ j, j < k → erOf l j = 0) ∧ e = .returned (.tuple #[.slice none 0 0, .int .i64 (erOf l k)]))) := by
  have m1 := makeV l.length hl
  have m2 := makeI l.length hl
  have HL : Aside (Ls w pa l) := hL
  have HZ : Aside _ := hz
  clear hL hz
  obtain ⟨n, hn⟩ : ∃ n, n = l.length := ⟨_, rfl⟩
  rw [← hn] at m1 m2 hl ⊢
  have HN : Hid (n = l.length) := hn
  clear hn
  go_enter Tryd.func6, Tryd.ntmps6
  have F0 : Aside _ := Fl.start w n (vsOf l) hl
  go_wp2
  clear m1 m2
  generalize (((w.alloc (.cells (madeCells #[.string ⟨#[]⟩, .string ⟨#[]⟩, .string ⟨#[]⟩, .bool false, .bool false] (n * 5)) 29)).alloc (.cells #[.slice (some ⟨w.heap.size, 0, none⟩) n n] 44)).alloc (.cells (madeCells #[.int .i64 0] n) 3)) = w1 at F0 ⊢
  obtain ⟨V, hV⟩ : ∃ q, q = w.heap.size := ⟨_, rfl⟩
  rw [← hV] at F0 ⊢
  have HV : Hid (V = w.heap.size) := hV
  clear hV
  obtain ⟨X, hX⟩ : ∃ q, q = V + 1 := ⟨_, rfl⟩
  rw [← hX] at F0 ⊢
  obtain ⟨B, hB⟩ : ∃ q, q = X + 1 := ⟨_, rfl⟩
  rw [← hB] at F0 ⊢
  have n1 : X ≠ V := by omega
  have n2 : B ≠ V := by omega
  have n3 : B ≠ X := by omega
  have HB : Hid (w.heap.size ≤ V ∧ w.heap.size ≤ X ∧ w.heap.size ≤ B) := by have := HV.out; exact ⟨by omega, by omega, by omega⟩
  clear hX hB
  go_loopg [18] n (fun g1 vi wr => ∃ k : Nat, vi = .int .i64 k ∧ k ≤ n ∧ n - k ≤ g1 ∧ Hid (∀ i, i < k → erOf l i = 0) ∧ Aside (Fl w V X B n (vsOf l) k wr))
  case atStart => exact ⟨0, by go_num, by omega, by omega, (show Hid _ from fun i hi => absurd hi (Nat.not_lt_zero _)), F0⟩
  case round =>
    clear F0
    obtain ⟨k, rfl, hk, hg1, HE, F1⟩ := hrel
    by_cases hlt : k < n
    · have hltz : (k : Int) < (n : Int) := by omega
      have hkl : k < l.length := by have := HN.out; omega
      obtain ⟨lb, lo, rfl, hlb, hlc⟩ := HL.out k hkl
      have hc0 : wr.cell? ⟨lb, lo + k, none⟩ = some (.string (l.getD k nob)) := (F1.out.bel.cell (p := ⟨lb, lo + k, none⟩) hlb).trans hlc
      rcases hp : parse (l.getD k nob) with ⟨⟨e, u, r, c, d⟩, er⟩
      have c1 := hide (fun w' => Parse_any (l.getD k nob) (HZ.out k hkl) e u r c d er hp w')
      have HVS : Hid (vsOf l k = ⟨e, u, r, c, d⟩ ∧ erOf l k = er) := ⟨by unfold vsOf; rw [hp], by unfold erOf; rw [hp]⟩
      generalize l.getD k nob = sk at *
      clear hlc hp
      by_cases her : er = 0
      · subst her
        have F2 := hide (fun (w' : World) (hb : Below wr.heap.size wr w') => F1.out.later hb F1.out.bel.size)
        clear F1
        go_upto_if 29 with (go_at_call 7; refine (unhide c1 _).mono ?_; rintro x1 w1 ⟨rfl, hb1⟩; have HB1 := hide hb1; clear hb1)
        have F3 := unhide F2 _ (((unhide HB1).mono (Nat.le_refl _)).alloc (unhide HB1).size (.cells #[.string e, .string u, .string r, .bool c, .bool d] 29))
        obtain ⟨x0, hx0⟩ : ∃ q, q = w1.heap.size := ⟨_, rfl⟩
        have q : ∀ j, (w1.alloc (.cells #[.string e, .string u, .string r, .bool c, .bool d] 29)).cell? ⟨x0, j, none⟩ = (#[Value.string e, .string u, .string r, .bool c, .bool d])[j]? := fun j => World.cell?_alloc_at _ _ _ _ hx0
        rw [← hx0]
        have q0 := q 0
        have q1 := q 1
        have q2 := q 2
        have q3 := q 3
        have q4 := q 4
        simp only [List.getElem?_toArray, List.getElem?_cons_zero, List.getElem?_cons_succ] at q0 q1 q2 q3 q4
        clear q F2 HB1 c1 hc0 hx0
        generalize w1.alloc (.cells #[.string e, .string u, .string r, .bool c, .bool d] 29) = w2 at *
        have p0 := F3.box
        have P3 := F3.put hlt n1 n2 n3 HB.out.1 HB.out.2.2
        rw [HVS.out.1] at P3
        obtain ⟨z0, g0⟩ := Option.isSome_iff_exists.1 (F3.verS (k * 5) (by omega))
        obtain ⟨z1, g1'⟩ := Option.isSome_iff_exists.1 (F3.verS (k * 5 + 1) (by omega))
        obtain ⟨z2, g2⟩ := Option.isSome_iff_exists.1 (F3.verS (k * 5 + 2) (by omega))
        obtain ⟨z3, g3⟩ := Option.isSome_iff_exists.1 (F3.verS (k * 5 + 3) (by omega))
        obtain ⟨z4, g4⟩ := Option.isSome_iff_exists.1 (F3.verS (k * 5 + 4) (by omega))
        obtain ⟨z5, g5⟩ := Option.isSome_iff_exists.1 (F3.plcS k hlt)
        have v0 := F3.verF (k * 5)
        have v1 := F3.verF (k * 5 + 1)
        have v2 := F3.verF (k * 5 + 2)
        have v3 := F3.verF (k * 5 + 3)
        have v4 := F3.verF (k * 5 + 4)
        have v5 := F3.plcF k
        have P4 : Aside _ := P3
        clear F3 P3
        go_wp2
        generalize ((((((w2.setCell ⟨V, k * 5, none⟩ (.string e)).setCell ⟨V, k * 5 + 1, none⟩ (.string u)).setCell ⟨V, k * 5 + 2, none⟩ (.string r)).setCell ⟨V, k * 5 + 3, none⟩ (.bool c)).setCell ⟨V, k * 5 + 4, none⟩ (.bool d)).setCell ⟨B, k, none⟩ (.int .i64 k)) = w3 at *
        go_roundg (n - (k + 1))
        case measure => omega
        case rel => exact ⟨k + 1, by go_num, by omega, by omega, (show Hid _ from fun i hi => by
            by_cases ei : i = k
            · subst ei; exact HVS.out.2
            · exact HE.out i (by omega)), P4⟩
      · have F2 := hide (fun (w' : World) (hb : Below wr.heap.size wr w') => F1.out.bel.trans (hb.mono F1.out.bel.size))
        have hne : (er != 0) = true := by simpa using her
        have HER : Hid (erOf l k ≠ 0) := by rw [HVS.out.2]; exact her
        clear F1
        go_wp2_with (go_at_call 7; refine (unhide c1 _).mono ?_; rintro x1 w1 ⟨rfl, hb1⟩; have HB1 := hide hb1; clear hb1)
        go_ret2
        refine ⟨unhide F2 _ (((unhide HB1).mono (Nat.le_refl _)).alloc (unhide HB1).size _), Or.inr ⟨k, hlt, HER.out, HE.out, ?_⟩⟩
        rw [HVS.out.2]
        rfl
    · have hltz : ¬ (k : Int) < (n : Int) := by omega
      have hkn : k = n := by omega
      subst hkn
      have HD : Hid (∀ i, i < k → Dg (vsOf l i)) := fun i hi => by
        have hz := HZ.out i (by have := HN.out; omega)
        have d1 := parse_size (l.getD i nob) hz
        exact ⟨d1.1, d1.2.1, d1.2.2, parse_dig (l.getD i nob)⟩
      have S0 : Sw wr B 0 k idn wr := ⟨But.refl _ _, F1.out.ltB, fun i hi => by rw [Nat.zero_add]; exact F1.out.plc i hi, fun i hi => F1.out.plcF _, fun _ => F1.out.plcO⟩
      have c2 := hide (sortStable_any wr B 0 k k (.pointer (some ⟨X, 0, none⟩)) _ (Sv (vsOf l)) (ord_sv (vsOf l) k) (cm_of wr B X V k (vsOf l) HD.out F1.out.ltX F1.out.ltV n3.symm n2.symm F1.out.box (fun i hi => F1.out.ver i hi)) (by omega) wr S0)
      have F2 := hide F1.out.bel
      clear F1 S0 HD
      go_wp2_with (go_at_call 15; refine (unhide c2).mono ?_; rintro x1 w1 ⟨rfl, hw1⟩; have HW1 := hide hw1; clear hw1)
      go_ret2
      obtain ⟨g, T1, T2, T3⟩ := unhide HW1
      have hb := unhide F2
      refine ⟨⟨T1.but.os.trans hb.os, T1.but.tape.trans hb.tape, T1.but.output.trans hb.output, Nat.le_trans hb.size T1.but.size, fun i hi => (T1.but.block i (Nat.lt_of_lt_of_le hi hb.size) (by have := HB.out.2.2; omega)).trans (hb.block i hi)⟩, Or.inl ⟨B, g, rfl, HE.out, HB.out.2.2, T1.row, T2, T3⟩⟩
end Go.Proofs.YtcdajbfoneifaaaDoor
