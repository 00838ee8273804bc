import Derived.Test.YtokgegbodbnimaaPqO
import Derived.Maps.OwnIn
namespace Go.Proofs.Ytokgegbodbnimaa
open Go.RowKit Go.Maps Go.Sort Go.Shelf
attribute [local go_sem] Oper.semAt_some
attribute [local simp] wide_fn
attribute [local go_sem] wide_fn

theorem ny_cell {ny : Nm} {y : List UInt8} (h : ny = nmOf y) (wr : World) : ∀ (j : Nat) u, [encStr y][j]? = some u → (wr.alloc (.cells #[.string ny] 9)).cell? ((⟨wr.heap.size, 0, none⟩ : Addr).add j) = some u := by
  subst h
  exact cell_one_new _ _ _
theorem ny_gr {ny : Nm} {y : List UInt8} (h : ny = nmOf y) {wr w3 : World} {row : Option Nat} (hg : (wr.alloc (.cells #[.string ny] 9)).grownBy w3 row) : (wr.alloc (.cells #[.string (nmOf y)] 9)).grownBy w3 row := by
  subst h
  exact hg
theorem new_rb (X : World) : Rb (X.alloc (.cells #[.int .u8 110, .int .u8 101, .int .u8 119] 5 (3, 4))) (some ⟨X.heap.size, 0, none⟩) [110, 101, 119] := by
  refine .inr ⟨X.heap.size, 0, rfl, by simp, fun j u hj => ?_⟩
  have hn := heap_new X (.cells #[.int .u8 110, .int .u8 101, .int .u8 119] 5 (3, 4))
  unfold World.cell?
  show (match (X.alloc (.cells #[.int .u8 110, .int .u8 101, .int .u8 119] 5 (3, 4))).heap[X.heap.size]? with | some (.cells c _ _) => c[0 + j]? | _ => none) = _
  rw [hn]
  rw [Nat.zero_add]
  show (#[Value.int .u8 110, .int .u8 101, .int .u8 119])[j]? = _
  rw [← hj, ← Array.getElem?_toList]
  rfl
set_option maxRecDepth 100000 in
theorem cv3 (X : World) : (convert 22 22 (.slice (some ⟨X.heap.size, 0, none⟩) 3 3)).run Try.prog (X.alloc (.cells #[.int .u8 110, .int .u8 101, .int .u8 119] 5)) = .ok (.slice (some ⟨X.heap.size, 0, none⟩) 3 3) (X.alloc (.cells #[.int .u8 110, .int .u8 101, .int .u8 119] 5 (3, 4))) := Lib.run_convert_bytes_const X 22 5 #[.int .u8 110, .int .u8 101, .int .u8 119] 3 3 Try.underlying22 Try.underlying5
/-- What stands when the first range begins. -/
theorem le_start {W wr w5 w4 : World} {t : Nat} {x : Nm} {stop : Int} {m0 m1 : Cn} {K : Nat} {M : Mm} {wa na : Option Addr} {wc nc : Nat} {ss : List (List UInt8)} (ne : Ne W wr t x stop m0 m1 K) (hwt : Wt w4 wr ss (.slice wa ss.length wc)) (htl : t < w4.heap.size) (hM : Sto (Wn (W.heap.size + 3) t) (W.heap.size + 3) M m0 m1 K wr) (nb : Nb wr.heap.size na nc ss w5) (b5 : RowKit.Below wr.heap.size wr w5) (hg : ∀ g, (na.map (·.block)) = some g → wr.heap.size < g ∧ g < w5.heap.size) :
    Le W (w5.alloc (.cells #[.int .i64 0] 3)) t x stop w4.heap.size wa wc ss wr.heap.size na nc w5.heap.size ∧ Nv (w5.alloc (.cells #[.int .i64 0] 3)) (W.heap.size + 3) t w5.heap.size 0 K (w5.alloc (.cells #[.int .i64 0] 3)) := by
  have b6 := al_b w5 (.cells #[.int .i64 0] 3)
  have b := bl_t b5 b6
  have ne6 := ne.later b
  have z4 := blk_lt hwt.box
  have z5 := blk_lt nb.box
  have z6 : (w5.alloc (.cells #[.int .i64 0] 3)).heap.size = w5.heap.size + 1 := World.size_alloc _ _
  refine ⟨⟨ne6.e6, ne6.e7, ne6.e8, ne6.e9, (b.block _ z4).trans hwt.box, row_later (row_low hwt.row (Nat.zero_le _)) b, fun g e => ?_, nb.later b6, fun g e => ?_, ne6.bw, ⟨ne.o, htl, z4, z5, by omega⟩⟩, ⟨Fx.refl _ _, heap_new w5 _, M, m0, m1, K, (hM.later b).mono (fun b _ q => .inl q) (Nat.le_refl _) hM.hK, Nat.le_refl _⟩⟩
  · have := World.ownsRow.lt hwt.row g e
    omega
  · have := hg g e
    omega
theorem kn_trans {Bx : Nat} {a : Option Addr} {A B C : World} (h : Kn2 Bx a A B) (k : Kn2 Bx a B C) : Kn2 Bx a A C := ⟨k.1.trans h.1, fun g e => (k.2 g e).trans (h.2 g e)⟩
theorem kn_put {Bx l : Nat} {a : Option Addr} {n : Nat} (hB : Bx < n) (ha : ∀ g, (a.map (·.block)) = some g → g < n) (hl : n ≤ l) (W : World) (o2 : Obj) : Kn2 Bx a W (W.putObj l o2) := ⟨World.putObj_heap_other (by omega), fun g e => World.putObj_heap_other (by have := ha g e; omega)⟩
theorem Le.cells {W0 w : World} {t : Nat} {x : Nm} {stop : Int} {Bw : Nat} {wa : Option Addr} {wc : Nat} {ss : List (List UInt8)} {Bx : Nat} {na : Option Addr} {nc Bn : Nat} (h : Le W0 w t x stop Bw wa wc ss Bx na nc Bn) :
    w.cell? ⟨W0.heap.size, 0, none⟩ = some (.string x) ∧ w.cell? ⟨W0.heap.size + 1, 0, none⟩ = some (.int .i64 stop) ∧ w.cell? ⟨t, 0, none⟩ = some (.pointer (some ⟨W0.heap.size + 3, 0, none⟩)) ∧ w.cell? ⟨Bw, 0, none⟩ = some (.slice wa ss.length wc) :=
  ⟨(cell_blk h.e6 0).1.trans rfl, (cell_blk h.e7 0).1.trans rfl, (cell_blk h.e9 0).1.trans rfl, (cell_blk h.ew 0).1.trans rfl⟩
/-- A range that may be left by one break, and goes on alike. -/
theorem rangeFunc_sb {α : Type} {n : Nat} {P : Program} {g : Operand} {ps : Array Tmp} {assign body : Code} {Q : Exit → Act → World → Prop} {a : Act} {w : World}
    (h1 : 1 ≤ n) {gf : Nat} {lb : Array Value} (hg : a.eval g = .func (.func gf) #[] lb) (eg : ∀ args w, (callFunc gf args).run P w = .ok (.enter gf args) w)
    {encs : α → Array Value} {Kp : World → World → Prop} {S Sp : List α → Prop} {N : Nat} {w0 : World} (hseq : SeqP Fence.wide (n - 1) P gf lb encs Kp S Sp N w0)
    (hKt : ∀ {A B C : World}, Kp A B → Kp B C → Kp A C) (hKb : ∀ (W : World) (l : Nat) (o o2 : Obj), w.heap.size ≤ l → W.heap[l]? = some o → o.isCells = false → o.isWalk = false → Kp W (W.putObj l o2)) (hb0 : RowKit.Below w0.heap.size w0 w) (hps : ∀ x, (encs x).size = ps.size)
    (id : Nat) (hQ : ∀ a W, Q .normal a W → Q (.exit id) a W)
    (I Iy E : List α → World → Prop) (hI : Abide w.heap.size I) (hIy : Abide w.heap.size Iy) (h0 : I [] w) (hE1 : ∀ xs W, S xs → I xs W → E xs W) (hE2 : ∀ xs W, Sp xs → Iy xs W → E xs W) (a1 : α → Act)
    (hassign : ∀ (l : Nat) (x : α) (W : World) (K : Act → World → Prop), K (a1 x) W →
      assign.wpIn (Fence.wide.inRound l) (n - 1 - 1) P (Exit.then K (fun _ _ _ => False)) { tmps := (ps.zip (encs x)).foldl (fun t (p, v) => t.setIfInBounds p v) a.tmps, defers := [] } W)
    (hbody : ∀ (l : Nat) (pre : List α) (x : α) (W : World), W.heap[w.heap.size]? = some (.deferred (some [])) → (∃ r, W.heap[w.heap.size + 1]? = some (.loop r)) → I pre W → pre.length < N → Sp (pre ++ [x]) → body.wpIn (Fence.wide.inRound l) (n - 1 - 1) P (post2 w.heap.size Kp I (fun c pre W => c = .exit id ∧ Iy pre W) (pre ++ [x]) W) (a1 x) W)
    (hend : ∀ (D : Nat) (xs : List α) (W : World), D = w.heap.size → E xs W → W.heap[D]? = some (.deferred (some [])) → Q .normal { a with defers := { target := .collected D, args := #[] } :: a.defers } W) :
    (Code.rangeFunc g ps assign body).wpIn Fence.wide n P Q a w := by
  refine rangeFunc_2e rfl h1 hg trivial eg hseq hKt hKb hb0 hps I (fun c pre W => c = .exit id ∧ Iy pre W) hI (fun c pre X Y row h hg hr => ⟨h.1, hIy pre X Y row h.2 hg hr⟩) h0 a1 hassign hbody (fun D xs W e hS hi hk => hend D xs W e (hE1 xs W hS hi) hk) ?_
  rintro D c xs W e hS ⟨rfl, hi⟩ hk
  exact wpIn_exit (hQ _ _ (hend D xs W e (hE2 xs W hS hi) hk))
/-- How far the first range went. -/
def Gone (stop : Int) (n k : Nat) : Prop := (k = n ∧ ¬ (1 ≤ stop ∧ stop ≤ (k : Int))) ∨ ((k : Int) = stop ∧ 1 ≤ k ∧ k ≤ n)
theorem below_p {s : Nat} {A Z : World} {D : Nat} (h : RowKit.Below s A Z) (hD : s ≤ D) (o : Obj) : RowKit.Below s A (Z.putObj D o) := ⟨h.os, h.tape, h.output, by rw [World.putObj_size]; exact h.size, fun k hk => (World.putObj_heap_other (by omega)).trans (h.block k hk)⟩
/-- What the second range keeps. -/
structure Nq (w : World) (Bm k : Nat) (Z : World) : Prop where
  fx : Fx (fun b => b = Bm ∨ w.heap.size ≤ b) w Z
  n : Z.heap[Bm]? = some (.cells #[.int .i64 (k : Int)] 3 (0, 0))
theorem Nq.grown {w : World} {Bm k : Nat} {X Y : World} {row : Option Nat} (h : Nq w Bm k X) (hBm : Bm < w.heap.size) (hg : X.grownBy Y row) (hr : ∀ r, row = some r → w.heap.size ≤ r ∧ ∃ o : Obj, X.heap[r]? = some o ∧ o.isCells = false ∧ ∀ es c, o ≠ .map es c) : Nq w Bm k Y := by
  have f : Fx (fun b => row = some b) X Y := ⟨⟨hg.1, hg.2, hg.3, hg.size, fun _ h => absurd h (Nat.not_lt_zero _)⟩, fun b hb hn => hg.block b hb (fun e => hn e.symm)⟩
  have hz := h.fx.size
  exact ⟨h.fx.next f fun b hb e => .inr (hr b e).1, (hg.block Bm (by omega) fun e => (by have := (hr Bm e.symm).1; omega)).trans h.n⟩
theorem Nq.set {w : World} {Bm k : Nat} {Z : World} (h : Nq w Bm k Z) : Z.cell? ⟨Bm, 0, none⟩ = some (.int .i64 (k : Int)) ∧ Z.frozen? ⟨Bm, 0, none⟩ = false ∧ Nq w Bm (k + 1) (Z.setCell ⟨Bm, 0, none⟩ (.int .i64 ((k : Int) + 1))) ∧ ∀ b, b ≠ Bm → (Z.setCell ⟨Bm, 0, none⟩ (.int .i64 ((k : Int) + 1))).heap[b]? = Z.heap[b]? := by
  have f1 : Fx (fun b => b = Bm) Z (Z.setCell ⟨Bm, 0, none⟩ (.int .i64 ((k : Int) + 1))) := Fx.set (P := fun b => b = Bm) (Fx.refl _ _) rfl _ _
  exact ⟨(cell_blk h.n 0).1.trans rfl, (cell_blk h.n 0).2, ⟨h.fx.next f1 fun b _ e => .inl e, set_blk h.n 0 _⟩, fun b hb => set_other _ _ _ _ _ hb⟩
set_option maxRecDepth 100000 in
set_option maxHeartbeats 16000000 in
theorem names_walk {W : World} {pa : Option Addr} {sc : List Sp} (pc : Nat) (hs : Rs W pa sc) (hK : Ks sc sc.length ≤ 1000000000) (hl : sc.length ≤ 1099511627776) (p : Nm) (_ : p.size ≤ maxLen) (x : Nm) (hx : x.size ≤ maxLen) (stop : Int) :
    Calls Try.prog 5 #[.slice pa sc.length pc, .string p, .string x, .int .i64 stop] W fun v W' => v = .returned (.bool true) ∧ RowKit.Below W.heap.size W W' := by
  obtain ⟨i0, hi9, hz0, hz1, hz2⟩ := info_parts info9
  have C := names_start pc hs hK hl x stop
  generalize sc.length = N at *
  obtain ⟨W1, hW1⟩ : ∃ w, w = w03 W x stop := ⟨_, rfl⟩
  rw [← hW1] at C
  have HX := hide hx
  clear hs hK hl hx
  refine (callsIn_wide (n := 9)).1 ?_
  refine callsIn_of_wp_marks Try.func5 rfl trivial ?_ rfl
  simp only [Try.ntmps5, List.size_toArray, List.length_cons, List.length_nil, Nat.reduceAdd, Nat.reduceSub, Array.replicate_succ, Array.replicate_zero, List.push_toArray, List.append_toArray, List.nil_append, List.cons_append]
  unfold w03 at hW1
  gi_wp2_with (first
    | (gi_at_call 18; rw [← hW1]; refine (callsIn_wide.2 C).mono ?_; rintro e w2 ⟨rfl, C1⟩; clear C hW1; have C := C1; clear C1)
    | (gi_at_call 21; refine (callsIn_wide.2 C).mono ?_; rintro e w4 ⟨lv, rfl, t, m0, m1, K, lo, hi, L, ht, hK, ne, im, htl⟩; clear C; have HT := hide ht; have HNE := hide ne; have HIM := hide im; clear ne im ht))
  obtain rfl := unhide HT
  clear HT
  generalize w2.heap.size = t at *
  obtain ⟨la, lc, rfl⟩ := owns_form (unhide HIM).row
  obtain ⟨NL, hNL⟩ : ∃ n, n = L.length := ⟨_, rfl⟩
  have hNLz : NL ≤ 1000000000 := by
    obtain ⟨M, hM⟩ := (unhide HNE).st
    have := nmS_cnt hM.s0 ⟨#[]⟩
    have := hM.s0.cnt_le
    have := (unhide HIM).lenS
    omega
  rw [← hNL]
  have HNL := hide hNL
  have HNLz := hide hNLz
  clear hNL hNLz
  have HF := hide (nmS_filter (unhide HNE).st.choose_spec.s0 p)
  gi_loopw [13, 14] (fun iv _ wr => ∃ (i : Nat) (v : Value), iv = .int .i64 i ∧ i ≤ NL ∧ Hid (Wt w4 wr (((nmS m0 ⟨#[]⟩).take i).filter (fun x => pre (nmOf x) p)) v)) (fun iv _ _ => NL - (intOf iv).toNat)
  case atStart => exact ⟨0, _, rfl, Nat.zero_le _, hide (Wt.start w4)⟩
  case round =>
    obtain ⟨i, v, rfl, hile, HWT⟩ := hrel
    by_cases hlt : i < NL
    · have hlt2 : (i : Int) < (NL : Int) := by omega
      have hwt := unhide HWT
      obtain ⟨y, b, f, bs, c, u1, s1, q1, q2, q3, q4⟩ := ((unhide HIM).later hwt.bw).at_ (i := i) (by rw [← unhide HNL]; exact hlt)
      rw [← unhide HNL] at s1
      injection s1 with s1 _ t1
      subst s1 t1
      obtain ⟨va, vc, rfl⟩ := owns_form hwt.row
      have cw := (cell_blk hwt.box 0).1.trans (show #[Value.slice va _ vc][0]? = some (.slice va _ vc) from rfl)
      have hsz := blk_lt hwt.box
      have et : (nmS m0 ⟨#[]⟩).take (i + 1) = (nmS m0 ⟨#[]⟩).take i ++ [y] := by rw [List.take_add_one, u1]; rfl
      have hln : (((nmS m0 ⟨#[]⟩).take i).filter (fun x => pre (nmOf x) p)).length ≤ 1000000000 := by
        have h1 := List.length_filter_le (fun x => pre (nmOf x) p) ((nmS m0 ⟨#[]⟩).take i)
        rw [List.length_take] at h1
        have := unhide HNLz
        omega
      obtain ⟨kk, hkk⟩ : ∃ kk, kk = ((nmS m0 ⟨#[]⟩).take i).filter (fun x => pre (nmOf x) p) := ⟨_, rfl⟩
      have HE := hide (show ((nmS m0 ⟨#[]⟩).take (i + 1)).filter (fun x => pre (nmOf x) p) = if pre (nmOf y) p = true then kk ++ [y] else kk from by
        rw [et, List.filter_append, ← hkk]
        by_cases h : pre (nmOf y) p = true
        · rw [if_pos h]; simp [h]
        · rw [if_neg h]; simp [h])
      rw [← hkk] at hln HWT cw
      have HKK := hide hkk
      have HLN := hide hln
      clear hwt q2 q3 q4 u1 et hkk hln
      have hNLq := unhide HNLz
      have HM := hide (show i + 1 ≤ NL ∧ NL - (i + 1) < NL - i by omega)
      obtain ⟨ny, hny⟩ : ∃ ny, ny = nmOf y := ⟨_, rfl⟩
      rw [← hny] at q1 HE
      have HNY := hide hny
      clear hny
      by_cases h1 : p.size ≤ ny.size
      · have h1i : (ny.size : Int) ≥ (p.size : Int) := by omega
        have HPR := hide (show pre ny p = ((ByteArray.extract ny 0 (ByteArray.size p)).toList == ByteArray.toList p) from by
          unfold pre
          rw [decide_eq_true h1, Bool.true_and])
        gi_wp2_with (first
          | (gi_at_builtin; go_must (refine wpListIn_append_own _ rfl _ _ 48 rfl (w4.heap.size + 1) 9 i0 (.string ⟨#[]⟩) 1 16 Try.underlying48 hi9 hz0 hz1 hz2 rfl (by decide) (.slice va kk.length vc) kk.length (kk.map encStr) rfl ((unhide HWT).row.alloc _) ⟨wr.heap.size, 0, none⟩ 1 1 [encStr y] rfl rfl (ny_cell (unhide HNY) wr) (by simp [Value.oneCell', encStr]) (by unfold maxLen; have := unhide HLN; omega) (by have := unhide HLN; omega) (by rw [World.size_alloc]; omega) ?_); intro v' w3 hown' hg3 hnil3; obtain ⟨r1, r2, r3⟩ := (unhide HWT).next hown' (ny_gr (unhide HNY) hg3); obtain ⟨vb, vd, rfl⟩ := owns_form hown'; have HNX := hide r3; clear r3 hown' hg3 hnil3))
        · have hb : ((ByteArray.extract ny 0 (ByteArray.size p)).toList == ByteArray.toList p) = true := by assumption
          have HE2 := hide (show ((nmS m0 ⟨#[]⟩).take (i + 1)).filter (fun x => pre (nmOf x) p) = kk ++ [y] from by rw [unhide HE, unhide HPR, hb]; rfl)
          go_roundw
          case rel => exact ⟨i + 1, _, by go_num, (unhide HM).1, by rw [unhide HE2]; exact HNX⟩
          case measure => have := (unhide HM).2; simp [intOf]; omega
        · have hb : ((ByteArray.extract ny 0 (ByteArray.size p)).toList == ByteArray.toList p) = false := by assumption
          have HE2 := hide (show ((nmS m0 ⟨#[]⟩).take (i + 1)).filter (fun x => pre (nmOf x) p) = kk from by rw [unhide HE, unhide HPR, hb]; rfl)
          go_roundw
          case rel => exact ⟨i + 1, _, by go_num, (unhide HM).1, by rw [unhide HE2]; exact HWT⟩
          case measure => have := (unhide HM).2; simp [intOf]; omega
      · have h1i : ¬ ((ny.size : Int) ≥ (p.size : Int)) := by omega
        have hpre : pre ny p = false := by
          unfold pre
          rw [decide_eq_false h1, Bool.false_and]
        have HE2 := hide (show ((nmS m0 ⟨#[]⟩).take (i + 1)).filter (fun x => pre (nmOf x) p) = kk from by rw [unhide HE, hpre]; rfl)
        clear hpre HE
        gi_wp2
        go_roundw
        case rel => exact ⟨i + 1, _, by go_num, (unhide HM).1, by rw [unhide HE2]; exact HWT⟩
        case measure => have := (unhide HM).2; simp [intOf]; omega
    · obtain rfl : i = NL := by omega
      have hwt := unhide HWT
      rw [List.take_of_length_le (by rw [unhide HNL, (unhide HIM).lenS]; exact Nat.le_refl _), ← unhide HF] at hwt
      have ne := (unhide HNE).later hwt.bw
      obtain ⟨M, hM⟩ := ne.st
      have hss : (nmS m0 p).length ≤ 1000000000 := by
        have := nmS_cnt hM.s0 p
        have := hM.s0.cnt_le
        omega
      have C := Names_any hM (by omega) p
      have c9 := (cell_blk ne.e9 0).1.trans (show #[Value.pointer (some ⟨W.heap.size + 3, 0, none⟩)][0]? = some (.pointer (some ⟨W.heap.size + 3, 0, none⟩)) from rfl)
      obtain ⟨wa, wc, rfl⟩ := owns_form hwt.row
      have HSZ := hide (show ∀ y ∈ nmS m0 p, (nmOf y).size ≤ 258 from fun y hy => hM.s0.dm.lim _ fun e => (nmS_mem hM.s0 hy).1 (hM.s0.sc.non _ e))
      have HSS := hide hss
      have HWT2 := hide hwt
      have HNE2 := hide ne
      have HM := hide hM
      generalize nmS m0 p = ss at *
      clear hwt ne hM hss HWT HF HIM HNL HNLz HNE
      have hfn := eqf
      gi_wp2_with (first
        | (gi_at_call 23; refine (callsIn_wide.2 C).mono ?_; rintro e w5 ⟨na, nc, rfl, nb, b5, hng⟩; have HS := hide (le_start (unhide HNE2) (unhide HWT2) htl (unhide HM) nb b5 hng); clear nb b5 hng C))
      obtain ⟨le, nv⟩ := unhide HS
      clear HS HNE2 HWT2 HM c9 hfn
      obtain ⟨w6, hw6⟩ : ∃ w, w = w5.alloc (.cells #[.int .i64 0] 3) := ⟨_, rfl⟩
      rw [← hw6] at le nv ⊢
      have HLE := hide le
      have hBn : t ≤ w5.heap.size ∧ w5.heap.size < w6.heap.size := by
        have := le.o
        have := blk_lt nv.n
        omega
      have hw6a : w5.heap.size + 1 ≤ w6.heap.size := by rw [hw6, World.size_alloc]; exact Nat.le_refl _
      have hw6b : w6.heap.size ≤ w5.heap.size + 1 := by rw [hw6, World.size_alloc]; exact Nat.le_refl _
      clear hw6
      have hKn : wr.heap.size < w6.heap.size ∧ ∀ g, (na.map (·.block)) = some g → g < w6.heap.size := ⟨by have := le.o; omega, fun g e => by have := (le.nl g e).2; omega⟩
      generalize w5.heap.size = Bn at *
      generalize wr.heap.size = Bx at *
      generalize w4.heap.size = Bw at *
      have hss := unhide HSS
      refine rangeFunc_sb (by decide) (gf := 48) (lb := #[.pointer (some ⟨Bx, 0, none⟩)]) rfl (enters_of Try.func48 (by kernel_rfl) rfl)
        (Names1_p 8 (by decide) Bx na nc ss (by omega) w6 le.nb) (fun h k => kn_trans h k) (fun W l o o2 hl _ _ _ => kn_put hKn.1 hKn.2 hl W o2) (Below.refl _ _) (fun _ => rfl) 2 ?hq0
        (fun pre Z => Nv w6 (W.heap.size + 3) t Bn pre.length (K + 7 * pre.length) Z ∧ ¬ (1 ≤ stop ∧ stop ≤ (pre.length : Int))) (fun pre Z => Nv w6 (W.heap.size + 3) t Bn pre.length (K + 7 * pre.length) Z ∧ (pre.length : Int) = stop ∧ 1 ≤ pre.length) (fun pre Z => ∃ KK, Nv w6 (W.heap.size + 3) t Bn pre.length KK Z ∧ Gone stop ss.length pre.length)
        (fun pre X Y row h hg hr => ⟨h.1.grown hBn.2 hg hr, h.2⟩) (fun pre X Y row h hg hr => ⟨h.1.grown hBn.2 hg hr, h.2⟩) ⟨nv, by simp; omega⟩ (fun xs Z e h => ⟨_, h.1, .inl ⟨by rw [e], h.2⟩⟩) (fun xs Z ⟨r, e⟩ h => ⟨_, h.1, .inr ⟨h.2.1, h.2.2, by rw [e]; simp⟩⟩) ?a10 ?as0 ?bo0 ?end0
      case hq0 =>
        intro a W h
        exact h
      case as0 =>
        intro l x W K hK
        gi_wp2
        exact hK
      case bo0 =>
        intro l pre y Z hD hLp hI hlen hpre
        obtain ⟨nvz, hst⟩ := hI
        obtain ⟨r, hr⟩ := hpre
        have hw2 : w6.heap.size + 2 ≤ Z.heap.size := by
          obtain ⟨rr, hrr⟩ := hLp
          have := blk_lt hrr
          omega
        have hat : ss[pre.length]? = some y := by rw [hr]; simp
        have FX := fun (Y : World) k KK (h : Nv w6 (W.heap.size + 3) t Bn k KK Y) => (unhide HLE).fx h.fx (fun b q => by
          rcases q with q | q | q
          · exact .inl q
          · exact .inr (by omega)
          · exact .inr (by omega))
        have lez := FX Z _ _ nvz
        obtain ⟨z6, z7, z9, zw⟩ := lez.cells
        obtain ⟨g, ega, cg⟩ := lez.at_ hlen
        rw [(List.getElem?_eq_some_iff.1 hat).2] at cg
        obtain ⟨cn, fn, nv2, fr2⟩ := nvz.set hBn
        have le2 := FX _ _ _ nv2
        have c92 := le2.cells.2.2.1
        have hsz2 : w6.heap.size + 2 ≤ (Z.setCell ⟨Bn, 0, none⟩ (.int .i64 ((pre.length : Int) + 1))).heap.size := by rw [set_size]; exact hw2
        have hyl : (nmOf y).size ≤ maxLen := Nat.le_trans (unhide HSZ y (by rw [hr]; simp)) (by decide)
        obtain ⟨r1, C1⟩ := nv2.call hsz2 hBn (g := 24) (av := #[.pointer (some ⟨W.heap.size + 3, 0, none⟩), .string (nmOf y)]) (e := 2) (by omega) (fun M m0 m1 K' hS hk => ⟨.rm (nmOf y), _, Nat.le_refl 2, Remove_any hS hyl (by omega)⟩)
        have HC1 := hide C1
        have HFX := hide FX
        have HFR2 := hide fr2
        have HN2 := hide nv2
        subst ega
        have hki : (pre.length : Int) < (ss.length : Int) := by omega
        have hki2 : ¬ ((pre.length : Int) ≥ (ss.length : Int)) := by omega
        have hxx := bx_eq (nmOf y)
        generalize nmOf y = ny at *
        have HX2 := unhide HX
        have HW2 := hide hw2
        have HNVZ := hide nvz
        have HST := hide hst
        have HD := hide (And.intro hD hLp)
        have cv := cv3
        have hplz : (pre.length : Int) ≤ 1000000000 := by omega
        have HFIN := hide (show ∀ W2 W3 : World, Nv w6 (W.heap.size + 3) t Bn (pre.length + 1) (K + 7 * pre.length + 2) W2 → Fr1 w6 (W.heap.size + 3) t Bn (Z.setCell ⟨Bn, 0, none⟩ (.int .i64 ((pre.length : Int) + 1))) W2 → W3 = W2.alloc (.cells #[.int .u8 110, .int .u8 101, .int .u8 119] 5 (3, 4)) → ∃ r, Calls Try.prog 12 #[.pointer (some ⟨W.heap.size + 3, 0, none⟩), .string x, .slice (some ⟨W2.heap.size, 0, none⟩) 3 3] W3 fun v W4 => v = .returned (.int .i64 r) ∧ Nv w6 (W.heap.size + 3) t Bn (pre.length + 1) (K + 7 * (pre.length + 1)) W4 ∧ (W4.heap[w6.heap.size]? = Z.heap[w6.heap.size]? ∧ W4.heap[w6.heap.size + 1]? = Z.heap[w6.heap.size + 1]?) ∧ Kn2 Bx na Z W4 from by
          intro W2 W3 n2 f2 e3
          have b3 : RowKit.Below W2.heap.size W2 W3 := by rw [e3]; exact al_b _ _
          have n3 := n2.later hBn.2 b3
          have s2 := f2.size
          have s3 := b3.size
          rw [set_size] at s2
          have rb3 : Rb W3 (some ⟨W2.heap.size, 0, none⟩) [110, 101, 119] := by rw [e3]; exact new_rb W2
          obtain ⟨r, C⟩ := n3.call (by have := unhide HW2; omega) hBn (g := 12) (av := #[.pointer (some ⟨W.heap.size + 3, 0, none⟩), .string x, .slice (some ⟨W2.heap.size, 0, none⟩) 3 3]) (e := 5) (by omega) (fun M m0 m1 K' hS hk => ⟨.wr x [110, 101, 119], _, Nat.le_refl 5, Write_any hS HX2 3 rb3 (fun e => by cases e) (by show K' + 3 + 2 ≤ _; omega)⟩)
          refine ⟨r, C.mono fun v W4 ⟨q0, n4, f4⟩ => ⟨q0, ?_, ?_⟩⟩
          · have e : K + 7 * pre.length + 2 + 5 = K + 7 * (pre.length + 1) := by omega
            rw [e] at n4
            exact n4
          · have fa : Fx (fun b => Wn (W.heap.size + 3) t b ∨ b = Bn ∨ w6.heap.size + 2 ≤ b) Z W4 := (((unhide HFR2).trans f2).trans (Fx.of b3)).trans f4
            have hz := unhide HW2
            obtain ⟨o1, o2, o3, o4, o5⟩ := (unhide HLE).o
            have kp : ∀ b, b < w6.heap.size + 2 → b ≠ Bn → t ≤ b → W4.heap[b]? = Z.heap[b]? := fun b h1 h2 h3 => fa.blk b (by omega) fun q => by
              rcases q with q | q | q
              · have := q.2; omega
              · exact h2 q
              · omega
            refine ⟨⟨kp _ (by omega) (by omega) (by omega), kp _ (by omega) (by omega) (by omega)⟩, kp _ (by omega) (by omega) (by omega), fun g e => ?_⟩
            have := (unhide HLE).nl g e
            exact kp g (by omega) (by omega) (by omega))
        clear FX fr2 nv2 C1 le2 hw2 nvz hst hD hLp lez hr hat hlen hyl hsz2
        by_cases hsp : stop = (pre.length : Int) + 1
        · subst hsp
          gi_wp2_with (first
            | (gi_at_call 24; refine (CallsIn.inRound l (callsIn_wide.2 (unhide HC1))).mono ?_; rintro e w7 ⟨rfl, nv7, fr7⟩; obtain ⟨a6, a7, a9, aw⟩ := (unhide HFX _ _ _ nv7).cells; obtain ⟨r2, C2⟩ := unhide HFIN w7 _ nv7 fr7 rfl; have HC2 := hide C2; clear C2 nv7 fr7 HC1)
            | (gi_at_call 12; refine (CallsIn.inRound l (callsIn_wide.2 (unhide HC2))).mono ?_; rintro e w8 ⟨rfl, nv8, lb8, kn8⟩; obtain ⟨d6, d7, d9, dw⟩ := (unhide HFX _ _ _ nv8).cells; have dn := (cell_blk nv8.n 0).1.trans (show #[Value.int .i64 ((pre.length + 1 : Nat) : Int)][0]? = some (.int .i64 ((pre.length : Int) + 1)) from by rw [Int.natCast_add]; rfl); have HN8 := hide nv8; have HL8 := hide lb8; have HK8 := hide kn8; clear nv8 lb8 kn8 HC2))
          exact ⟨unhide HL8, rfl, by simpa using unhide HN8, by simp, by simp⟩
        · have hsq : ((pre.length : Int) + 1 == stop) = false := by simp; omega
          have HSP := hide (show ¬ (1 ≤ stop ∧ stop ≤ ((pre ++ [y]).length : Int)) from by have := unhide HST; simp; omega)
          clear hsp
          gi_wp2_with (first
            | (gi_at_call 24; refine (CallsIn.inRound l (callsIn_wide.2 (unhide HC1))).mono ?_; rintro e w7 ⟨rfl, nv7, fr7⟩; obtain ⟨a6, a7, a9, aw⟩ := (unhide HFX _ _ _ nv7).cells; obtain ⟨r2, C2⟩ := unhide HFIN w7 _ nv7 fr7 rfl; have HC2 := hide C2; clear C2 nv7 fr7 HC1)
            | (gi_at_call 12; refine (CallsIn.inRound l (callsIn_wide.2 (unhide HC2))).mono ?_; rintro e w8 ⟨rfl, nv8, lb8, kn8⟩; obtain ⟨d6, d7, d9, dw⟩ := (unhide HFX _ _ _ nv8).cells; have dn := (cell_blk nv8.n 0).1.trans (show #[Value.int .i64 ((pre.length + 1 : Nat) : Int)][0]? = some (.int .i64 ((pre.length : Int) + 1)) from by rw [Int.natCast_add]; rfl); have HN8 := hide nv8; have HL8 := hide lb8; have HK8 := hide kn8; clear nv8 lb8 kn8 HC2))
          exact ⟨unhide HL8, unhide HK8, by simpa using unhide HN8, unhide HSP⟩
      case end0 =>
        rintro D pre Z hD ⟨KK, nvz, hgone⟩ hK0
        have hDa : w6.heap.size ≤ D := by omega
        have hDb : D ≤ w6.heap.size := by omega
        clear hD
        have lez := (unhide HLE).fx nvz.fx (fun b q => by
          rcases q with q | q | q
          · exact .inl q
          · exact .inr (by omega)
          · exact .inr (by omega))
        obtain ⟨z6, z7, z9, zw⟩ := lez.cells
        have cn := (cell_blk nvz.n 0).1.trans (show #[Value.int .i64 (pre.length : Int)][0]? = some (.int .i64 (pre.length : Int)) from rfl)
        have HLZ := hide lez
        have HK0 := hide hK0
        generalize pre.length = k at *
        have hDz : D < Z.heap.size := blk_lt hK0
        clear nv le nvz hK0 lez HLE HSZ
        have hssz : (ss.length : Int) ≤ 1000000000 := by omega
        rcases hgone with ⟨hkn, hst⟩ | ⟨hks, hk1, hkn⟩
        · subst hkn
          by_cases hpos : stop > 0
          · have hle : (ss.length : Int) ≤ stop := by omega
            have hne0 : ¬ (stop ≤ 0) := by omega
            have hmin : min stop (ss.length : Int) = (ss.length : Int) := by omega
            clear hst
            gi_wp2
            obtain ⟨w7, hw7⟩ : ∃ w, w = Z.alloc (.cells #[.int .i64 0] 3) := ⟨_, rfl⟩
            rw [← hw7]
            have b7 : RowKit.Below Z.heap.size Z w7 := by rw [hw7]; exact al_b _ _
            have hz7a : Z.heap.size + 1 ≤ w7.heap.size := by rw [hw7, World.size_alloc]; exact Nat.le_refl _
            have hz7b : w7.heap.size ≤ Z.heap.size + 1 := by rw [hw7, World.size_alloc]; exact Nat.le_refl _
            have hm7 : w7.heap[Z.heap.size]? = some (.cells #[.int .i64 0] 3 (0, 0)) := by rw [hw7]; exact heap_new Z _
            have le7 := (unhide HLZ).fx (P := fun _ => False) (Fx.of b7) (fun b q => q.elim)
            have HLE7 := hide le7
            have hk7 := (b7.block D hDz).trans (unhide HK0)
            have HK7 := hide hk7
            have hKn7 : Bx < w7.heap.size ∧ ∀ g, (na.map (·.block)) = some g → g < w7.heap.size := ⟨by have := le7.o; omega, fun g e => by have := (le7.nl g e).2; have := le7.o; omega⟩
            have hBnz : Bn ≤ Z.heap.size := (unhide HLZ).o.2.2.2.2
            have hDw : W.heap.size + 3 ≤ D := by have := le7.o; have := hBn; omega
            clear hw7 b7 HLZ HK0 hk7 z6 z7 z9 zw cn
            generalize Z.heap.size = Bm at *
            refine rangeFunc_2e rfl (by decide) (gf := 48) (lb := #[.pointer (some ⟨Bx, 0, none⟩)]) rfl trivial (enters_of Try.func48 (by kernel_rfl) rfl)
              (Names1_p 8 (by decide) Bx na nc ss (by omega) w7 le7.nb) (fun h k => kn_trans h k) (fun W l o o2 hl _ _ _ => kn_put hKn7.1 hKn7.2 hl W o2) (Below.refl _ _) (fun _ => rfl)
              (fun pre Z => Nq w7 Bm pre.length Z) (fun _ _ _ => False)
              (fun pre X Y row h hg hr => h.grown (by omega) hg hr) (fun c pre X Y row h hg hr => h) ⟨Fx.refl _ _, hm7⟩ ?a11 ?as1 ?bo1 ?done1 ?stop1
            case stop1 => exact fun _ _ _ _ _ _ h _ => h.elim
            case as1 =>
              intro l x W K hK
              gi_wp2
              exact hK
            case bo1 =>
              intro l pre y Y hDy hLp nq hlen hpre
              obtain ⟨r, hr⟩ := hpre
              have hw2 : w7.heap.size + 2 ≤ Y.heap.size := by
                obtain ⟨rr, hrr⟩ := hLp
                have := blk_lt hrr
                omega
              have hat : ss[pre.length]? = some y := by rw [hr]; simp
              have ley := (unhide HLE7).fx nq.fx (fun b q => by
                rcases q with q | q
                · exact .inr (by omega)
                · exact .inr (by omega))
              obtain ⟨y6, y7, y9, yw⟩ := ley.cells
              obtain ⟨g, ega, cg⟩ := ley.at_ hlen
              rw [(List.getElem?_eq_some_iff.1 hat).2] at cg
              obtain ⟨cm, fm, nq2, ot2⟩ := nq.set
              have HQ2 := hide nq2
              have HOT := hide (show ((Y.setCell ⟨Bm, 0, none⟩ (.int .i64 ((pre.length : Int) + 1))).heap[w7.heap.size]? = Y.heap[w7.heap.size]? ∧ (Y.setCell ⟨Bm, 0, none⟩ (.int .i64 ((pre.length : Int) + 1))).heap[w7.heap.size + 1]? = Y.heap[w7.heap.size + 1]?) ∧ Kn2 Bx na Y (Y.setCell ⟨Bm, 0, none⟩ (.int .i64 ((pre.length : Int) + 1))) from by
                have o := (unhide HLE7).o
                exact ⟨⟨ot2 _ (by omega), ot2 _ (by omega)⟩, ot2 _ (by omega), fun g e => ot2 g (by have := (unhide HLE7).nl g e; omega)⟩)
              subst ega
              have hki : (pre.length : Int) < (ss.length : Int) := by omega
              have hki2 : ¬ ((pre.length : Int) ≥ (ss.length : Int)) := by omega
              have hxx := bx_eq (nmOf y)
              generalize nmOf y = ny at *
              have hplz : (pre.length : Int) ≤ 1000000000 := by omega
              clear nq2 ot2 nq hDy hLp ley hr hat hlen hw2
              gi_wp2
              exact ⟨(unhide HOT).1, (unhide HOT).2, by simpa using unhide HQ2⟩
            case done1 =>
              rintro D2 xs Y hD2 rfl nq hK2
              have hD2a : w7.heap.size ≤ D2 := by omega
              have hD2b : D2 ≤ w7.heap.size := by omega
              clear hD2
              have ley := (unhide HLE7).fx nq.fx (fun b q => by
                rcases q with q | q
                · exact .inr (by omega)
                · exact .inr (by omega))
              obtain ⟨y6, y7, y9, yw⟩ := ley.cells
              have cm := (cell_blk nq.n 0).1.trans (show #[Value.int .i64 (xs.length : Int)][0]? = some (.int .i64 (xs.length : Int)) from rfl)
              have HLY := hide ley
              have HKD := hide (And.intro ((nq.fx.blk D (blk_lt (unhide HK7)) (fun q => by rcases q with q | q; omega; have := blk_lt (unhide HK7); omega)).trans (unhide HK7)) hK2)
              have hDD : D ≠ D2 := by have := blk_lt (unhide HK7); omega
              have hD2w : W.heap.size + 3 ≤ D2 := by have := le7.o; omega
              clear ley nq hK2 le7 HLE7 HK7
              gi_wp2_with (first
                | (gi_at_call 9; refine (callsIn_wide.2 (little_any _)).mono ?_; rintro e w9 ⟨rfl, b9⟩; have le9 := (unhide HLY).fx (P := fun _ => False) (Fx.of b9) (fun b q => q.elim); have HK9 := hide (And.intro ((b9.block D (blk_lt (unhide HKD).1)).trans (unhide HKD).1) ((b9.block D2 (blk_lt (unhide HKD).2)).trans (unhide HKD).2)); have c8 := (cell_blk le9.e8 0).1.trans (show #[Value.bool false][0]? = some (.bool false) from rfl); have f8 := (cell_blk le9.e8 0).2; have HL9 := hide le9; clear le9 b9 HKD HLY))
              have hrs := set_blk (unhide HL9).e8 0 (.bool true)
              have hbl0 : RowKit.Below W.heap.size W (w9.setCell ⟨W.heap.size + 2, 0, none⟩ (.bool true)) := (unhide HL9).bw.setCell (p := ⟨W.heap.size + 2, 0, none⟩) (by show W.heap.size ≤ W.heap.size + 2; omega) _
              have o3 : ∀ q, q ≠ W.heap.size + 2 → (w9.setCell ⟨W.heap.size + 2, 0, none⟩ (.bool true)).heap[q]? = w9.heap[q]? := fun q hq => set_other _ _ _ _ _ hq
              obtain ⟨k9, k92⟩ := unhide HK9
              clear c8 f8
              generalize w9.setCell ⟨W.heap.size + 2, 0, none⟩ (.bool true) = Z0 at *
              have p1 : ∀ (Z : World) (D q : Nat) (o : Obj), q ≠ D → (Z.putObj D o).heap[q]? = Z.heap[q]? := fun Z D q o hq => World.putObj_heap_other hq
              refine ⟨by simp, .inl ⟨_, Z0.putObj D2 (.deferred none), rfl, run_takeDeferred ((o3 _ (by omega)).trans k92), ?_⟩⟩
              refine ⟨by simp, .inl ⟨_, (Z0.putObj D2 (.deferred none)).putObj D (.deferred none), rfl, run_takeDeferred ((p1 _ _ _ _ (by omega)).trans ((o3 _ (by omega)).trans k9)), ?_⟩⟩
              have hr4 := (p1 _ D (W.heap.size + 2) (.deferred none) (by omega)).trans ((p1 Z0 D2 (W.heap.size + 2) (.deferred none) (by omega)).trans hrs)
              have hb4 := below_p (below_p hbl0 (D := D2) (by omega) (.deferred none)) (D := D) (by omega) (.deferred none)
              generalize (Z0.putObj D2 (.deferred none)).putObj D (.deferred none) = Z4 at *
              have l1 := (cell_blk hr4 0).1
              have hl1 : (loadVar 4 ⟨W.heap.size + 2, 0, none⟩).run Try.prog Z4 = .ok (.bool true) Z4 := by go_simp
              exact ⟨_, results_c1 (show Try.f5.results = #[.cell 8 4] from Try.results5) _ _ _ _ _ rfl hl1, rfl, hb4⟩
          · have hne0 : stop ≤ 0 := by omega
            clear hst
            gi_wp2
            obtain ⟨w7, hw7⟩ : ∃ w, w = Z.alloc (.cells #[.int .i64 0] 3) := ⟨_, rfl⟩
            rw [← hw7]
            have b7 : RowKit.Below Z.heap.size Z w7 := by rw [hw7]; exact al_b _ _
            have hz7a : Z.heap.size + 1 ≤ w7.heap.size := by rw [hw7, World.size_alloc]; exact Nat.le_refl _
            have hz7b : w7.heap.size ≤ Z.heap.size + 1 := by rw [hw7, World.size_alloc]; exact Nat.le_refl _
            have hm7 : w7.heap[Z.heap.size]? = some (.cells #[.int .i64 0] 3 (0, 0)) := by rw [hw7]; exact heap_new Z _
            have le7 := (unhide HLZ).fx (P := fun _ => False) (Fx.of b7) (fun b q => q.elim)
            have HLE7 := hide le7
            have hk7 := (b7.block D hDz).trans (unhide HK0)
            have HK7 := hide hk7
            have hKn7 : Bx < w7.heap.size ∧ ∀ g, (na.map (·.block)) = some g → g < w7.heap.size := ⟨by have := le7.o; omega, fun g e => by have := (le7.nl g e).2; have := le7.o; omega⟩
            have hBnz : Bn ≤ Z.heap.size := (unhide HLZ).o.2.2.2.2
            have hDw : W.heap.size + 3 ≤ D := by have := le7.o; have := hBn; omega
            clear hw7 b7 HLZ HK0 hk7 z6 z7 z9 zw cn
            generalize Z.heap.size = Bm at *
            refine rangeFunc_2e rfl (by decide) (gf := 48) (lb := #[.pointer (some ⟨Bx, 0, none⟩)]) rfl trivial (enters_of Try.func48 (by kernel_rfl) rfl)
              (Names1_p 8 (by decide) Bx na nc ss (by omega) w7 le7.nb) (fun h k => kn_trans h k) (fun W l o o2 hl _ _ _ => kn_put hKn7.1 hKn7.2 hl W o2) (Below.refl _ _) (fun _ => rfl)
              (fun pre Z => Nq w7 Bm pre.length Z) (fun _ _ _ => False)
              (fun pre X Y row h hg hr => h.grown (by omega) hg hr) (fun c pre X Y row h hg hr => h) ⟨Fx.refl _ _, hm7⟩ ?a12 ?as2 ?bo2 ?done2 ?stop2
            case stop2 => exact fun _ _ _ _ _ _ h _ => h.elim
            case as2 =>
              intro l x W K hK
              gi_wp2
              exact hK
            case bo2 =>
              intro l pre y Y hDy hLp nq hlen hpre
              obtain ⟨r, hr⟩ := hpre
              have hw2 : w7.heap.size + 2 ≤ Y.heap.size := by
                obtain ⟨rr, hrr⟩ := hLp
                have := blk_lt hrr
                omega
              have hat : ss[pre.length]? = some y := by rw [hr]; simp
              have ley := (unhide HLE7).fx nq.fx (fun b q => by
                rcases q with q | q
                · exact .inr (by omega)
                · exact .inr (by omega))
              obtain ⟨y6, y7, y9, yw⟩ := ley.cells
              obtain ⟨g, ega, cg⟩ := ley.at_ hlen
              rw [(List.getElem?_eq_some_iff.1 hat).2] at cg
              obtain ⟨cm, fm, nq2, ot2⟩ := nq.set
              have HQ2 := hide nq2
              have HOT := hide (show ((Y.setCell ⟨Bm, 0, none⟩ (.int .i64 ((pre.length : Int) + 1))).heap[w7.heap.size]? = Y.heap[w7.heap.size]? ∧ (Y.setCell ⟨Bm, 0, none⟩ (.int .i64 ((pre.length : Int) + 1))).heap[w7.heap.size + 1]? = Y.heap[w7.heap.size + 1]?) ∧ Kn2 Bx na Y (Y.setCell ⟨Bm, 0, none⟩ (.int .i64 ((pre.length : Int) + 1))) from by
                have o := (unhide HLE7).o
                exact ⟨⟨ot2 _ (by omega), ot2 _ (by omega)⟩, ot2 _ (by omega), fun g e => ot2 g (by have := (unhide HLE7).nl g e; omega)⟩)
              subst ega
              have hki : (pre.length : Int) < (ss.length : Int) := by omega
              have hki2 : ¬ ((pre.length : Int) ≥ (ss.length : Int)) := by omega
              have hxx := bx_eq (nmOf y)
              generalize nmOf y = ny at *
              have hplz : (pre.length : Int) ≤ 1000000000 := by omega
              clear nq2 ot2 nq hDy hLp ley hr hat hlen hw2
              gi_wp2
              exact ⟨(unhide HOT).1, (unhide HOT).2, by simpa using unhide HQ2⟩
            case done2 =>
              rintro D2 xs Y hD2 rfl nq hK2
              have hD2a : w7.heap.size ≤ D2 := by omega
              have hD2b : D2 ≤ w7.heap.size := by omega
              clear hD2
              have ley := (unhide HLE7).fx nq.fx (fun b q => by
                rcases q with q | q
                · exact .inr (by omega)
                · exact .inr (by omega))
              obtain ⟨y6, y7, y9, yw⟩ := ley.cells
              have cm := (cell_blk nq.n 0).1.trans (show #[Value.int .i64 (xs.length : Int)][0]? = some (.int .i64 (xs.length : Int)) from rfl)
              have HLY := hide ley
              have HKD := hide (And.intro ((nq.fx.blk D (blk_lt (unhide HK7)) (fun q => by rcases q with q | q; omega; have := blk_lt (unhide HK7); omega)).trans (unhide HK7)) hK2)
              have hDD : D ≠ D2 := by have := blk_lt (unhide HK7); omega
              have hD2w : W.heap.size + 3 ≤ D2 := by have := le7.o; omega
              clear ley nq hK2 le7 HLE7 HK7
              gi_wp2_with (first
                | (gi_at_call 9; refine (callsIn_wide.2 (little_any _)).mono ?_; rintro e w9 ⟨rfl, b9⟩; have le9 := (unhide HLY).fx (P := fun _ => False) (Fx.of b9) (fun b q => q.elim); have HK9 := hide (And.intro ((b9.block D (blk_lt (unhide HKD).1)).trans (unhide HKD).1) ((b9.block D2 (blk_lt (unhide HKD).2)).trans (unhide HKD).2)); have c8 := (cell_blk le9.e8 0).1.trans (show #[Value.bool false][0]? = some (.bool false) from rfl); have f8 := (cell_blk le9.e8 0).2; have HL9 := hide le9; clear le9 b9 HKD HLY))
              have hrs := set_blk (unhide HL9).e8 0 (.bool true)
              have hbl0 : RowKit.Below W.heap.size W (w9.setCell ⟨W.heap.size + 2, 0, none⟩ (.bool true)) := (unhide HL9).bw.setCell (p := ⟨W.heap.size + 2, 0, none⟩) (by show W.heap.size ≤ W.heap.size + 2; omega) _
              have o3 : ∀ q, q ≠ W.heap.size + 2 → (w9.setCell ⟨W.heap.size + 2, 0, none⟩ (.bool true)).heap[q]? = w9.heap[q]? := fun q hq => set_other _ _ _ _ _ hq
              obtain ⟨k9, k92⟩ := unhide HK9
              clear c8 f8
              generalize w9.setCell ⟨W.heap.size + 2, 0, none⟩ (.bool true) = Z0 at *
              have p1 : ∀ (Z : World) (D q : Nat) (o : Obj), q ≠ D → (Z.putObj D o).heap[q]? = Z.heap[q]? := fun Z D q o hq => World.putObj_heap_other hq
              refine ⟨by simp, .inl ⟨_, Z0.putObj D2 (.deferred none), rfl, run_takeDeferred ((o3 _ (by omega)).trans k92), ?_⟩⟩
              refine ⟨by simp, .inl ⟨_, (Z0.putObj D2 (.deferred none)).putObj D (.deferred none), rfl, run_takeDeferred ((p1 _ _ _ _ (by omega)).trans ((o3 _ (by omega)).trans k9)), ?_⟩⟩
              have hr4 := (p1 _ D (W.heap.size + 2) (.deferred none) (by omega)).trans ((p1 Z0 D2 (W.heap.size + 2) (.deferred none) (by omega)).trans hrs)
              have hb4 := below_p (below_p hbl0 (D := D2) (by omega) (.deferred none)) (D := D) (by omega) (.deferred none)
              generalize (Z0.putObj D2 (.deferred none)).putObj D (.deferred none) = Z4 at *
              have l1 := (cell_blk hr4 0).1
              have hl1 : (loadVar 4 ⟨W.heap.size + 2, 0, none⟩).run Try.prog Z4 = .ok (.bool true) Z4 := by go_simp
              exact ⟨_, results_c1 (show Try.f5.results = #[.cell 8 4] from Try.results5) _ _ _ _ _ rfl hl1, rfl, hb4⟩
        · subst hks
          have hpos : (k : Int) > 0 := by omega
          have hne0 : ¬ ((k : Int) ≤ 0) := by omega
          have hmin : min (k : Int) (ss.length : Int) = (k : Int) := by omega
          have hle : (k : Int) ≤ (ss.length : Int) := by omega
          gi_wp2
          obtain ⟨w7, hw7⟩ : ∃ w, w = Z.alloc (.cells #[.int .i64 0] 3) := ⟨_, rfl⟩
          rw [← hw7]
          have b7 : RowKit.Below Z.heap.size Z w7 := by rw [hw7]; exact al_b _ _
          have hz7a : Z.heap.size + 1 ≤ w7.heap.size := by rw [hw7, World.size_alloc]; exact Nat.le_refl _
          have hz7b : w7.heap.size ≤ Z.heap.size + 1 := by rw [hw7, World.size_alloc]; exact Nat.le_refl _
          have hm7 : w7.heap[Z.heap.size]? = some (.cells #[.int .i64 0] 3 (0, 0)) := by rw [hw7]; exact heap_new Z _
          have le7 := (unhide HLZ).fx (P := fun _ => False) (Fx.of b7) (fun b q => q.elim)
          have HLE7 := hide le7
          have hk7 := (b7.block D hDz).trans (unhide HK0)
          have HK7 := hide hk7
          have hKn7 : Bx < w7.heap.size ∧ ∀ g, (na.map (·.block)) = some g → g < w7.heap.size := ⟨by have := le7.o; omega, fun g e => by have := (le7.nl g e).2; have := le7.o; omega⟩
          have hBnz : Bn ≤ Z.heap.size := (unhide HLZ).o.2.2.2.2
          have hDw : W.heap.size + 3 ≤ D := by have := le7.o; have := hBn; omega
          clear hw7 b7 HLZ HK0 hk7 z6 z7 z9 zw cn
          generalize Z.heap.size = Bm at *
          refine rangeFunc_2e rfl (by decide) (gf := 48) (lb := #[.pointer (some ⟨Bx, 0, none⟩)]) rfl trivial (enters_of Try.func48 (by kernel_rfl) rfl)
            (Names1_p 8 (by decide) Bx na nc ss (by omega) w7 le7.nb) (fun h k => kn_trans h k) (fun W l o o2 hl _ _ _ => kn_put hKn7.1 hKn7.2 hl W o2) (Below.refl _ _) (fun _ => rfl)
            (fun pre Z => Nq w7 Bm pre.length Z) (fun _ _ _ => False)
            (fun pre X Y row h hg hr => h.grown (by omega) hg hr) (fun c pre X Y row h hg hr => h) ⟨Fx.refl _ _, hm7⟩ ?a13 ?as3 ?bo3 ?done3 ?stop3
          case stop3 => exact fun _ _ _ _ _ _ h _ => h.elim
          case as3 =>
            intro l x W K hK
            gi_wp2
            exact hK
          case bo3 =>
            intro l pre y Y hDy hLp nq hlen hpre
            obtain ⟨r, hr⟩ := hpre
            have hw2 : w7.heap.size + 2 ≤ Y.heap.size := by
              obtain ⟨rr, hrr⟩ := hLp
              have := blk_lt hrr
              omega
            have hat : ss[pre.length]? = some y := by rw [hr]; simp
            have ley := (unhide HLE7).fx nq.fx (fun b q => by
              rcases q with q | q
              · exact .inr (by omega)
              · exact .inr (by omega))
            obtain ⟨y6, y7, y9, yw⟩ := ley.cells
            obtain ⟨g, ega, cg⟩ := ley.at_ hlen
            rw [(List.getElem?_eq_some_iff.1 hat).2] at cg
            obtain ⟨cm, fm, nq2, ot2⟩ := nq.set
            have HQ2 := hide nq2
            have HOT := hide (show ((Y.setCell ⟨Bm, 0, none⟩ (.int .i64 ((pre.length : Int) + 1))).heap[w7.heap.size]? = Y.heap[w7.heap.size]? ∧ (Y.setCell ⟨Bm, 0, none⟩ (.int .i64 ((pre.length : Int) + 1))).heap[w7.heap.size + 1]? = Y.heap[w7.heap.size + 1]?) ∧ Kn2 Bx na Y (Y.setCell ⟨Bm, 0, none⟩ (.int .i64 ((pre.length : Int) + 1))) from by
              have o := (unhide HLE7).o
              exact ⟨⟨ot2 _ (by omega), ot2 _ (by omega)⟩, ot2 _ (by omega), fun g e => ot2 g (by have := (unhide HLE7).nl g e; omega)⟩)
            subst ega
            have hki : (pre.length : Int) < (ss.length : Int) := by omega
            have hki2 : ¬ ((pre.length : Int) ≥ (ss.length : Int)) := by omega
            have hxx := bx_eq (nmOf y)
            generalize nmOf y = ny at *
            have hplz : (pre.length : Int) ≤ 1000000000 := by omega
            clear nq2 ot2 nq hDy hLp ley hr hat hlen hw2
            gi_wp2
            exact ⟨(unhide HOT).1, (unhide HOT).2, by simpa using unhide HQ2⟩
          case done3 =>
            rintro D2 xs Y hD2 rfl nq hK2
            have hD2a : w7.heap.size ≤ D2 := by omega
            have hD2b : D2 ≤ w7.heap.size := by omega
            clear hD2
            have ley := (unhide HLE7).fx nq.fx (fun b q => by
              rcases q with q | q
              · exact .inr (by omega)
              · exact .inr (by omega))
            obtain ⟨y6, y7, y9, yw⟩ := ley.cells
            have cm := (cell_blk nq.n 0).1.trans (show #[Value.int .i64 (xs.length : Int)][0]? = some (.int .i64 (xs.length : Int)) from rfl)
            have HLY := hide ley
            have HKD := hide (And.intro ((nq.fx.blk D (blk_lt (unhide HK7)) (fun q => by rcases q with q | q; omega; have := blk_lt (unhide HK7); omega)).trans (unhide HK7)) hK2)
            have hDD : D ≠ D2 := by have := blk_lt (unhide HK7); omega
            have hD2w : W.heap.size + 3 ≤ D2 := by have := le7.o; omega
            clear ley nq hK2 le7 HLE7 HK7
            gi_wp2_with (first
              | (gi_at_call 9; refine (callsIn_wide.2 (little_any _)).mono ?_; rintro e w9 ⟨rfl, b9⟩; have le9 := (unhide HLY).fx (P := fun _ => False) (Fx.of b9) (fun b q => q.elim); have HK9 := hide (And.intro ((b9.block D (blk_lt (unhide HKD).1)).trans (unhide HKD).1) ((b9.block D2 (blk_lt (unhide HKD).2)).trans (unhide HKD).2)); have c8 := (cell_blk le9.e8 0).1.trans (show #[Value.bool false][0]? = some (.bool false) from rfl); have f8 := (cell_blk le9.e8 0).2; have HL9 := hide le9; clear le9 b9 HKD HLY))
            have hrs := set_blk (unhide HL9).e8 0 (.bool true)
            have hbl0 : RowKit.Below W.heap.size W (w9.setCell ⟨W.heap.size + 2, 0, none⟩ (.bool true)) := (unhide HL9).bw.setCell (p := ⟨W.heap.size + 2, 0, none⟩) (by show W.heap.size ≤ W.heap.size + 2; omega) _
            have o3 : ∀ q, q ≠ W.heap.size + 2 → (w9.setCell ⟨W.heap.size + 2, 0, none⟩ (.bool true)).heap[q]? = w9.heap[q]? := fun q hq => set_other _ _ _ _ _ hq
            obtain ⟨k9, k92⟩ := unhide HK9
            clear c8 f8
            generalize w9.setCell ⟨W.heap.size + 2, 0, none⟩ (.bool true) = Z0 at *
            have p1 : ∀ (Z : World) (D q : Nat) (o : Obj), q ≠ D → (Z.putObj D o).heap[q]? = Z.heap[q]? := fun Z D q o hq => World.putObj_heap_other hq
            refine ⟨by simp, .inl ⟨_, Z0.putObj D2 (.deferred none), rfl, run_takeDeferred ((o3 _ (by omega)).trans k92), ?_⟩⟩
            refine ⟨by simp, .inl ⟨_, (Z0.putObj D2 (.deferred none)).putObj D (.deferred none), rfl, run_takeDeferred ((p1 _ _ _ _ (by omega)).trans ((o3 _ (by omega)).trans k9)), ?_⟩⟩
            have hr4 := (p1 _ D (W.heap.size + 2) (.deferred none) (by omega)).trans ((p1 Z0 D2 (W.heap.size + 2) (.deferred none) (by omega)).trans hrs)
            have hb4 := below_p (below_p hbl0 (D := D2) (by omega) (.deferred none)) (D := D) (by omega) (.deferred none)
            generalize (Z0.putObj D2 (.deferred none)).putObj D (.deferred none) = Z4 at *
            have l1 := (cell_blk hr4 0).1
            have hl1 : (loadVar 4 ⟨W.heap.size + 2, 0, none⟩).run Try.prog Z4 = .ok (.bool true) Z4 := by go_simp
            exact ⟨_, results_c1 (show Try.f5.results = #[.cell 8 4] from Try.results5) _ _ _ _ _ rfl hl1, rfl, hb4⟩
end Go.Proofs.Ytokgegbodbnimaa
