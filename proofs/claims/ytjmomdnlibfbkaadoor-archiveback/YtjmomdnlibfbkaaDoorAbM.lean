import Derived.Test.YtjmomdnlibfbkaaDoorAbL
namespace Go.Proofs.YtjmomdnlibfbkaaDoor
open Go.RowKit

/-- THE BYTES OF SO MANY FILES. -/
def tz : List Fl → Nat
  | [] => 0
  | f :: r => 512 + fill f.2.length + tz r
theorem tz_app : ∀ a b : List Fl, tz (a ++ b) = tz a + tz b
  | [], b => by show tz b = 0 + tz b; omega
  | f :: r, b => by
    show 512 + fill f.2.length + tz (r ++ b) = 512 + fill f.2.length + tz r + tz b
    rw [tz_app r b]
    omega
theorem tz_snoc {fs : List Fl} {i : Nat} (hi : i < fs.length) : tz (fs.take (i + 1)) = tz (fs.take i) + (512 + fill fs[i].2.length) := by
  rw [List.take_succ_eq_append_getElem hi, tz_app]
  rfl
theorem tz_le : ∀ fs : List Fl, (∀ f ∈ fs, f.2.length ≤ 1048576) → tz fs ≤ fs.length * 1049600
  | [], _ => Nat.zero_le _
  | f :: r, h => by
    have h1 := h f (List.mem_cons_self ..)
    have h2 := tz_le r fun g hg => h g (List.mem_cons_of_mem _ hg)
    have h3 := fill_lt f.2.length
    show 512 + fill f.2.length + tz r ≤ (r.length + 1) * 1049600
    omega
theorem tz_take {fs : List Fl} (h : ∀ f ∈ fs, f.2.length ≤ 1048576) (i : Nat) (hi : i ≤ fs.length) : tz (fs.take i) ≤ i * 1049600 := by
  have q := tz_le (fs.take i) fun f hf => h f (List.mem_of_mem_take hf)
  rw [List.length_take, Nat.min_eq_left hi] at q
  exact q
theorem tz_mono {fs : List Fl} (i : Nat) : tz (fs.take i) + tz (fs.drop i) = tz fs := by
  rw [← tz_app, List.take_append_drop]
theorem flat_blk : ∀ fs : List Fl, (∀ f ∈ fs, okF f) → (fs.flatMap blk).length = tz fs
  | [], _ => rfl
  | f :: r, h => by
    rw [List.flatMap_cons, List.length_append, blk_len (h f (List.mem_cons_self ..)), flat_blk r fun g hg => h g (List.mem_cons_of_mem _ hg)]
    rfl
theorem tar_len {fs : List Fl} (h : ∀ f ∈ fs, okF f) : (tarL fs).length = tz fs + 1024 := by
  unfold tarL
  rw [List.length_append, flat_blk fs h, zs_len]
set_option maxRecDepth 100000 in
set_option maxHeartbeats 8000000 in
theorem tarSize_any {w : World} {v : Value} {fs : List Fl} (h : Fb w v fs) (hn : fs.length ≤ 5864062014805) (hb : ∀ f ∈ fs, f.2.length ≤ 1048576) :
    Calls Tryd.prog 16 #[v] w fun e w' => e = .returned (.int .i64 ((tz fs + 1024 : Nat) : Int)) ∧ Below w.heap.size w w' := by
  obtain ⟨a, c, rfl, hc⟩ := h.form
  have HA := hide h
  have HBB := hide hb
  have HTT := hide (fun i (hi : i ≤ fs.length) => tz_take hb i hi)
  have HFL := hide (show tz (fs.take fs.length) = tz fs by rw [List.take_length])
  obtain ⟨N, hN⟩ : ∃ N, fs.length = N := ⟨_, rfl⟩
  have HN := hide hN
  rw [hN] at hn HA hc HFL ⊢
  clear h hb hN
  go_enter Tryd.func16, Tryd.ntmps16
  go_wp2_with fail
  go_loopg [3, 5, 8] N (fun gq sv _ iv wr => ∃ i : Nat, iv = .int .i64 i ∧ sv = .int .i64 ((tz (fs.take i) + 1024 : Nat) : Int) ∧ i ≤ N ∧ N - i ≤ gq ∧ Hid (Below w.heap.size w wr))
  case atStart => exact ⟨0, by go_num, by go_num, by omega, by omega, hide (Below.refl _ _)⟩
  case round =>
    obtain ⟨i, rfl, rfl, hi, hgk, HW⟩ := hrel
    by_cases hlt : i < N
    · have hin : (i : Int) < (N : Int) := by omega
      have hil : i < fs.length := by have := unhide HN; omega
      obtain ⟨b, o, x, y, rfl, hrg, hRb⟩ := ((unhide HA).later (unhide HW)).at hil
      have hbl := unhide HBB _ (List.getElem_mem hil)
      have hti := unhide HTT i (Nat.le_of_lt hil)
      have HSN := hide (tz_snoc hil)
      generalize fs[i] = f at *
      have HRG := hide hrg
      clear hrg hRb
      have hfl := fill_lt f.2.length
      generalize hT : tz (fs.take i) = T at *
      have HF := hide (filled_any f.2.length · (by omega))
      generalize fill f.2.length = F at *
      have HLO := hide (unhide HW).size
      have hw1 : IntKind.i64.wrap ((512 : Int) + (F : Int)) = (512 : Int) + (F : Int) := IntWalk.i64_in _ (by omega)
      have hw2 : IntKind.i64.wrap (((T + 1024 : Nat) : Int) + ((512 : Int) + (F : Int))) = ((T + 1024 : Nat) : Int) + ((512 : Int) + (F : Int)) := IntWalk.i64_in _ (by omega)
      go_wp2_with (first
        | ((with_reducible refine m_load (t := 40) (k := 2) Tryd.underlying40 rfl infoBl _ rfl rfl b (o + i * 2) rfl [.string f.1, .slice x f.2.length y] (unhide HRG) rfl ?_))
        | ((with_reducible refine b_alloc (t := 40) (k := 2) zeroBl rfl rfl ?_); intro w4 q4 k4 z4; have P4 := hide q4; have W4 := hide ((unhide HW).trans (k4.mono (unhide HLO))); clear q4 k4 z4)
        | ((with_reducible refine b_store (t := 40) (k := 2) infoBl _ _ rfl rfl wr.heap.size rfl [.string f.1, .slice x f.2.length y] rfl rfl (two_one rfl) _ (unhide P4) ?_); intro w5 q5 o5 k5 z5; have c1 := q5.range 1 _ rfl; have W5 := hide ((unhide W4).trans (k5 _ (unhide HLO))); clear q5 o5 k5 z5 P4 W4)
        | (go_at_call 18; refine (unhide HF _).mono ?_; rintro e wn ⟨rfl, hw⟩; rw [hw]; clear hw wn HF))
      go_roundg (N - (i + 1))
      case measure => omega
      case rel => exact ⟨i + 1, by go_num, congrArg (Value.int .i64) (by rw [unhide HSN]; omega), by omega, by omega, W5⟩
    · obtain rfl : i = N := by omega
      have hge : ¬ (i : Int) < (i : Int) := by omega
      go_wp2_with fail
      go_ret
      exact ⟨by rw [unhide HFL]; rfl, unhide HW⟩
theorem infoY : (Tryd.prog.info? 5).map (fun i => (i.zero, i.size, i.bytes)) = some (some (.int .u8 0), 1, 1) := by kernel_rfl
theorem makeY (n : Nat) (hn : n ≤ 140737488355328) (u : World) : (Instr.makeSlice 23 (.int .i64 (n : Int)) (.int .i64 (n : Int))).run Tryd.prog u = .ok (.slice (some ⟨u.heap.size, 0, none⟩) n n) (u.alloc (.cells (madeCells #[.int .u8 0] n) 5)) :=
  run_make_row' (P := Tryd.prog) 23 5 (.int .u8 0) 1 Tryd.underlying23 infoY rfl .i64 .i64 n (by omega) (by omega) u
theorem By.made (u : World) (n : Nat) : By (u.alloc (.cells (madeCells #[.int .u8 0] n) 5)) u.heap.size (zs n) := by
  refine ⟨fun i x hi => ?_, fun i => World.frozen?_alloc_new _ _ _ i, by rw [World.size_alloc]; exact Nat.lt_succ_self _⟩
  have hl := (List.getElem?_eq_some_iff.1 hi).1
  rw [zs_len] at hl
  have hx : x = 0 := by
    unfold zs at hi
    rw [List.getElem?_replicate, if_pos hl] at hi
    exact (Option.some.inj hi).symm
  subst hx
  rw [World.cell?_alloc_new]
  simp [madeCells, hl, cb, Nat.mod_one]
/-- A BLOCK OF k BYTES, BY ITS TYPE. -/
def Yb (w : World) (g k : Nat) : Prop := ∃ cur, w.heap[g]? = some (.cells cur 5 (0, 0)) ∧ cur.size = k
theorem Yb.set {w : World} {g k : Nat} (h : Yb w g k) (p : Nat) (v : Value) : Yb (w.setCell ⟨g, p, none⟩ v) g k := by
  obtain ⟨cur, h1, h2⟩ := h
  exact ⟨_, heap_setCell_same w g p cur 5 v h1, by simpa using h2⟩
theorem Yb.sets {g k : Nat} : ∀ {w : World} (vs : List Value) (o : Nat), Yb w g k → Yb (w.setCells g o vs) g k
  | _, [], _, h => h
  | _, v :: vs, o, h => Yb.sets vs (o + 1) (h.set o v)
theorem Yb.made (u : World) (n : Nat) : Yb (u.alloc (.cells (madeCells #[.int .u8 0] n) 5)) u.heap.size n := ⟨_, heap_alloc_new u _, size_madeCells _ _⟩
theorem run_copyY {w : World} (ty : TypeId) {g off dn dc n c : Nat} {a : Option Addr} {L l : Bs} (hle : l.length ≤ dn) (hB : By w g L) (hl : off + dn ≤ L.length) (hR : Rb w (.slice a n c) l) :
    ∃ w2, (Builtin.copy_ #[23, 23] ty #[.slice (some ⟨g, off, none⟩) dn dc, .slice a n c]).run Tryd.prog w = .ok (goInt l.length) w2 ∧ By w2 g (put L off l) ∧ Ow g w w2 ∧ (∀ k, Yb w g k → Yb w2 g k) := by
  obtain ⟨a2, c2, e, _⟩ := hR.form
  cases e
  rcases Nat.eq_zero_or_pos l.length with h0 | h0
  · have e0 : l = [] := List.length_eq_zero_iff.1 h0
    subst e0
    refine ⟨w, ?_, by rw [put_nil]; exact hB, Ow.refl _ _, fun _ q => q⟩
    exact run_copy_none (P := Tryd.prog) w 23 23 ty 5 (some ⟨g, off, none⟩) a dn dc 0 c Tryd.underlying23 (by kernel_rfl) (by simp)
  · obtain ⟨b, o2, rfl, _, hc⟩ := hR.at h0
    refine ⟨_, ?_, hB.sets (t := l) (o := off) (by omega), (Ow.refl g w).sets off _, fun _ q => q.sets _ _⟩
    have q := run_copy_cells (P := Tryd.prog) w 23 23 ty 5 g off dn dc ⟨b, o2, none⟩ l.length c (l.map cb) Tryd.underlying23 (by kernel_rfl) (by rw [List.length_map]; exact (Nat.min_eq_left hle).symm)
      (fun j v hj => by
        rw [List.getElem?_map] at hj
        obtain ⟨u, hu, rfl⟩ := Option.map_eq_some_iff.1 hj
        have hjl := (List.getElem?_eq_some_iff.1 hu).1
        rw [Addr.add_mid, hc j hjl]
        rw [List.getElem?_eq_getElem hjl] at hu
        cases hu
        rfl)
      (fun j hj => by
        rw [List.length_map] at hj
        rw [hB.at_ (off + j) _ (List.getElem?_eq_getElem (by omega))]
        rfl) (fun j _ => hB.fr _) (map_cb_one _)
    rw [List.length_map] at q
    exact q
theorem wp_copyY {o : Oper} {ac : Act} {w : World} {K : Act → World → Prop} {Q : Exit → Act → World → Prop} {g off dn dc n c : Nat} {a : Option Addr} {L l : Bs} (x y : Operand) (ho : o.op = .call { callee := .builtin .copy, args := #[x, y], argTypes := #[23, 23] }) (hx : ac.eval x = .slice (some ⟨g, off, none⟩) dn dc) (hy : ac.eval y = .slice a n c) (hle : l.length ≤ dn) (hB : By w g L) (hl : off + dn ≤ L.length) (hR : Rb w (.slice a n c) l)
    (h : ∀ w2, By w2 g (put L off l) → Ow g w w2 → (∀ k, Yb w g k → Yb w2 g k) → K (ac.put o.dst (goInt l.length)) w2) : o.wp Tryd.prog ac w K Q := by
  obtain ⟨w2, hrun, h1, h2, h3⟩ := run_copyY o.type hle hB hl hR (dc := dc)
  unfold Oper.wp execOp
  simp only [ho, resolve, invoke, builtin, Sem.run_bind, Sem.run_pure, Result.andThen_ok, List.map_toArray, List.map_cons, List.map_nil, hx, hy, hrun]
  exact h w2 h1 h2 h3
theorem put_app (B t : Bs) (m : Nat) : put (B ++ zs m) B.length t = B ++ t ++ zs (m - t.length) := by
  unfold put
  rw [List.take_left' rfl, List.drop_append, List.drop_of_length_le (by omega), List.nil_append, Nat.add_sub_cancel_left, zs_drop]
end Go.Proofs.YtjmomdnlibfbkaaDoor
