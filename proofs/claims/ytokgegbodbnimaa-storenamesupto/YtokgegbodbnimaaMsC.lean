import Derived.Test.YtokgegbodbnimaaMsB
import Derived.WalkMore
import Derived.Deep.Cut
import Derived.Deep.LoopGhost
namespace Go.Proofs.Ytokgegbodbnimaa
open Go.RowKit Go.Maps

set_option maxRecDepth 100000 in
set_option maxHeartbeats 2000000 in
theorem clone_any {W : World} {pa : Option Addr} {bs : List Int} (c : Nat) (h : Rb W pa bs) (h0 : pa = none → bs = []) (hz : bs.length ≤ 70368744177664) :
    Calls Try.prog 41 #[.slice pa bs.length c] W fun x W' => ∃ f, x = .returned (hv f) ∧ Bt W' f bs ∧ (∀ g, bk f = some g → W.heap.size ≤ g) ∧ Below W.heap.size W W' := by
  have q22 : ∀ (w : World) (a : Option Addr) (n c n' c' : Nat), (binOp .eql 22 (.slice a n c) (.slice none n' c')).run Try.prog w = .ok (.bool a.isNone) w := fun w a n c n' c' => Lib.run_eql_slice_nil w _ _ a n c n' c' Try.underlying22
  obtain ⟨i0, hi, hz0, hz1, hz2⟩ := info_parts info5
  cases pa with
  | none =>
    obtain rfl := h0 rfl
    go_enter Try.func41, Try.ntmps41
    go_wp2_with fail
    go_ret
    exact ⟨⟨none, 0, 0⟩, rfl, Bt.nil _, (fun g e => by cases e), Below.refl _ _⟩
  | some ad =>
    obtain ⟨v1, W1, hr, ho, hb, hk⟩ := app1 (P := Try.prog) 22 22 5 i0 (.int .u8 0) 1 1 Try.underlying22 hi hz0 hz1 hz2 rfl (by decide) bs.length (u8 bs) (by rw [u8_len]; omega) (u8_one _) (by omega) (Nat.le_trans hz (by decide)) (some ad) c W (by
      rcases h with h | h
      · exact .inl (by rw [h]; rfl)
      · exact .inr h)
    obtain ⟨a', c', rfl⟩ := owns_form ho
    have HO := hide (And.intro ho (And.intro hb hk))
    clear ho hb hk h h0
    go_enter Try.func41, Try.ntmps41
    go_wp2_with (first | (at_builtin; refine wpList_append_run rfl _ _ 22 rfl _ _ rfl rfl hr ?_))
    go_ret
    obtain ⟨ho, hb, hk⟩ := unhide HO
    refine ⟨⟨a', bs.length, c'⟩, rfl, ?_, fun g e => hk g (by rw [← e, ← bk_own]; rfl), hb⟩
    refine ⟨ho.1, ?_⟩
    rcases ho.2 with z | ⟨g, cap, cur, h1, h2, h3⟩
    · exact .inl z
    · exact .inr ⟨g, cap, cur, h1, Nat.zero_le _, h3⟩
/-- HOW MANY BYTES ARE USED THEN. -/
def usP (u : Int) (n o : Nat) : Int := wrap64 (u + wrap64 ((n : Int) - (o : Int)))
def usD (u : Int) (o : Nat) : Int := wrap64 (u - (o : Int))
theorem eqm (o : Option Nat) (w : World) : (binOp .eql 70 (.map o) (.map none)).run Try.prog w = .ok (.bool o.isNone) w := by
  have h : (Op.equalIn (9999 + 1) 70 (.map o) (.map none)).run Try.prog w = .ok o.isNone w := by
    unfold Op.equalIn
    cases o <;> simp [run_underlying Try.underlying70]
  simp only [binOp]
  simp [Op.equal, Op.maxDepth, h]
theorem hv0_form (x : Option Hd) : ∃ a c, hv0 x = .slice a (ln0 x) c := by
  cases x with
  | none => exact ⟨_, _, rfl⟩
  | some h => exact ⟨_, _, rfl⟩
set_option maxRecDepth 100000 in
set_option maxHeartbeats 4000000 in
theorem put_old {W : World} {B o b k : Nat} {u : Int} {cur : Array Value} {H : Nm → Option Hd} {x : Nm} {f : Hd} (hB : W.heap[B]? = some (.cells cur 75 (0, 0))) (hd : cur[o]? = some (.map (some b))) (hu : cur[o + 1]? = some (.int .i64 u)) (h : Dm W (.map (some b)) H k) (hk : k < maxLen) (hx : x.size ≤ 258) :
    Calls Try.prog 51 #[.pointer (some ⟨B, o, none⟩), .string x, hv f] W fun x1 W' => x1 = .returned (.tuple #[]) ∧ W'.heap[B]? = some (.cells (cur.setIfInBounds (o + 1) (.int .i64 (usP u f.n (ln0 (H x))))) 75 (0, 0)) ∧ Dm W' (.map (some b)) (up H x (some f)) (k + 1) ∧ Fx (fun c => c = B ∨ c = b) W W' := by
  have cd := (cell_blk hB o).1.trans hd
  obtain ⟨cu, fu⟩ := cell_blk hB (o + 1)
  rw [hu] at cu
  have hne : b ≠ B := fun e => by
    rcases h with ⟨q, _⟩ | ⟨b2, D, q, ⟨es, cl, ho, _⟩, _⟩
    · cases q
    · cases q
      rw [e, hB] at ho
      cases ho
  have lk := look1 (h.later (W2 := W.drew) ((Below.refl _ W).drew)) (Nat.le_trans hx (by decide) : x.size ≤ maxLen)
  obtain ⟨oa, oc, eo⟩ := hv0_form (H x)
  rw [eo] at lk
  obtain ⟨on, hon⟩ : ∃ n, n = ln0 (H x) := ⟨_, rfl⟩
  rw [← hon] at lk ⊢
  obtain ⟨W1, hW1⟩ : ∃ w, w = (W.setCell ⟨B, o + 1, none⟩ (.int .i64 (wrap64 (u + wrap64 ((f.n : Int) - (on : Int)))))).drew := ⟨_, rfl⟩
  have F1 : Fx (fun c => c = B ∨ c = b) W W1 := by rw [hW1]; exact ((Fx.refl _ W).set (.inl rfl) _ _).trans (Fx.of ((Below.refl _ _).drew))
  have B1 : W1.heap[B]? = some (.cells (cur.setIfInBounds (o + 1) (.int .i64 (usP u f.n on))) 75 (0, 0)) := by rw [hW1]; exact set_blk (W := W) hB _ _
  have D1 : Dm W1 (.map (some b)) H k := h.same fun z e => by
    cases e
    rw [hW1]
    exact set_other _ _ _ _ _ hne
  have c1 : W1.cell? ⟨B, o, none⟩ = some (.map (some b)) := by
    rw [(cell_blk B1 o).1, Array.getElem?_setIfInBounds_ne (by omega)]
    exact hd
  obtain ⟨W2, hr, D2, F2⟩ := put_map D1 hk hx f
  have em := eqm
  have hf : hv f = .slice f.a f.n f.c := rfl
  rw [hf] at hr ⊢
  have HE := hide (And.intro ((F2.blk B (blk_lt B1) (fun e => hne e.symm)).trans B1) (And.intro D2 (F1.next F2 (fun c _ e => .inr e))))
  clear F1 B1 D1 D2 F2 h eo hon
  go_enter Try.func51, Try.ntmps51
  go_upto_region 2 with fail
  go_big_region
  rw [← hW1]
  clear hW1
  go_wp2_with fail
  go_end0
  exact ⟨rfl, unhide HE⟩
set_option maxRecDepth 100000 in
set_option maxHeartbeats 4000000 in
theorem put_new {W : World} {B o k : Nat} {u : Int} {cur : Array Value} {H : Nm → Option Hd} {x : Nm} {f : Hd} (hB : W.heap[B]? = some (.cells cur 75 (0, 0))) (hd : cur[o]? = some (.map none)) (hu : cur[o + 1]? = some (.int .i64 u)) (h : ∀ x, H x = none) (hx : x.size ≤ 258) :
    Calls Try.prog 51 #[.pointer (some ⟨B, o, none⟩), .string x, hv f] W fun x1 W' => x1 = .returned (.tuple #[]) ∧ W'.heap[B]? = some (.cells ((cur.setIfInBounds o (.map (some W.heap.size))).setIfInBounds (o + 1) (.int .i64 (usP u f.n (ln0 (H x))))) 75 (0, 0)) ∧ Dm W' (.map (some W.heap.size)) (up H x (some f)) (k + 1) ∧ Fx (fun c => c = B) W W' := by
  obtain rfl : H = fun _ => none := funext h
  have cd := (cell_blk hB o).1.trans hd
  have fd := (cell_blk hB o).2
  have hlB := blk_lt hB
  have cda : (W.alloc (.map #[] 0)).cell? ⟨B, o, none⟩ = some (.map none) := (((Below.refl _ W).alloc (Nat.le_refl _) (.map #[] 0)).cell (p := ⟨B, o, none⟩) hlB).trans cd
  have fda : (W.alloc (.map #[] 0)).frozen? ⟨B, o, none⟩ = false := (((Below.refl _ W).alloc (Nat.le_refl _) (.map #[] 0)).frozen (p := ⟨B, o, none⟩) hlB).trans fd
  have hne : W.heap.size ≠ B := by omega
  have hol : o < cur.size := (Array.getElem?_eq_some_iff.1 hd).1
  obtain ⟨W0, hW0⟩ : ∃ w, w = (W.alloc (.map #[] 0)).setCell ⟨B, o, none⟩ (.map (some W.heap.size)) := ⟨_, rfl⟩
  have F0 : Fx (fun c => c = B) W W0 := by rw [hW0]; exact (Fx.of (P := fun c => c = B) ((Below.refl _ W).alloc (Nat.le_refl _) _)).set rfl _ _
  have B0 : W0.heap[B]? = some (.cells (cur.setIfInBounds o (.map (some W.heap.size))) 75 (0, 0)) := by
    rw [hW0]
    exact set_blk ((((Below.refl _ W).alloc (Nat.le_refl _) (.map #[] 0)).block B hlB).trans hB) _ _
  have D0 : Dm W0 (.map (some W.heap.size)) (fun _ => none) 0 := by
    refine Dm.same (W := W.alloc (.map #[] 0)) (.inr ⟨_, _, rfl, World.ownsMap_made W _ _ _, Rep.start⟩) fun z e => ?_
    cases e
    rw [hW0]
    exact set_other _ _ _ _ _ hne
  have c0 : W0.cell? ⟨B, o, none⟩ = some (.map (some W.heap.size)) := by
    rw [(cell_blk B0 o).1]
    simp [hol]
  have cu : W0.cell? ⟨B, o + 1, none⟩ = some (.int .i64 u) := by
    rw [(cell_blk B0 (o + 1)).1, Array.getElem?_setIfInBounds_ne (by omega)]
    exact hu
  have fu := (cell_blk B0 (o + 1)).2
  have lk := look1 (D0.later (W2 := W0.drew) ((Below.refl _ W0).drew)) (Nat.le_trans hx (by decide) : x.size ≤ maxLen)
  have eo : hv0 ((fun _ => none : Nm → Option Hd) x) = .slice none 0 0 := rfl
  rw [eo] at lk
  have el : ln0 ((fun _ => none : Nm → Option Hd) x) = 0 := rfl
  rw [el]
  obtain ⟨W1, hW1⟩ : ∃ w, w = (W0.setCell ⟨B, o + 1, none⟩ (.int .i64 (wrap64 (u + wrap64 ((f.n : Int) - (0 : Int)))))).drew := ⟨_, rfl⟩
  have F1 : Fx (fun c => c = B) W W1 := by rw [hW1]; exact (F0.set rfl _ _).trans (Fx.of ((Below.refl _ _).drew))
  have B1 : W1.heap[B]? = some (.cells ((cur.setIfInBounds o (.map (some W.heap.size))).setIfInBounds (o + 1) (.int .i64 (usP u f.n 0))) 75 (0, 0)) := by rw [hW1]; exact set_blk (W := W0) B0 _ _
  have D1 : Dm W1 (.map (some W.heap.size)) (fun _ => none) 0 := D0.same fun z e => by
    cases e
    rw [hW1]
    exact set_other _ _ _ _ _ hne
  have c1 : W1.cell? ⟨B, o, none⟩ = some (.map (some W.heap.size)) := by
    rw [(cell_blk B1 o).1, Array.getElem?_setIfInBounds_ne (by omega)]
    simp [hol]
  obtain ⟨W2, hr, D2, F2⟩ := put_map D1 (by decide) hx f
  have em := eqm
  have hmm := @run_makeMap Try.prog
  have hf : hv f = .slice f.a f.n f.c := rfl
  rw [hf] at hr ⊢
  have HE := hide (And.intro ((F2.blk B (blk_lt B1) (fun e => hne e.symm)).trans B1) (And.intro (D2.mono (k2 := k + 1) (by omega)) (F1.next F2 (fun c hc e => absurd hc (by rw [e]; omega)))))
  have hs1 : W0.heap.size = W.heap.size + 1 := by rw [hW0, set_size, World.size_alloc]
  clear F0 B0 D0 F1 B1 D1 D2 F2 eo el hlB
  go_enter Try.func51, Try.ntmps51
  go_upto_region 2 with fail
  rw [← hW0]
  clear hW0
  go_big_region
  try rw [Int.sub_zero] at hW1
  rw [← hW1]
  clear hW1
  go_wp2_with fail
  go_end0
  exact ⟨rfl, unhide HE⟩
end Go.Proofs.Ytokgegbodbnimaa
