import Derived.Test.YtokgegbodbnimaaMsF
import Derived.BigQuiet
namespace Go.Proofs.Ytokgegbodbnimaa
open Go.RowKit Go.Maps

set_option maxRecDepth 100000 in
set_option maxHeartbeats 4000000 in
theorem on_rm {W : World} {B k : Nat} {cur : Array Value} {d : Value} {u : Int} {H : Nm → Option Hd} {m : Cn} {x : Nm} (hB : W.heap[B]? = some (.cells cur 75 (0, 0))) (hd : cur[0]? = some d) (hu : cur[1]? = some (.int .i64 u)) (s : Sd W d H m k) (ok : (Opn.rm x).Ok W) :
    Calls Try.prog 99 #[.agg #[.string x], .pointer (some ⟨B, 0, none⟩)] W fun v W' => v = .returned (.tuple #[]) ∧ ∃ d2 H2, On W W' B cur d u H m k (.rm x) d2 H2 := by
  obtain ⟨W0, hW0⟩ : ∃ w, w = W.alloc (.cells #[.string x] 91) := ⟨_, rfl⟩
  have b0 : Below W.heap.size W W0 := by rw [hW0]; exact (Below.refl _ W).alloc (Nat.le_refl _) _
  have B0 := (b0.block B (blk_lt hB)).trans hB
  have s0 := s.later b0
  have C := drop_any (x := x) (o := 0) B0 hd hu s0.dm ok
  have c0 : W0.cell? ⟨W.heap.size, 0, none⟩ = some (.string x) := by rw [hW0]; go_simp
  have HP := hide (And.intro b0 (And.intro B0 (And.intro s0 (And.intro ok (And.intro hd s)))))
  clear hB s ok b0 B0 s0 hd hu
  go_enter Try.func99, Try.ntmps99
  go_upto_region 1 with fail
  rw [← hW0]
  clear hW0
  go_wp2_with (first | (go_at_call 56; refine C.mono ?_; rintro x1 W1 ⟨rfl, HE⟩; have HE := hide HE))
  go_end0
  obtain ⟨q1, q2, q4⟩ := unhide HE
  obtain ⟨b0, B0, s0, ok, hd, s⟩ := unhide HP
  have kp : ∀ g bs, Bt W g bs → Bt W1 g bs := fun g bs b => (b.later b0).far B0 s0.dm q4
  refine ⟨rfl, d, _, ?_, ⟨q2.mono (Nat.le_succ _), (s.sc.same fun _ g bs _ b => kp g bs b).del x⟩, .inl rfl, ?_, fun g bs b _ => kp g bs b, fun z h' hz => ?_, fun z hz => ?_⟩
  · rw [s.sc.ln x] at q1
    rw [set_self hd]
    exact q1
  · exact (Fx.of b0).next q4 fun c _ e => by
      rcases e with e | e
      · exact .inl e
      · exact .inr (.inl e)
  · exact .inl ⟨z, h', (up_none hz).2, rfl, Nat.le_refl _⟩
  · exact up_other _ _ fun e => hz (by rw [e]; exact List.mem_singleton.2 rfl)
theorem set_set {cur : Array Value} {d v w : Value} : ((cur.setIfInBounds 1 v).setIfInBounds 0 d).setIfInBounds 1 w = (cur.setIfInBounds 0 d).setIfInBounds 1 w := by
  rw [Array.setIfInBounds_comm v d (show (1 : Nat) ≠ 0 by decide), Array.setIfInBounds_setIfInBounds]
/-- What isn't there stays so. -/
theorem on_same {W W1 : World} {B k : Nat} {cur : Array Value} {d : Value} {u : Int} {H : Nm → Option Hd} {m : Cn} {o : Opn} (hB : W.heap[B]? = some (.cells cur 75 (0, 0))) (hd : cur[0]? = some d) (hu : cur[1]? = some (.int .i64 u)) (s : Sd W d H m k) (b : Below W.heap.size W W1) (e : o.e.on (m, u) = (m, u)) : On W W1 B cur d u H m k o d H := by
  refine ⟨?_, ?_, .inl rfl, Fx.of b, fun g bs q _ => q.later b, fun z h' hz => .inl ⟨z, h', hz, rfl, Nat.le_refl _⟩, fun z _ => rfl⟩
  · rw [e, set_self hd]
    show _ = some (Obj.cells (cur.setIfInBounds 1 (.int .i64 u)) 75 (0, 0))
    rw [set_self hu]
    exact (b.block B (blk_lt hB)).trans hB
  · rw [e]
    exact (s.later b).mono (Nat.le_succ _)
set_option maxRecDepth 100000 in
set_option maxHeartbeats 8000000 in
theorem on_rn {W : World} {B k : Nat} {cur : Array Value} {d : Value} {u : Int} {H : Nm → Option Hd} {m : Cn} {x y : Nm} (hB : W.heap[B]? = some (.cells cur 75 (0, 0))) (hd : cur[0]? = some d) (hu : cur[1]? = some (.int .i64 u)) (s : Sd W d H m k) (hk : k < maxLen) (ok : (Opn.rn x y).Ok W) :
    Calls Try.prog 103 #[.agg #[.string x, .string y], .pointer (some ⟨B, 0, none⟩)] W fun v W' => v = .returned (.tuple #[]) ∧ ∃ d2 H2, On W W' B cur d u H m k (.rn x y) d2 H2 := by
  obtain ⟨W0, hW0⟩ : ∃ w, w = W.alloc (.cells #[.string x, .string y] 95) := ⟨_, rfl⟩
  have b0 : Below W.heap.size W W0 := by rw [hW0]; exact (Below.refl _ W).alloc (Nat.le_refl _) _
  have B0 := (b0.block B (blk_lt hB)).trans hB
  have s0 := s.later b0
  have c0 : W0.cell? ⟨W.heap.size, 0, none⟩ = some (.string x) := by rw [hW0]; go_simp
  have c1 : W0.cell? ⟨W.heap.size, 1, none⟩ = some (.string y) := by rw [hW0]; go_simp
  have hl0 : W.heap.size < W0.heap.size := by rw [hW0, World.size_alloc]; omega
  have cd := (cell_blk B0 0).1.trans hd
  have lk := fun t => look2 (s0.dm.later (bl_drewN W0 t)) (Nat.le_trans ok.1 (by decide) : x.size ≤ maxLen)
  have HP := hide (And.intro b0 (And.intro B0 (And.intro s0 (And.intro ok (And.intro hd (And.intro hu (And.intro s hB)))))))
  clear hB s ok b0 B0 s0 hd hu
  cases hH : H x with
  | none =>
    simp only [hH, hv0, Option.isSome_none] at lk
    go_enter Try.func103, Try.ntmps103
    go_upto_region 1 with fail
    rw [← hW0]
    clear hW0
    go_quiet (fail)
    go_wp2_with fail
    go_end0
    obtain ⟨b0, B0, s0, ok, hd, hu, s, hB⟩ := unhide HP
    refine ⟨rfl, d, H, on_same hB hd hu s (bl_t b0 (bl_drewN _ _)) ?_⟩
    simp only [Opn.e, Ope.on, s.sc.non x hH]
  | some f =>
    simp only [hH, hv0, hv, Option.isSome_some] at lk
    go_enter Try.func103, Try.ntmps103
    go_upto_region 1 with fail
    rw [← hW0]
    clear hW0
    go_quiet (fail)
    obtain ⟨b0, B0, s0, ok, hd, hu, s, hB⟩ := unhide HP
    clear HP
    obtain ⟨W3, hW3⟩ : ∃ w, w = W0.drewN nq := ⟨_, rfl⟩
    have b3 : Below W0.heap.size W0 W3 := by rw [hW3]; exact bl_drewN _ _
    have B3 := (b3.block B (blk_lt B0)).trans B0
    have s3 := s0.later b3
    have c03 := (b3.cell (p := ⟨W.heap.size, 0, none⟩) hl0).trans c0
    have c13 := (b3.cell (p := ⟨W.heap.size, 1, none⟩) hl0).trans c1
    have hl3 : W.heap.size < W3.heap.size := Nat.lt_of_lt_of_le hl0 b3.size
    rw [← hW3]
    clear hW3 lk c0 c1 cd
    have C := drop_any (x := x) (o := 0) B3 hd hu s3.dm ok.1
    have e1 : hv f = .slice f.a f.n f.c := rfl
    have NX : ∀ W1, W1.heap[B]? = some (.cells (cur.setIfInBounds 1 (.int .i64 (usD u (ln0 (H x))))) 75 (0, 0)) → Dm W1 d (up H x none) k → Fx (fun c => c = B ∨ mb d = some c) W3 W1 → W1.cell? ⟨W.heap.size, 1, none⟩ = some (.string y) ∧ Calls Try.prog 51 #[.pointer (some ⟨B, 0, none⟩), .string y, .slice f.a f.n f.c] W1 fun v W2 => v = .returned (.tuple #[]) ∧ ∃ d2 H2, On W W2 B cur d u H m k (.rn x y) d2 H2 := fun W1 q1 q2 q3 => by
      refine ⟨?_, ?_⟩
      · rw [← c13]
        unfold World.cell?
        rw [show W1.heap[(⟨W.heap.size, 1, none⟩ : Addr).block]? = W3.heap[(⟨W.heap.size, 1, none⟩ : Addr).block]? from q3.blk W.heap.size hl3 fun q => by
          rcases q with q | q
          · have := blk_lt hB
            omega
          · have := s.dm.lt q
            omega]
      · have hd1 : (cur.setIfInBounds 1 (.int .i64 (usD u (ln0 (H x)))))[0]? = some d := by rw [Array.getElem?_setIfInBounds_ne (by omega)]; exact hd
        have hu1 : (cur.setIfInBounds 1 (.int .i64 (usD u (ln0 (H x)))))[0 + 1]? = some (.int .i64 (usD u (ln0 (H x)))) := by
          have := (Array.getElem?_eq_some_iff.1 hu).1
          simp [this]
        have C2 := put_any (x := y) (f := f) (o := 0) q1 hd1 hu1 q2 hk ok.2.1
        rw [e1] at C2
        refine C2.mono fun v W2 ⟨d', p0, p1, p2, p3, p4⟩ => ⟨p0, d', up (up H x none) y (some f), ?_⟩
        obtain ⟨bs, em, bf⟩ := s.sc.con x f hH
        have k1 : ∀ g cs, Bt W g cs → Bt W1 g cs := fun g cs b => ((b.later b0).later b3).far B3 s3.dm q3
        have k2 : ∀ g cs, Bt W g cs → Bt W2 g cs := fun g cs b => (k1 g cs b).far q1 q2 p4
        have eo : (Opn.rn x y).e.on (m, u) = (up (up m x none) y (some bs), usP (usD u bs.length) bs.length (lnC (up m x none y))) := by simp only [Opn.e, Ope.on, em]
        have sx := ((s.sc.same (W2 := W2) fun _ g cs _ b => k2 g cs b).del x)
        have l1 : ln0 (H x) = bs.length := by rw [hH]; exact bf.len.symm
        have l2 : ln0 (up H x none y) = lnC (up m x none y) := sx.ln y
        refine ⟨?_, ?_, ?_, ?_, fun g cs b _ => k2 g cs b, fun z h' hz => ?_, fun z hz => ?_⟩
        · rw [eo, p1, l1, l2, ← bf.len]
          simp only [Nat.zero_add]
          rw [set_set]
        · rw [eo]
          refine ⟨p2, sx.put (k2 f bs bf) fun z g c _ hz e2 e3 => ?_⟩
          obtain ⟨ne, hz⟩ := up_none hz
          exact ne (s.sc.inj z x g f c hz hH e2 e3)
        · rcases p3 with p3 | p3
          · exact .inl p3
          · refine .inr ⟨_, p3, ?_⟩
            have := q3.size
            omega
        · exact ((Fx.of (bl_t b0 b3)).next q3 fun c _ e => by
            rcases e with e | e
            · exact .inl e
            · exact .inr (.inl e)).next p4 fun c _ e => by
              rcases e with e | e
              · exact .inl e
              · exact .inr (.inl e)
        · rcases up_some hz with ⟨_, e⟩ | ⟨_, e⟩
          · exact .inl ⟨x, f, hH, by rw [e], by rw [e]; exact Nat.le_refl _⟩
          · exact .inl ⟨z, h', (up_none e).2, rfl, Nat.le_refl _⟩
        · rw [up_other _ _ fun e => hz (by rw [e]; simp [Opn.nms, Opn.e, Ope.nms]), up_other _ _ fun e => hz (by rw [e]; simp [Opn.nms, Opn.e, Ope.nms])]
    have HN := hide NX
    clear NX hB B0 B3 s s0 s3 hd hu ok b0 b3 hk
    go_wp2_with (first | (go_at_call 56; refine C.mono ?_; rintro x1 W1 ⟨rfl, q1, q2, q3⟩; obtain ⟨c5, C2⟩ := unhide HN W1 q1 q2 q3; clear q1 q2 q3 HN C) | (go_at_call 51; refine C2.mono ?_; rintro x1 W2 ⟨rfl, HE⟩; have HE := hide HE))
    go_end0
    exact ⟨rfl, unhide HE⟩
end Go.Proofs.Ytokgegbodbnimaa
