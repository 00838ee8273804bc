import Derived.Test.YtokgegbodbnimaaMsE
namespace Go.Proofs.Ytokgegbodbnimaa
open Go.RowKit Go.Maps

theorem Bt.far {W W2 : World} {h : Hd} {bs : List Int} (b : Bt W h bs) {B k : Nat} {d : Value} {H : Nm → Option Hd} {cur : Array Value} (hB : W.heap[B]? = some (.cells cur 75 (0, 0))) (hd : Dm W d H k) (f : Fx (fun c => c = B ∨ mb d = some c) W W2) : Bt W2 h bs :=
  b.fx f fun g e q => by
    rcases q with q | q
    · subst q; exact b.neC e (by decide) hB
    · exact b.neM e hd q
set_option maxRecDepth 100000 in
set_option maxHeartbeats 4000000 in
theorem on_wr {W : World} {B k : Nat} {cur : Array Value} {d : Value} {u : Int} {H : Nm → Option Hd} {m : Cn} {x : Nm} {f : Hd} {bs : List Int} (hB : W.heap[B]? = some (.cells cur 75 (0, 0))) (hd : cur[0]? = some d) (hu : cur[1]? = some (.int .i64 u)) (s : Sd W d H m k) (hk : k < maxLen) (ok : (Opn.wr x f bs).Ok W)
    (hn : ∀ y g c, y ≠ x → H y = some g → bk g = some c → bk f = some c → False) :
    Calls Try.prog 95 #[.agg #[.string x, .slice f.a f.n f.c], .pointer (some ⟨B, 0, none⟩)] W fun v W' => v = .returned (.tuple #[]) ∧ ∃ d2 H2, On W W' B cur d u H m k (.wr x f bs) d2 H2 := by
  obtain ⟨W0, hW0⟩ : ∃ w, w = W.alloc (.cells #[.string x, .slice f.a f.n f.c] 80) := ⟨_, rfl⟩
  have b0 : Below W.heap.size W W0 := by rw [hW0]; exact (Below.refl _ W).alloc (Nat.le_refl _) _
  have B0 := (b0.block B (blk_lt hB)).trans hB
  have s0 := s.later b0
  have C := put_any (x := x) (f := f) (o := 0) B0 hd hu s0.dm hk ok.1
  have e1 : hv f = .slice f.a f.n f.c := rfl
  rw [e1] at C
  have c0 : W0.cell? ⟨W.heap.size, 0, none⟩ = some (.string x) := by rw [hW0]; go_simp
  have c1 : W0.cell? ⟨W.heap.size, 1, none⟩ = some (.slice f.a f.n f.c) := by rw [hW0]; go_simp
  have HP := hide (And.intro b0 (And.intro B0 (And.intro s0 (And.intro ok (And.intro hn s)))))
  clear hB s ok hn b0 B0 s0 hd hu
  go_enter Try.func95, Try.ntmps95
  go_upto_region 1 with fail
  rw [← hW0]
  clear hW0
  go_wp2_with (first | (go_at_call 51; refine C.mono ?_; rintro x1 W1 ⟨d', rfl, HE⟩; have HE := hide HE))
  go_end0
  obtain ⟨q1, q2, q3, q4⟩ := unhide HE
  obtain ⟨b0, B0, s0, ok, hn, s⟩ := unhide HP
  have kp : ∀ g bs, Bt W g bs → Bt W1 g bs := fun g bs b => (b.later b0).far B0 s0.dm q4
  refine ⟨rfl, d', _, ?_, ⟨q2, (s.sc.same fun _ g bs _ b => kp g bs b).put (kp f bs ok.2) hn⟩, ?_, ?_, fun g bs b _ => kp g bs b, fun z h' hz => ?_, fun z hz => ?_⟩
  · rw [← ok.2.len, s.sc.ln x] at q1
    exact q1
  · rcases q3 with q3 | q3
    · exact .inl q3
    · exact .inr ⟨_, q3, b0.size⟩
  · exact (Fx.of b0).next q4 fun c _ e => by
      rcases e with e | e
      · exact .inl e
      · exact .inr (.inl e)
  · rcases up_some hz with ⟨_, e⟩ | ⟨_, e⟩
    · exact .inr (.inr (by rw [e]; rfl))
    · exact .inl ⟨z, h', e, rfl, Nat.le_refl _⟩
  · exact up_other _ _ fun e => hz (by rw [e]; exact List.mem_singleton.2 rfl)
end Go.Proofs.Ytokgegbodbnimaa
