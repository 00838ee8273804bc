import Derived.Test.YtokgegbodbnimaaBlB
namespace Go.Proofs.Ytokgegbodbnimaa
open Go.RowKit Go.Maps Go.Sort

theorem Sd.cnt_le {W : World} {d : Value} {H : Nm → Option Hd} {m : Cn} {k : Nat} (s : Sd W d H m k) : cnt m ≤ k := by
  rcases s.keys with ⟨rfl, h⟩ | ⟨b, D, rfl, ho, r, h1, h2, h3⟩
  · rw [cnt_eq (m := m) (l := []) List.nodup_nil fun x => by rw [h x]; simp]
    exact Nat.zero_le _
  · rw [cnt_eq h1 h2, h3]
    exact ho.size_le
/-- FILES THAT WERE TOLD, IN THE BLOCKS FROM lo UP TO hi. -/
structure Im (W : World) (lo hi : Nat) (m : Cn) (v : Value) (L : List (List UInt8 × Hd)) : Prop where
  nm : L.map Prod.fst = nmS m ⟨#[]⟩
  row : W.ownsRow lo 50 2 v L.length (L.flatMap fun q => blc q.1 q.2)
  vb : ∀ b, v.ownBlock = some b → b < hi
  dat : ∀ q ∈ L, ∃ bs, m (nmOf q.1) = some bs ∧ Bt W q.2 bs ∧ ∀ g, bk q.2 = some g → lo ≤ g ∧ g < hi
theorem Im.fx {P : Nat → Prop} {W W2 : World} {lo hi : Nat} {m : Cn} {v : Value} {L : List (List UInt8 × Hd)} (h : Im W lo hi m v L) (f : Fx P W W2) (hp : ∀ b, lo ≤ b → b < hi → ¬ P b) : Im W2 lo hi m v L :=
  ⟨h.nm, own_same h.row fun b e => f.blk b (World.ownsRow.lt h.row b e).2 (hp b (World.ownsRow.lt h.row b e).1 (h.vb b e)), h.vb, fun q hq => by
    obtain ⟨bs, q1, q2, q3⟩ := h.dat q hq
    exact ⟨bs, q1, q2.fx f fun g e => hp g (q3 g e).1 (q3 g e).2, q3⟩⟩
theorem Im.later {W W2 : World} {lo hi : Nat} {m : Cn} {v : Value} {L : List (List UInt8 × Hd)} (h : Im W lo hi m v L) (b : RowKit.Below W.heap.size W W2) : Im W2 lo hi m v L := h.fx (P := fun _ => False) (Fx.of b) fun _ _ _ q => q
theorem Im.lenS {W : World} {lo hi : Nat} {m : Cn} {v : Value} {L : List (List UInt8 × Hd)} (h : Im W lo hi m v L) : L.length = (nmS m ⟨#[]⟩).length := by
  have := congrArg List.length h.nm
  simpa using this
/-- The like of what is told. -/
def Told (W W' : World) (m : Cn) (v : Value) : Prop := ∃ L, Im W' W.heap.size W'.heap.size m v L
theorem told_of {W W' : World} {m : Cn} {v : Value} {L : List (List UInt8 × Hd)} (h1 : L.map Prod.fst = nmS m ⟨#[]⟩) (h2 : W'.ownsRow W.heap.size 50 2 v L.length (L.flatMap fun q => blc q.1 q.2)) (h3 : ∀ q ∈ L, ∃ bs, m (nmOf q.1) = some bs ∧ Bt W' q.2 bs ∧ ∀ g, bk q.2 = some g → W.heap.size ≤ g ∧ v.ownBlock ≠ some g) : Told W W' m v :=
  ⟨L, h1, h2, fun b e => (World.ownsRow.lt h2 b e).2, fun q hq => by
    obtain ⟨bs, q1, q2, q3⟩ := h3 q hq
    exact ⟨bs, q1, q2, fun g e => ⟨(q3 g e).1, q2.lt e⟩⟩⟩
set_option maxRecDepth 100000 in
theorem Image_any {O : Nat → Prop} {B : Nat} {M : Mm} {m0 m1 : Cn} {K : Nat} {W : World} (h : Sto O B M m0 m1 K W) (hK : K ≤ 1000000000000) :
    Calls Try.prog 21 #[.pointer (some ⟨B, 0, none⟩)] W fun v W' => ∃ x, v = .returned x ∧ Told W W' m0 x ∧ RowKit.Below W.heap.size W W' := by
  have hc := blobs_any (o := 0) h.blk rfl h.s0 (Nat.le_trans h.s0.cnt_le hK) (fun x bs e => Nat.le_trans (h.l0 x bs e) (by omega))
  clear h
  go_enter Try.func21, Try.ntmps21
  go_wp2_with (first | (go_at_call 46; refine hc.mono ?_; rintro e w1 ⟨v, L, rfl, h1, h2, h3, hb⟩; have HT := hide (told_of h1 h2 h3); have HB := hide hb; clear h1 h2 h3 hb))
  go_ret
  exact ⟨v, rfl, unhide HT, unhide HB⟩
set_option maxRecDepth 100000 in
theorem Durable_any {O : Nat → Prop} {B : Nat} {M : Mm} {m0 m1 : Cn} {K : Nat} {W : World} (h : Sto O B M m0 m1 K W) (hK : K ≤ 1000000000000) :
    Calls Try.prog 22 #[.pointer (some ⟨B, 0, none⟩)] W fun v W' => ∃ x, v = .returned x ∧ Told W W' m1 x ∧ RowKit.Below W.heap.size W W' := by
  obtain ⟨k1, s1, hk1⟩ := h.s1
  have hc := blobs_any (o := 2) h.blk rfl s1 (Nat.le_trans s1.cnt_le (by omega)) (fun x bs e => by have := h.l1 x bs e; omega)
  clear h s1 hk1
  go_enter Try.func22, Try.ntmps22
  go_wp2_with (first | (go_at_call 46; refine hc.mono ?_; rintro e w1 ⟨v, L, rfl, h1, h2, h3, hb⟩; have HT := hide (told_of h1 h2 h3); have HB := hide hb; clear h1 h2 h3 hb))
  go_ret
  exact ⟨v, rfl, unhide HT, unhide HB⟩
/-- A CRASH, WHATEVER IS PENDING. -/
theorem crash_any {O : Nat → Prop} {B : Nat} {M : Mm} {m0 m1 : Cn} {K : Nat} {W : World} (h : Sto O B M m0 m1 K W) (hO : ∀ b, O b → b < W.heap.size) (hK : 4 * K ≤ 1099511627776) {ka : Option Addr} {ks : List Int} (kc : Nat) (hk : Rk O W ka ks) (hkl : ks.length ≤ 1099511627776) (hk64 : ∀ k ∈ ks, k ≤ 9223372036854775807) :
    Calls Try.prog 14 #[.pointer (some ⟨B, 0, none⟩), .agg #[.slice ka ks.length kc]] W fun v W' => v = .returned (.int .i64 0) ∧ Crd O B M m1 K ks W W' := by
  rcases h.pen.2 with ⟨q1, q2⟩ | ⟨g2, cp, cu, q2, _⟩
  · have hp : M.ps = [] := List.length_eq_zero_iff.1 q2
    refine (Crash_none h hK hp q1 hkl).mono fun v W' ⟨q0, ⟨M2, s2, p2, c2⟩, f⟩ => ⟨q0, M2, ?_, p2, c2, f.mono fun b _ q => .inl q⟩
    have e : crI (M.ps.map Opn.e) ks m1 (min M.ps.length ks.length) = m1 := by
      rw [hp, show min ([] : List Opn).length ks.length = 0 from Nat.zero_min _]
      rfl
    rw [e]
    exact s2.mono (fun b _ q => .inl q) (Nat.le_refl _) s2.hK
  · exact Crash_some h hO hK hk hkl hk64 q2
end Go.Proofs.Ytokgegbodbnimaa
