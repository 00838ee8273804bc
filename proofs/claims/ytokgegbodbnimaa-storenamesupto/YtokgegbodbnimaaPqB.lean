import Derived.Test.YtokgegbodbnimaaPqA
namespace Go.Proofs.Ytokgegbodbnimaa
open Go.RowKit Go.Maps Go.Sort

/-- What stands at a place of files that were told. -/
theorem Im.at_ {W : World} {lo hi : Nat} {m : Cn} {v : Value} {L : List (List UInt8 × Hd)} (h : Im W lo hi m v L) {i : Nat} (hi2 : i < L.length) : ∃ (x : List UInt8) (b : Nat) (f : Hd) (bs : List Int) (c : Nat), (nmS m ⟨#[]⟩)[i]? = some x ∧ v = .slice (some ⟨b, 0, none⟩) L.length c ∧ W.cell? ⟨b, i * 2, none⟩ = some (.string (nmOf x)) ∧ W.cell? ⟨b, i * 2 + 1, none⟩ = some (.slice f.a bs.length f.c) ∧ m (nmOf x) = some bs ∧ Bt W f bs := by
  obtain ⟨bs, q1, q2, q3⟩ := h.dat L[i] (List.getElem_mem hi2)
  have en : (nmS m ⟨#[]⟩)[i]? = some L[i].1 := by
    rw [← h.nm, List.getElem?_map, List.getElem?_eq_getElem hi2]
    rfl
  have hf : ∀ j u, (blc L[i].1 L[i].2)[j]? = some u → (L.flatMap fun q => blc q.1 q.2)[i * 2 + j]? = some u := fun j u hj => by
    have hl : ∀ (l : List (List UInt8 × Hd)) (k : Nat) (hk : k < l.length), (blc l[k].1 l[k].2)[j]? = some u → (l.flatMap fun q => blc q.1 q.2)[k * 2 + j]? = some u := by
      intro l
      induction l with
      | nil => intro k hk; cases hk
      | cons x r ih =>
        intro k hk hx
        rw [List.flatMap_cons]
        cases k with
        | zero =>
          rw [List.getElem?_append_left (by have := (List.getElem?_eq_some_iff.1 hx).1; simpa using this)]
          simpa using hx
        | succ k =>
          rw [List.getElem?_append_right (by show 2 ≤ _; omega)]
          have := ih k (by simpa using hk) (by simpa using hx)
          rw [show (k + 1) * 2 + j - (blc x.1 x.2).length = k * 2 + j by show (k + 1) * 2 + j - 2 = _; omega]
          exact this
    exact hl L i hi2 hj
  rcases h.row.2 with ⟨_, q⟩ | ⟨b, cap, cur, rfl, _⟩
  · omega
  · have hc : ∀ j u, (blc L[i].1 L[i].2)[j]? = some u → W.cell? ⟨b, i * 2 + j, none⟩ = some u := fun j u hj => by
      have := h.row.cells (g := b) rfl (i * 2 + j) u (hf j u hj)
      rw [Addr.add_mid, Nat.zero_add] at this
      exact this
    refine ⟨L[i].1, b, L[i].2, bs, cap, en, rfl, hc 0 _ rfl, ?_, q1, q2⟩
    have := hc 1 _ rfl
    rw [this, q2.len]
    rfl
theorem bx_eq (x : Nm) : (ByteArray.toList x == ByteArray.toList x) = true := by simp
set_option maxRecDepth 100000 in
set_option maxHeartbeats 4000000 in
theorem sameFiles_yes {W : World} {lo hi lo2 hi2 : Nat} {m : Cn} {v v2 : Value} {L L2 : List (List UInt8 × Hd)} (h : Im W lo hi m v L) (h2 : Im W lo2 hi2 m v2 L2) (hz : ∀ x bs, m x = some bs → bs.length ≤ 140737488355328) :
    Calls Try.prog 29 #[v, v2] W fun x W' => x = .returned (.bool true) ∧ ∃ t, W' = W.drewN t := by
  obtain ⟨n, hn⟩ : ∃ n, n = L.length := ⟨_, rfl⟩
  have hn2 : n = L2.length := by rw [hn, h.lenS, h2.lenS]
  have hm : n = (nmS m ⟨#[]⟩).length := by rw [hn, h.lenS]
  obtain ⟨a, c, e1⟩ := owns_form h.row
  obtain ⟨a2, c2, e2⟩ := owns_form h2.row
  rw [← hn] at e1
  rw [← hn2] at e2
  have AT := hide (fun i (hi : i < n) => by
    have q1 := h.at_ (i := i) (by omega)
    have q2 := h2.at_ (i := i) (by omega)
    rw [← hn] at q1
    rw [← hn2] at q2
    exact And.intro q1 q2)
  have hnz : n ≤ 9223372036854775807 := by
    have := h.row
    rcases this.2 with ⟨_, q⟩ | ⟨g, cap, cur, _, _, _, q1, q2, _⟩
    · omega
    · rw [hn]
      exact Nat.le_trans q1 (Nat.le_trans q2 (by decide))
  have HM := hide hm
  have HZ := hide hz
  subst e1 e2
  clear h h2 hn hn2 hm hz
  go_enter Try.func29, Try.ntmps29
  go_wp2_with fail
  go_loopg [5] n (fun g1 vi wr => ∃ i d : Nat, vi = .int .i64 i ∧ i ≤ n ∧ n - i ≤ g1 ∧ wr = W.drewN d)
  case atStart => exact ⟨0, 0, by go_num, by omega, by omega, rfl⟩
  case round =>
    obtain ⟨i, d, rfl, hi, hg, hw⟩ := hrel
    have HW := hide hw
    by_cases hlt : i < n
    · have hlt2 : (i : Int) < (n : Int) := by omega
      obtain ⟨⟨x1, b1, f1, bs1, k1, u1, s1, q1, q2, q3, q4⟩, ⟨x2, b2, f2, bs2, k2, u2, s2, r1, r2, r3, r4⟩⟩ := unhide AT i hlt
      have ex : x2 = x1 := by
        rw [u1] at u2
        injection u2 with u2
        exact u2.symm
      subst ex
      have eb : bs2 = bs1 := by
        rw [q3] at r3
        injection r3 with r3
        exact r3.symm
      subst eb
      injection s1 with s1 _ t1
      injection s2 with s2 _ t2
      subst s1 s2 t1 t2
      have bw : RowKit.Below W.heap.size W wr := by rw [hw]; exact bl_drewN W d
      have hc := fun t => same_yes (W := wr.drewN t) (bs := bs2) f1.c f2.c (((q4.later bw).later (bl_drewN _ t)).rb) (((r4.later bw).later (bl_drewN _ t)).rb) (unhide HZ _ _ q3)
      have c1 : wr.cell? ⟨b1, i * 2, none⟩ = some (.string (nmOf x2)) := by rw [hw]; exact q1
      have c2 : wr.cell? ⟨b1, i * 2 + 1, none⟩ = some (.slice f1.a bs2.length f1.c) := by rw [hw]; exact q2
      have c3 : wr.cell? ⟨b2, i * 2, none⟩ = some (.string (nmOf x2)) := by rw [hw]; exact r1
      have c4 : wr.cell? ⟨b2, i * 2 + 1, none⟩ = some (.slice f2.a bs2.length f2.c) := by rw [hw]; exact r2
      generalize nmOf x2 = xx at *
      have HH := hide (And.intro q3 r3)
      have hx := bx_eq xx
      clear q3 r3 q4 r4 u1 u2 q1 q2 r1 r2 bw hw
      have hc := hide hc
      go_upto_region 6 with fail
      go_quiet (first | (go_at_call 17; refine (unhide hc _).mono ?_; rintro e w'' ⟨rfl, t, rfl⟩; exact ⟨rfl, _, by rw [World.drewN_drewN]⟩))
      go_wp2_with fail
      go_roundg (n - (i + 1))
      case measure => omega
      case rel => exact ⟨i + 1, d + nq, by go_num, by omega, by omega, by rw [unhide HW, World.drewN_drewN]⟩
    · obtain rfl : i = n := by omega
      clear hw
      go_wp2_with fail
      go_ret
      exact ⟨rfl, _, unhide HW⟩
end Go.Proofs.Ytokgegbodbnimaa
