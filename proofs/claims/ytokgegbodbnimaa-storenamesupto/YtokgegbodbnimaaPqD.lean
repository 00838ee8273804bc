import Derived.Test.YtokgegbodbnimaaPqC
namespace Go.Proofs.Ytokgegbodbnimaa
open Go.RowKit Go.Maps Go.Sort

/-- DOES A CALL NAME THE FILE? -/
def hitP (p : Sp) (x : Nm) : Prop := (1 ≤ p.kd ∧ p.kd ≤ 5) ∧ (p.nm = x ∨ (p.kd = 4 ∧ p.to = x))
noncomputable def nmd (sc : List Sp) (x : Nm) : Nat → Bool
  | 0 => false
  | i + 1 => match sc[i]? with | some p => @ite _ (hitP p x) (Classical.propDecidable _) true (if p.kd = 6 then false else nmd sc x i) | none => nmd sc x i
theorem nmd_hit {sc : List Sp} {x : Nm} {i : Nat} (h : i < sc.length) (q : hitP sc[i] x) : nmd sc x (i + 1) = true := by
  unfold nmd
  rw [List.getElem?_eq_getElem h]
  exact if_pos q
theorem nmd_sync {sc : List Sp} {x : Nm} {i : Nat} (h : i < sc.length) (q : ¬ hitP sc[i] x) (e : sc[i].kd = 6) : nmd sc x (i + 1) = false := by
  unfold nmd
  rw [List.getElem?_eq_getElem h]
  simp only [if_neg q, if_pos e]
theorem nmd_no {sc : List Sp} {x : Nm} {i : Nat} (h : i < sc.length) (q : ¬ hitP sc[i] x) (e : sc[i].kd ≠ 6) : nmd sc x (i + 1) = nmd sc x i := by
  rw [nmd, List.getElem?_eq_getElem h]
  simp only [if_neg q, if_neg e]
theorem does_pe {s : Pst} {r : Int} {o : Ope} {x : Nm} (h : ∀ o ∈ s.pe, x ∉ o.nms) (q : x ∉ o.nms) : ∀ o2 ∈ (s.does r o).pe, x ∉ o2.nms := by
  unfold Pst.does
  split
  · intro o2 ho
    rcases List.mem_append.1 ho with ho | ho
    · exact h o2 ho
    · rw [List.mem_singleton.1 ho]; exact q
  · exact h
theorem nmd_pe (sc : List Sp) (x : Nm) : ∀ i, i ≤ sc.length → nmd sc x i = false → ∀ o ∈ (runs sc i).pe, x ∉ o.nms
  | 0, _, _, o, ho => by cases ho
  | i + 1, hi, hn, o, ho => by
    have hl : i < sc.length := by omega
    have hq : ¬ hitP sc[i] x := fun q => by rw [nmd_hit hl q] at hn; cases hn
    rw [(runs_next hl).1] at ho
    unfold Pst.step at ho
    by_cases h6 : sc[i].kd = 6
    · rw [if_neg (by omega), if_neg (by omega), if_neg (by omega), if_neg (by omega), if_neg (by omega), if_pos h6] at ho
      cases ho
    · have ih := nmd_pe sc x i (by omega) (by rw [← hn, nmd_no hl hq h6])
      revert o ho
      split
      · exact fun o => does_pe ih (fun q => hq ⟨by omega, .inl (List.mem_singleton.1 q).symm⟩) o
      · split
        · exact fun o => does_pe ih (fun q => hq ⟨by omega, .inl (List.mem_singleton.1 q).symm⟩) o
        · split
          · exact fun o => does_pe ih (fun q => hq ⟨by omega, .inl (List.mem_singleton.1 q).symm⟩) o
          · split
            · exact fun o => does_pe ih (fun q => by
                rcases List.mem_cons.1 q with q | q
                · exact hq ⟨by omega, .inl q.symm⟩
                · exact hq ⟨by omega, .inr ⟨by assumption, (List.mem_singleton.1 q).symm⟩⟩) o
            · split
              · exact fun o => does_pe ih (fun q => hq ⟨by omega, .inl (List.mem_singleton.1 q).symm⟩) o
              · exact ih
theorem Ope.cn_other {o : Ope} {m : Cn} {x : Nm} (h : x ∉ o.nms) : o.cn m x = m x := by
  unfold Ope.cn
  cases o with
  | wr y bs => exact up_other _ _ fun e => h (by rw [e]; exact List.mem_singleton.2 rfl)
  | ap y bs =>
    have hy : x ≠ y := fun e => h (by rw [e]; exact List.mem_singleton.2 rfl)
    simp only [Ope.on]
    cases m y with
    | none => rfl
    | some o => exact up_other _ _ hy
  | tr y n =>
    have hy : x ≠ y := fun e => h (by rw [e]; exact List.mem_singleton.2 rfl)
    simp only [Ope.on]
    cases m y with
    | none => rfl
    | some o => exact up_other _ _ hy
  | rn y z =>
    have hy : x ≠ y := fun e => h (by rw [e]; exact List.mem_cons_self)
    have hz : x ≠ z := fun e => h (by rw [e]; exact List.mem_cons_of_mem _ (List.mem_singleton.2 rfl))
    simp only [Ope.on]
    cases m y with
    | none => rfl
    | some o => exact (up_other _ _ hz).trans (up_other _ _ hy)
  | rm y => exact up_other _ _ fun e => h (by rw [e]; exact List.mem_singleton.2 rfl)
theorem Ope.rem_nms {o o' : Ope} {k : Int} (h : o.rem k = some o') : o'.nms = o.nms := by
  unfold Ope.rem at h
  split at h
  · cases h
  · split at h
    · cases h; rfl
    · cases o <;> first | (cases h; rfl) | cases h
theorem crI_other {ps : List Ope} {ks : List Int} {m : Cn} {x : Nm} (h : ∀ o ∈ ps, x ∉ o.nms) : ∀ n, crI ps ks m n x = m x
  | 0 => rfl
  | n + 1 => by
    show stp ps[n]? ks[n]? (crI ps ks m n) x = m x
    have ih := crI_other (ks := ks) (m := m) h n
    unfold stp
    cases ho : ps[n]? with
    | none => exact ih
    | some o =>
      cases hk : ks[n]? with
      | none => exact ih
      | some k =>
        show (match o.rem k with | some o' => o'.cn (crI ps ks m n) | none => crI ps ks m n) x = m x
        cases hr : o.rem k with
        | none => exact ih
        | some o' =>
          show o'.cn (crI ps ks m n) x = m x
          rw [Ope.cn_other (by rw [Ope.rem_nms hr]; exact h o (List.mem_of_getElem? ho))]
          exact ih
/-- A file that nothing pending names is what it was. -/
theorem Sto.at_same {O : Nat → Prop} {B : Nat} {M : Mm} {m0 m1 : Cn} {K : Nat} {W : World} (h : Sto O B M m0 m1 K W) {x : Nm} (e : M.H0 x = M.H1 x) : m0 x = m1 x := by
  obtain ⟨k1, s1, _⟩ := h.s1
  cases hh : M.H0 x with
  | none => rw [h.s0.sc.non x hh, s1.sc.non x (by rw [← e]; exact hh)]
  | some f =>
    obtain ⟨b0, e0, t0⟩ := h.s0.sc.con x f hh
    obtain ⟨b1, e1, t1⟩ := s1.sc.con x f (by rw [← e]; exact hh)
    have hu : u8 b0 = u8 b1 := by
      rcases t0.form with ⟨_, q⟩ | ⟨g, cu, q1, q2, _, _, _, q3⟩
      · have l1 := t1.len
        have l0 := t0.len
        rw [q] at l0
        have : b1 = [] := List.length_eq_zero_iff.1 (by rw [l1, ← l0]; rfl)
        rw [q, this]
      · rcases t1.form with ⟨q4, _⟩ | ⟨g2, cu2, q4, q5, _, _, _, q6⟩
        · rw [q4] at q1; cases q1
        · rw [q1] at q4
          cases q4
          rw [q2] at q5
          injection q5 with q5
          injection q5 with q5 _ _
          subst q5
          rw [← q3, ← q6]
    rw [e0, e1]
    have inj : ∀ a b : List Int, u8 a = u8 b → a = b := fun a b z => by
      unfold u8 at z
      exact (List.map_inj_right (fun p q w => by injection w)).1 z
    rw [inj _ _ hu]
theorem Sto.unt {O : Nat → Prop} {B : Nat} {M : Mm} {m0 m1 : Cn} {K : Nat} {W : World} (h : Sto O B M m0 m1 K W) {x : Nm} (hx : ∀ o ∈ M.ps.map Opn.e, x ∉ o.nms) : m0 x = m1 x := by
  refine h.at_same (h.sam x fun q => ?_)
  obtain ⟨o, ho, q⟩ := List.mem_flatMap.1 q
  exact hx o.e (List.mem_map.2 ⟨o, ho, rfl⟩) q
theorem ba_ne {x y : Nm} (e : x ≠ y) : (ByteArray.toList x == ByteArray.toList y) = false := by
  rw [beq_eq_false_iff_ne, ByteArray.toList_eq, ByteArray.toList_eq]
  exact fun z => e (kl_inj (by unfold kl; rw [z]))
/-- A FILE OF AN IMAGE. -/
def Ofr (W : World) (lo hi : Nat) (bs : List Int) (f : Hd) : Prop := Bt W f bs ∧ ∀ g, bk f = some g → lo ≤ g ∧ g < hi
theorem Ofr.fx {P : Nat → Prop} {W W2 : World} {lo hi : Nat} {bs : List Int} {f : Hd} (h : Ofr W lo hi bs f) (fx : Fx P W W2) (hp : ∀ b, lo ≤ b → b < hi → ¬ P b) : Ofr W2 lo hi bs f := ⟨h.1.fx fx fun g e => hp g (h.2 g e).1 (h.2 g e).2, h.2⟩
theorem Ofr.later {W W2 : World} {lo hi : Nat} {bs : List Int} {f : Hd} (h : Ofr W lo hi bs f) (b : RowKit.Below W.heap.size W W2) : Ofr W2 lo hi bs f := ⟨h.1.later b, h.2⟩
theorem pre_nil (x : Nm) : pre x ⟨#[]⟩ = true := by
  unfold pre
  rw [decide_eq_true (show (⟨#[]⟩ : ByteArray).size ≤ ByteArray.size x from Nat.zero_le _), Bool.true_and]
  have : ByteArray.extract x 0 (ByteArray.size ⟨#[]⟩) = ⟨#[]⟩ := by
    show ByteArray.extract x 0 0 = _
    apply ByteArray.ext
    simp
  rw [this]
  simp
theorem Im.at2 {W : World} {lo hi : Nat} {m : Cn} {v : Value} {L : List (List UInt8 × Hd)} (h : Im W lo hi m v L) {i : Nat} (hi2 : i < L.length) : ∃ (x : List UInt8) (b : Nat) (f : Hd) (bs : List Int) (c : Nat), (nmS m ⟨#[]⟩)[i]? = some x ∧ v = .slice (some ⟨b, 0, none⟩) L.length c ∧ W.cell? ⟨b, i * 2, none⟩ = some (.string (nmOf x)) ∧ W.cell? ⟨b, i * 2 + 1, none⟩ = some (.slice f.a bs.length f.c) ∧ m (nmOf x) = some bs ∧ Ofr W lo hi bs f := by
  obtain ⟨x, b, f, bs, c, q1, q2, q3, q4, q5, q6⟩ := h.at_ hi2
  have ex : L[i].1 = x := by
    rw [← h.nm, List.getElem?_map, List.getElem?_eq_getElem hi2] at q1
    injection q1
  obtain ⟨bs2, r1, r2, r3⟩ := h.dat L[i] (List.getElem_mem hi2)
  have : W.cell? ⟨b, i * 2 + 1, none⟩ = some (hv L[i].2) := by
    rcases h.row.2 with ⟨_, q⟩ | ⟨b', cap, cur, e, _⟩
    · omega
    · rw [e] at q2
      injection q2 with q2 _ _
      injection q2 with q2
      injection q2 with q2 _ _
      subst q2
      have hf := h.row.cells (g := b') (by rw [e]; rfl) (i * 2 + 1) (hv L[i].2) (by
        have hl : ∀ (l : List (List UInt8 × Hd)) (k : Nat) (hk : k < l.length), (l.flatMap fun q => blc q.1 q.2)[k * 2 + 1]? = some (hv l[k].2) := by
          intro l
          induction l with
          | nil => intro k hk; cases hk
          | cons x r ih =>
            intro k hk
            rw [List.flatMap_cons]
            cases k with
            | zero => rfl
            | succ k =>
              rw [List.getElem?_append_right (by show 2 ≤ _; omega)]
              rw [show (k + 1) * 2 + 1 - (blc x.1 x.2).length = k * 2 + 1 by show (k + 1) * 2 + 1 - 2 = _; omega]
              exact ih k (by simpa using hk)
        exact hl L i hi2)
      rw [Addr.add_mid, Nat.zero_add] at hf
      exact hf
  rw [this] at q4
  injection q4 with q4
  rw [ex, q5] at r1
  cases r1
  refine ⟨x, b, L[i].2, bs, c, q1, q2, q3, ?_, q5, r2, r3⟩
  rw [this, r2.len]
  rfl
set_option maxRecDepth 100000 in
set_option maxHeartbeats 4000000 in
theorem of_any {W : World} {lo hi : Nat} {m : Cn} {v : Value} {L : List (List UInt8 × Hd)} (h : Im W lo hi m v L) (hI : IsNms m ⟨#[]⟩ (nmS m ⟨#[]⟩)) (x : Nm) :
    Calls Try.prog 20 #[v, .string x] W fun e W' => ∃ f : Hd, e = .returned (.tuple #[.slice f.a ((m x).getD []).length f.c, .bool (m x).isSome]) ∧ Ofr W lo hi ((m x).getD []) f ∧ W' = W := by
  obtain ⟨n, hn⟩ : ∃ n, n = L.length := ⟨_, rfl⟩
  have hm : n = (nmS m ⟨#[]⟩).length := by rw [hn, h.lenS]
  obtain ⟨a, c, e1⟩ := owns_form h.row
  rw [← hn] at e1
  have AT := hide (fun i (hi : i < n) => by
    have q1 := h.at2 (i := i) (by omega)
    rw [← hn] at q1
    exact q1)
  have hnz : n ≤ 9223372036854775807 := by
    have := h.row
    rcases this.2 with ⟨_, q⟩ | ⟨g, cap, cur, _, _, _, q1, q2, _⟩
    · omega
    · rw [hn]
      exact Nat.le_trans q1 (Nat.le_trans q2 (by decide))
  have HM := hide hm
  have HI := hide hI
  subst e1
  clear h hn hm hI
  have HEND := hide (fun (hno : ∀ i z, (nmS m ⟨#[]⟩)[i]? = some z → nmOf z ≠ x) => show m x = none from by
    cases hh : m x with
    | none => rfl
    | some bs =>
      have := ((unhide HI).2 x).2 ⟨by rw [hh]; simp, pre_nil x⟩
      obtain ⟨i, hi, e⟩ := List.getElem_of_mem this
      exact absurd (nmOf_data x) (hno i x.data.toList (by rw [List.getElem?_eq_getElem hi, e])))
  go_enter Try.func20, Try.ntmps20
  go_wp2_with fail
  go_loopg [6] n (fun g1 vi wr => ∃ i : Nat, vi = .int .i64 i ∧ i ≤ n ∧ n - i ≤ g1 ∧ W = wr ∧ Hid (∀ k z, k < i → (nmS m ⟨#[]⟩)[k]? = some z → nmOf z ≠ x))
  case atStart => exact ⟨0, by go_num, by omega, by omega, rfl, hide fun k z hk => absurd hk (Nat.not_lt_zero _)⟩
  case round =>
    obtain ⟨i, rfl, hile, hg, rfl, HNO⟩ := hrel
    by_cases hlt : i < n
    · have hlt2 : (i : Int) < (n : Int) := by omega
      obtain ⟨x1, b1, f1, bs1, k1, u1, s1, q1, q2, q3, q4⟩ := unhide AT i hlt
      injection s1 with s1 _ t1
      subst s1 t1
      by_cases hx : nmOf x1 = x
      · have HR := hide (show ∃ f : Hd, Value.tuple #[.slice f1.a bs1.length f1.c, .bool true] = .tuple #[.slice f.a ((m x).getD []).length f.c, .bool (m x).isSome] ∧ Ofr W lo hi ((m x).getD []) f from by
          rw [hx] at q3
          rw [q3]
          exact ⟨f1, rfl, q4⟩)
        have hxx := bx_eq x
        rw [hx] at q1
        clear q3 q4 u1 hx
        go_wp2_with fail
        go_ret2
        obtain ⟨f, r1, r2⟩ := unhide HR
        exact ⟨f, by rw [← r1]; rfl, r2, rfl⟩
      · have hxx := ba_ne hx
        have HNX := hide (show ∀ k z, k < i + 1 → (nmS m ⟨#[]⟩)[k]? = some z → nmOf z ≠ x from fun k z hk e => by
          by_cases ek : k = i
          · subst ek
            rw [u1] at e
            injection e with e
            rw [← e]
            exact hx
          · exact unhide HNO k z (by omega) e)
        clear q3 q4 u1 hx HNO
        go_wp2_with fail
        go_roundg (n - (i + 1))
        case measure => omega
        case rel => exact ⟨i + 1, by go_num, by omega, by omega, rfl, HNX⟩
    · obtain rfl : i = n := by omega
      have HR := hide (unhide HEND fun k z e => unhide HNO k z (by have := unhide HM; have := (List.getElem?_eq_some_iff.1 e).1; omega) e)
      go_wp2_with fail
      go_ret2
      refine ⟨⟨none, 0, 0⟩, ?_, ?_, rfl⟩
      · rw [unhide HR]
        rfl
      · rw [unhide HR]
        exact ⟨Bt.nil W, fun g e => by cases e⟩
end Go.Proofs.Ytokgegbodbnimaa
