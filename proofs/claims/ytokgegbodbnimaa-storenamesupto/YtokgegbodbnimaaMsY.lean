import Derived.Test.YtokgegbodbnimaaMsX
namespace Go.Proofs.Ytokgegbodbnimaa
open Go.RowKit Go.Maps

theorem Sto.ob {B n0 : Nat} {M : Mm} {m0 m1 : Cn} {K n : Nat} {W : World} (h : Sto (Nw (Ob B n0) n) B M m0 m1 K W) (hn : n0 ≤ n) : Sto (Ob B n0) B M m0 m1 K W := h.mono (fun b _ q => Ob_nw hn b q) (Nat.le_refl _) h.hK
theorem Fx.ob {B n0 n : Nat} {W W2 : World} (h : Fx (Nw (Ob B n0) n) W W2) (hn : n0 ≤ n) : Fx (Ob B n0) W W2 := h.mono fun b _ q => Ob_nw hn b q
/-- AN OPERATION WITH BYTES, DONE. -/
theorem write_done {B n0 : Nat} {M : Mm} {m0 m1 : Cn} {K : Nat} {W : World} (h : Sto (Ob B n0) B M m0 m1 K W) (hn0 : n0 ≤ W.heap.size) {x : Nm} (hx : x.size ≤ maxLen) {pa : Option Addr} {bs : List Int} (pc : Nat) (hd : Rb W pa bs) (h0 : pa = none → bs = []) (hK : K + bs.length + 2 ≤ 1099511627776) (hr : wrR m0 M.u0 M.cap x bs.length = 0) :
    Calls Try.prog 12 #[.pointer (some ⟨B, 0, none⟩), .string x, .slice pa bs.length pc] W fun v W' => v = .returned (.int .i64 0) ∧ (∃ M2 : Mm, Sto (Ob B n0) B M2 ((Ope.wr x bs).cn m0) m1 (K + bs.length + 2) W' ∧ M2.ps.map Opn.e = M.ps.map Opn.e ++ [.wr x bs] ∧ M2.cap = M.cap ∧ M2.u0 = ((Ope.wr x bs).on (m0, M.u0)).2) ∧ Fx (Ob B n0) W W' := by
  refine (Write_any h hx pc hd h0 hK).mono fun v W' ⟨q0, q⟩ => ?_
  rw [hr] at q0 q
  rcases q with ⟨_, M2, q1, q2, q3, q4, q5⟩ | ⟨q, _⟩
  · exact ⟨q0, ⟨M2, q1.ob hn0, q2, q3, q4⟩, q5.ob hn0⟩
  · exact absurd rfl q
theorem append_done {B n0 : Nat} {M : Mm} {m0 m1 : Cn} {K : Nat} {W : World} (h : Sto (Ob B n0) B M m0 m1 K W) (hn0 : n0 ≤ W.heap.size) {x : Nm} (hx : x.size ≤ maxLen) {pa : Option Addr} {bs : List Int} (pc : Nat) (hd : Rb W pa bs) (h0 : pa = none → bs = []) (hK : K + bs.length + 2 ≤ 1099511627776) (hr : apR m0 M.u0 M.cap x bs.length = 0) :
    Calls Try.prog 15 #[.pointer (some ⟨B, 0, none⟩), .string x, .slice pa bs.length pc] W fun v W' => v = .returned (.int .i64 0) ∧ (∃ M2 : Mm, Sto (Ob B n0) B M2 ((Ope.ap x bs).cn m0) m1 (K + bs.length + 2) W' ∧ M2.ps.map Opn.e = M.ps.map Opn.e ++ [.ap x bs] ∧ M2.cap = M.cap ∧ M2.u0 = ((Ope.ap x bs).on (m0, M.u0)).2) ∧ Fx (Ob B n0) W W' := by
  refine (Append_any h hx pc hd h0 hK).mono fun v W' ⟨q0, q⟩ => ?_
  rw [hr] at q0 q
  rcases q with ⟨_, M2, q1, q2, q3, q4, q5⟩ | ⟨q, _⟩
  · exact ⟨q0, ⟨M2, q1.ob hn0, q2, q3, q4⟩, q5.ob hn0⟩
  · exact absurd rfl q
theorem sync_done {B n0 : Nat} {M : Mm} {m0 m1 : Cn} {K : Nat} {W : World} (h : Sto (Ob B n0) B M m0 m1 K W) (hn0 : n0 ≤ W.heap.size) :
    Calls Try.prog 13 #[.pointer (some ⟨B, 0, none⟩)] W fun v W' => v = .returned (.int .i64 0) ∧ (∃ M2 : Mm, Sto (Ob B n0) B M2 m0 m0 K W' ∧ M2.ps = [] ∧ M2.cap = M.cap ∧ M2.u0 = M.u0) ∧ Fx (Ob B n0) W W' :=
  (Sync_any h).mono fun _ _ ⟨q0, M2, q1, q2, q3, q4, q5⟩ => ⟨q0, ⟨M2, q1.ob hn0, q2, q3, q4⟩, q5.ob hn0⟩
/-- THE NUMBERS OF A CHOICE, ANYWHERE. -/
def Rz (W : World) (ka : Option Addr) (ks : List Int) : Prop := ks = [] ∨ ∃ b o, ka = some ⟨b, o, none⟩ ∧ b < W.heap.size ∧ ∀ j (h : j < ks.length), W.cell? ⟨b, o + j, none⟩ = some (.int .i64 ks[j])
theorem crash_done {B n0 : Nat} {M : Mm} {m0 m1 : Cn} {K : Nat} {W : World} (h : Sto (Ob B n0) B M m0 m1 K W) (hn0 : n0 ≤ W.heap.size) {W1 : World} (hb : Below W.heap.size W W1) (hK : 4 * K ≤ 1099511627776) {ka : Option Addr} {ks : List Int} (kc : Nat) (hk : ks = [] ∨ ∃ b o, ka = some ⟨b, o, none⟩ ∧ b < W1.heap.size ∧ (W.heap.size ≤ b ∨ (b < n0 ∧ b ≠ B)) ∧ ∀ j (h : j < ks.length), W1.cell? ⟨b, o + j, none⟩ = some (.int .i64 ks[j])) (hkl : ks.length ≤ 1099511627776) (hk64 : ∀ k ∈ ks, k ≤ 9223372036854775807) (hps : M.ps ≠ []) :
    Calls Try.prog 14 #[.pointer (some ⟨B, 0, none⟩), .agg #[.slice ka ks.length kc]] W1 fun v W' => v = .returned (.int .i64 0) ∧ (∃ M2 : Mm, Sto (Ob B n0) B M2 (crI (M.ps.map Opn.e) ks m1 (min M.ps.length ks.length)) (crI (M.ps.map Opn.e) ks m1 (min M.ps.length ks.length)) (4 * K) W' ∧ M2.ps = [] ∧ M2.cap = M.cap) ∧ Fx (Ob B n0) W W' := by
  have h2 : Sto (fun b => Ob B n0 b ∧ b < W.heap.size) B M m0 m1 K W1 := (h.mono (O2 := fun b => Ob B n0 b ∧ b < W.heap.size) (fun b hb q => ⟨q, hb⟩) (Nat.le_refl _) h.hK).later hb
  have hs := hb.size
  obtain ⟨g, pc, hpv⟩ : ∃ g pc, M.pv = .slice (some ⟨g, 0, none⟩) M.ps.length pc := by
    rcases h.pen.2 with ⟨_, q⟩ | ⟨g2, cp, cu, q2, _⟩
    · exact absurd (List.length_eq_zero_iff.1 q) hps
    · exact ⟨g2, cp, q2⟩
  refine (Crash_some (kc := kc) h2 (fun b q => Nat.lt_of_lt_of_le q.2 hs) hK (ka := ka) (ks := ks) ?_ hkl hk64 hpv).mono fun v W' ⟨q0, M2, q1, q2, q3, q4⟩ => ⟨q0, ⟨M2, ?_, q2, q3⟩, ?_⟩
  · rcases hk with q | ⟨b, o, q1, q2, q3, q4⟩
    · exact .inl q
    · refine .inr ⟨b, o, q1, q2, fun z => ?_, q4⟩
      rcases q3 with q3 | ⟨q3, q5⟩
      · have := z.2
        omega
      · rcases z.1 with z | z
        · exact q5 z
        · omega
  · refine q1.mono (fun b _ q => ?_) (Nat.le_refl _) q1.hK
    rcases q with q | q
    · exact q.1
    · exact .inr (by omega)
  · refine (Fx.of hb).next q4 fun b hb2 q => ?_
    rcases q with q | q
    · exact q.1
    · omega
theorem isNm_ff : isNm ⟨#[102, 102]⟩ = true := isNm_mk ⟨by decide, by decide, fun i hi _ => by
  have : i = 0 ∨ i = 1 := by
    have : i < 2 := hi
    omega
  rcases this with rfl | rfl
  · exact ⟨show (33 : Int) ≤ ((102 : UInt8).toNat : Int) by decide, show ((102 : UInt8).toNat : Int) ≤ 126 by decide⟩
  · exact ⟨show (33 : Int) ≤ ((102 : UInt8).toNat : Int) by decide, show ((102 : UInt8).toNat : Int) ≤ 126 by decide⟩⟩
theorem isNm_aa : isNm ⟨#[97, 97]⟩ = true := isNm_mk ⟨by decide, by decide, fun i hi _ => by
  have : i = 0 ∨ i = 1 := by
    have : i < 2 := hi
    omega
  rcases this with rfl | rfl
  · exact ⟨show (33 : Int) ≤ ((97 : UInt8).toNat : Int) by decide, show ((97 : UInt8).toNat : Int) ≤ 126 by decide⟩
  · exact ⟨show (33 : Int) ≤ ((97 : UInt8).toNat : Int) by decide, show ((97 : UInt8).toNat : Int) ≤ 126 by decide⟩⟩
theorem isNm_bb : isNm ⟨#[98, 98]⟩ = true := isNm_mk ⟨by decide, by decide, fun i hi _ => by
  have : i = 0 ∨ i = 1 := by
    have : i < 2 := hi
    omega
  rcases this with rfl | rfl
  · exact ⟨show (33 : Int) ≤ ((98 : UInt8).toNat : Int) by decide, show ((98 : UInt8).toNat : Int) ≤ 126 by decide⟩
  · exact ⟨show (33 : Int) ≤ ((98 : UInt8).toNat : Int) by decide, show ((98 : UInt8).toNat : Int) ≤ 126 by decide⟩⟩
theorem cnt_none : cnt (fun _ => none) = 0 := cnt_eq (l := []) List.nodup_nil fun x => by simp
theorem wrR_first {c : Int} {x : Nm} {n : Nat} (hn : isNm x = true) (h1 : (n : Int) ≤ c) (h2 : n ≤ 1073741824) : wrR (fun _ => none) 0 c x n = 0 := by
  have ef : full (fun _ => none) 0 c x n = false := by
    unfold full
    rw [cnt_none]
    have e : wrap64 ((n : Int) - (lnC ((fun _ => none : Cn) x) : Int)) = (n : Int) := by
      show wrap64 ((n : Int) - 0) = n
      rw [Int.sub_zero]
      exact wrap64_id (by omega) (by omega)
    rw [e]
    unfold lks
    have e2 : wrap64 (0 + (n : Int)) = (n : Int) := by rw [Int.zero_add]; exact wrap64_id (by omega) (by omega)
    rw [e2, decide_eq_false (show ¬ (c < (n : Int)) by omega)]
    simp
  unfold wrR
  rw [if_pos hn, ef]
  rfl
theorem usP_first (n : Nat) (h : n ≤ 1073741824) : usP 0 n 0 = (n : Int) := by
  unfold usP
  rw [Int.zero_add]
  show wrap64 (wrap64 ((n : Int) - 0)) = n
  rw [Int.sub_zero, wrap64_id (n := (n : Int)) (by omega) (by omega), wrap64_id (n := (n : Int)) (by omega) (by omega)]
theorem wrR_next {m : Cn} {c : Int} {x : Nm} {o : List Int} {n : Nat} (hn : isNm x = true) (hm : m x = some o) (h0 : o.length ≤ 1073741824) (h1 : (n : Int) ≤ c) (h2 : n ≤ 1073741824) : wrR m (o.length : Int) c x n = 0 := by
  have ef : full m (o.length : Int) c x n = false := by
    unfold full
    rw [hm]
    have e : wrap64 ((n : Int) - (lnC (some o) : Int)) = (n : Int) - (o.length : Int) := wrap64_id (by show _ ≤ (n : Int) - (o.length : Int); omega) (by show (n : Int) - (o.length : Int) ≤ _; omega)
    rw [e]
    unfold lks
    have e2 : wrap64 ((o.length : Int) + ((n : Int) - (o.length : Int))) = (n : Int) := by
      rw [show (o.length : Int) + ((n : Int) - (o.length : Int)) = (n : Int) by omega]
      exact wrap64_id (by omega) (by omega)
    rw [e2, decide_eq_false (show ¬ (c < (n : Int)) by omega)]
    simp
  unfold wrR
  rw [if_pos hn, ef]
  rfl
theorem apR_next {m : Cn} {c : Int} {x : Nm} {o : List Int} {n : Nat} (hn : isNm x = true) (hm : m x = some o) (h0 : o.length ≤ 1073741824) (h1 : (o.length : Int) + (n : Int) ≤ c) (h2 : n ≤ 1073741824) : apR m (o.length : Int) c x n = 0 := by
  unfold apR
  rw [if_pos hn, hm]
  have e2 : wrap64 ((o.length : Int) + (n : Int)) = (o.length : Int) + (n : Int) := wrap64_id (by omega) (by omega)
  have el : lks (o.length : Int) c (n : Int) = false := by
    unfold lks
    rw [e2, decide_eq_false (show ¬ (c < (o.length : Int) + (n : Int)) by omega)]
    simp
  show (if lks (o.length : Int) c (n : Int) = true then (142 : Int) else 0) = 0
  rw [el]
  rfl
end Go.Proofs.Ytokgegbodbnimaa
