import Derived.Test.YtokgegbodbnimaaPoD
namespace Go.Proofs.Ytokgegbodbnimaa
open Go.RowKit Go.Maps

/-- A CALL OF A SCRIPT, AS IT LIES. -/
structure Sp where
  kd : Int
  nm : Nm
  to : Nm
  ds : List Int
  da : Option Addr
  dc : Nat
  n : Int
  ka : Option Addr
  kn : Nat
  kc : Nat
def Sp.cs (p : Sp) : List Value := [.int .i64 p.kd, .string p.nm, .string p.to, .slice p.da p.ds.length p.dc, .int .i64 p.n, .slice p.ka p.kn p.kc]
def Rs (W : World) (pa : Option Addr) (sc : List Sp) : Prop := sc = [] ∨ ∃ b o, pa = some ⟨b, o, none⟩ ∧ b < W.heap.size ∧ ∀ i (h : i < sc.length), (∀ (j : Nat) u, sc[i].cs[j]? = some u → W.cell? ⟨b, o + i * 6 + j, none⟩ = some u) ∧ Rb W sc[i].da sc[i].ds ∧ (sc[i].da = none → sc[i].ds = []) ∧ sc[i].nm.size ≤ maxLen ∧ sc[i].to.size ≤ maxLen
/-- WHAT A SCRIPT LEAVES. -/
structure Pst where
  m0 : Cn
  m1 : Cn
  pe : List Ope
  u : Int
noncomputable def Pst.does (s : Pst) (r : Int) (o : Ope) : Pst := if r = 0 then ⟨o.cn s.m0, s.m1, s.pe ++ [o], (o.on (s.m0, s.u)).2⟩ else s
noncomputable def Pst.step (s : Pst) (p : Sp) : Pst :=
  if p.kd = 1 then s.does (wrR s.m0 s.u 1073741824 p.nm p.ds.length) (.wr p.nm p.ds)
  else if p.kd = 2 then s.does (apR s.m0 s.u 1073741824 p.nm p.ds.length) (.ap p.nm p.ds)
  else if p.kd = 3 then s.does (trR s.m0 p.nm p.n) (.tr p.nm p.n)
  else if p.kd = 4 then s.does (rnR s.m0 p.nm p.to) (.rn p.nm p.to)
  else if p.kd = 5 then s.does (rmR s.m0 p.nm) (.rm p.nm)
  else if p.kd = 6 then ⟨s.m0, s.m0, [], s.u⟩ else s
noncomputable def runs (sc : List Sp) : Nat → Pst
  | 0 => ⟨fun _ => none, fun _ => none, [], 0⟩
  | i + 1 => match sc[i]? with | some p => (runs sc i).step p | none => runs sc i
def Ks (sc : List Sp) : Nat → Nat
  | 0 => 0
  | i + 1 => match sc[i]? with | some p => Ks sc i + p.ds.length + 2 | none => Ks sc i
theorem Ks_mono (sc : List Sp) : ∀ i j, i ≤ j → Ks sc i ≤ Ks sc j := fun i j h => by
  induction j with
  | zero => obtain rfl : i = 0 := by omega
            exact Nat.le_refl _
  | succ j ih =>
    by_cases e : i = j + 1
    · subst e; exact Nat.le_refl _
    · refine Nat.le_trans (ih (by omega)) ?_
      show Ks sc j ≤ (match sc[j]? with | some p => Ks sc j + p.ds.length + 2 | none => Ks sc j)
      cases sc[j]? with
      | none => exact Nat.le_refl _
      | some p => show Ks sc j ≤ Ks sc j + p.ds.length + 2; omega
/-- THE STORE IS THERE. -/
def St (B n0 : Nat) (s : Pst) (K : Nat) (W : World) : Prop := ∃ M : Mm, Sto (Ob B n0) B M s.m0 s.m1 K W ∧ M.ps.map Opn.e = s.pe ∧ M.cap = 1073741824 ∧ M.u0 = s.u
theorem St.later {B n0 : Nat} {s : Pst} {K : Nat} {W W2 : World} (h : St B n0 s K W) (b : Below W.heap.size W W2) : St B n0 s K W2 := by
  obtain ⟨M, h1, h2⟩ := h
  exact ⟨M, h1.later b, h2⟩
theorem St.mono {B n0 : Nat} {s : Pst} {K K2 : Nat} {W : World} (h : St B n0 s K W) (hk : K ≤ K2) (h2 : K2 ≤ 1099511627776) : St B n0 s K2 W := by
  obtain ⟨M, h1, h3⟩ := h
  exact ⟨M, h1.mono (fun _ _ q => q) hk h2, h3⟩
theorem St.left {B n0 : Nat} {s : Pst} {K : Nat} {W W2 : World} {M : Mm} (h1 : Sto (Ob B n0) B M s.m0 s.m1 K W) (h2 : M.ps.map Opn.e = s.pe ∧ M.cap = 1073741824 ∧ M.u0 = s.u) (hn : n0 ≤ W.heap.size) {o : Ope} {r : Int} (hk : K + o.bytes + 2 ≤ 1099511627776) (l : Left (Ob B n0) B M s.m0 s.m1 K o r W W2) : St B n0 (s.does r o) (K + o.bytes + 2) W2 ∧ Fx (Ob B n0) W W2 := by
  rcases l with ⟨e, M2, q1, q2, q3, q4, q5⟩ | ⟨e, q⟩
  · refine ⟨⟨M2, ?_, ?_, by rw [q3]; exact h2.2.1, ?_⟩, q5.ob hn⟩
    · unfold Pst.does; rw [if_pos e]; exact q1.ob hn
    · unfold Pst.does; rw [if_pos e, q2, h2.1]
    · unfold Pst.does; rw [if_pos e, q4, h2.2.2]
  · refine ⟨?_, Fx.of q⟩
    unfold Pst.does
    rw [if_neg e]
    exact (St.later ⟨M, h1, h2⟩ q).mono (by omega) hk
theorem runs_next {sc : List Sp} {i : Nat} (h : i < sc.length) : runs sc (i + 1) = (runs sc i).step sc[i] ∧ Ks sc (i + 1) = Ks sc i + sc[i].ds.length + 2 := by
  constructor
  · show (match sc[i]? with | some p => (runs sc i).step p | none => runs sc i) = _
    rw [List.getElem?_eq_getElem h]
  · show (match sc[i]? with | some p => Ks sc i + p.ds.length + 2 | none => Ks sc i) = _
    rw [List.getElem?_eq_getElem h]
/-- ONE CALL. -/
theorem st_wr {B n0 : Nat} {s : Pst} {K : Nat} {W : World} (h : St B n0 s K W) (hn : n0 ≤ W.heap.size) (p : Sp) (hk : K + p.ds.length + 2 ≤ 1099511627776) (hk0 : p.kd = 1) (hd : Rb W p.da p.ds) (h0 : p.da = none → p.ds = []) (hx : p.nm.size ≤ maxLen) :
    Calls Try.prog 12 #[.pointer (some ⟨B, 0, none⟩), .string p.nm, .slice p.da p.ds.length p.dc] W fun v W' => (∃ r, v = .returned (.int .i64 r)) ∧ St B n0 (s.step p) (K + p.ds.length + 2) W' ∧ Fx (Ob B n0) W W' := by
  obtain ⟨M, h1, h2⟩ := h
  have es : s.step p = s.does (wrR s.m0 s.u 1073741824 p.nm p.ds.length) (.wr p.nm p.ds) := by
    unfold Pst.step
    rw [hk0]
    rfl
  rw [es]
  refine (Write_any h1 hx p.dc hd h0 hk).mono fun v W' ⟨q0, l⟩ => ?_
  rw [h2.2.1, h2.2.2] at l
  obtain ⟨q1, q2⟩ := St.left (o := .wr p.nm p.ds) h1 h2 hn hk l
  exact ⟨⟨_, q0⟩, ⟨q1.mono (Nat.le_refl _) hk, q2⟩⟩
theorem st_ap {B n0 : Nat} {s : Pst} {K : Nat} {W : World} (h : St B n0 s K W) (hn : n0 ≤ W.heap.size) (p : Sp) (hk : K + p.ds.length + 2 ≤ 1099511627776) (hk0 : p.kd = 2) (hd : Rb W p.da p.ds) (h0 : p.da = none → p.ds = []) (hx : p.nm.size ≤ maxLen) :
    Calls Try.prog 15 #[.pointer (some ⟨B, 0, none⟩), .string p.nm, .slice p.da p.ds.length p.dc] W fun v W' => (∃ r, v = .returned (.int .i64 r)) ∧ St B n0 (s.step p) (K + p.ds.length + 2) W' ∧ Fx (Ob B n0) W W' := by
  obtain ⟨M, h1, h2⟩ := h
  have es : s.step p = s.does (apR s.m0 s.u 1073741824 p.nm p.ds.length) (.ap p.nm p.ds) := by
    unfold Pst.step
    rw [hk0]
    rfl
  rw [es]
  refine (Append_any h1 hx p.dc hd h0 hk).mono fun v W' ⟨q0, l⟩ => ?_
  rw [h2.2.1, h2.2.2] at l
  obtain ⟨q1, q2⟩ := St.left (o := .ap p.nm p.ds) h1 h2 hn hk l
  exact ⟨⟨_, q0⟩, ⟨q1.mono (Nat.le_refl _) hk, q2⟩⟩
theorem st_tr {B n0 : Nat} {s : Pst} {K : Nat} {W : World} (h : St B n0 s K W) (hn : n0 ≤ W.heap.size) (p : Sp) (hk : K + p.ds.length + 2 ≤ 1099511627776) (hk0 : p.kd = 3) (hx : p.nm.size ≤ maxLen) :
    Calls Try.prog 27 #[.pointer (some ⟨B, 0, none⟩), .string p.nm, .int .i64 p.n] W fun v W' => (∃ r, v = .returned (.int .i64 r)) ∧ St B n0 (s.step p) (K + p.ds.length + 2) W' ∧ Fx (Ob B n0) W W' := by
  obtain ⟨M, h1, h2⟩ := h
  have es : s.step p = s.does (trR s.m0 p.nm p.n) (.tr p.nm p.n) := by
    unfold Pst.step
    rw [hk0]
    rfl
  rw [es]
  refine (Truncate_any h1 hx p.n (by omega)).mono fun v W' ⟨q0, l⟩ => ?_
  skip
  obtain ⟨q1, q2⟩ := St.left (o := .tr p.nm p.n) h1 h2 hn (show K + 0 + 2 ≤ 1099511627776 by omega) l
  exact ⟨⟨_, q0⟩, ⟨q1.mono (show K + 0 + 2 ≤ K + p.ds.length + 2 by omega) hk, q2⟩⟩
theorem st_rn {B n0 : Nat} {s : Pst} {K : Nat} {W : World} (h : St B n0 s K W) (hn : n0 ≤ W.heap.size) (p : Sp) (hk : K + p.ds.length + 2 ≤ 1099511627776) (hk0 : p.kd = 4) (hx : p.nm.size ≤ maxLen) (hy : p.to.size ≤ maxLen) :
    Calls Try.prog 28 #[.pointer (some ⟨B, 0, none⟩), .string p.nm, .string p.to] W fun v W' => (∃ r, v = .returned (.int .i64 r)) ∧ St B n0 (s.step p) (K + p.ds.length + 2) W' ∧ Fx (Ob B n0) W W' := by
  obtain ⟨M, h1, h2⟩ := h
  have es : s.step p = s.does (rnR s.m0 p.nm p.to) (.rn p.nm p.to) := by
    unfold Pst.step
    rw [hk0]
    rfl
  rw [es]
  refine (Rename_any h1 hx hy (by omega)).mono fun v W' ⟨q0, l⟩ => ?_
  skip
  obtain ⟨q1, q2⟩ := St.left (o := .rn p.nm p.to) h1 h2 hn (show K + 0 + 2 ≤ 1099511627776 by omega) l
  exact ⟨⟨_, q0⟩, ⟨q1.mono (show K + 0 + 2 ≤ K + p.ds.length + 2 by omega) hk, q2⟩⟩
theorem st_rm {B n0 : Nat} {s : Pst} {K : Nat} {W : World} (h : St B n0 s K W) (hn : n0 ≤ W.heap.size) (p : Sp) (hk : K + p.ds.length + 2 ≤ 1099511627776) (hk0 : p.kd = 5) (hx : p.nm.size ≤ maxLen) :
    Calls Try.prog 24 #[.pointer (some ⟨B, 0, none⟩), .string p.nm] W fun v W' => (∃ r, v = .returned (.int .i64 r)) ∧ St B n0 (s.step p) (K + p.ds.length + 2) W' ∧ Fx (Ob B n0) W W' := by
  obtain ⟨M, h1, h2⟩ := h
  have es : s.step p = s.does (rmR s.m0 p.nm) (.rm p.nm) := by
    unfold Pst.step
    rw [hk0]
    rfl
  rw [es]
  refine (Remove_any h1 hx (by omega)).mono fun v W' ⟨q0, l⟩ => ?_
  skip
  obtain ⟨q1, q2⟩ := St.left (o := .rm p.nm) h1 h2 hn (show K + 0 + 2 ≤ 1099511627776 by omega) l
  exact ⟨⟨_, q0⟩, ⟨q1.mono (show K + 0 + 2 ≤ K + p.ds.length + 2 by omega) hk, q2⟩⟩
theorem st_sy {B n0 : Nat} {s : Pst} {K : Nat} {W : World} (h : St B n0 s K W) (hn : n0 ≤ W.heap.size) (p : Sp) (hk : K + p.ds.length + 2 ≤ 1099511627776) (hk0 : p.kd = 6) :
    Calls Try.prog 13 #[.pointer (some ⟨B, 0, none⟩)] W fun v W' => (∃ r, v = .returned (.int .i64 r)) ∧ St B n0 (s.step p) (K + p.ds.length + 2) W' ∧ Fx (Ob B n0) W W' := by
  obtain ⟨M, h1, h2⟩ := h
  have es : s.step p = ⟨s.m0, s.m0, [], s.u⟩ := by
    unfold Pst.step
    rw [hk0]
    rfl
  rw [es]
  refine (sync_done h1 hn).mono fun v W' ⟨q0, ⟨M2, q1, q2, q3, q4⟩, q5⟩ => ⟨⟨_, q0⟩, St.mono (K := K) ⟨M2, q1, by rw [q2]; rfl, by rw [q3]; exact h2.2.1, by rw [q4]; exact h2.2.2⟩ (by omega) hk, q5⟩
theorem st_no {s : Pst} {p : Sp} (h1 : p.kd ≠ 1) (h2 : p.kd ≠ 2) (h3 : p.kd ≠ 3) (h4 : p.kd ≠ 4) (h5 : p.kd ≠ 5) (h6 : p.kd ≠ 6) : s.step p = s := by
  unfold Pst.step
  rw [if_neg h1, if_neg h2, if_neg h3, if_neg h4, if_neg h5, if_neg h6]
end Go.Proofs.Ytokgegbodbnimaa
