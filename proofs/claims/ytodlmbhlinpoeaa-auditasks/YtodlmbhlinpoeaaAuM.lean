import Derived.Test.YtodlmbhlinpoeaaAuK
import Derived.Test.YtodlmbhlinpoeaaAuL
import Derived.Test.YtodlmbhlinpoeaaAuD
namespace Go.Proofs.Ytodlmbhlinpoeaa
open Go.RowKit

/-- WHAT IS LENT READS AS WHAT IT IS OF. -/
structure Okh (p : Hk) : Prop where
  dp : ∀ al ∈ p.dp, ∀ r ∈ al, isT 55 3 r
  pr : ∀ al ∈ p.pr, ∀ r ∈ al, isT 55 3 r
  cf : ∀ r ∈ p.cf, isT 55 3 r
  pv : ∀ r ∈ p.pv, isT 9 1 r
  fs : ∀ r ∈ p.fs, isT 49 34 r
theorem Cls.ok {w : World} {v : Value} {cl : List (List (List Value))} (h : Cls w v cl) : ∀ al ∈ cl, ∀ r ∈ al, isT 55 3 r := fun al ha => by
  obtain ⟨i, hi, rfl⟩ := List.getElem_of_mem ha
  obtain ⟨a, c, rfl⟩ := h.form
  obtain ⟨b, o, xa, xc, _, _, _, k⟩ := h.at hi
  exact k.ok
theorem HkL.ok {w : World} {p : Hk} {d r c v f : Value} (h : HkL w p d r c v f) : Okh p := ⟨h.dl.ok, h.rl.ok, h.cl.ok, h.vl.ok, h.fl.ok⟩
theorem Hds.okh {w : World} {v : Value} {hs : List Hk} (h : Hds w v hs) : ∀ p ∈ hs, Okh p := fun p hp => by
  obtain ⟨i, hi, rfl⟩ := List.getElem_of_mem hp
  obtain ⟨a, c, rfl⟩ := h.form
  obtain ⟨b, o, cs, d, r, c, v, f, _, _, _, _, k⟩ := h.at hi
  exact k.ok
theorem LHv.lists {l : Nat} {W : World} {p : Hk} {d r c v f u1 u2 : Value} (h : LHv l W p d r c v f u1 u2) (ok : Okh p) : HkL W p d r c v f :=
  ⟨h.dl.cls ok.dp, h.rl.cls ok.pr, h.cl.rws ok.cf, h.vl.rws ok.pv, h.fl.rws ok.fs⟩
theorem Ld.hds {lo : Nat} {W : World} {hs : List Hk} {g cap : Nat} {ov dv pv : Value} {csl : List (List Value)} {od od2 : List Value} (h : Ld lo W hs g cap ov dv pv csl od od2) (ok : ∀ p ∈ hs, Okh p) (c2 : Nat) : Hds W (.slice (some ⟨g, 0, none⟩) hs.length c2) hs := by
  refine ⟨_, _, rfl, fun _ => ⟨g, 0, rfl, (World.ownsRow.lt h.lrow g rfl).2, fun i p hp => ?_⟩⟩
  obtain ⟨cs, u1, u2, k1, k2, k3, l, t, d, r, c, v, f, m1, m2, m3, m4, m5⟩ := h.each i p hp
  refine ⟨cs, d, r, c, v, f, fun j u hj => ?_, m3, (m4 W m2 fun _ _ _ => rfl).lists (ok p (List.mem_of_getElem? hp))⟩
  rw [Nat.zero_add]
  have hq := flat_at h.c44 k1 hj
  refine owns_at h.lrow _ _ ?_
  rw [List.getElem?_append_left (List.getElem?_eq_some_iff.1 hq).1]
  exact hq
/-- WHAT A ROUND OF Stayed LOOKS AT. -/
structure Rd (w : World) (p : Hk) (i b o go gd gp : Nat) (cs : List Value) (gD qD gR qR gC qC gV qV gF qF : Nat) (u1 u2 : Value) (da ra ca va fa : Option Addr) (dc rc cc vc fc : Nat) : Prop where
  len : cs.length = 44
  one : ∀ x ∈ cs, x.oneCell' = true
  c3 : cs[3]? = some (.slice (some ⟨gD, 0, none⟩) p.dp.length qD)
  c4 : cs[4]? = some (.slice (some ⟨gR, 0, none⟩) p.pr.length qR)
  c5 : cs[5]? = some (.slice (some ⟨gC, 0, none⟩) p.cf.length qC)
  c6 : cs[6]? = some (.slice (some ⟨gV, 0, none⟩) p.pv.length qV)
  c7 : cs[7]? = some (.slice (some ⟨gF, 0, none⟩) p.fs.length qF)
  rng : ∀ X, Below w.heap.size w X → X.rangeAt go (i * 44) cs
  cells : ∀ X, Below w.heap.size w X → X.cell? ⟨gd, i, none⟩ = some u1 ∧ X.cell? ⟨gp, i, none⟩ = some u2 ∧ X.cell? ⟨b, o + i * 44 + 3, none⟩ = some (.slice da p.dp.length dc) ∧ X.cell? ⟨b, o + i * 44 + 4, none⟩ = some (.slice ra p.pr.length rc) ∧ X.cell? ⟨b, o + i * 44 + 5, none⟩ = some (.slice ca p.cf.length cc) ∧ X.cell? ⟨b, o + i * 44 + 6, none⟩ = some (.slice va p.pv.length vc) ∧ X.cell? ⟨b, o + i * 44 + 7, none⟩ = some (.slice fa p.fs.length fc) ∧ X.cell? ⟨gC, p.cf.length * 3, none⟩ = some (.string ⟨#[42]⟩) ∧ X.cell? ⟨gF, p.fs.length * 34, none⟩ = some (.string ⟨#[42]⟩)
  hC : p.cf.length + 1 ≤ qC
  hF : p.fs.length + 1 ≤ qF
  k1 : ∀ X, Below w.heap.size w X → Calls Try.prog 20 #[.slice (some ⟨gD, 0, none⟩) p.dp.length qD, u1, .slice da p.dp.length dc] X fun e w' => e = .returned (.bool true) ∧ ∃ n, w' = X.drewN n
  k2 : ∀ X, Below w.heap.size w X → Calls Try.prog 20 #[.slice (some ⟨gR, 0, none⟩) p.pr.length qR, u2, .slice ra p.pr.length rc] X fun e w' => e = .returned (.bool true) ∧ ∃ n, w' = X.drewN n
  k3 : ∀ X, Below w.heap.size w X → Calls Try.prog 21 #[.slice (some ⟨gV, 0, none⟩) p.pv.length qV, .slice va p.pv.length vc] X fun e w' => e = .returned (.bool true) ∧ ∃ n, w' = X.drewN n
theorem Ld.rd {lo : Nat} {w : World} {hs : List Hk} {g cap : Nat} {oa da9 pa : Option Addr} {oc dc9 pc : Nat} {csl : List (List Value)} {od od2 : List Value} (h : Ld lo w hs g cap (.slice oa hs.length oc) (.slice da9 hs.length dc9) (.slice pa hs.length pc) csl od od2) {a : Option Addr} {c : Nat} (k : Hds w (.slice a hs.length c) hs) (hz : ∀ p ∈ hs, HkZ p) {i : Nat} (hi : i < hs.length) :
    ∃ b o go gd gp cs gD qD gR qR gC qC gV qV gF qF ua1 uc1 ua2 uc2 da ra ca va fa dc rc cc vc fc, a = some ⟨b, o, none⟩ ∧ oa = some ⟨go, 0, none⟩ ∧ da9 = some ⟨gd, 0, none⟩ ∧ pa = some ⟨gp, 0, none⟩ ∧ Rd w hs[i] i b o go gd gp cs gD qD gR qR gC qC gV qV gF qF (.slice ua1 (hs[i]).dp.length uc1) (.slice ua2 (hs[i]).pr.length uc2) da ra ca va fa dc rc cc vc fc := by
  obtain ⟨b, o, ins, d1, r1, c1, v1, f1, e1, hbl, hr, kc, kl⟩ := k.at hi
  have ok := kl.ok
  have z := hz _ (List.getElem_mem hi)
  obtain ⟨cs, u1, u2, x1, x2, x3, l, t, d, r, c, v, f, m1, m2, m3, m4, m5⟩ := h.each i _ (List.getElem?_eq_getElem hi)
  have hv := m4 w m2 fun _ _ _ => rfl
  have hvX : ∀ X, Below w.heap.size w X → LHv l X hs[i] d r c v f u1 u2 := fun X hX => m4 X (Nat.le_trans m2 hX.size) fun b _ hb => hX.block b (Nat.lt_of_lt_of_le hb m2)
  obtain ⟨da, dc, rfl⟩ := kl.dl.form
  obtain ⟨ra, rc, rfl⟩ := kl.rl.form
  obtain ⟨ca, cc, rfl⟩ := kl.cl.form
  obtain ⟨va, vc, rfl⟩ := kl.vl.form
  obtain ⟨fa, fc, rfl⟩ := kl.fl.form
  obtain ⟨gD, qD, ua1, uc1, rfl, rfl⟩ := hv.dl.form
  obtain ⟨gR, qR, ua2, uc2, rfl, rfl⟩ := hv.rl.form
  obtain ⟨gC, qC, rfl, hC, _, lC, _, mC⟩ := hv.cl.open ok.cf
  obtain ⟨gV, qV, rfl⟩ := hv.vl.form
  obtain ⟨gF, qF, rfl, hF, _, lF, _, mF⟩ := hv.fl.open ok.fs
  have own : ∀ {e kk : Nat} {xa : Option Addr} {xc : Nat} {xs : List Value}, w.ownsRow lo e kk (.slice xa hs.length xc) hs.length xs → ∃ g, xa = some ⟨g, 0, none⟩ ∧ g < w.heap.size := fun {e kk xa xc xs} q => by
    rcases q.2 with ⟨_, q0⟩ | ⟨g, _, _, e2, _⟩
    · omega
    · cases e2; exact ⟨g, rfl, (World.ownsRow.lt q g rfl).2⟩
  obtain ⟨go, rfl, lo1⟩ := own h.orow
  obtain ⟨gd, rfl, lo2⟩ := own h.drow
  obtain ⟨gp, rfl, lo3⟩ := own h.prow
  refine ⟨b, o, go, gd, gp, cs, gD, qD, gR, qR, gC, qC, gV, qV, gF, qF, ua1, uc1, ua2, uc2, da, ra, ca, va, fa, dc, rc, cc, vc, fc, e1, rfl, rfl, rfl, ⟨m3.len, m3.one, m3.c3, m3.c4, m3.c5, m3.c6, m3.c7, fun X hX j u hj => ?_, fun X hX => ?_, hC, hF, fun X hX => ?_, fun X hX => ?_, fun X hX => ?_⟩⟩
  · exact (hX.cell (p := ⟨go, _, none⟩) lo1).trans (owns_at h.orow _ _ (flat_at h.c44 x1 hj))
  · have q := rangeAt_later hr hbl hX
    exact ⟨(hX.cell (p := ⟨gd, _, none⟩) lo2).trans (owns_at h.drow _ _ x2), (hX.cell (p := ⟨gp, _, none⟩) lo3).trans (owns_at h.prow _ _ x3), q 3 _ kc.c3, q 4 _ kc.c4, q 5 _ kc.c5, q 6 _ kc.c6, q 7 _ kc.c7, (hX.cell (p := ⟨gC, _, none⟩) lC).trans (mC 0 _ rfl), (hX.cell (p := ⟨gF, _, none⟩) lF).trans (mF 0 _ rfl)⟩
  · exact stillClauses_yes (hvX X hX).dl (kl.dl.later hX) ok.dp z.dl z.dls
  · exact stillClauses_yes (hvX X hX).rl (kl.rl.later hX) ok.pr z.rl z.rls
  · exact stillTexts_yes (hvX X hX).vl (kl.vl.later hX) z.vl
end Go.Proofs.Ytodlmbhlinpoeaa
