import Derived.Test.YtdflllaahjahcaaHeD
namespace Go.Proofs.Ytdflllaahjahcaa
open Go.RowKit

/-- WHAT THE LAW HAS LENT. -/
structure GK (w : World) (na pa : Option Addr) (N q : Nat) (ln : Nat → Nat) (L : Nat → Nat → Int) (fs : Nat → Int) (s1 s2 s3 B cB gs cs : Nat) (g cp : Nat → Nat) (qa : Option Addr) (W : World) : Prop where
  tx : Tx s1 w.heap.size B N cB ln g cp L W
  hd : Rh s1 s2 W qa N (Hd g ln cp)
  st : Mk s2 gs q cs fs W
  gl : gs < s3
  cl : Rr W na N ln L
  fr : Ri W pa q fs
  bel : Below w.heap.size w W
  o : s1 ≤ s2 ∧ s2 ≤ s3
theorem GK.fx {w : World} {na pa : Option Addr} {N q : Nat} {ln : Nat → Nat} {L : Nat → Nat → Int} {fs : Nat → Int} {s1 s2 s3 B cB gs cs : Nat} {g cp : Nat → Nat} {qa : Option Addr} {W W2 : World} {P : Nat → Prop} (h : GK w na pa N q ln L fs s1 s2 s3 B cB gs cs g cp qa W) (f : Fx P W W2) (hp : ∀ b, P b → s3 ≤ b) (hb : Below w.heap.size w W2) (hcl : Rr w na N ln L) (hfr : Ri w pa q fs) : GK w na pa N q ln L fs s1 s2 s3 B cB gs cs g cp qa W2 :=
  ⟨h.tx.fx f (fun b q => by have := hp b q; have := h.o; omega), h.hd.fx f (fun b _ h2 q => by have := hp b q; have := h.o; omega), h.st.fx f (fun q => by have := hp _ q; have := h.gl; omega), h.gl, hcl.later hb, Ri.later hfr hb, hb, h.o⟩
theorem GK.later {w : World} {na pa : Option Addr} {N q : Nat} {ln : Nat → Nat} {L : Nat → Nat → Int} {fs : Nat → Int} {s1 s2 s3 B cB gs cs : Nat} {g cp : Nat → Nat} {qa : Option Addr} {W W2 : World} (h : GK w na pa N q ln L fs s1 s2 s3 B cB gs cs g cp qa W) (hb : Below W.heap.size W W2) : GK w na pa N q ln L fs s1 s2 s3 B cB gs cs g cp qa W2 :=
  ⟨h.tx.later hb, h.hd.later hb, h.st.later hb, h.gl, h.cl.later hb, Ri.later h.fr hb, bl_t h.bel hb, h.o⟩
/-- WHAT HAS BEEN ANSWERED. -/
structure GX (R n : Nat) (F : Nat → Bool) (V : Nat → Int) (s3 s4 s5 s6 s7 s8 s9 s10 s11 s12 s13 : Nat) (ga1 ga2 go ga3 ba : Option Addr) (g1 g2 g0 g3 : Nat) (C1 C2 Cp C3 da : Option Addr) (k1 k2 kp k3 c1 c2 cq c3 : Nat) (W : World) : Prop where
  a1 : Ab s3 s4 ga1 g1 R 4 (bv F) W
  a2 : Ab s4 s5 ga2 g2 R 4 (bv F) W
  oo : Ab s5 s6 go g0 3 4 (bv oF) W
  a3 : Ab s6 s7 ga3 g3 R 4 (bv F) W
  b : Rh s7 s8 W ba R (bv F)
  c1 : Rw s8 s9 C1 k1 n c1 V W
  c2 : Rw s9 s10 C2 k2 n c2 V W
  p : Rw s10 s11 Cp kp 2 cq pF W
  c3 : Rw s11 s12 C3 k3 n c3 V W
  d : Rh s12 s13 W da n (iv V)
  o : s3 ≤ s4 ∧ s4 ≤ s5 ∧ s5 ≤ s6 ∧ s6 ≤ s7 ∧ s7 ≤ s8 ∧ s8 ≤ s9 ∧ s9 ≤ s10 ∧ s10 ≤ s11 ∧ s11 ≤ s12 ∧ s12 ≤ s13
theorem GX.later {R n : Nat} {F : Nat → Bool} {V : Nat → Int} {s3 s4 s5 s6 s7 s8 s9 s10 s11 s12 s13 : Nat} {ga1 ga2 go ga3 ba : Option Addr} {g1 g2 g0 g3 : Nat} {C1 C2 Cp C3 da : Option Addr} {k1 k2 kp k3 c1 c2 cq c3 : Nat} {W W2 : World} (h : GX R n F V s3 s4 s5 s6 s7 s8 s9 s10 s11 s12 s13 ga1 ga2 go ga3 ba g1 g2 g0 g3 C1 C2 Cp C3 da k1 k2 kp k3 c1 c2 cq c3 W) (hb : Below W.heap.size W W2) : GX R n F V s3 s4 s5 s6 s7 s8 s9 s10 s11 s12 s13 ga1 ga2 go ga3 ba g1 g2 g0 g3 C1 C2 Cp C3 da k1 k2 kp k3 c1 c2 cq c3 W2 :=
  ⟨h.a1.later hb, h.a2.later hb, h.oo.later hb, h.a3.later hb, h.b.later hb, h.c1.later hb, h.c2.later hb, h.p.later hb, h.c3.later hb, h.d.later hb, h.o⟩
/-- WHAT MUST STAY. -/
structure GY (R n : Nat) (F : Nat → Bool) (V : Nat → Int) (s4 s5 s7 s8 s9 s10 s12 s13 : Nat) (ga2 ba : Option Addr) (g2 : Nat) (C2 da : Option Addr) (k2 c2 : Nat) (W : World) : Prop where
  a2 : Ab s4 s5 ga2 g2 R 4 (bv F) W
  b : Rh s7 s8 W ba R (bv F)
  c2 : Rw s9 s10 C2 k2 n c2 V W
  d : Rh s12 s13 W da n (iv V)
theorem GY.fx {R n : Nat} {F : Nat → Bool} {V : Nat → Int} {s4 s5 s7 s8 s9 s10 s12 s13 : Nat} {ga2 ba : Option Addr} {g2 : Nat} {C2 da : Option Addr} {k2 c2 : Nat} {W W2 : World} {P : Nat → Prop} (h : GY R n F V s4 s5 s7 s8 s9 s10 s12 s13 ga2 ba g2 C2 da k2 c2 W) (f : Fx P W W2)
    (hp : ∀ b, P b → ¬ ((s4 ≤ b ∧ b < s5) ∨ (s7 ≤ b ∧ b < s8) ∨ (s9 ≤ b ∧ b < s10) ∨ (s12 ≤ b ∧ b < s13))) : GY R n F V s4 s5 s7 s8 s9 s10 s12 s13 ga2 ba g2 C2 da k2 c2 W2 :=
  ⟨h.a2.fx f (fun b h1 h2 q => hp b q (.inl ⟨h1, h2⟩)), h.b.fx f (fun b h1 h2 q => hp b q (.inr (.inl ⟨h1, h2⟩))), h.c2.fx f (fun b h1 h2 q => hp b q (.inr (.inr (.inl ⟨h1, h2⟩)))), h.d.fx f (fun b h1 h2 q => hp b q (.inr (.inr (.inr ⟨h1, h2⟩))))⟩
theorem GY.later {R n : Nat} {F : Nat → Bool} {V : Nat → Int} {s4 s5 s7 s8 s9 s10 s12 s13 : Nat} {ga2 ba : Option Addr} {g2 : Nat} {C2 da : Option Addr} {k2 c2 : Nat} {W W2 : World} (h : GY R n F V s4 s5 s7 s8 s9 s10 s12 s13 ga2 ba g2 C2 da k2 c2 W) (hb : Below W.heap.size W W2) : GY R n F V s4 s5 s7 s8 s9 s10 s12 s13 ga2 ba g2 C2 da k2 c2 W2 :=
  h.fx (P := fun _ => False) (Fx.of hb) (fun _ q => q.elim)
/-- Yes and no turned about up to a place. -/
def flipB (v : Nat → Bool) (i k : Nat) : Bool := if k < i then !v k else v k
def onB (v : Nat → Bool) (i k : Nat) : Bool := if k < i then true else v k
theorem flipB_next (v : Nat → Bool) (i : Nat) : (fun j => if j = i then Value.bool (!v i) else bv (flipB v i) j) = bv (flipB v (i + 1)) := by
  funext j
  unfold bv flipB
  by_cases e : j = i
  · subst e; rw [if_pos rfl, if_pos (by omega)]
  · rw [if_neg e]
    by_cases e2 : j < i
    · rw [if_pos e2, if_pos (by omega)]
    · rw [if_neg e2, if_neg (by omega)]
theorem onB_next (v : Nat → Bool) (i : Nat) : (fun j => if j = i then Value.bool true else bv (onB v i) j) = bv (onB v (i + 1)) := by
  funext j
  unfold bv onB
  by_cases e : j = i
  · subst e; rw [if_pos rfl, if_pos (by omega)]
  · rw [if_neg e]
    by_cases e2 : j < i
    · rw [if_pos e2, if_pos (by omega)]
    · rw [if_neg e2, if_neg (by omega)]
theorem flipB_zero (v : Nat → Bool) : flipB v 0 = v := by
  funext j
  exact if_neg (by omega)
theorem onB_zero (v : Nat → Bool) : onB v 0 = v := by
  funext j
  exact if_neg (by omega)
end Go.Proofs.Ytdflllaahjahcaa
