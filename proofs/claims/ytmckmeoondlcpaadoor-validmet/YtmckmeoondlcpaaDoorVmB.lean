import Derived.Test.YtmckmeoondlcpaaDoorVmA
import Derived.Deep.QuietTactic
import Derived.BigQuiet
import Derived.Deep.RegionHeld3
namespace Go.Proofs.YtmckmeoondlcpaaDoor
open Go.RowKit

/-- CLAUSES AS THEY LIE. -/
def Cls (w : World) (v : Value) (cl : List (List At)) : Prop := ∃ a c, v = .slice a cl.length c ∧ (0 < cl.length → ∃ b o, a = some ⟨b, o, none⟩ ∧ b < w.heap.size ∧ ∀ (i : Nat) (al : List At), cl[i]? = some al → ∃ xa xc, w.cell? ⟨b, o + i, none⟩ = some (.slice xa al.length xc) ∧ Ats w (.slice xa al.length xc) al)
theorem cell_later {W W2 : World} {p : Addr} {v : Value} (h : W.cell? p = some v) (hb : Below W.heap.size W W2) : W2.cell? p = some v := by
  have hlt := World.block_lt_of_cell? _ _ h
  exact (hb.cell hlt).trans h
theorem Cls.later {w w' : World} {v : Value} {cl : List (List At)} (h : Cls w v cl) (hb : Below w.heap.size w w') : Cls w' v cl := by
  obtain ⟨a, c, h1, h2⟩ := h
  refine ⟨a, c, h1, fun h0 => ?_⟩
  obtain ⟨b, o, h3, h4, h5⟩ := h2 h0
  refine ⟨b, o, h3, Nat.lt_of_lt_of_le h4 hb.size, fun i al hi => ?_⟩
  obtain ⟨xa, xc, h6, h7⟩ := h5 i al hi
  exact ⟨xa, xc, cell_later h6 hb, h7.later hb⟩
theorem atm_neq (n : ByteArray) (op : Int) (v : ByteArray) (w : World) :
    (binOp .neq 33 (.agg #[.string n, .int .i64 op, .string v]) (.agg #[.string n, .int .i64 op, .string v])).run Tryd.prog w = .ok (.bool false) w := by
  go_simp
theorem Ats.at {w : World} {xa : Option Addr} {n xc : Nat} {al : List At} (h : Ats w (.slice xa n xc) al) {k : Nat} {x : At} (hx : al[k]? = some x) : ∃ b o, xa = some ⟨b, o, none⟩ ∧ b < w.heap.size ∧ w.cell? ⟨b, o + k * 3, none⟩ = some (.string x.n) ∧ w.cell? ⟨b, o + k * 3 + 1, none⟩ = some (.int .i64 x.op) ∧ w.cell? ⟨b, o + k * 3 + 2, none⟩ = some (.string x.v) := by
  obtain ⟨hk, rfl⟩ := List.getElem?_eq_some_iff.1 hx
  obtain ⟨a, c, e, _, h2⟩ := h
  obtain ⟨b, o, h3, h4, h5⟩ := h2 k hk
  cases e
  exact ⟨b, o, h3, h4, h5⟩
set_option maxRecDepth 100000 in
set_option maxHeartbeats 4000000 in
theorem sameClauses_any (cl : List (List At)) (v u : Value) (w : World) (hl : cl.length ≤ 4611686018427387904) (hls : ∀ al ∈ cl, al.length ≤ 4611686018427387904) (h1 : Cls w v cl) (h2 : Cls w u cl) :
    Calls Tryd.prog 10 #[v, u] w fun e w' => e = .returned (.bool true) ∧ Below w.heap.size w w' := by
  obtain ⟨va, vc, rfl, hv⟩ := h1
  obtain ⟨ua, uc, rfl, hu⟩ := h2
  have HV := hide hv
  have HU := hide hu
  have HLS := hide hls
  clear hv hu hls
  obtain ⟨N, hN⟩ : ∃ N, cl.length = N := ⟨_, rfl⟩
  rw [hN] at hl ⊢
  have HN := hide hN
  clear hN
  go_enter Tryd.func10, Tryd.ntmps10
  go_wp2_with fail
  go_loopg [5, 6] N (fun gq vi _ wr => ∃ i : Nat, vi = .int .i64 i ∧ i ≤ N ∧ N - i ≤ gq ∧ Hid (Below w.heap.size w wr))
  case atStart => exact ⟨0, by go_num, by omega, by omega, hide (Below.refl _ _)⟩
  case round =>
    obtain ⟨i, rfl, hi, hg, HB⟩ := hrel
    by_cases hlt : i < N
    · have hiz : (i : Int) < (N : Int) := by omega
      obtain ⟨b1, o1, rfl, _, hc1⟩ := unhide HV (by have := unhide HN; omega)
      obtain ⟨b2, o2, rfl, _, hc2⟩ := unhide HU (by have := unhide HN; omega)
      obtain ⟨al, hal⟩ : ∃ al, cl[i]? = some al := ⟨_, List.getElem?_eq_getElem (by have := unhide HN; omega)⟩
      obtain ⟨xa, xc, k1, A1⟩ := hc1 i al hal
      obtain ⟨ya, yc, k2, A2⟩ := hc2 i al hal
      have hla := unhide HLS al (List.mem_of_getElem? hal)
      have c1 := cell_later k1 (unhide HB)
      have c2 := cell_later k2 (unhide HB)
      have HK1 := hide k1
      have HK2 := hide k2
      have HA1 := hide A1
      have HA2 := hide A2
      clear hc1 hc2 k1 k2 A1 A2 hal
      obtain ⟨L, hL⟩ : ∃ L, al.length = L := ⟨_, rfl⟩
      rw [hL] at c1 c2 HK1 HK2 HA1 HA2 hla
      have HL := hide hL
      clear hL
      have i0 : (0 : Int) ≤ (i : Int) := by omega
      go_wp2_with fail
      go_quiet (fail)
      have HB1 := hide (bl_t (unhide HB) (bl_drewN wr nq))
      clear c1 c2 HB
      generalize wr.drewN nq = W1 at *
      go_wp2_with fail
      go_loopg [6] L (fun gq vk wr => ∃ k : Nat, vk = .int .i64 k ∧ k ≤ L ∧ L - k ≤ gq ∧ Hid (Below w.heap.size w wr))
      case atStart => exact ⟨0, by go_num, by omega, by omega, HB1⟩
      case round =>
        clear HB1
        obtain ⟨k, rfl, hk, hgk, HB⟩ := hrel
        have c1 := cell_later (unhide HK1) (unhide HB)
        have c2 := cell_later (unhide HK2) (unhide HB)
        by_cases hlk : k < L
        · have hkz : (k : Int) < (L : Int) := by omega
          obtain ⟨x, hx⟩ : ∃ x, al[k]? = some x := ⟨_, List.getElem?_eq_getElem (by have := unhide HL; omega)⟩
          obtain ⟨p1, q1, rfl, _, d0, d1, d2⟩ := ((unhide HA1).later (unhide HB)).at hx
          obtain ⟨p2, q2, rfl, _, e0, e1, e2⟩ := ((unhide HA2).later (unhide HB)).at hx
          have ce := atm_neq x.n x.op x.v
          clear hx
          generalize x.n = s0 at *
          generalize x.op = s1 at *
          generalize x.v = s2 at *
          have k0 : (0 : Int) ≤ (k : Int) := by omega
          go_wp2_with fail
          go_quiet (fail)
          have HB1 := hide (bl_t (unhide HB) (bl_drewN wr nq))
          clear c1 c2 d0 d1 d2 e0 e1 e2 HB
          generalize wr.drewN nq = W2 at *
          go_wp2_with fail
          go_roundg (L - (k + 1))
          case measure => omega
          case rel => exact ⟨k + 1, by go_num, by omega, by omega, HB1⟩
        · have hkz : ¬ (k : Int) < (L : Int) := by omega
          go_wp2_with fail
          go_roundg (N - (i + 1))
          case measure => omega
          case rel => exact ⟨i + 1, by go_num, by omega, by omega, HB⟩
    · go_wp2_with fail
      go_ret
      exact ⟨rfl, unhide HB⟩
end Go.Proofs.YtmckmeoondlcpaaDoor
