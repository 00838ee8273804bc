import Derived.Test.YtmckmeoondlcpaaDoorFirst
import Derived.Test.YtmckmeoondlcpaaDoorFirstR
import Derived.Deep.LoopGhost
namespace Go.Proofs.YtmckmeoondlcpaaDoor
open Go.RowKit

theorem bl_t {w w1 w2 : World} (h : Below w.heap.size w w1) (h2 : Below w1.heap.size w1 w2) : Below w.heap.size w w2 := h.trans (h2.mono h.size)
/-- A PACKAGE: ITS CELLS, AND WHAT IS ASKED OF IT. -/
structure Pd where
  cs : List Value
  nm : ByteArray
  vr : ByteArray
  pv : Value
  pl : List ByteArray
def PdOk (w : World) (x : Pd) : Prop := Pkg x.cs x.nm x.vr x.pv ∧ Strs w x.pv x.pl ∧ x.vr.size ≤ maxLen
theorem PdOk.later {w w' : World} {x : Pd} (h : PdOk w x) (hb : Below w.heap.size w w') : PdOk w' x := ⟨h.1, h.2.1.later hb, h.2.2⟩
/-- PACKAGES AS THEY LIE. -/
def Pks (w : World) (v : Value) (ps : List Pd) : Prop := ∃ a c, v = .slice a ps.length c ∧ (0 < ps.length → ∃ b o, a = some ⟨b, o, none⟩ ∧ b < w.heap.size ∧ ∀ (i : Nat) (x : Pd), ps[i]? = some x → w.rangeAt b (o + i * 43) x.cs ∧ PdOk w x)
theorem range_bel {w w' : World} {b o : Nat} {cs : List Value} (h : w.rangeAt b o cs) (hb : b < w.heap.size) (hB : Below w.heap.size w w') : w'.rangeAt b o cs := fun j v hj => (hB.cell (p := ⟨b, _, none⟩) hb).trans (h j v hj)
theorem Pks.later {w w' : World} {v : Value} {ps : List Pd} (h : Pks w v ps) (hb : Below w.heap.size w w') : Pks w' v ps := by
  obtain ⟨a, c, h1, h2⟩ := h
  refine ⟨a, c, h1, fun h0 => ?_⟩
  obtain ⟨b, o, h3, h4, h5⟩ := h2 h0
  exact ⟨b, o, h3, Nat.lt_of_lt_of_le h4 hb.size, fun i x hx => ⟨range_bel (h5 i x hx).1 h4 hb, (h5 i x hx).2.later hb⟩⟩
/-- IS A CLAUSE MET FOR THE ONE AT A PLACE? -/
def hitA (who : Int) (pre : Bool) (al : List At) (i : Nat) (x : Pd) : Bool := !(pre && ((i : Int) == who)) && (firstA al x.nm x.vr x.pl).2
def metA (ps : List Pd) (who : Int) (pre : Bool) (al : List At) : Bool := ps.zipIdx.any fun q => hitA who pre al q.2 q.1
theorem metA_hit {ps : List Pd} {who : Int} {pre : Bool} {al : List At} {i : Nat} {x : Pd} (hx : ps[i]? = some x) (h : hitA who pre al i x = true) : metA ps who pre al = true := by
  unfold metA
  rw [List.any_eq_true]
  exact ⟨(x, i), List.mk_mem_zipIdx_iff_getElem?.2 hx, h⟩
theorem metA_miss {ps : List Pd} {who : Int} {pre : Bool} {al : List At} (h : ∀ (i : Nat) (x : Pd), ps[i]? = some x → hitA who pre al i x = false) : metA ps who pre al = false := by
  unfold metA
  rw [List.any_eq_false]
  rintro ⟨x, i⟩ hq
  rw [h i x (List.mk_mem_zipIdx_iff_getElem?.1 hq)]
  decide
theorem ret_bb {a b : Bool} (h : a = b) : Ending.returned (.bool a) = .returned (.bool b) := by rw [h]
set_option maxRecDepth 100000 in
set_option maxHeartbeats 2000000 in
theorem Met_any (ps : List Pd) (who : Int) (pre : Bool) (al : List At) (v u : Value) (w : World) (hl : ps.length ≤ 4611686018427387904) (hsz : ∀ i (h : i < al.length), al[i].v.size ≤ maxLen) (h : Pks w v ps) (ha : Ats w u al) :
    Calls Tryd.prog 6 #[v, .int .i64 who, u, .bool pre] w fun e w' => e = .returned (.bool (metA ps who pre al)) ∧ Below w.heap.size w w' := by
  have HA := hide ha
  have HSZ := hide hsz
  obtain ⟨a, c, rfl, h2⟩ := h
  have HP := hide h2
  have HI := hide (show (Tryd.prog.info? 38).map (·.size) = some 43 by kernel_rfl)
  clear h2 ha hsz
  obtain ⟨N, hN⟩ : ∃ N, ps.length = N := ⟨_, rfl⟩
  rw [hN] at hl ⊢
  have HN := hide hN
  clear hN
  go_enter Tryd.func6, Tryd.ntmps6
  go_wp2_with fail
  go_loopg [9, 10, 11, 14] N (fun gq _ _ _ vi wr => ∃ i : Nat, vi = .int .i64 i ∧ i ≤ N ∧ N - i ≤ gq ∧ Hid (Below w.heap.size w wr) ∧ Hid (∀ (j : Nat) (x : Pd), j < i → ps[j]? = some x → hitA who pre al j x = false))
  case atStart => exact ⟨0, by go_num, by omega, by omega, hide (Below.refl _ _), hide (fun j x hj => absurd hj (Nat.not_lt_zero _))⟩
  case round =>
    obtain ⟨i, rfl, hi, hg, HB, HM⟩ := hrel
    by_cases hlt : i < N
    · obtain ⟨b, o, rfl, hbw, hc⟩ := unhide HP (by have := unhide HN; omega)
      obtain ⟨x, hx⟩ : ∃ x, ps[i]? = some x := ⟨_, List.getElem?_eq_getElem (by have := unhide HN; omega)⟩
      obtain ⟨hr, hok⟩ := hc i x hx
      have HX := hide hx
      have HR := hide (range_bel hr hbw (unhide HB))
      have cF := hide (First_any al x.nm x.vr x.pv x.pl x.cs u (unhide HSZ) hok.2.2 wr hok.1 (hok.2.1.later (unhide HB)) ((unhide HA).later (unhide HB)))
      have HI2 := hide (show (Tryd.prog.info? 38).map (·.size) = some x.cs.length by rw [hok.1.len]; exact unhide HI)
      have HNX := hide (fun (hf : hitA who pre al i x = false) => (show ∀ (j : Nat) (y : Pd), j < i + 1 → ps[j]? = some y → hitA who pre al j y = false from fun j y hj hy => by
        by_cases e : j = i
        · subst e
          rw [unhide HX] at hy
          cases hy
          exact hf
        · exact unhide HM j y (by omega) hy))
      have HHIT := hide (fun (hf : hitA who pre al i x = true) => metA_hit (unhide HX) hf)
      unfold hitA at HNX HHIT
      clear hc hr hok hx
      by_cases hskip : (pre && ((i : Int) == who)) = true
      · have hp1 : pre = true := by revert hskip; cases pre <;> simp
        have hw1 : ((i : Int) == who) = true := by revert hskip; cases pre <;> simp
        subst hp1
        have HNX2 := hide (unhide HNX (by rw [hw1]; rfl))
        clear HNX HHIT hskip
        go_wp2_with fail
        go_roundg (N - (i + 1))
        case measure => omega
        case rel => exact ⟨i + 1, by go_num, by omega, by omega, HB, HNX2⟩
      · cases pre with
        | false =>
          have hw0 : (false && ((i : Int) == who)) = false := rfl
          clear hskip
          simp only [Bool.false_and, Bool.true_and, Bool.not_false, hw0] at HNX HHIT
          cases hf : firstA al x.nm x.vr x.pl with
          | mk q r =>
            rw [hf] at cF HNX HHIT
            simp only at cF HNX HHIT
            clear hf
            cases r with
            | false =>
              have HNX2 := hide (unhide HNX rfl)
              clear HNX HHIT
              go_wp2_with (first | ((with_reducible refine wpList_load_p (op := { dst := some 28, op := Op.load 38 (Operand.tmp 27), type := 38, pos := "valid.go:38", after := #[{ on := 3, ground := Ground.data }], guard := none }) ?mxa 38 (.tmp 27) ?mxb b (o + i * 43) ?mxc x.cs _ (unhide HR) Tryd.underlying38 ?mxd (unhide HI2) ?mxe); (case mxa => rfl); (case mxb => rfl); (case mxc => rfl); (case mxd => rfl)) | (go_at_call 12; refine (unhide cF).mono ?_; rintro e w5 ⟨rfl, hb5⟩; have HB5 := hide (bl_t (unhide HB) hb5); clear hb5))
              go_roundg (N - (i + 1))
              case measure => omega
              case rel => exact ⟨i + 1, by go_num, by omega, by omega, HB5, HNX2⟩
            | true =>
              have HH2 := hide (unhide HHIT rfl)
              clear HNX HHIT
              go_wp2_with (first | ((with_reducible refine wpList_load_p (op := { dst := some 28, op := Op.load 38 (Operand.tmp 27), type := 38, pos := "valid.go:38", after := #[{ on := 3, ground := Ground.data }], guard := none }) ?nxa 38 (.tmp 27) ?nxb b (o + i * 43) ?nxc x.cs _ (unhide HR) Tryd.underlying38 ?nxd (unhide HI2) ?nxe); (case nxa => rfl); (case nxb => rfl); (case nxc => rfl); (case nxd => rfl)) | (go_at_call 12; refine (unhide cF).mono ?_; rintro e w5 ⟨rfl, hb5⟩; have HB5 := hide (bl_t (unhide HB) hb5); clear hb5))
              go_ret
              exact ⟨ret_bb (unhide HH2).symm, unhide HB5⟩
        | true =>
          have hw0 : ((i : Int) == who) = false := by simpa using hskip
          clear hskip
          simp only [Bool.true_and, Bool.not_false, hw0] at HNX HHIT
          cases hf : firstA al x.nm x.vr x.pl with
          | mk q r =>
            rw [hf] at cF HNX HHIT
            simp only at cF HNX HHIT
            clear hf
            cases r with
            | false =>
              have HNX2 := hide (unhide HNX rfl)
              clear HNX HHIT
              go_wp2_with (first | ((with_reducible refine wpList_load_p (op := { dst := some 28, op := Op.load 38 (Operand.tmp 27), type := 38, pos := "valid.go:38", after := #[{ on := 3, ground := Ground.data }], guard := none }) ?mya 38 (.tmp 27) ?myb b (o + i * 43) ?myc x.cs _ (unhide HR) Tryd.underlying38 ?myd (unhide HI2) ?mye); (case mya => rfl); (case myb => rfl); (case myc => rfl); (case myd => rfl)) | (go_at_call 12; refine (unhide cF).mono ?_; rintro e w5 ⟨rfl, hb5⟩; have HB5 := hide (bl_t (unhide HB) hb5); clear hb5))
              go_roundg (N - (i + 1))
              case measure => omega
              case rel => exact ⟨i + 1, by go_num, by omega, by omega, HB5, HNX2⟩
            | true =>
              have HH2 := hide (unhide HHIT rfl)
              clear HNX HHIT
              go_wp2_with (first | ((with_reducible refine wpList_load_p (op := { dst := some 28, op := Op.load 38 (Operand.tmp 27), type := 38, pos := "valid.go:38", after := #[{ on := 3, ground := Ground.data }], guard := none }) ?nya 38 (.tmp 27) ?nyb b (o + i * 43) ?nyc x.cs _ (unhide HR) Tryd.underlying38 ?nyd (unhide HI2) ?nye); (case nya => rfl); (case nyb => rfl); (case nyc => rfl); (case nyd => rfl)) | (go_at_call 12; refine (unhide cF).mono ?_; rintro e w5 ⟨rfl, hb5⟩; have HB5 := hide (bl_t (unhide HB) hb5); clear hb5))
              go_ret
              exact ⟨ret_bb (unhide HH2).symm, unhide HB5⟩
    · have HF := hide (metA_miss (ps := ps) (who := who) (pre := pre) (al := al) fun j x hx => unhide HM j x (by have := (List.getElem?_eq_some_iff.1 hx).1; have := unhide HN; omega) hx)
      go_wp2_with fail
      go_ret
      exact ⟨ret_bb (unhide HF).symm, unhide HB⟩
set_option maxRecDepth 100000 in
set_option maxHeartbeats 2000000 in
theorem rMet_any (ps : List Pd) (who : Int) (pre : Bool) (al : List At) (v u : Value) (w : World) (hl : ps.length ≤ 4611686018427387904) (hsz : ∀ i (h : i < al.length), al[i].v.size ≤ maxLen) (h : Pks w v ps) (ha : Ats w u al) :
    Calls Tryd.prog 7 #[v, .int .i64 who, u, .bool pre] w fun e w' => e = .returned (.bool (metA ps who pre al)) ∧ Below w.heap.size w w' := by
  have HA := hide ha
  have HSZ := hide hsz
  obtain ⟨a, c, rfl, h2⟩ := h
  have HP := hide h2
  have HI := hide (show (Tryd.prog.info? 38).map (·.size) = some 43 by kernel_rfl)
  clear h2 ha hsz
  obtain ⟨N, hN⟩ : ∃ N, ps.length = N := ⟨_, rfl⟩
  rw [hN] at hl ⊢
  have HN := hide hN
  clear hN
  go_enter Tryd.func7, Tryd.ntmps7
  go_wp2_with fail
  go_loopg [9, 10, 11] N (fun gq vi _ _ wr => ∃ i : Nat, vi = .int .i64 i ∧ i ≤ N ∧ N - i ≤ gq ∧ Hid (Below w.heap.size w wr) ∧ Hid (∀ (j : Nat) (x : Pd), j < i → ps[j]? = some x → hitA who pre al j x = false))
  case atStart => exact ⟨0, by go_num, by omega, by omega, hide (Below.refl _ _), hide (fun j x hj => absurd hj (Nat.not_lt_zero _))⟩
  case round =>
    obtain ⟨i, rfl, hi, hg, HB, HM⟩ := hrel
    by_cases hlt : i < N
    · obtain ⟨b, o, rfl, hbw, hc⟩ := unhide HP (by have := unhide HN; omega)
      obtain ⟨x, hx⟩ : ∃ x, ps[i]? = some x := ⟨_, List.getElem?_eq_getElem (by have := unhide HN; omega)⟩
      obtain ⟨hr, hok⟩ := hc i x hx
      have HX := hide hx
      have HR := hide (range_bel hr hbw (unhide HB))
      have cF := hide (rFirst_any al x.nm x.vr x.pv x.pl x.cs u (unhide HSZ) hok.2.2 wr hok.1 (hok.2.1.later (unhide HB)) ((unhide HA).later (unhide HB)))
      have HI2 := hide (show (Tryd.prog.info? 38).map (·.size) = some x.cs.length by rw [hok.1.len]; exact unhide HI)
      have HNX := hide (fun (hf : hitA who pre al i x = false) => (show ∀ (j : Nat) (y : Pd), j < i + 1 → ps[j]? = some y → hitA who pre al j y = false from fun j y hj hy => by
        by_cases e : j = i
        · subst e
          rw [unhide HX] at hy
          cases hy
          exact hf
        · exact unhide HM j y (by omega) hy))
      have HHIT := hide (fun (hf : hitA who pre al i x = true) => metA_hit (unhide HX) hf)
      unfold hitA at HNX HHIT
      clear hc hr hok hx
      cases hf : firstA al x.nm x.vr x.pl with
      | mk q r =>
        rw [hf] at cF HNX HHIT
        simp only at cF HNX HHIT
        clear hf
        cases r with
        | false =>
          have HNX2 := hide (unhide HNX (by simp))
          clear HNX HHIT
          go_wp2_with (first | ((with_reducible refine wpList_load_p (op := { dst := some 23, op := Op.load 38 (Operand.tmp 22), type := 38, pos := "ref.go:27", after := #[{ on := 3, ground := Ground.data }], guard := none }) ?r1a 38 (.tmp 22) ?r1b b (o + i * 43) ?r1c x.cs _ (unhide HR) Tryd.underlying38 ?r1d (unhide HI2) ?r1e); (case r1a => rfl); (case r1b => rfl); (case r1c => rfl); (case r1d => rfl)) | (go_at_call 13; refine (unhide cF).mono ?_; rintro e w5 ⟨rfl, hb5⟩; have HB5 := hide (bl_t (unhide HB) hb5); clear hb5))
          go_roundg (N - (i + 1))
          case measure => omega
          case rel => exact ⟨i + 1, by go_num, by omega, by omega, HB5, HNX2⟩
        | true =>
          cases pre with
          | false =>
            have HH2 := hide (unhide HHIT rfl)
            clear HNX HHIT
            go_wp2_with (first | ((with_reducible refine wpList_load_p (op := { dst := some 23, op := Op.load 38 (Operand.tmp 22), type := 38, pos := "ref.go:27", after := #[{ on := 3, ground := Ground.data }], guard := none }) ?r2a 38 (.tmp 22) ?r2b b (o + i * 43) ?r2c x.cs _ (unhide HR) Tryd.underlying38 ?r2d (unhide HI2) ?r2e); (case r2a => rfl); (case r2b => rfl); (case r2c => rfl); (case r2d => rfl)) | (go_at_call 13; refine (unhide cF).mono ?_; rintro e w5 ⟨rfl, hb5⟩; have HB5 := hide (bl_t (unhide HB) hb5); clear hb5))
            go_ret
            exact ⟨ret_bb (unhide HH2).symm, unhide HB5⟩
          | true =>
            by_cases hw : ((i : Int) == who) = true
            · have hw2 : ((i : Int) != who) = false := by rw [bne, hw]; rfl
              have HNX2 := hide (unhide HNX (by rw [hw]; rfl))
              clear HNX HHIT
              go_wp2_with (first | ((with_reducible refine wpList_load_p (op := { dst := some 23, op := Op.load 38 (Operand.tmp 22), type := 38, pos := "ref.go:27", after := #[{ on := 3, ground := Ground.data }], guard := none }) ?r3a 38 (.tmp 22) ?r3b b (o + i * 43) ?r3c x.cs _ (unhide HR) Tryd.underlying38 ?r3d (unhide HI2) ?r3e); (case r3a => rfl); (case r3b => rfl); (case r3c => rfl); (case r3d => rfl)) | (go_at_call 13; refine (unhide cF).mono ?_; rintro e w5 ⟨rfl, hb5⟩; have HB5 := hide (bl_t (unhide HB) hb5); clear hb5))
              go_roundg (N - (i + 1))
              case measure => omega
              case rel => exact ⟨i + 1, by go_num, by omega, by omega, HB5, HNX2⟩
            · have hw1 : ((i : Int) == who) = false := by simpa using hw
              have hw2 : ((i : Int) != who) = true := by rw [bne, hw1]; rfl
              clear hw
              have HH2 := hide (unhide HHIT (by rw [hw1]; rfl))
              clear HNX HHIT
              go_wp2_with (first | ((with_reducible refine wpList_load_p (op := { dst := some 23, op := Op.load 38 (Operand.tmp 22), type := 38, pos := "ref.go:27", after := #[{ on := 3, ground := Ground.data }], guard := none }) ?r4a 38 (.tmp 22) ?r4b b (o + i * 43) ?r4c x.cs _ (unhide HR) Tryd.underlying38 ?r4d (unhide HI2) ?r4e); (case r4a => rfl); (case r4b => rfl); (case r4c => rfl); (case r4d => rfl)) | (go_at_call 13; refine (unhide cF).mono ?_; rintro e w5 ⟨rfl, hb5⟩; have HB5 := hide (bl_t (unhide HB) hb5); clear hb5))
              go_ret
              exact ⟨ret_bb (unhide HH2).symm, unhide HB5⟩
    · have HF := hide (metA_miss (ps := ps) (who := who) (pre := pre) (al := al) fun j x hx => unhide HM j x (by have := (List.getElem?_eq_some_iff.1 hx).1; have := unhide HN; omega) hx)
      go_wp2_with fail
      go_ret
      exact ⟨ret_bb (unhide HF).symm, unhide HB⟩
end Go.Proofs.YtmckmeoondlcpaaDoor
