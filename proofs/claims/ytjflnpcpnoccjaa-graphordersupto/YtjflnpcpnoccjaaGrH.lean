import Derived.Test.YtjflnpcpnoccjaaGrG
namespace Go.Proofs.Ytjflnpcpnoccjaa
open Go.RowKit

/-- MARKED, AS NUMBERS. -/
def mi (m : Nat → Bool) (v : Nat) : Int := if m v = true then 0 else -1
def putB (m : Nat → Bool) (u v : Nat) : Bool := if v = u then true else m v
theorem mi_put (m : Nat → Bool) (u : Nat) : mi (putB m u) = put (mi m) u 0 := by
  funext v
  unfold mi putB put
  by_cases e : v = u
  · simp [e]
  · simp [e]
/-- WHAT from HOLDS. -/
structure Fm (E : Nat → Nat → Prop) (S : Nat → Prop) (N : Nat) (m : Nat → Bool) : Prop where
  snd : ∀ v, v < N → m v = true → ∃ k, Wk E S k v
  has : ∀ v, v < N → S v → m v = true
theorem Fm.put {E : Nat → Nat → Prop} {S : Nat → Prop} {N : Nat} {m : Nat → Bool} (h : Fm E S N m) {u v : Nat} (hu : u < N) (hm : m u = true) (e : E u v) : Fm E S N (putB m v) := by
  refine ⟨fun x hx q => ?_, fun x hx q => ?_⟩
  · by_cases ex : x = v
    · subst ex
      obtain ⟨k, hk⟩ := h.snd u hu hm
      exact ⟨k + 1, u, hk, e⟩
    · unfold putB at q
      rw [if_neg ex] at q
      exact h.snd x hx q
  · unfold putB
    split
    · rfl
    · exact h.has x hx q
/-- CLOSED AT A NODE. -/
def Cl (L : Nat → Nat → Int) (m : Nat → Bool) (u i : Nat) : Prop := m u = true → ∀ j, j < i → ∀ v : Nat, L u j = (v : Int) → m v = true
theorem Fm.fin {N : Nat} {ln : Nat → Nat} {L : Nat → Nat → Int} {S : Nat → Prop} {m : Nat → Bool} (hr : rgt N ln L = true) (hS : ∀ v, S v → v < N) (h : Fm (Eg N ln L) S N m) (hc : ∀ u, u < N → Cl L m u (ln u)) {v : Nat} (hv : v < N) : m v = (ds (Eg N ln L) S v != -1) := by
  have hall : ∀ k v, Wk (Eg N ln L) S k v → v < N ∧ m v = true := by
    intro k
    induction k with
    | zero => exact fun v h0 => ⟨hS v h0, h.has v (hS v h0) h0⟩
    | succ k ih =>
      rintro v ⟨u, hu, he⟩
      obtain ⟨h1, h2⟩ := ih u hu
      refine ⟨Eg.lt hr he, ?_⟩
      obtain ⟨_, i, hi, e⟩ := he
      exact hc u h1 h2 i hi v e
  apply b_eq
  constructor
  · intro q
    obtain ⟨k, hk⟩ := h.snd v hv q
    obtain ⟨j, _, e⟩ := ds_of hk
    rw [e]
    simp
  · intro q
    rcases ds_is (Eg N ln L) S v with ⟨e, _⟩ | ⟨k, _, hk, _⟩
    · rw [e] at q
      simp at q
    · exact (hall k v hk).2
theorem bv_put (m : Nat → Bool) (u : Nat) : (fun j => if j = u then Value.bool true else bv m j) = bv (putB m u) := by
  funext j
  unfold bv putB
  by_cases e : j = u
  · rw [if_pos e, if_pos e]
  · rw [if_neg e, if_neg e]
theorem Mv.of_owns {W : World} {base e g n c : Nat} {F : Nat → Value} (h : W.ownsRow base e 1 (.slice (some ⟨g, 0, none⟩) n c) n (vl n F)) : Mv g n e F W := by
  obtain ⟨cur, h1, h2⟩ := owns_blk h
  exact ⟨cur, h1, fun k hk => h2 k _ (vl_at _ _ _ hk)⟩
set_option maxRecDepth 100000 in
set_option maxHeartbeats 4000000 in
theorem rfrom_any {N : Nat} {ln : Nat → Nat} {L : Nat → Nat → Int} (hr : rgt N ln L = true) {S : Nat → Prop} {m0 : Nat → Bool} (hS : ∀ v, S v ↔ v < N ∧ m0 v = true) {na pa : Option Addr} {nc pc : Nat} {w : World} (hN : N ≤ 1048576) (hln : ∀ k, k < N → ln k ≤ 1048576) (hR : Rr w na N ln L) (hF : Rt w pa N m0) :
    Calls Try.prog 47 #[.slice na N nc, .slice pa N pc] w fun x w' => ∃ ga gc, x = .returned (.slice ga N gc) ∧ Rn w.heap.size w' ga N (bv fun v => ds (Eg N ln L) S v != -1) ∧ Below w.heap.size w w' := by
  obtain ⟨i0, hi0, hz0, hz1, hz2⟩ := info_parts infoB
  obtain ⟨v1, W1, r1, ho, hb, hob⟩ := app1 (P := Try.prog) 26 26 4 i0 (.bool false) 1 1 Try.underlying26 hi0 hz0 hz1 hz2 rfl (by decide) N (vl N (bv m0)) (by simp [vl]) (vl_one _ _ fun _ => rfl) (by omega) (by unfold maxLen; omega) pa pc w (Rv.src hF)
  have HFI := hide (fun (m : Nat → Bool) (h : Fm (Eg N ln L) S N m) (hc : ∀ u, u < N → Cl L m u (ln u)) (v : Nat) (hv : v < N) => Fm.fin hr (fun v h => ((hS v).1 h).1) h hc hv)
  have HF0 := hide (show Fm (Eg N ln L) S N m0 from ⟨fun v hv h => ⟨0, (hS v).2 ⟨hv, h⟩⟩, fun v _ h => ((hS v).1 h).2⟩)
  have HEG := hide (show ∀ u i, u < N → i < ln u → ∃ v : Nat, v < N ∧ L u i = (v : Int) ∧ Eg N ln L u v from fun u i hu hi => by
    obtain ⟨v, hv, e⟩ := rgt_at hr hu hi
    exact ⟨v, hv, e, hu, i, hi, e⟩)
  have HR := hide hR
  have HLN := hide hln
  have HB1 := hide hb
  obtain ⟨ga, gc, rfl⟩ := owns_form ho
  have HO := hide ho
  clear hr hS hR hF hln ho hb hob hi0 hz0 hz1 hz2
  generalize Eg N ln L = E at *
  by_cases hN0 : N = 0
  · subst hN0
    go_enter Try.func47, Try.ntmps47
    go_wp2_with ((with_reducible refine wpList_append_run (o := { dst := some 11, op := Op.call { callee := Callee.builtin Builtin.append, args := #[Operand.tmp 9, Operand.tmp 10], argTypes := #[26, 26] }, type := 26, pos := "ref.go:25", after := #[{ on := 0, ground := Ground.data }, { on := 1, ground := Ground.data }], guard := none }) ?m1a (.tmp 9) (.tmp 10) 26 ?m1b _ _ ?m1c ?m1d r1 ?m1e); (case m1a => rfl); (case m1b => rfl); (case m1c => rfl); (case m1d => rfl))
    go_loopg [6, 7, 8] 1 (fun g1 vm _ _ wr => ∃ mb : Bool, vm = .bool mb ∧ (if mb then 1 else 0) ≤ g1 ∧ Hid (Below w.heap.size w wr))
    case atStart => exact ⟨true, rfl, by simp, HB1⟩
    case round =>
      obtain ⟨mb, rfl, hg, HB⟩ := hrel
      cases mb with
      | true =>
        have hg1 : 1 ≤ gk := by simpa using hg
        clear hg
        go_wp2_with fail
        go_loopg [6, 7, 8] 0 (fun _ vm vi _ wr => vm = .bool false ∧ vi = .int .i64 0 ∧ Hid (Below w.heap.size w wr))
        case atStart => exact ⟨rfl, by go_num, HB⟩
        case round =>
          clear HB
          obtain ⟨rfl, rfl, HB⟩ := hrel
          go_wp2_with fail
          go_roundg 0
          case measure => omega
          case rel => exact ⟨false, rfl, by simp, HB⟩
      | false =>
        go_wp2
        go_ret
        exact ⟨ga, gc, rfl, Rn.nil, unhide HB⟩
  · obtain ⟨g, rfl⟩ : ∃ g, ga = some ⟨g, 0, none⟩ := by
      rcases (unhide HO).2 with ⟨_, q⟩ | ⟨g, cap, cur, q, _⟩
      · omega
      · cases q
        exact ⟨g, rfl⟩
    have HG := hide ((unhide HO).lt g rfl).1
    have HM1 := hide (Mv.of_owns (unhide HO))
    have HC0 := hide (cnt_le (mi m0) N)
    clear HO hN0
    go_enter Try.func47, Try.ntmps47
    go_wp2_with ((with_reducible refine wpList_append_run (o := { dst := some 11, op := Op.call { callee := Callee.builtin Builtin.append, args := #[Operand.tmp 9, Operand.tmp 10], argTypes := #[26, 26] }, type := 26, pos := "ref.go:25", after := #[{ on := 0, ground := Ground.data }, { on := 1, ground := Ground.data }], guard := none }) ?m2a (.tmp 9) (.tmp 10) 26 ?m2b _ _ ?m2c ?m2d r1 ?m2e); (case m2a => rfl); (case m2b => rfl); (case m2c => rfl); (case m2d => rfl))
    clear r1
    go_loopg [6, 7, 8] (2 * N + 1) (fun g1 vm _ _ wr => ∃ (mb : Bool) (m : Nat → Bool), vm = .bool mb ∧ Hid (2 * cnt (mi m) N + (if mb then 1 else 0) ≤ g1) ∧ Hid (Fm E S N m) ∧ Hid (mb = false → ∀ u, u < N → Cl L m u (ln u)) ∧ Hid (Mv g N 4 (bv m) wr) ∧ Hid (Below w.heap.size w wr))
    case atStart => exact ⟨true, m0, rfl, hide (by have := unhide HC0; simp; omega), HF0, hide (fun q => by cases q), HM1, HB1⟩
    case round =>
      clear HF0 HM1 HB1 HC0
      obtain ⟨mb, m, rfl, HMS, HFM, HCL, HM, HB⟩ := hrel
      cases mb with
      | true =>
        have HMS2 := hide (show 2 * cnt (mi m) N + 1 ≤ gk from by have := unhide HMS; simpa using this)
        obtain ⟨c0, hc0⟩ : ∃ c0, c0 = cnt (mi m) N := ⟨_, rfl⟩
        rw [← hc0] at HMS2
        have HC := hide (show cnt (mi m) N ≤ c0 from by omega)
        clear HMS HCL hc0
        go_wp2_with fail
        go_loopg [6, 7, 8] N (fun g2 vm vi _ wr => ∃ (mb : Bool) (u : Nat) (m : Nat → Bool), vm = .bool mb ∧ vi = .int .i64 u ∧ u ≤ N ∧ N - u ≤ g2 ∧ Hid (cnt (mi m) N + (if mb then 1 else 0) ≤ c0) ∧ Hid (Fm E S N m) ∧ Hid (mb = false → ∀ x, x < u → Cl L m x (ln x)) ∧ Hid (Mv g N 4 (bv m) wr) ∧ Hid (Below w.heap.size w wr))
        case atStart => exact ⟨false, 0, m, rfl, by go_num, by omega, by omega, hide (by have := unhide HC; simpa using this), HFM, hide (fun _ x hx => by omega), HM, HB⟩
        case round =>
          clear HFM HM HB HC
          obtain ⟨mb, u, m, rfl, rfl, hu, hg2, HC, HFM, HCL, HM, HB⟩ := hrel
          by_cases hlt : u < N
          · have hln := unhide HLN u hlt
            have hu2 : (u : Int) < (N : Int) := by omega
            go_wp2_with fail
            go_loopg [6, 8] (ln u) (fun g3 vm vi wr => ∃ (mb : Bool) (i : Nat) (m : Nat → Bool), vm = .bool mb ∧ vi = .int .i64 i ∧ i ≤ ln u ∧ ln u - i ≤ g3 ∧ Hid (cnt (mi m) N + (if mb then 1 else 0) ≤ c0) ∧ Hid (Fm E S N m) ∧ Hid (mb = false → (∀ x, x < u → Cl L m x (ln x)) ∧ Cl L m u i) ∧ Hid (Mv g N 4 (bv m) wr) ∧ Hid (Below w.heap.size w wr))
            case atStart => exact ⟨mb, 0, m, rfl, by go_num, by omega, by omega, HC, HFM, hide (fun q => ⟨unhide HCL q, fun _ j hj => by omega⟩), HM, HB⟩
            case round =>
              clear HC HFM HCL HM HB
              obtain ⟨mb, i, m, rfl, rfl, hi, hg3, HC, HFM, HCL, HM, HB⟩ := hrel
              obtain ⟨nb, no, ca, cc, rfl, hcn, hri⟩ := ((unhide HR).later (unhide HB)).at hlt
              obtain ⟨cu, _⟩ := (unhide HM).cell hlt
              unfold bv at cu
              by_cases hil : i < ln u
              · have HIL := hide hil
                cases hmu : m u with
                | true =>
                  rw [hmu] at cu
                  obtain ⟨lb, lof, rfl, _, hcl⟩ := hri.at hil
                  obtain ⟨v, hv, ev, hE⟩ := unhide HEG u i hlt hil
                  unfold iv at hcl
                  rw [ev] at hcl
                  have hv2 : (v : Int) < (N : Int) := by omega
                  obtain ⟨cv, fv⟩ := (unhide HM).cell hv
                  unfold bv at cv
                  have HMU := hide hmu
                  have HEV := hide ev
                  have HE := hide hE
                  clear hmu ev hE hri
                  cases hmv : m v with
                  | true =>
                    rw [hmv] at cv
                    have HCL2 := hide (show mb = false → (∀ x, x < u → Cl L m x (ln x)) ∧ Cl L m u (i + 1) from fun q => ⟨(unhide HCL q).1, fun a j hj y ey => by
                      by_cases e : j = i
                      · subst e
                        obtain rfl : v = y := by have := unhide HEV; omega
                        exact hmv
                      · exact (unhide HCL q).2 a j (by omega) y ey⟩)
                    clear hmv HCL
                    generalize ln u = lu at *
                    go_wp2_with fail
                    go_roundg (lu - (i + 1))
                    case measure => omega
                    case rel => exact ⟨mb, i + 1, m, rfl, by go_num, by omega, by omega, HC, HFM, HCL2, HM, HB⟩
                  | false =>
                    rw [hmv] at cv
                    have HFM2 := hide ((unhide HFM).put hlt (unhide HMU) (unhide HE))
                    have HM2 := hide (show Mv g N 4 (bv (putB m v)) (wr.setCell ⟨g, v, none⟩ (.bool true)) from by rw [← bv_put]; exact (unhide HM).set hv _)
                    have HB2 := hide ((unhide HB).setCell (p := ⟨g, v, none⟩) (unhide HG) (.bool true))
                    have HC2 := hide (show cnt (mi (putB m v)) N + 1 ≤ c0 from by
                      rw [mi_put]
                      have h1 := cnt_put (N := N) (f := mi m) (u := v) (x := 0) (by decide) (if_neg (by rw [hmv]; decide)) hv
                      have h2 := unhide HC
                      omega)
                    clear hmv HCL HFM HM HB HC
                    generalize ln u = lu at *
                    go_wp2_with fail
                    generalize wr.setCell ⟨g, v, none⟩ (.bool true) = w2 at *
                    go_wp2_with fail
                    go_roundg (lu - (i + 1))
                    case measure => omega
                    case rel => exact ⟨true, i + 1, _, rfl, by go_num, by omega, by omega, hide (by simpa using unhide HC2), HFM2, hide (fun q => by cases q), HM2, HB2⟩
                | false =>
                  rw [hmu] at cu
                  have HCL2 := hide (show mb = false → ∀ x, x < u + 1 → Cl L m x (ln x) from fun q x hx => by
                    by_cases e : x = u
                    · subst e; exact fun a => by rw [hmu] at a; cases a
                    · exact (unhide HCL q).1 x (by omega))
                  clear hmu hri
                  generalize ln u = lu at hil hcn hi hg3 hln
                  go_wp2_with fail
                  go_roundg (N - (u + 1))
                  case measure => omega
                  case rel => exact ⟨mb, u + 1, m, rfl, by go_num, by omega, by omega, HC, HFM, HCL2, HM, HB⟩
              · have HCL2 := hide (show mb = false → ∀ x, x < u + 1 → Cl L m x (ln x) from fun q x hx => by
                  by_cases e : x = u
                  · subst e
                    obtain rfl : i = ln x := by omega
                    exact (unhide HCL q).2
                  · exact (unhide HCL q).1 x (by omega))
                clear hri
                generalize ln u = lu at hil hcn hi hg3 hln
                go_wp2_with fail
                go_roundg (N - (u + 1))
                case measure => omega
                case rel => exact ⟨mb, u + 1, m, rfl, by go_num, by omega, by omega, HC, HFM, HCL2, HM, HB⟩
          · go_wp2_with fail
            go_roundg (2 * cnt (mi m) N + (if mb then 1 else 0))
            case measure =>
              have h1 := unhide HC
              have h2 := unhide HMS2
              cases mb <;> simp at h1 ⊢ <;> omega
            case rel => exact ⟨mb, m, rfl, hide (Nat.le_refl _), HFM, hide (fun q x hx => unhide HCL q x (by omega)), HM, HB⟩
      | false =>
        have HFN := hide (show Mv g N 4 (bv fun v => ds E S v != -1) wr from (unhide HM).congr fun v hv => by unfold bv; rw [unhide HFI m (unhide HFM) (unhide HCL rfl) v hv])
        clear HFM HCL HM HMS
        go_wp2
        go_ret
        exact ⟨some ⟨g, 0, none⟩, gc, rfl, Rn.of_mv (unhide HFN) (unhide HG), unhide HB⟩
end Go.Proofs.Ytjflnpcpnoccjaa
