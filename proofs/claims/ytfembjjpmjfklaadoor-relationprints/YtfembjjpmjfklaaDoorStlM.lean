import Derived.Test.YtfembjjpmjfklaaDoorLenF
import Derived.Test.YtfembjjpmjfklaaDoorSameB
namespace Go.Proofs.YtfembjjpmjfklaaDoor
open Go.RowKit

theorem OwnA.amsB {b : Nat} {W : World} {C n c : Nat} {al : List Am} (h : OwnA b W (.slice (some ⟨C, 0, none⟩) n c) al) : Ams W (.slice (some ⟨C, 0, none⟩) n c) al := by
  have hn : al.length = n := by rcases h.2 with ⟨e, _⟩ | ⟨_, _, _, e, _⟩ <;> cases e; rfl
  have hm : al.length ≤ 9223372036854775807 := by
    rcases h.2 with ⟨e, h0⟩ | ⟨_, cap, _, e, _, _, e4, e5, _⟩
    · omega
    · unfold maxLen at e5; omega
  subst hn
  refine ⟨_, _, rfl, hm, fun i hi => ?_⟩
  obtain ⟨q0, q1, q2⟩ := h.cells i hi
  exact ⟨C, 0, rfl, (World.ownsRow.lt h C rfl).2, by rw [Nat.zero_add]; exact q0, by rw [Nat.zero_add]; exact q1, by rw [Nat.zero_add]; exact q2⟩
theorem LE.ams {lo : Nat} {W : World} {x : Value} {al : List Am} (h : LE lo W x al) : Ams W x al := by
  have ho := h.own
  obtain ⟨C, rfl, -⟩ := h
  exact ho.amsB
theorem LF.cls {lo : Nat} {W : World} {M : Nat} {ms : List Value} {cl : List (List Am)} (h : LF lo W M ms cl cl.length) : Cls W (.slice (some ⟨M, 0, none⟩) cl.length (cl.length + 1)) cl := by
  have hm : cl.length + 1 ≤ 9223372036854775807 := by
    rcases h.row.2 with ⟨e, h0⟩ | ⟨_, cap, _, e, _, _, e4, e5, _⟩
    · omega
    · unfold maxLen at e5; omega
  refine ⟨_, _, rfl, by omega, fun i hi => ?_⟩
  obtain ⟨x, h1, h2⟩ := h.el i hi hi
  have := h.row.cells (g := M) rfl i _ h1
  rw [Go.WideShapes.add_plain] at this
  exact ⟨M, 0, x, rfl, h.ltM.2, this, h2.ams⟩
/-- WHAT still READS AT ONE CLAUSE. -/
theorem LN.at {lo : Nat} {W : World} {M K : Nat} {ms : List Value} {cl : List (List Am)} (h : LN lo W M K ms cl) {k : Nat} (hk : k < cl.length) :
    ∃ C, ms[k]? = some (.slice (some ⟨C, 0, none⟩) cl[k].length (cl[k].length + 1)) := by
  obtain ⟨x, h1, C, rfl, -⟩ := h.lf.el k hk hk
  exact ⟨C, h1⟩
theorem LN.reads {lo : Nat} {W : World} {M K : Nat} {ms : List Value} {cl : List (List Am)} (h : LN lo W M K ms cl) {k C : Nat} (hk : k < cl.length) (hx : ms[k]? = some (.slice (some ⟨C, 0, none⟩) cl[k].length (cl[k].length + 1))) :
    W.cell? ⟨M, k, none⟩ = some (.slice (some ⟨C, 0, none⟩) cl[k].length (cl[k].length + 1)) ∧ W.cell? ⟨C, cl[k].length * 3, none⟩ = some (.string ⟨#[77, 65, 82, 75]⟩) ∧ W.cell? ⟨C, cl[k].length * 3 + 1, none⟩ = some (.int .i64 77) ∧ W.cell? ⟨C, cl[k].length * 3 + 2, none⟩ = some (.string ⟨#[]⟩) := by
  have h0 := h.lf.row.cells (g := M) rfl k _ hx
  rw [Go.WideShapes.add_plain, Nat.zero_add] at h0
  obtain ⟨x, h1, C', e, h2⟩ := h.lf.el k hk hk
  rw [hx] at h1
  cases h1
  cases e
  have hl : (cl[k] ++ [mk1 77]).length = cl[k].length + 1 := by simp
  obtain ⟨q0, q1, q2⟩ := h2.cells cl[k].length (by omega)
  have he : (cl[k] ++ [mk1 77])[cl[k].length]'(by omega) = mk1 77 := by simp
  rw [he] at q0 q1 q2
  exact ⟨h0, q0, q1, q2⟩
theorem LN.last {lo : Nat} {W : World} {M K : Nat} {ms : List Value} {cl : List (List Am)} (h : LN lo W M K ms cl) :
    W.cell? ⟨M, cl.length, none⟩ = some (.slice (some ⟨K, 0, none⟩) 1 1) ∧ W.cell? ⟨K, 0, none⟩ = some (.string ⟨#[77, 65, 82, 75]⟩) ∧ W.cell? ⟨K, 1, none⟩ = some (.int .i64 78) ∧ W.cell? ⟨K, 2, none⟩ = some (.string ⟨#[]⟩) := by
  have h0 := h.lf.row.cells (g := M) rfl cl.length _ h.kl
  rw [Go.WideShapes.add_plain, Nat.zero_add] at h0
  obtain ⟨q0, q1, q2⟩ := h.kk.cells 0 (by simp)
  exact ⟨h0, q0, q1, q2⟩

set_option maxRecDepth 100000 in
set_option maxHeartbeats 8000000 in
theorem still_any (cl : List (List Am)) (lo M K : Nat) (ms : List Value) (v : Value) (W : World) (h : LN lo W M K ms cl) (hv : Cls W v cl) (hN : cl.length ≤ 5864062014804) (hL : ∀ i (h : i < cl.length), cl[i].length ≤ 3518437208883) :
    Calls Tryd.prog 32 #[.slice (some ⟨M, 0, none⟩) cl.length (cl.length + 1), v] W fun e w' => e = .returned (.bool true) ∧ Below W.heap.size W w' := by
  obtain ⟨va, vc, rfl⟩ := hv.shapeL
  have HS := hide (fun (w' : World) (B : Below W.heap.size W w') => sameFieldB cl _ _ w' (h.later B).lf.cls (hv.later B))
  have HLN := hide (fun (w' : World) (B : Below W.heap.size W w') => h.later B)
  have HV := hide (fun (w' : World) (B : Below W.heap.size W w') => hv.later B)
  have HLs := hide (fun (w' : World) (B : Below W.heap.size W w') => (h.later B).last)
  have HLL := hide hL
  clear h hv hL
  obtain ⟨N, hNe⟩ : ∃ N, cl.length = N := ⟨_, rfl⟩
  rw [hNe] at HS HLs hN ⊢
  have B0 := hide ((Below.refl W.heap.size W).drew)
  have j1 : (0 : Int) ≤ (N : Int) + 1 := by omega
  have j2 : (N : Int) + 1 ≤ (N : Int) + 1 := Int.le_refl _
  have j3 : (N : Int) < (N : Int) + 1 := by omega
  have j4 : IntKind.i64.wrap ((N : Int) + 1) = (N : Int) + 1 := by rw [IntKind.wrap_i64]; omega
  have j5 : (0 : Int) ≤ (N : Int) := by omega
  have ce := neqA ⟨#[77, 65, 82, 75]⟩ 78 ⟨#[]⟩
  go_enter Tryd.func32, Tryd.ntmps32
  go_wp2_with fail
  go_region_held3 (fun w' => w'.cell? ⟨M, N, none⟩ = some (.slice (some ⟨K, 0, none⟩) 1 1) ∧ w'.cell? ⟨K, 0, none⟩ = some (.string ⟨#[77, 65, 82, 75]⟩) ∧ w'.cell? ⟨K, 1, none⟩ = some (.int .i64 78) ∧ w'.cell? ⟨K, 2, none⟩ = some (.string ⟨#[]⟩)) (first | exact unhide HLs _ (unhide B0) | exact unhide HLs _ (unhide B5) | exact unhide HLs _ (unhide B6)) (first | (go_at_call 12; refine (unhide HS _ (unhide B0)).mono ?_; rintro x w5 ⟨rfl, hb5⟩; have B5 := hide ((unhide B0).trans (hb5.mono (unhide B0).size)); clear hb5) | (go_at_call 22; refine (markA_any 78 _).mono ?_; rintro x w6 ⟨rfl, hb6⟩; have B6 := hide ((unhide B5).trans (hb6.mono (unhide B5).size)); clear hb6))
  clear HS HLs ce j1 j2 j3 j4
  go_wp2_with fail
  go_loopw [6, 7] (fun iv _ wr => ∃ k : Nat, k ≤ N ∧ iv = .int .i64 k ∧ Hid (Below W.heap.size W wr)) (fun iv _ _ => N - (intOf iv).toNat)
  case atStart => exact ⟨0, Nat.zero_le _, rfl, B6⟩
  case round =>
    clear B0 B5 B6
    obtain ⟨k, hk, rfl, HB⟩ := hrel
    by_cases hlt : k < N
    · have hkl : k < cl.length := by omega
      obtain ⟨C, hC⟩ := (unhide HLN wr (unhide HB)).at hkl
      obtain ⟨b, o, x, rfl, hbl, q0, hx⟩ := (unhide HV wr (unhide HB)).elem k hkl
      obtain ⟨xa, xc, rfl⟩ := hx.shapeL
      have hLk := unhide HLL k hkl
      have F7 := hide (fun (w' : World) (B : Below wr.heap.size wr w') => And.intro ((unhide HLN wr (unhide HB)).later B |>.reads hkl hC) ((B.cell (p := ⟨b, o + k, none⟩) hbl).trans q0))
      have D0 := hide ((Below.refl wr.heap.size wr).drew)
      generalize cl[k].length = L at *
      have j1 : (0 : Int) ≤ (L : Int) + 1 := by omega
      have j2 : (L : Int) + 1 ≤ (L : Int) + 1 := Int.le_refl _
      have j3 : (L : Int) < (L : Int) + 1 := by omega
      have j4 : IntKind.i64.wrap ((L : Int) + 1) = (L : Int) + 1 := by rw [IntKind.wrap_i64]; omega
      have j6 : (0 : Int) ≤ (L : Int) := by omega
      have ce := neqA ⟨#[77, 65, 82, 75]⟩ 77 ⟨#[]⟩
      clear hx
      go_wp2_with fail
      go_region_held3 (fun w' => (w'.cell? ⟨M, k, none⟩ = some (.slice (some ⟨C, 0, none⟩) L (L + 1)) ∧ w'.cell? ⟨C, L * 3, none⟩ = some (.string ⟨#[77, 65, 82, 75]⟩) ∧ w'.cell? ⟨C, L * 3 + 1, none⟩ = some (.int .i64 77) ∧ w'.cell? ⟨C, L * 3 + 2, none⟩ = some (.string ⟨#[]⟩)) ∧ w'.cell? ⟨b, o + k, none⟩ = some (.slice xa L xc)) (first | exact unhide F7 _ (unhide D0)) (fail)
      have D1 := hide (unhide D0).drew
      go_wp2_with fail
      go_region_held3 (fun w' => (w'.cell? ⟨M, k, none⟩ = some (.slice (some ⟨C, 0, none⟩) L (L + 1)) ∧ w'.cell? ⟨C, L * 3, none⟩ = some (.string ⟨#[77, 65, 82, 75]⟩) ∧ w'.cell? ⟨C, L * 3 + 1, none⟩ = some (.int .i64 77) ∧ w'.cell? ⟨C, L * 3 + 2, none⟩ = some (.string ⟨#[]⟩)) ∧ w'.cell? ⟨b, o + k, none⟩ = some (.slice xa L xc)) (first | exact unhide F7 _ (unhide D1) | exact unhide F7 _ (unhide D2)) (first | (go_at_call 22; refine (markA_any 77 _).mono ?_; rintro x w6 ⟨rfl, hb6⟩; have D2 := hide ((unhide D1).trans (hb6.mono (unhide D1).size)); clear hb6))
      have HB9 := hide ((unhide HB).trans ((unhide D2).mono (unhide HB).size))
      clear F7 D0 D1 D2
      go_wp2_with fail
      go_roundw
      case rel => exact ⟨k + 1, by omega, by go_num, HB9⟩
      case measure => simp [intOf]; omega
    · go_wp2_with fail
      go_ret
      exact ⟨rfl, unhide HB⟩

end Go.Proofs.YtfembjjpmjfklaaDoor
