import Derived.Test.YtcdajbfoneifaaaDoorSoJ
import Derived.Test.YtcdajbfoneifaaaDoorPre
import Derived.Test.YtcdajbfoneifaaaDoorCompare
namespace Go.Proofs.YtcdajbfoneifaaaDoor
open Go.RowKit

/-- A VERSION WHOSE PARTS ARE NOT TOO LONG AND WHOSE EPOCH IS DIGITS. -/
def Dg (v : Ver) : Prop := v.e.size ≤ maxLen ∧ v.u.size ≤ maxLen ∧ v.r.size ≤ maxLen ∧ allB (kind 29) v.e = true
/-- VERSIONS AS THEY LIE IN A BLOCK. -/
def Vr (W : World) (b : Nat) (v : Ver) (k : Nat) : Prop := W.cell? ⟨b, k * 5, none⟩ = some (.string v.e) ∧ W.cell? ⟨b, k * 5 + 1, none⟩ = some (.string v.u) ∧ W.cell? ⟨b, k * 5 + 2, none⟩ = some (.string v.r) ∧ W.cell? ⟨b, k * 5 + 3, none⟩ = some (.bool v.c) ∧ W.cell? ⟨b, k * 5 + 4, none⟩ = some (.bool v.d)
theorem Vr.same {W W' : World} {b k : Nat} {v : Ver} (h : Vr W b v k) (e : ∀ j, W'.cell? ⟨b, j, none⟩ = W.cell? ⟨b, j, none⟩) : Vr W' b v k :=
  ⟨(e _).trans h.1, (e _).trans h.2.1, (e _).trans h.2.2.1, (e _).trans h.2.2.2.1, (e _).trans h.2.2.2.2⟩

set_option maxRecDepth 100000 in
set_option maxHeartbeats 4000000 in
/-- larder/debver.Sort$1: the comparison of two places. -/
theorem sort1_any (X V n cp x y : Nat) (v u : Ver) (hx : x < n) (hy : y < n) (hv : Dg v) (hu : Dg u) (w : World) (hX : X < w.heap.size) (hV : V < w.heap.size) (hb : w.cell? ⟨X, 0, none⟩ = some (.slice (some ⟨V, 0, none⟩) n cp)) (h1 : Vr w V v x) (h2 : Vr w V u y) :
    Calls Tryd.prog 16 #[.int .i64 x, .int .i64 y, .pointer (some ⟨X, 0, none⟩)] w fun e w' => e = .returned (.int .i64 (ordV v u)) ∧ Below w.heap.size w w' := by
  obtain ⟨e, m, r, c, d⟩ := v
  obtain ⟨E, M, R, C, D⟩ := u
  have c1 := hide (fun w' => Order_dig e m r c d E M R C D hv.1 hv.2.1 hv.2.2.1 hu.1 hu.2.1 hu.2.2.1 hv.2.2.2 hu.2.2.2 w')
  generalize ordV ⟨e, m, r, c, d⟩ ⟨E, M, R, C, D⟩ = res at *
  clear hv hu
  have HP := hide (fun (w' : World) (hb' : Below w.heap.size w w') => show (w'.cell? ⟨X, 0, none⟩ = some (.slice (some ⟨V, 0, none⟩) n cp) ∧ w'.cell? ⟨V, x * 5, none⟩ = some (.string e) ∧ w'.cell? ⟨V, x * 5 + 1, none⟩ = some (.string m) ∧ w'.cell? ⟨V, x * 5 + 2, none⟩ = some (.string r) ∧ w'.cell? ⟨V, x * 5 + 3, none⟩ = some (.bool c) ∧ w'.cell? ⟨V, x * 5 + 4, none⟩ = some (.bool d) ∧ w'.cell? ⟨V, y * 5, none⟩ = some (.string E) ∧ w'.cell? ⟨V, y * 5 + 1, none⟩ = some (.string M) ∧ w'.cell? ⟨V, y * 5 + 2, none⟩ = some (.string R) ∧ w'.cell? ⟨V, y * 5 + 3, none⟩ = some (.bool C) ∧ w'.cell? ⟨V, y * 5 + 4, none⟩ = some (.bool D)) from by
    have q1 := h1.same (fun j => hb'.cell (p := ⟨V, j, none⟩) hV)
    have q2 := h2.same (fun j => hb'.cell (p := ⟨V, j, none⟩) hV)
    exact ⟨(hb'.cell (p := ⟨X, 0, none⟩) hX).trans hb, q1.1, q1.2.1, q1.2.2.1, q1.2.2.2.1, q1.2.2.2.2, q2.1, q2.2.1, q2.2.2.1, q2.2.2.2.1, q2.2.2.2.2⟩)
  have B0 := hide ((Below.refl w.heap.size w).drew)
  have bx : (x : Int) < (n : Int) := by omega
  have bY : (y : Int) < (n : Int) := by omega
  clear h1 h2 hb
  go_enter Tryd.func16, Tryd.ntmps16
  go_wp2_with fail
  go_region_held3 (fun w' => w'.cell? ⟨X, 0, none⟩ = some (.slice (some ⟨V, 0, none⟩) n cp) ∧ w'.cell? ⟨V, x * 5, none⟩ = some (.string e) ∧ w'.cell? ⟨V, x * 5 + 1, none⟩ = some (.string m) ∧ w'.cell? ⟨V, x * 5 + 2, none⟩ = some (.string r) ∧ w'.cell? ⟨V, x * 5 + 3, none⟩ = some (.bool c) ∧ w'.cell? ⟨V, x * 5 + 4, none⟩ = some (.bool d) ∧ w'.cell? ⟨V, y * 5, none⟩ = some (.string E) ∧ w'.cell? ⟨V, y * 5 + 1, none⟩ = some (.string M) ∧ w'.cell? ⟨V, y * 5 + 2, none⟩ = some (.string R) ∧ w'.cell? ⟨V, y * 5 + 3, none⟩ = some (.bool C) ∧ w'.cell? ⟨V, y * 5 + 4, none⟩ = some (.bool D)) (first | exact unhide HP _ (unhide B0) | exact unhide HP _ (unhide B1)) (first | (go_at_call 17; refine (unhide c1 _).mono ?_; rintro x1 w11 ⟨rfl, hb11⟩; have B1 := hide ((unhide B0).trans (hb11.mono (unhide B0).size)); clear hb11))
  go_wp2_with fail
  go_ret
  exact ⟨rfl, unhide B1⟩
end Go.Proofs.YtcdajbfoneifaaaDoor
