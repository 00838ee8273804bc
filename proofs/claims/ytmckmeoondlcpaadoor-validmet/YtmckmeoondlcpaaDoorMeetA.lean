import Derived.Test.YtmckmeoondlcpaaDoorFitA
import Derived.Test.YtmckmeoondlcpaaDoorMeet
namespace Go.Proofs.YtmckmeoondlcpaaDoor
open Go.RowKit

/-- DOES A PACKAGE (ITS NAME, VERSION, PROVIDES) SATISFY AN ATOM? -/
def meetsA (n : ByteArray) (op : Int) (bd nm vr : ByteArray) (pl : List ByteArray) : Bool :=
  (nm.toList == n.toList && fitsA op bd vr) || (op == 0 && Lib.containsS pl n)

theorem containsB_any (v : Value) (pl : List ByteArray) (x : ByteArray) (w : World) (h : Strs w v pl) :
    Calls Tryd.prog 18 #[v, .string x] w fun e w' => e = .returned (.bool (Lib.containsS pl x)) ∧ Below w.heap.size w w' :=
  (Contains_any v pl x w h).mono fun _ _ ⟨h1, h2⟩ => ⟨h1, h2 ▸ Below.refl _ _⟩

set_option maxRecDepth 20000 in
set_option maxHeartbeats 8000000 in
theorem Meets_any (n : ByteArray) (op : Int) (bd nm vr : ByteArray) (pv : Value) (pl : List ByteArray) (cs : List Value) (hbd : bd.size ≤ maxLen) (hvr : vr.size ≤ maxLen) (w : World) (hp : Pkg cs nm vr pv) (h : Strs w pv pl) :
    Calls Tryd.prog 15 #[.agg #[.string n, .int .i64 op, .string bd], .agg cs.toArray] w fun e w' => e = .returned (.bool (meetsA n op bd nm vr pl)) ∧ Below w.heap.size w w' := by
  obtain ⟨W, hW, hbx, hcells, hB⟩ := boxes_new w n op bd nm vr pv cs hp
  have c1 := hide (fun w => FitsA_any n op bd vr hbd hvr w)
  have HS := hide (fun (w' : World) (hb : Below w.heap.size w w') => containsB_any pv pl n w' (h.later hb))
  have HB := hide hB
  have HX := hide hbx
  obtain ⟨a0, a1, a2, p0, p1, p6, bl, cl⟩ := hbx
  clear hp h hbd hvr hB hcells
  cases hE : (nm.toList == n.toList) <;> cases hF : fitsA op bd vr <;> cases hO : (op == 0) <;> cases hC : Lib.containsS pl n
  all_goals
    rw [hF] at c1
    simp only [hC] at HS
    have HM := hide (show meetsA n op bd nm vr pl = _ by simp only [meetsA, hE, hF, hO, hC]; rfl)
    clear hF hC
    go_enter Tryd.func15, Tryd.ntmps15
    go_wp2_with (first
      | (go_at_call 17; refine (unhide c1 _).mono ?_; rintro e w1 ⟨rfl, hb1⟩; have HB1 := hide ((unhide HB).trans (hb1.mono (unhide HB).size)); obtain ⟨a0', a1', a2', p0', p1', p6', bl', cl'⟩ := (unhide HX).later hb1; have HR1 := hide hb1; clear hb1)
      | (go_at_call 18; refine (unhide HS _ (by first | exact unhide HB1 | exact unhide HB)).mono ?_; rintro e w2 ⟨rfl, hb2⟩; have HB2 := hide hb2; clear hb2))
    go_ret
    exact ⟨ret_bool (unhide HM).symm, by first | exact (unhide HB1).trans ((unhide HB2).mono (unhide HB1).size) | exact (unhide HB).trans ((unhide HB2).mono (unhide HB).size) | exact unhide HB1 | exact unhide HB⟩

end Go.Proofs.YtmckmeoondlcpaaDoor
