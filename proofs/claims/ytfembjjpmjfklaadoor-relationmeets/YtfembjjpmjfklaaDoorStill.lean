import Derived.Test.YtfembjjpmjfklaaDoorLent4
namespace Go.Proofs.YtfembjjpmjfklaaDoor
open Go.RowKit

theorem Lent.ats {w W : World} {M C K : Nat} {al : List At} (h : Lent w W M C K al) (hal : al.length ≤ 3074457345618258602) : Ats W (.slice (some ⟨C, 0, none⟩) al.length (al.length + 1)) al :=
  ⟨_, _, rfl, hal, fun i hi => ⟨C, 0, rfl, h.ltC, by rw [Nat.zero_add]; exact (h.elem i hi).1, by rw [Nat.zero_add]; exact (h.elem i hi).2.1, by rw [Nat.zero_add]; exact (h.elem i hi).2.2⟩⟩

/-- WHAT still READS. -/
structure Looks (W : World) (M C K b1 o1 : Nat) (n : Nat) (x : Value) : Prop where
  m0 : W.cell? ⟨M, 0, none⟩ = some (.slice (some ⟨C, 0, none⟩) n (n + 1))
  m1 : W.cell? ⟨M, 1, none⟩ = some (.slice (some ⟨K, 0, none⟩) 1 1)
  k0 : W.cell? ⟨K, 0, none⟩ = some (.string ⟨#[77, 65, 82, 75]⟩)
  k1 : W.cell? ⟨K, 1, none⟩ = some (.int .i64 78)
  k2 : W.cell? ⟨K, 2, none⟩ = some (.string ⟨#[]⟩)
  l0 : W.cell? ⟨C, n * 3, none⟩ = some (.string ⟨#[77, 65, 82, 75]⟩)
  l1 : W.cell? ⟨C, n * 3 + 1, none⟩ = some (.int .i64 77)
  l2 : W.cell? ⟨C, n * 3 + 2, none⟩ = some (.string ⟨#[]⟩)
  x0 : W.cell? ⟨b1, o1, none⟩ = some x
  ltM : M < W.heap.size
  ltC : C < W.heap.size
  ltK : K < W.heap.size
  ltb : b1 < W.heap.size
theorem Looks.later {W W' : World} {M C K b1 o1 n : Nat} {x : Value} (h : Looks W M C K b1 o1 n x) (hb : Below W.heap.size W W') : Looks W' M C K b1 o1 n x :=
  ⟨(hb.cell (p := ⟨M, _, none⟩) h.ltM).trans h.m0, (hb.cell (p := ⟨M, _, none⟩) h.ltM).trans h.m1, (hb.cell (p := ⟨K, _, none⟩) h.ltK).trans h.k0, (hb.cell (p := ⟨K, _, none⟩) h.ltK).trans h.k1, (hb.cell (p := ⟨K, _, none⟩) h.ltK).trans h.k2,
    (hb.cell (p := ⟨C, _, none⟩) h.ltC).trans h.l0, (hb.cell (p := ⟨C, _, none⟩) h.ltC).trans h.l1, (hb.cell (p := ⟨C, _, none⟩) h.ltC).trans h.l2, (hb.cell (p := ⟨b1, _, none⟩) h.ltb).trans h.x0,
    Nat.lt_of_lt_of_le h.ltM hb.size, Nat.lt_of_lt_of_le h.ltC hb.size, Nat.lt_of_lt_of_le h.ltK hb.size, Nat.lt_of_lt_of_le h.ltb hb.size⟩

set_option maxRecDepth 8000 in
set_option maxHeartbeats 4000000 in
theorem still_one (al : List At) (hal : al.length ≤ 3518437208883) (M C K b1 o1 c1 : Nat) (xa : Option Addr) (xc : Nat) (W : World) (h : Looks W M C K b1 o1 al.length (.slice xa al.length xc)) (h1 : Ats W (.slice (some ⟨C, 0, none⟩) al.length (al.length + 1)) al) (h2 : Ats W (.slice xa al.length xc) al) :
    Calls Tryd.prog 32 #[.slice (some ⟨M, 0, none⟩) 1 2, .slice (some ⟨b1, o1, none⟩) 1 c1] W fun e w' => e = .returned (.bool true) ∧ Below W.heap.size W w' := by
  have HS := hide (fun (w' : World) (B : Below W.heap.size W w') => sameField_one al (.slice (some ⟨M, 0, none⟩) 1 2) (.slice (some ⟨b1, o1, none⟩) 1 c1) _ _ w' ⟨M, 0, 2, rfl, (h.later B).ltM, (h.later B).m0⟩ ⟨b1, o1, c1, rfl, (h.later B).ltb, (h.later B).x0⟩ (h1.later B) (h2.later B))
  have HL := hide (fun (w' : World) (B : Below W.heap.size W w') => h.later B)
  clear h h1 h2
  have F2 := hide (fun (w' : World) (B : Below W.heap.size W w') => And.intro (unhide HL w' B).m1 (And.intro (unhide HL w' B).k0 (And.intro (unhide HL w' B).k1 (And.intro (unhide HL w' B).k2 B))))
  have F7 := hide (fun (w' : World) (B : Below W.heap.size W w') => And.intro (unhide HL w' B).m0 (And.intro (unhide HL w' B).x0 (And.intro (unhide HL w' B).l0 (And.intro (unhide HL w' B).l1 (And.intro (unhide HL w' B).l2 B)))))
  have B0 := hide ((Below.refl W.heap.size W).drew)
  go_enter Tryd.func32, Tryd.ntmps32
  go_wp2_with fail
  go_region_held3 (fun w' => w'.cell? ⟨M, 1, none⟩ = some (.slice (some ⟨K, 0, none⟩) 1 1) ∧ w'.cell? ⟨K, 0, none⟩ = some (.string ⟨#[77, 65, 82, 75]⟩) ∧ w'.cell? ⟨K, 1, none⟩ = some (.int .i64 78) ∧ w'.cell? ⟨K, 2, none⟩ = some (.string ⟨#[]⟩) ∧ Below W.heap.size W w') (first | exact unhide F2 _ (unhide B0) | exact unhide F2 _ (unhide B5) | exact unhide F2 _ (unhide B6))
    (first | (go_at_call 12; refine (unhide HS _ (unhide B0)).mono ?_; rintro x w5 ⟨rfl, hb5⟩; have B5 := hide ((unhide B0).trans (hb5.mono (unhide B0).size)); clear hb5) | (go_at_call 22; refine (mark2_any 78 _).mono ?_; rintro x w6 ⟨rfl, hb6⟩; have B6 := hide ((unhide B5).trans (hb6.mono (unhide B5).size)); clear hb6))
  clear HS F2
  go_wp2_with fail
  go_loopw [6, 7] (fun iv _ wr => ∃ k : Nat, k ≤ 1 ∧ iv = .int .i64 k ∧ Hid (Below W.heap.size W wr)) (fun iv _ _ => 1 - (intOf iv).toNat)
  case atStart => exact ⟨0, Nat.zero_le _, rfl, B6⟩
  case round =>
    clear B0 B5 B6
    obtain ⟨k, hk, rfl, HB⟩ := hrel
    by_cases hlt : k < 1
    · obtain rfl : k = 0 := by omega
      rw [show ((0 : Nat) : Int) = 0 from rfl]
      have D0 := hide (unhide HB).drew
      have j1 : (0 : Int) ≤ (al.length : Int) + 1 := by omega
      have j4 : IntKind.i64.wrap ((al.length : Int) + 1) = (al.length : Int) + 1 := by rw [IntKind.wrap_i64]; omega
      go_wp2_with fail
      have j2 : (al.length : Int) + 1 ≤ (al.length : Int) + 1 := Int.le_refl _
      go_region_held3 (fun w' => w'.cell? ⟨M, 0, none⟩ = some (.slice (some ⟨C, 0, none⟩) al.length (al.length + 1)) ∧ w'.cell? ⟨b1, o1, none⟩ = some (.slice xa al.length xc) ∧ w'.cell? ⟨C, al.length * 3, none⟩ = some (.string ⟨#[77, 65, 82, 75]⟩) ∧ w'.cell? ⟨C, al.length * 3 + 1, none⟩ = some (.int .i64 77) ∧ w'.cell? ⟨C, al.length * 3 + 2, none⟩ = some (.string ⟨#[]⟩) ∧ Below W.heap.size W w') (first | exact unhide F7 _ (unhide D0)) (fail)
      have D1 := hide (unhide D0).drew
      go_wp2_with fail
      have j3 : (al.length : Int) < (al.length : Int) + 1 := by omega
      have j5 : (0 : Int) ≤ (al.length : Int) := by omega
      go_region_held3 (fun w' => w'.cell? ⟨M, 0, none⟩ = some (.slice (some ⟨C, 0, none⟩) al.length (al.length + 1)) ∧ w'.cell? ⟨b1, o1, none⟩ = some (.slice xa al.length xc) ∧ w'.cell? ⟨C, al.length * 3, none⟩ = some (.string ⟨#[77, 65, 82, 75]⟩) ∧ w'.cell? ⟨C, al.length * 3 + 1, none⟩ = some (.int .i64 77) ∧ w'.cell? ⟨C, al.length * 3 + 2, none⟩ = some (.string ⟨#[]⟩) ∧ Below W.heap.size W w') (first | exact unhide F7 _ (unhide D1) | exact unhide F7 _ (unhide D2))
        (first | (go_at_call 22; refine (mark2_any 77 _).mono ?_; rintro x w6 ⟨rfl, hb6⟩; have D2 := hide ((unhide D1).trans (hb6.mono (unhide D1).size)); clear hb6))
      go_wp2_with fail
      go_roundw
      case rel => exact ⟨1, Nat.le_refl _, by go_num, D2⟩
      case measure => simp [intOf]
    · go_wp2
      go_ret
      exact ⟨rfl, unhide HB⟩

end Go.Proofs.YtfembjjpmjfklaaDoor
