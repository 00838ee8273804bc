import Derived.Test.YtfembjjpmjfklaaDoorRelU
namespace Go.Proofs.YtfembjjpmjfklaaDoor
open Go.RowKit

def lit0 : ByteArray := ⟨#[108, 105, 98, 99, 54, 40, 62, 61, 50, 46, 49, 52, 41, 44, 97, 49, 124, 98, 50, 32, 40, 60, 60, 49, 126, 41]⟩
def lit1 : ByteArray := ⟨#[97, 97, 44]⟩
def litL : List (List Am) := [[⟨⟨#[108, 105, 98, 99, 54]⟩, 4, ⟨#[50, 46, 49, 52]⟩⟩], [⟨⟨#[97, 49]⟩, 0, ⟨#[]⟩⟩, ⟨⟨#[98, 50]⟩, 1, ⟨#[49, 126]⟩⟩]]
def litT : ByteArray := ⟨#[108, 105, 98, 99, 54, 32, 40, 62, 61, 32, 50, 46, 49, 52, 41, 44, 32, 97, 49, 32, 124, 32, 98, 50, 32, 40, 60, 60, 32, 49, 126, 41]⟩

theorem lit0_E : fdE lit0 = 0 := by kernel_rfl
theorem lit0_L : fdL lit0 = litL := by kernel_rfl
theorem lit1_E : fdE lit1 = 20 := by kernel_rfl
theorem litL_P : prF litL = (litT, 0) := by kernel_rfl
theorem lit0_asc : asc lit0 := asc_of_mem (by decide)
theorem lit1_asc : asc lit1 := asc_of_mem (by decide)
theorem litL_mem : ∀ c ∈ litL, ∀ a ∈ c, a.n.size ≤ maxLen ∧ a.v.size ≤ maxLen := by
  intro c hc a ha
  simp only [litL, List.mem_cons, List.mem_nil_iff, or_false] at hc
  rcases hc with rfl | rfl
  · simp only [List.mem_cons, List.mem_nil_iff, or_false] at ha
    subst ha
    exact ⟨by decide, by decide⟩
  · simp only [List.mem_cons, List.mem_nil_iff, or_false] at ha
    rcases ha with rfl | rfl
    · exact ⟨by decide, by decide⟩
    · exact ⟨by decide, by decide⟩
theorem litL_szs : ∀ j (h : j < litL.length), Szs litL[j] := fun _ hj _ hi => litL_mem _ (List.getElem_mem hj) _ (List.getElem_mem hi)

theorem num2_any (n : Int) (w : World) : Calls Tryd.prog 9 #[.int .i64 n] w fun e w' => e = .returned (.int .i64 n) ∧ w' = w := by
  go_enter Tryd.func9, Tryd.ntmps9
  go_wp2
  go_ret
  exact ⟨rfl, rfl⟩

set_option maxRecDepth 100000 in
set_option maxHeartbeats 4000000 in
theorem little_any (w : World) (hg : Glob w) :
    Calls Tryd.prog 10 #[] w fun e w' => e = .returned (.bool true) ∧ Below w.heap.size w w' := by
  have c1 := hide (ParseField_any lit0 w (by decide) lit0_asc hg)
  have c2 := hide (fun (w' : World) (v : Value) (hv : Cls w' v litL) (hb : Below w.heap.size w w') => PrintField_any litL v w' hv litL_szs (hg.later hb))
  have c3 := hide (fun (w' : World) (hb : Below w.heap.size w w') => ParseField_any lit1 w' (by decide) lit1_asc (hg.later hb))
  rw [lit0_E, lit0_L] at c1
  rw [lit1_E] at c3
  rw [litL_P] at c2
  unfold litT at c2
  unfold lit0 at c1
  unfold lit1 at c3
  clear hg
  go_enter Tryd.func10, Tryd.ntmps10
  go_wp2_with fail
  refine (unhide c1).mono ?_
  rintro e w1 ⟨⟨v, rfl, hv, -, -⟩, hb1⟩
  have HV := hide (hv (by first | trivial | rfl))
  have HB1 := hide hb1
  have hx : ∃ va vc, v = .slice va 2 vc := by obtain ⟨a, c, h, -⟩ := unhide HV; exact ⟨a, c, h⟩
  obtain ⟨va, vc, rfl⟩ := hx
  clear hv hb1
  go_wp2_with fail
  refine (unhide c2 _ _ (unhide HV) (unhide HB1)).mono ?_
  rintro e w2 ⟨rfl, hb2⟩
  have HV2 := hide ((unhide HV).later hb2)
  have HB2 := hide (bl_t (unhide HB1) hb2)
  clear hb2
  go_wp2_with fail
  refine (unhide c3 _ (unhide HB2)).mono ?_
  rintro e w3 ⟨⟨v3, rfl, -, hv3, -⟩, hb3⟩
  obtain rfl := hv3 (by decide)
  have HV3 := hide ((unhide HV2).later hb3)
  have HB3 := hide (bl_t (unhide HB2) hb3)
  obtain ⟨b, o, x, rfl, hbw, q1, hx⟩ := (unhide HV3).elem 1 (by decide)
  have hx2 : ∃ xa xc, x = .slice xa 2 xc := by obtain ⟨a, c, h, -⟩ := hx; exact ⟨a, c, h⟩
  obtain ⟨xa, xc, rfl⟩ := hx2
  clear hb3 hv3 hx HV HV2 c1 c2 c3
  go_wp2_with (first | (go_at_call 9; refine (num2_any _ _).mono ?_; rintro e w' ⟨rfl, rfl⟩))
  go_ret
  exact ⟨rfl, unhide HB3⟩

end Go.Proofs.YtfembjjpmjfklaaDoor
