import Derived.Test.YtjmomdnlibfbkaaDoorAbW
namespace Go.Proofs.YtjmomdnlibfbkaaDoor
open Go.RowKit

theorem tz_ge : ∀ fs : List Fl, fs.length * 512 ≤ tz fs
  | [] => Nat.zero_le _
  | f :: r => by
    have q := tz_ge r
    have e : tz (f :: r) = 512 + fill f.2.length + tz r := rfl
    generalize fill f.2.length = F at e
    rw [e, List.length_cons, Nat.succ_mul]
    exact Nat.le_trans (Nat.add_le_add_right q 512) (by rw [Nat.add_comm]; exact Nat.add_le_add_right (Nat.le_add_right 512 F) _)
theorem spl_size {s : ByteArray} (h : (spl s).2.2 = 0) : s.size ≤ 256 := by
  rcases Nat.lt_or_ge 256 s.size with q | q
  · exfalso
    unfold spl at h
    rw [if_pos (by unfold okP; rw [decide_eq_false (by omega)]; simp)] at h
    cases h
  · exact q
/-- WHAT Untar ANSWERS OF ANY BYTES. -/
def UB (l : Bs) : Int × List Fl := if 16777216 < l.length then (2, []) else U l
theorem Untar_ub {w : World} {v : Value} {l : Bs} (h : Rb w v l) (hg : Glob w) : Calls Tryd.prog 8 #[v] w fun e w' => UnA w (UB l) e w' := by
  by_cases h0 : l.length ≤ 1073741824
  · exact Untar_any h h0 hg
  · obtain ⟨a, c, rfl, hc⟩ := h.form
    unfold UB
    rw [if_pos (by omega)]
    have h0' : (16777216 : Int) < (l.length : Int) := by omega
    clear h h0
    go_enter Tryd.func8, Tryd.ntmps8
    go_wp2_with fail
    go_ret2
    exact una _ rfl rfl (FlsO.nil _ _) (Below.refl _ _)
theorem ub_back {d : Bs} (h : (UB d).1 = 0) : d = tarL (UB d).2 ∧ (∀ f ∈ (UB d).2, okF f) ∧ d.length ≤ 16777216 := by
  unfold UB at h ⊢
  by_cases h0 : 16777216 < d.length
  · rw [if_pos h0] at h
    cases h
  · rw [if_neg h0] at h ⊢
    exact ⟨(U_back h).1, (U_back h).2, by omega⟩
theorem ub_nil {d : Bs} (h : ¬ (UB d).1 = 0) : (UB d).2 = [] := by
  unfold UB at h ⊢
  by_cases h0 : 16777216 < d.length
  · rw [if_pos h0]
  · rw [if_neg h0] at h ⊢
    exact unt_nil _ _ h
set_option maxRecDepth 100000 in
set_option maxHeartbeats 16000000 in
theorem archiveBack_walk {w : World} {u v : Value} {fs : List Fl} {d : Bs} (h : Fb w u fs) (k : Rb w v d) (hn : fs.length ≤ 3518437208780) (hs : ∀ f ∈ fs, f.1.size ≤ 9223372036854775807) (hb : ∀ f ∈ fs, f.2.length ≤ 140737488351232) (hd : d.length ≤ 140737488351232) (hg : Glob w) :
    Calls Tryd.prog 3 #[u, v] w fun e w' => e = .returned (.bool true) ∧ Below w.heap.size w w' := by
  obtain ⟨ua, uc, rfl, huc⟩ := h.form
  obtain ⟨va, vc, rfl, hvc⟩ := k.form
  have HF := hide h
  have HD := hide k
  have HG := hide hg
  have CA := hide (alive_any hg)
  have CW := hide (fun (X : World) (hX : Below w.heap.size w X) => twin_any (h.later hX) hn (fun f hf => hb f hf))
  have CT := hide (fun (X : World) (x : Value) (hX : Below w.heap.size w X) (hR : Fb X x fs) => Tar_any hR (by omega) hs (fun f hf => Nat.le_trans (hb f hf) (by decide)) (hg.later hX))
  have CR := hide (fun (X : World) (hX : Below w.heap.size w X) => roomy_any (k.later hX) (by omega))
  have CU := hide (fun (X : World) (x : Value) (l : Bs) (hX : Below w.heap.size w X) (hR : Rb X x l) (hl : l.length ≤ 1073741824) => Untar_any hR hl (hg.later hX))
  have CB := hide (fun (X : World) (x : Value) (hX : Below w.heap.size w X) (hR : Fb X x fs) => blobs_yes (h.later hX) hR (by omega) (fun f hf => Nat.le_trans (hb f hf) (by decide)))
  have CT2 := hide (fun (X : World) (x : Value) (gs : List Fl) (hX : Below w.heap.size w X) (hR : Fb X x gs) (ho : ∀ f ∈ gs, okF f) (hl : gs.length ≤ 1048576) (hz : ∀ f ∈ gs, f.1.size ≤ 9223372036854775807) => Tar_any hR (by omega) hz (fun f hf => Nat.le_trans (ho f hf).2 (by decide)) (hg.later hX))
  have CE := hide (fun (X : World) (x : Value) (hX : Below w.heap.size w X) (hR : Rb X x d) => equal_yes hR (k.later hX) (by omega))
  have HN := hide hn
  have HDL := hide hd
  generalize hNf : fs.length = N at *
  generalize hNd : d.length = ND at *
  have HND := hide hNd
  have CU2 := hide (show ∀ (X : World) (x : Value), Below w.heap.size w X → Rb X x d → Calls Tryd.prog 8 #[x] X fun e w' => UnA X (UB d) e w' from fun X x hX hR => Untar_ub hR (hg.later hX))
  clear h k hs hb hg hNf hNd
  go_enter Tryd.func3, Tryd.ntmps3
  go_upto_region 4 with (first
    | (go_at_call 5; refine (unhide CA).mono ?_; rintro e w1 ⟨rfl, b1⟩; have W1 := hide b1; clear b1 CA)
    | (go_at_call 7; refine (unhide CW _ (unhide W1)).mono ?_; rintro e w2 ⟨tv, rfl, f2, b2⟩; have F2 := hide f2; have W2 := hide (bl_t (unhide W1) b2); clear f2 b2 CW W1)
    | (go_at_call 6; refine (unhide CT _ _ (unhide W2) (unhide F2)).mono ?_; rintro e w3 ⟨bv, rfl, r3, b3⟩; have R3 := hide r3; have W3 := hide (bl_t (unhide W2) b3); clear r3 b3 CT W2 F2))
  by_cases hz : (tarR fs).1 = 0
  · obtain ⟨hok, hle, hT⟩ := tarR_back hz
    rw [hT] at R3 ⊢
    have hB1 := tar_len hok
    have hm5 := tz_512 fs
    have CU1 := hide (show ∀ (X : World) (x : Value), Below w.heap.size w X → Rb X x (tarL fs) → Calls Tryd.prog 8 #[x] X fun e w' => UnA X (0, fs) e w' from fun X x hX hR => by
      have q := unhide CU X x _ hX hR (by omega)
      rw [if_neg (by omega), U_tar hok] at q
      exact q)
    have CV1 := hide (show ∀ (X : World) (x : Value), Below w.heap.size w X → Rb X x ((tarL fs).take ((tarL fs).length - 1)) → Calls Tryd.prog 8 #[x] X fun e w' => UnA X (73, []) e w' from fun X x hX hR => by
      have q := unhide CU X x _ hX hR (by rw [List.length_take]; omega)
      rw [if_neg (by rw [List.length_take]; omega), U_tail hok] at q
      exact q)
    have CM1 := hide (show ∀ (X : World) (x : Value), Below w.heap.size w X → Rb X x (tarL fs ++ [0]) → Calls Tryd.prog 8 #[x] X fun e w' => UnA X (if 16777216 < (tarL fs).length + 1 then (2, []) else (75, [])) e w' from fun X x hX hR => by
      have q := unhide CU X x _ hX hR (by rw [List.length_append, List.length_singleton]; omega)
      rw [List.length_append, List.length_singleton, U_more hok] at q
      exact q)
    generalize tarL fs = B at *
    obtain ⟨ba1, bc1, rfl, hbc1⟩ := (unhide R3).form
    have HBL := hide (show B.length = B.length from rfl)
    generalize hS : B.length = S at *
    have HS := hide hS
    have hS1 : 1024 ≤ S := by omega
    have hS5 : S % 512 = 0 := by omega
    clear hz hT hok hB1 hm5 CU HBL hS
    go_upto_region 6 with (first
      | (go_at_call 8; refine (unhide CU1 _ _ (unhide W3) (unhide R3)).mono ?_; rintro e w4 ⟨mv, rfl, f4, b4⟩; have F4 := hide (Fb.own f4); have R4 := hide ((unhide R3).later b4); have W4 := hide (bl_t (unhide W3) b4); clear f4 b4 CU1 R3))
    have hm1 : (S : Int) % 512 = 0 := by omega
    have hm2 : (S : Int).tmod 512 = 0 := by rw [Int.tmod_eq_emod_of_nonneg (by omega)]; exact hm1
    have hw1 : IntKind.i64.wrap ((S : Int) - 1) = (S : Int) - 1 := IntWalk.i64_in _ (by omega)
    go_upto_region 8 with (first
      | (go_at_call 9; refine (unhide CB _ _ (unhide W4) (unhide F4)).mono ?_; rintro e w5 ⟨rfl, n5, h5⟩; have W5 := hide (show Below w.heap.size w w5 from h5 ▸ bl_t (unhide W4) (bl_drewN w4 n5)); have R5 := hide (show Rb w5 (.slice ba1 S bc1) B from h5 ▸ (unhide R4).later (bl_drewN w4 n5)); clear h5 CB F4 R4 W4))
    have hc1 : ((S : Int) - 1) = ((S - 1 : Nat) : Int) := by omega
    have hS0 : (0 : Int) ≤ ((S - 1 : Nat) : Int) := by omega
    have hS3 : ((S - 1 : Nat) : Int) ≤ (bc1 : Int) := by omega
    have hS4 : S - 1 ≤ bc1 := by omega
    have RT := hide ((unhide R5).take (k := S - 1) (by rw [unhide HS]; omega))
    clear hm1 hm2
    rw [hc1] at hw1
    go_upto_region 9 with (first
      | (go_at_call 8; refine (unhide CV1 _ _ (unhide W5) (unhide RT)).mono ?_; rintro e w6 ⟨mv2, rfl, f6, b6⟩; have W6 := hide (bl_t (unhide W5) b6); have R6 := hide ((unhide R5).later b6); clear f6 b6 CV1 RT R5 W5))
    have o0 := World.ownsRow_lit (e := 5) (size := 1) w6 #[] 0 (unhide W6).size (by decide) rfl
    have b0 := (unhide W6).alloc (unhide W6).size (.cells #[] 5)
    obtain ⟨g7, c7, w7, hap1, o7, b7⟩ := app_bytes o0 b0.size ((unhide R6).later ((Below.refl w6.heap.size w6).alloc (Nat.le_refl _) _)) (by rw [unhide HS]; omega) (by rw [unhide HS]; omega) 23
    have W7 := hide (b0.trans b7)
    rw [unhide HS, Nat.zero_add] at hap1 o7
    obtain ⟨g8, c8, w8, hap2, o8, f8, _⟩ := row_app tyY o7 (unhide W7).size [.int .u8 0] rfl (m := 1) (by decide) (by decide) (by unfold maxLen; omega) (by omega) 23
    have W8 := hide ((unhide W7).trans (f8.below (unhide W7).size fun b hb e => by have := (World.ownsRow.lt o7 b e).1; omega))
    have R8 := hide (Rb.own (l := B ++ [0]) (show w8.ownsRow w.heap.size 5 1 (.slice (some ⟨g8, 0, none⟩) (S + 1) c8) (S + 1) ((B ++ [0]).map cb) by rw [List.map_append]; exact o8) (by rw [List.length_append, unhide HS]; rfl))
    clear o0 b0 o7 b7 o8 f8 R6
    go_upto_region 10 with (first
      | (at_builtin; refine wpList_append_run rfl _ _ 23 rfl _ _ rfl rfl hap1 ?_; clear hap1)
      | (at_builtin; refine wpList_append_run rfl _ _ 23 rfl _ _ rfl rfl hap2 ?_; clear hap2)
      | (go_at_call 8; refine (unhide CM1 _ _ (unhide W8) (unhide R8)).mono ?_; rintro e w9 ⟨mv3, rfl, f9, b9⟩; have W9 := hide (bl_t (unhide W8) b9); clear f9 b9 CM1 R8 W8))
    by_cases h6 : 16777216 < S + 1
    · rw [if_pos h6]
      have h7 : ¬ (S : Int) < 16777216 := by omega
      clear h6
      go_upto_region 12 with fail
      clear h7 hw1 hS0 hS3 hS4 hc1 hS1 hS5 HS hbc1 hle
      go_upto_region 13 with (first
        | (go_at_call 10; refine (unhide CR _ (unhide W9)).mono ?_; rintro e wA ⟨ra, rc, rfl, oA, bA⟩; have RA := hide (Rb.own oA (unhide HND).symm); have WA := hide (bl_t (unhide W9) bA); clear oA bA CR)
        | (go_at_call 8; refine (unhide CU2 _ _ (unhide WA) (unhide RA)).mono ?_; rintro e wB ⟨mv, rfl, fB, bB⟩; have FB := hide fB; have WB := hide (bl_t (unhide WA) bB); clear fB bB CU2 RA))
      by_cases hu : (UB d).1 = 0
      · obtain ⟨hU, hok, hd16⟩ := ub_back hu
        generalize (UB d).2 = gs at *
        have hgl : gs.length ≤ 1048576 := by
          have q := tar_len hok
          have q2 := tz_ge gs
          rw [← hU] at q
          omega
        have CX := hide (unhide CT2 wB mv gs (unhide WB) (Fb.own (unhide FB)) hok hgl (fun f hf => by have := spl_size (hok f hf).1; omega))
        rw [tarR_ok hok (by rw [← hU]; exact hd16), ← hU] at CX
        rw [hu]
        clear hu hU hok hgl hd16 CT2 FB
        go_upto_region 16 with (first
          | (go_at_call 6; refine (unhide CX).mono ?_; rintro e wC ⟨cv, rfl, rC, bC⟩; have RC := hide rC; have WC := hide (bl_t (unhide WB) bC); clear rC bC CX))
        go_wp2_with (first
          | (go_at_call 11; refine (unhide CE _ _ (unhide WC) (unhide RC)).mono ?_; rintro e wD ⟨rfl, n, rfl⟩; have WD := hide (bl_t (unhide WC) (bl_drewN wC n)); clear CE))
        go_ret
        exact ⟨rfl, unhide WD⟩
      · have h0 : (UB d).2 = [] := ub_nil hu
        rw [h0] at FB
        obtain ⟨la, lc, rfl⟩ := (unhide FB).form
        generalize (UB d).1 = er at *
        clear FB h0
        go_wp2_with fail
        go_ret
        exact ⟨rfl, unhide WB⟩
    · rw [if_neg h6]
      have h7 : (S : Int) < 16777216 := by omega
      clear h6
      go_upto_region 12 with fail
      clear h7 hw1 hS0 hS3 hS4 hc1 hS1 hS5 HS hbc1 hle
      go_upto_region 13 with (first
        | (go_at_call 10; refine (unhide CR _ (unhide W9)).mono ?_; rintro e wA ⟨ra, rc, rfl, oA, bA⟩; have RA := hide (Rb.own oA (unhide HND).symm); have WA := hide (bl_t (unhide W9) bA); clear oA bA CR)
        | (go_at_call 8; refine (unhide CU2 _ _ (unhide WA) (unhide RA)).mono ?_; rintro e wB ⟨mv, rfl, fB, bB⟩; have FB := hide fB; have WB := hide (bl_t (unhide WA) bB); clear fB bB CU2 RA))
      by_cases hu : (UB d).1 = 0
      · obtain ⟨hU, hok, hd16⟩ := ub_back hu
        generalize (UB d).2 = gs at *
        have hgl : gs.length ≤ 1048576 := by
          have q := tar_len hok
          have q2 := tz_ge gs
          rw [← hU] at q
          omega
        have CX := hide (unhide CT2 wB mv gs (unhide WB) (Fb.own (unhide FB)) hok hgl (fun f hf => by have := spl_size (hok f hf).1; omega))
        rw [tarR_ok hok (by rw [← hU]; exact hd16), ← hU] at CX
        rw [hu]
        clear hu hU hok hgl hd16 CT2 FB
        go_upto_region 16 with (first
          | (go_at_call 6; refine (unhide CX).mono ?_; rintro e wC ⟨cv, rfl, rC, bC⟩; have RC := hide rC; have WC := hide (bl_t (unhide WB) bC); clear rC bC CX))
        go_wp2_with (first
          | (go_at_call 11; refine (unhide CE _ _ (unhide WC) (unhide RC)).mono ?_; rintro e wD ⟨rfl, n, rfl⟩; have WD := hide (bl_t (unhide WC) (bl_drewN wC n)); clear CE))
        go_ret
        exact ⟨rfl, unhide WD⟩
      · have h0 : (UB d).2 = [] := ub_nil hu
        rw [h0] at FB
        obtain ⟨la, lc, rfl⟩ := (unhide FB).form
        generalize (UB d).1 = er at *
        clear FB h0
        go_wp2_with fail
        go_ret
        exact ⟨rfl, unhide WB⟩
  · clear CB R3
    generalize (tarR fs).1 = er at *
    go_upto_region 12 with fail
    go_upto_region 13 with (first
      | (go_at_call 10; refine (unhide CR _ (unhide W3)).mono ?_; rintro e wA ⟨ra, rc, rfl, oA, bA⟩; have RA := hide (Rb.own oA (unhide HND).symm); have WA := hide (bl_t (unhide W3) bA); clear oA bA CR)
      | (go_at_call 8; refine (unhide CU2 _ _ (unhide WA) (unhide RA)).mono ?_; rintro e wB ⟨mv, rfl, fB, bB⟩; have FB := hide fB; have WB := hide (bl_t (unhide WA) bB); clear fB bB CU2 RA))
    by_cases hu : (UB d).1 = 0
    · obtain ⟨hU, hok, hd16⟩ := ub_back hu
      generalize (UB d).2 = gs at *
      have hgl : gs.length ≤ 1048576 := by
        have q := tar_len hok
        have q2 := tz_ge gs
        rw [← hU] at q
        omega
      have CX := hide (unhide CT2 wB mv gs (unhide WB) (Fb.own (unhide FB)) hok hgl (fun f hf => by have := spl_size (hok f hf).1; omega))
      rw [tarR_ok hok (by rw [← hU]; exact hd16), ← hU] at CX
      rw [hu]
      clear hu hU hok hgl hd16 CT2 FB
      go_upto_region 16 with (first
        | (go_at_call 6; refine (unhide CX).mono ?_; rintro e wC ⟨cv, rfl, rC, bC⟩; have RC := hide rC; have WC := hide (bl_t (unhide WB) bC); clear rC bC CX))
      go_wp2_with (first
        | (go_at_call 11; refine (unhide CE _ _ (unhide WC) (unhide RC)).mono ?_; rintro e wD ⟨rfl, n, rfl⟩; have WD := hide (bl_t (unhide WC) (bl_drewN wC n)); clear CE))
      go_ret
      exact ⟨rfl, unhide WD⟩
    · have h0 : (UB d).2 = [] := ub_nil hu
      rw [h0] at FB
      obtain ⟨la, lc, rfl⟩ := (unhide FB).form
      generalize (UB d).1 = er at *
      clear FB h0
      go_wp2_with fail
      go_ret
      exact ⟨rfl, unhide WB⟩
end Go.Proofs.YtjmomdnlibfbkaaDoor
