import Derived.Test.YtjmomdnlibfbkaaDoorAcR
namespace Go.Proofs.YtjmomdnlibfbkaaDoor
open Go.RowKit

theorem num_any (e : Int) (w : World) : Calls Tryd.prog 13 #[.int .i64 e] w fun x w' => x = .returned (.int .i64 e) ∧ w' = w := by
  go_enter Tryd.func13, Tryd.ntmps13
  go_wp2_with fail
  go_ret
  exact ⟨rfl, rfl⟩
/-- WHAT BOTH ANSWER. -/
def UA (l : Bs) : Int × List Fl := if 16777216 < l.length then (2, []) else U l
theorem tz_ge : ∀ fs : List Fl, fs.length * 512 ≤ tz fs
  | [] => Nat.zero_le _
  | f :: r => by
    have q := tz_ge r
    have e : tz (f :: r) = 512 + fill f.2.length + tz r := rfl
    generalize fill f.2.length = F at e
    rw [e, List.length_cons, Nat.succ_mul]
    exact Nat.le_trans (Nat.add_le_add_right q 512) (by rw [Nat.add_comm]; exact Nat.add_le_add_right (Nat.le_add_right 512 F) _)
theorem U_files (l : Bs) : (U l).2.length * 512 ≤ l.length ∧ ∀ f ∈ (U l).2, f.2.length ≤ 1048576 := by
  by_cases h : (U l).1 = 0
  · obtain ⟨h1, h2⟩ := U_back h
    refine ⟨?_, fun f hf => (h2 f hf).2⟩
    have q1 := tz_ge (U l).2
    have q2 := tar_len h2
    rw [← h1] at q2
    omega
  · have e : (U l).2 = [] := unt_nil _ _ h
    rw [e]
    exact ⟨by simp, fun f hf => by cases hf⟩
theorem UA_files (l : Bs) : (UA l).2.length ≤ 5864062014805 ∧ ∀ f ∈ (UA l).2, f.2.length ≤ 140737488355328 := by
  unfold UA
  by_cases h : 16777216 < l.length
  · rw [if_pos h]
    exact ⟨Nat.zero_le _, fun f hf => by cases hf⟩
  · rw [if_neg h]
    obtain ⟨h1, h2⟩ := U_files l
    exact ⟨by omega, fun f hf => Nat.le_trans (h2 f hf) (by decide)⟩
theorem Untar_ua {w : World} {v : Value} {l : Bs} (h : Rb w v l) (hg : Glob w) : Calls Tryd.prog 8 #[v] w fun e w' => UnA w (UA l) e w' := by
  by_cases h0 : l.length ≤ 1073741824
  · exact Untar_any h h0 hg
  · obtain ⟨a, c, rfl, hc⟩ := h.form
    unfold UA
    rw [if_pos (by omega)]
    have h0' : (16777216 : Int) < (l.length : Int) := by omega
    clear h h0
    go_enter Tryd.func8, Tryd.ntmps8
    go_wp2_with fail
    go_ret2
    exact una _ rfl rfl (FlsO.nil _ _) (Below.refl _ _)
theorem FlsO.ow {w w' : World} {lo : Nat} {v : Value} {fs : List Fl} (h : FlsO w lo v fs) (hb : ∀ b, lo ≤ b → w'.heap[b]? = w.heap[b]?) : FlsO w' lo v fs := by
  obtain ⟨vs, h1, h2, h3⟩ := h
  exact ⟨vs, h1, own_same h2 fun g hg => hb g (World.ownsRow.lt h2 g hg).1, fun i f x hf hx => own_same (h3 i f x hf hx) fun g hg => hb g (World.ownsRow.lt (h3 i f x hf hx) g hg).1⟩
theorem xor_any : ∀ n : Fin 256, ∃ y : Fin 256, bits .xor .u8 (n.val : Int) 255 = (y.val : Int) := by decide +kernel
theorem xor_byte (x : UInt8) : ∃ y : UInt8, bits .xor .u8 (x.toNat : Int) 255 = (y.toNat : Int) := by
  obtain ⟨y, hy⟩ := xor_any ⟨x.toNat, UInt8.toNat_lt x⟩
  refine ⟨UInt8.ofNat y.val, ?_⟩
  have e : (UInt8.ofNat y.val).toNat = y.val := UInt8.toNat_ofNat_of_lt (by show y.val < 256; exact y.isLt)
  rw [e]
  exact hy
set_option maxRecDepth 100000 in
set_option maxHeartbeats 16000000 in
theorem archiveUntars_walk {w : World} {v : Value} {l : Bs} (k : Rb w v l) (hl : l.length ≤ 140737488351232) (hg : Gtb w) :
    Calls Tryd.prog 4 #[v] w fun e w' => e = .returned (.bool true) ∧ Below w.heap.size w w' := by
  obtain ⟨va, vc, rfl, hvc⟩ := k.form
  have HD := hide k
  have HLN := hide hl
  have HNB := hide (show l.length ≤ 140737488355328 by omega)
  have CR1 := hide (roomy_two k hl)
  have CU := hide (fun (X : World) (x : Value) (hX : Below w.heap.size w X) (hR : Rb X x l) => Untar_ua hR (hg.later hX).gl)
  have CV := hide (fun (X : World) (hX : Below w.heap.size w X) => show Calls Tryd.prog 12 #[.slice va l.length vc] X fun e w' => UnA X (UA l) e w' from rUntar_any (k.later hX) (hg.later hX))
  have CR2' := hide (fun (l2 : Bs) (h2 : l2.length = l.length) => show ∀ (X : World) (x : Value), Rb X x l2 → Calls Tryd.prog 10 #[x] X fun e w' => e = .returned (.slice (some ⟨X.heap.size, 0, none⟩) l2.length (l2.length + 600)) ∧ By w' X.heap.size (l2 ++ rm) ∧ Below X.heap.size X w' from fun X x hR => roomy_two hR (by omega))
  have CU2' := hide (fun (l2 : Bs) => show ∀ (X : World) (x : Value), Below w.heap.size w X → Rb X x l2 → Calls Tryd.prog 8 #[x] X fun e w' => UnA X (UA l2) e w' from fun X x hX hR => Untar_ua hR (hg.later hX).gl)
  have CV2' := hide (fun (l2 : Bs) => show ∀ (X : World) (x : Value), Below w.heap.size w X → Rb X x l2 → Calls Tryd.prog 12 #[x] X fun e w' => UnA X (UA l2) e w' from fun X x hX hR => rUntar_any hR (hg.later hX))
  have HZ1 := hide (UA_files l)
  obtain ⟨N, hN⟩ : ∃ N, l.length = N := ⟨_, rfl⟩
  have HL := hide hN
  rw [hN] at HLN HNB CR1 CV CR2' HD ⊢
  clear k hg hl hN
  go_enter Tryd.func4, Tryd.ntmps4
  go_upto_region 2 with (first
    | (go_at_call 10; refine (unhide CR1).mono ?_; rintro e w1 ⟨rfl, q1, b1⟩; have B1 := hide q1; have W1 := hide b1; have LT1 := hide q1.lt; clear q1 b1 CR1))
  obtain ⟨g, hg⟩ : ∃ g, w.heap.size = g := ⟨_, rfl⟩
  have HGE := hide hg
  rw [hg] at B1 LT1 ⊢
  clear hg
  have R1 := hide ((unhide B1).rm (unhide HL))
  go_upto_region 3 with (first
    | (go_at_call 8; refine (unhide CU _ _ (unhide W1) (unhide R1)).mono ?_; rintro e w2 ⟨av, rfl, f2, b2⟩; have FA2 := hide f2; have W2 := hide (bl_t (unhide W1) b2); have B2 := hide ((unhide B1).later b2); have S2 := hide b2.size; clear f2 b2 CU R1 B1))
  go_upto_region 4 with (first
    | (go_at_call 12; refine (unhide CV _ (unhide W2)).mono ?_; rintro e w3 ⟨bv, rfl, f3, b3⟩; have FB3 := hide f3; have FA3 := hide ((unhide FA2).later b3); have W3 := hide (bl_t (unhide W2) b3); have B3 := hide ((unhide B2).later b3); clear f3 b3 CV B2 FA2 W2))
  have CB := hide (blobs_yes (Fb.own (unhide FA3)) (Fb.own (unhide FB3)) (unhide HZ1).1 (unhide HZ1).2)
  have CE := hide (fun n => equal_yes (((unhide B3).rm (unhide HL)).later (bl_drewN w3 n)) ((unhide HD).later (bl_t (unhide W3) (bl_drewN w3 n))) (by rw [unhide HL]; exact unhide HNB))
  have CS := hide (fun n => spared_yes ((unhide B3).later (bl_drewN w3 n)) (unhide HL) (unhide HLN))
  generalize (UA l).1 = e1 at *
  go_upto_region 6 with (first
    | (go_at_call 9; refine (unhide CB).mono ?_; rintro e wa ⟨rfl, n1, rfl⟩; clear CB)
    | (go_at_call 13; refine (num_any _ _).mono ?_; rintro e wn ⟨rfl, hw⟩; rw [hw]; clear hw wn)
    | (go_at_call 11; refine (unhide CE _).mono ?_; rintro e wb ⟨rfl, n2, hw⟩; rw [World.drewN_drewN] at hw; rw [hw]; clear hw wb CE)
    | (go_at_call 14; refine (unhide CS _).mono ?_; rintro e wc ⟨rfl, hw⟩; rw [hw]; clear hw wc CS))
  obtain ⟨w5, hw5⟩ : ∃ x, w3.drewN (n1 + n2) = x := ⟨_, rfl⟩
  have D5 := hide (hw5 ▸ bl_drewN w3 (n1 + n2) : Below w3.heap.size w3 w5)
  rw [hw5]
  clear hw5
  have FA5 := hide ((unhide FA3).later (unhide D5))
  have FB5 := hide ((unhide FB3).later (unhide D5))
  have B5 := hide ((unhide B3).later (unhide D5))
  have W5 := hide (bl_t (unhide W3) (unhide D5))
  clear FA3 FB3 B3 W3 D5
  by_cases h5 : 512 < N
  · have h5' : (512 : Int) < (N : Int) := by omega
    have hil : 512 < l.length := by have := unhide HL; omega
    obtain ⟨y, hy⟩ := xor_byte (l[512]'hil)
    have e8 : (l ++ rm)[512]? = some (l[512]'hil) := by rw [List.getElem?_append_left hil, List.getElem?_eq_getElem hil]
    have c0 := (unhide B5).at_ 512 _ e8
    have hf := (unhide B5).fr 512
    have B6 := hide (show By (w5.setCell ⟨g, 512, none⟩ (.int .u8 (y.toNat : Int))) g (l.set 512 y ++ rm) from by
      have q := (unhide B5).set (p := 512) (by rw [List.length_append]; omega) y
      rw [List.set_append_left _ _ hil] at q
      exact q)
    have KO := hide (show ∀ b, g + 1 ≤ b → (w5.setCell ⟨g, 512, none⟩ (.int .u8 (y.toNat : Int))).heap[b]? = w5.heap[b]? from fun b hb => Below.heap_setCell w5 ⟨g, 512, none⟩ _ b (by show b ≠ g; omega))
    have W6 := hide (show Below w.heap.size w (w5.setCell ⟨g, 512, none⟩ (.int .u8 (y.toNat : Int))) from (unhide W5).setCell (p := ⟨g, 512, none⟩) (Nat.le_of_eq (unhide HGE)) _)
    have FA6 := hide (Fb.own ((unhide FA5).ow fun b hb => unhide KO b (by have := unhide LT1; omega)))
    have FB6 := hide (Fb.own ((unhide FB5).ow fun b hb => unhide KO b (by have := unhide LT1; have := unhide S2; omega)))
    obtain ⟨l2, hl2⟩ : ∃ x, l.set 512 y = x := ⟨_, rfl⟩
    have hlen : l2.length = N := by rw [← hl2, List.length_set]; exact unhide HL
    rw [hl2] at B6
    have HL2 := hide hlen
    have R6 := hide ((unhide B6).rm hlen)
    have CR2 := hide (unhide CR2' l2 hlen)
    rw [hlen] at CR2
    have CU2 := hide (unhide CU2' l2)
    have CV2 := hide (unhide CV2' l2)
    have HZ2 := hide (UA_files l2)
    rw [show cb (l[512]'hil) = .int .u8 ((l[512]'hil).toNat : Int) from rfl] at c0
    generalize ((l[512]'hil).toNat : Int) = x0 at *
    clear e8 KO hl2 hlen CR2' CU2' CV2' B5 W5 FA5 FB5 B6 hil
    go_upto_region 8 with fail
    clear hy c0 hf
    generalize w5.setCell ⟨g, 512, none⟩ (.int .u8 (y.toNat : Int)) = w6 at *
    go_upto_region 9 with (first
      | (go_at_call 10; refine (unhide CR2 _ _ (unhide R6)).mono ?_; rintro e w7 ⟨rfl, q7, b7⟩; have B7 := hide q7; have W7 := hide (bl_t (unhide W6) b7); have R7 := hide ((unhide R6).later b7); have FA7 := hide ((unhide FA6).later b7); have FB7 := hide ((unhide FB6).later b7); clear q7 b7 CR2 R6 FA6 FB6 W6))
    have N7 := hide ((unhide B7).rm (unhide HL2))
    go_upto_region 10 with (first
      | (go_at_call 12; refine (unhide CV2 _ _ (unhide W7) (unhide N7)).mono ?_; rintro e w8 ⟨dv, rfl, f8, b8⟩; have FD8 := hide (Fb.own f8); have W8 := hide (bl_t (unhide W7) b8); have R8 := hide ((unhide R7).later b8); have N8 := hide ((unhide N7).later b8); have FA8 := hide ((unhide FA7).later b8); have FB8 := hide ((unhide FB7).later b8); clear f8 b8 CV2 B7 R7 N7 FA7 FB7 W7))
    go_upto_region 11 with (first
      | (go_at_call 8; refine (unhide CU2 _ _ (unhide W8) (unhide R8)).mono ?_; rintro e w9 ⟨cv, rfl, f9, b9⟩; have FC9 := hide (Fb.own f9); have W9 := hide (bl_t (unhide W8) b9); have R9 := hide ((unhide R8).later b9); have N9 := hide ((unhide N8).later b9); have FA9 := hide ((unhide FA8).later b9); have FB9 := hide ((unhide FB8).later b9); have FD9 := hide ((unhide FD8).later b9); clear f9 b9 CU2 R8 N8 FA8 FB8 FD8 W8))
    have CB1 := hide (blobs_yes (unhide FC9) (unhide FD9) (unhide HZ2).1 (unhide HZ2).2)
    have CB2 := hide (fun n => blobs_yes ((unhide FA9).later (bl_drewN w9 n)) ((unhide FB9).later (bl_drewN w9 n)) (unhide HZ1).1 (unhide HZ1).2)
    have CE2 := hide (fun n => equal_yes ((unhide R9).later (bl_drewN w9 n)) ((unhide N9).later (bl_drewN w9 n)) (by rw [unhide HL2]; exact unhide HNB))
    generalize (UA l2).1 = e2 at *
    clear FC9 FD9 FA9 FB9 R9 N9
    go_wp2_with (first
      | (go_at_call 9; refine (unhide CB1).mono ?_; rintro e wa ⟨rfl, n1, rfl⟩; clear CB1)
      | (go_at_call 13; refine (num_any _ _).mono ?_; rintro e wn ⟨rfl, hw⟩; rw [hw]; clear hw wn)
      | (go_at_call 9; refine (unhide CB2 _).mono ?_; rintro e wb ⟨rfl, n2, hw⟩; rw [World.drewN_drewN] at hw; rw [hw]; clear hw wb CB2)
      | (go_at_call 11; refine (unhide CE2 _).mono ?_; rintro e wc ⟨rfl, n3, hw⟩; rw [World.drewN_drewN] at hw; rw [hw]; clear hw wc CE2))
    go_ret
    exact ⟨rfl, bl_t (unhide W9) (bl_drewN w9 _)⟩
  · have h5' : ¬ (512 : Int) < (N : Int) := by omega
    have FA6 := hide (Fb.own (unhide FA5))
    have FB6 := hide (Fb.own (unhide FB5))
    have W6 := W5
    obtain ⟨l2, hl2⟩ : ∃ x, l = x := ⟨_, rfl⟩
    have hlen : l2.length = N := by rw [← hl2]; exact unhide HL
    have HL2 := hide hlen
    have R6 := hide ((unhide B5).rm (unhide HL))
    rw [hl2] at R6
    have CR2 := hide (unhide CR2' l2 hlen)
    rw [hlen] at CR2
    have CU2 := hide (unhide CU2' l2)
    have CV2 := hide (unhide CV2' l2)
    have HZ2 := hide (UA_files l2)
    clear hl2 hlen CR2' CU2' CV2' B5 W5 FA5 FB5
    go_upto_region 8 with fail
    go_upto_region 9 with (first
      | (go_at_call 10; refine (unhide CR2 _ _ (unhide R6)).mono ?_; rintro e w7 ⟨rfl, q7, b7⟩; have B7 := hide q7; have W7 := hide (bl_t (unhide W6) b7); have R7 := hide ((unhide R6).later b7); have FA7 := hide ((unhide FA6).later b7); have FB7 := hide ((unhide FB6).later b7); clear q7 b7 CR2 R6 FA6 FB6 W6))
    have N7 := hide ((unhide B7).rm (unhide HL2))
    go_upto_region 10 with (first
      | (go_at_call 12; refine (unhide CV2 _ _ (unhide W7) (unhide N7)).mono ?_; rintro e w8 ⟨dv, rfl, f8, b8⟩; have FD8 := hide (Fb.own f8); have W8 := hide (bl_t (unhide W7) b8); have R8 := hide ((unhide R7).later b8); have N8 := hide ((unhide N7).later b8); have FA8 := hide ((unhide FA7).later b8); have FB8 := hide ((unhide FB7).later b8); clear f8 b8 CV2 B7 R7 N7 FA7 FB7 W7))
    go_upto_region 11 with (first
      | (go_at_call 8; refine (unhide CU2 _ _ (unhide W8) (unhide R8)).mono ?_; rintro e w9 ⟨cv, rfl, f9, b9⟩; have FC9 := hide (Fb.own f9); have W9 := hide (bl_t (unhide W8) b9); have R9 := hide ((unhide R8).later b9); have N9 := hide ((unhide N8).later b9); have FA9 := hide ((unhide FA8).later b9); have FB9 := hide ((unhide FB8).later b9); have FD9 := hide ((unhide FD8).later b9); clear f9 b9 CU2 R8 N8 FA8 FB8 FD8 W8))
    have CB1 := hide (blobs_yes (unhide FC9) (unhide FD9) (unhide HZ2).1 (unhide HZ2).2)
    have CB2 := hide (fun n => blobs_yes ((unhide FA9).later (bl_drewN w9 n)) ((unhide FB9).later (bl_drewN w9 n)) (unhide HZ1).1 (unhide HZ1).2)
    have CE2 := hide (fun n => equal_yes ((unhide R9).later (bl_drewN w9 n)) ((unhide N9).later (bl_drewN w9 n)) (by rw [unhide HL2]; exact unhide HNB))
    generalize (UA l2).1 = e2 at *
    clear FC9 FD9 FA9 FB9 R9 N9
    go_wp2_with (first
      | (go_at_call 9; refine (unhide CB1).mono ?_; rintro e wa ⟨rfl, n1, rfl⟩; clear CB1)
      | (go_at_call 13; refine (num_any _ _).mono ?_; rintro e wn ⟨rfl, hw⟩; rw [hw]; clear hw wn)
      | (go_at_call 9; refine (unhide CB2 _).mono ?_; rintro e wb ⟨rfl, n2, hw⟩; rw [World.drewN_drewN] at hw; rw [hw]; clear hw wb CB2)
      | (go_at_call 11; refine (unhide CE2 _).mono ?_; rintro e wc ⟨rfl, n3, hw⟩; rw [World.drewN_drewN] at hw; rw [hw]; clear hw wc CE2))
    go_ret
    exact ⟨rfl, bl_t (unhide W9) (bl_drewN w9 _)⟩
end Go.Proofs.YtjmomdnlibfbkaaDoor
