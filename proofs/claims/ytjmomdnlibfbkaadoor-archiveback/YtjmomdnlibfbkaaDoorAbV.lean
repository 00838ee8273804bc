import Derived.Test.YtjmomdnlibfbkaaDoorAbU
import Derived.Lib.SlBytesConst
namespace Go.Proofs.YtjmomdnlibfbkaaDoor
open Go.RowKit

theorem al_fb (w : World) : Fb ((w.alloc (.cells #[.int .u8 120] 5 (1, 2))).alloc (.cells #[.string ⟨#[97]⟩, .slice (some ⟨w.heap.size, 0, none⟩) 1 1] 40)) (.slice (some ⟨w.heap.size + 1, 0, none⟩) 1 1) [al] := by
  have h1 : ∀ j, (w.alloc (.cells #[.int .u8 120] 5 (1, 2))).cell? ⟨w.heap.size, j, none⟩ = (#[.int .u8 120] : Array Value)[j]? := fun j => by
    unfold World.cell?
    rw [heap_alloc_new w _]
    rfl
  obtain ⟨X, hX⟩ : ∃ X, w.alloc (.cells #[.int .u8 120] 5 (1, 2)) = X := ⟨_, rfl⟩
  have e : w.heap.size + 1 = X.heap.size := by rw [← hX, World.size_alloc]
  rw [hX] at h1 ⊢
  rw [e]
  refine ⟨_, 1, rfl, Nat.le_refl 1, fun i f hi => ?_⟩
  have hi0 : i = 0 := by have := (List.getElem?_eq_some_iff.1 hi).1; simp at this; exact this
  subst hi0
  cases hi
  refine ⟨X.heap.size, 0, .slice (some ⟨w.heap.size, 0, none⟩) 1 1, rfl, by rw [World.size_alloc]; exact Nat.lt_succ_self _, fun j u hj => ?_, some ⟨w.heap.size, 0, none⟩, 1, rfl, Nat.le_refl 1, fun _ => ⟨w.heap.size, 0, rfl, by rw [World.size_alloc]; omega, fun k y hk => ?_⟩⟩
  · rw [Nat.zero_mul, Nat.zero_add, World.cell?_alloc_new]
    simpa [al] using hj
  · have hk0 : k = 0 := by have := (List.getElem?_eq_some_iff.1 hk).1; have h2 : al.2.length = 1 := rfl; omega
    subst hk0
    cases hk
    rw [((Below.refl X.heap.size X).alloc (Nat.le_refl _) _).cell (p := ⟨w.heap.size, 0 + 0, none⟩) (by show w.heap.size < X.heap.size; omega), h1]
    rfl
set_option maxRecDepth 100000 in
set_option maxHeartbeats 8000000 in
theorem alive_any {w : World} (hg : Glob w) :
    Calls Tryd.prog 5 #[] w fun e w' => e = .returned (.bool true) ∧ Below w.heap.size w w' := by
  have HG := hide hg
  clear hg
  have kc := fun (w : World) (C : Array Value) (n c : Nat) => Lib.run_convert_bytes_const (P := Tryd.prog) w 23 5 C n c Tryd.underlying23 Tryd.underlying5
  go_enter Tryd.func5, Tryd.ntmps5
  have WX := hide (show Below w.heap.size w ((w.alloc (.cells #[.int .u8 120] 5 (1, 2))).alloc (.cells #[.string ⟨#[97]⟩, .slice (some ⟨w.heap.size, 0, none⟩) 1 1] 40)) from ((Below.refl _ w).alloc (Nat.le_refl _) _).alloc (by rw [World.size_alloc]; omega) _)
  have CT := hide (Tar_any (al_fb w) (by decide) (fun f hf => by rw [List.mem_singleton.1 hf]; decide) (fun f hf => by rw [List.mem_singleton.1 hf]; decide) ((unhide HG).later (unhide WX)))
  rw [tarR_ok al_ok (by rw [al_len]; decide)] at CT
  have CU := hide (fun (X : World) (v : Value) (hX : Below w.heap.size w X) (hR : Rb X v (tarL [al])) => show Calls Tryd.prog 8 #[v] X fun e w' => UnA X (0, [al]) e w' from by
    have q := Untar_any hR (by rw [al_len]; decide) ((unhide HG).later hX)
    rw [if_neg (by rw [al_len]; decide), U_tar al_ok] at q
    exact q)
  generalize hL : tarL [al] = L at *
  have hLl : L.length = 2048 := by rw [← hL]; exact al_len
  have hL0 : L[0]? = some 97 := by rw [← hL]; exact al_0
  have hL5 : L[512]? = some 120 := by rw [← hL]; exact al_512
  have HLL := hide (And.intro hLl (And.intro hL0 hL5))
  clear hL hLl hL0 hL5
  go_upto_region 2 with (first | (go_at_call 6; refine (unhide CT).mono ?_; rintro e w1 ⟨v, rfl, r1, b1⟩; have R1 := hide r1; have W1 := hide ((unhide WX).trans (b1.mono (unhide WX).size)); clear r1 b1 CT))
  obtain ⟨ba1, bc1, rfl, hbc1⟩ := (unhide R1).form
  rw [(unhide HLL).1] at hbc1 R1 ⊢
  go_upto_region 3 with (first | (go_at_call 8; refine (unhide CU _ _ (unhide W1) (unhide R1)).mono ?_; rintro e w2 ⟨v2, rfl, f2, b2⟩; have F2 := hide (Fb.own f2); have R2 := hide ((unhide R1).later b2); have W2 := hide (bl_t (unhide W1) b2); clear f2 b2 CU R1))
  clear kc
  obtain ⟨la, lc, rfl, hlc⟩ := (unhide F2).form
  obtain ⟨b2, o2, x, y, rfl, hrg, hrb⟩ := (unhide F2).at (i := 0) (by decide)
  obtain ⟨b1, o1, rfl, _, hcc⟩ := (unhide R2).at (by rw [(unhide HLL).1]; decide)
  have c0 : w2.cell? ⟨b1, o1, none⟩ = some (.int .u8 97) := by
    have q := hcc 0 (by rw [(unhide HLL).1]; decide)
    have e := (unhide HLL).2.1
    rw [List.getElem?_eq_getElem (by rw [(unhide HLL).1]; decide)] at e
    rw [Option.some.inj e] at q
    exact q
  have c5 : w2.cell? ⟨b1, o1 + 512, none⟩ = some (.int .u8 120) := by
    have q := hcc 512 (by rw [(unhide HLL).1]; decide)
    have e := (unhide HLL).2.2
    rw [List.getElem?_eq_getElem (by rw [(unhide HLL).1]; decide)] at e
    rw [Option.some.inj e] at q
    exact q
  have d0 : w2.cell? ⟨b2, o2, none⟩ = some (.string ⟨#[97]⟩) := hrg 0 _ rfl
  have d1 : w2.cell? ⟨b2, o2 + 1, none⟩ = some (.slice x 1 y) := hrg 1 _ rfl
  have hcv := conv_rb (show Rb w2 (.slice x 1 y) [120] from hrb)
  have h51 : (512 : Int) < 2048 := by decide
  clear hcc hrg hrb
  have hse : ((ba [120]).toList == [120]) = true := by decide +kernel
  go_wp2_with fail
  go_ret
  exact ⟨by rw [← hse]; rfl, unhide W2⟩
end Go.Proofs.YtjmomdnlibfbkaaDoor
