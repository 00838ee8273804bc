import Derived.Test.YtjmomdnlibfbkaaDoorAbT
namespace Go.Proofs.YtjmomdnlibfbkaaDoor
open Go.RowKit

theorem U_tar {fs : List Fl} (h : ∀ f ∈ fs, okF f) : U (tarL fs) = (0, fs) := by
  rw [← unt_tar h (tarL fs).length]
  exact (U_eq (by omega)).symm
theorem U_tail {fs : List Fl} (h : ∀ f ∈ fs, okF f) : U ((tarL fs).take ((tarL fs).length - 1)) = (73, []) := by
  have e : (tarL fs).take ((tarL fs).length - 1) = fs.flatMap blk ++ zs 1023 := by
    unfold tarL
    rw [List.length_append, zs_len, List.take_append, List.take_of_length_le (by omega), zs_take (by omega)]
    congr 2
    omega
  rw [e, ← unt_short h (fs.flatMap blk ++ zs 1023).length]
  exact (U_eq (by omega)).symm
theorem U_more {fs : List Fl} (h : ∀ f ∈ fs, okF f) : U (tarL fs ++ [0]) = (75, []) := by
  have e : tarL fs ++ [0] = fs.flatMap blk ++ zs 1025 := by
    unfold tarL
    rw [List.append_assoc, show zs 1024 ++ [0] = zs 1025 from by
      show zs 1024 ++ zs 1 = zs 1025
      unfold zs
      rw [List.replicate_append_replicate]]
  rw [e, ← unt_rest h (fs.flatMap blk ++ zs 1025).length]
  exact (U_eq (by omega)).symm
theorem U_back {d : Bs} (h : (U d).1 = 0) : d = tarL (U d).2 ∧ ∀ f ∈ (U d).2, okF f := unt_is _ d h
theorem fill_512 (n : Nat) : fill n % 512 = 0 := by unfold fill; omega
theorem tz_512 : ∀ fs : List Fl, tz fs % 512 = 0
  | [] => rfl
  | f :: r => by
    have h1 := fill_512 f.2.length
    have h2 := tz_512 r
    show (512 + fill f.2.length + tz r) % 512 = 0
    omega
theorem tarR_ok {fs : List Fl} (h : ∀ f ∈ fs, okF f) (hl : (tarL fs).length ≤ 16777216) : tarR fs = (0, tarL fs) := by
  unfold tarR
  rw [if_neg (fun q => q ((ckE_iff fs).2 h)), if_neg (by omega)]
theorem tarR_back {fs : List Fl} (h : (tarR fs).1 = 0) : (∀ f ∈ fs, okF f) ∧ (tarL fs).length ≤ 16777216 ∧ tarR fs = (0, tarL fs) := by
  unfold tarR at h ⊢
  by_cases h1 : ckE fs = 0
  · rw [if_neg (fun q => q h1)] at h ⊢
    by_cases h2 : 16777216 < (tarL fs).length
    · rw [if_pos h2] at h
      cases h
    · rw [if_neg h2]
      exact ⟨(ckE_iff fs).1 h1, by omega, rfl⟩
  · rw [if_pos h1] at h
    exact absurd h h1
def al : Fl := (⟨#[97]⟩, [120])
theorem al_ok : ∀ f ∈ [al], okF f := fun f hf => by
  rw [List.mem_singleton.1 hf]
  exact ⟨by decide +kernel, by decide⟩
theorem al_len : (tarL [al]).length = 2048 := by rw [tar_len al_ok]; rfl
theorem al_0 : (tarL [al])[0]? = some 97 := by decide +kernel
theorem al_512 : (tarL [al])[512]? = some 120 := by decide +kernel
end Go.Proofs.YtjmomdnlibfbkaaDoor
