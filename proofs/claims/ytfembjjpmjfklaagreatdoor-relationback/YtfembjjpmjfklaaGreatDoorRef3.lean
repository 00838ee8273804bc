import Derived.Test.YtfembjjpmjfklaaGreatDoorRef2
namespace Go.Proofs.YtfembjjpmjfklaaGreatDoor
open Go.RowKit

theorem allB_congr (p q : Int → Bool) (u : ByteArray) (h : ∀ c ∈ u.data.toList, p (c.toNat : Int) = q (c.toNat : Int)) : allB p u = allB q u := by
  unfold allB
  rw [Bool.eq_iff_iff, List.all_eq_true, List.all_eq_true]
  exact ⟨fun hp c hc => (h c hc) ▸ hp c hc, fun hq c hc => (h c hc).symm ▸ hq c hc⟩

theorem mem_extract {s : ByteArray} {a b : Nat} {c : UInt8} (h : c ∈ (s.extract a b).data.toList) : c ∈ s.data.toList := by
  rw [ByteArray.data_extract, Array.toList_extract] at h
  exact List.mem_of_mem_drop (List.mem_of_mem_take h)

theorem cut_no_colon (s : ByteArray) (h : (cut s).c = false) : ∀ c ∈ (cut s).u.data.toList, c ≠ 58 := by
  have hi : Lib.indexByte s.data.toList 58 = -1 := by
    have h' : decide (Lib.indexByte s.data.toList 58 ≠ -1) = false := h
    simpa using h'
  have hr : rest s = s := by unfold rest; rw [if_pos hi]
  have hn : ∀ c ∈ s.data.toList, c ≠ 58 := by
    rcases indexByte_spec s.data.toList 58 with ⟨_, h2⟩ | ⟨i, hi', h1, _, _⟩
    · intro c hc
      obtain ⟨j, hj, rfl⟩ := List.getElem_of_mem hc
      exact h2 j hj
    · rw [h1] at hi; omega
  intro c hc
  have hu : (cut s).u = if Lib.lastIndexByte (rest s) 45 = -1 then rest s else (rest s).extract 0 (Lib.lastIndexByte (rest s) 45).toNat := rfl
  rw [hu, hr] at hc
  split at hc
  · exact hn c hc
  · exact hn c (mem_extract hc)

theorem cut_no_hyphen (s : ByteArray) (h : (cut s).d = false) : ∀ c ∈ (cut s).u.data.toList, c ≠ 45 := by
  have hi : Lib.lastIndexByte (rest s) 45 = -1 := by
    have h' : decide (Lib.lastIndexByte (rest s) 45 ≠ -1) = false := h
    simpa using h'
  have hu : (cut s).u = if Lib.lastIndexByte (rest s) 45 = -1 then rest s else (rest s).extract 0 (Lib.lastIndexByte (rest s) 45).toNat := rfl
  rw [hu, if_pos hi]
  rcases Lib.lastIndexByte_spec (rest s) 45 with ⟨_, h2⟩ | ⟨i, _, h1, _, _⟩
  · intro c hc
    obtain ⟨j, hj, rfl⟩ := List.getElem_of_mem hc
    have hj' : j < (rest s).size := by simpa using hj
    have := h2 j hj'
    rw [byteBang _ j hj'] at this
    intro e
    apply this
    have e' : (rest s)[j] = 45 := e
    rw [e']; rfl
  · rw [h1] at hi; omega

theorem u8_ne {c : UInt8} {n : Nat} (hn : n < 256) (h : c ≠ UInt8.ofNat n) : ((c.toNat : Int) == (n : Int)) = false := by
  rw [beq_eq_false_iff_ne]
  intro e
  apply h
  apply UInt8.toNat_inj.1
  rw [UInt8.toNat_ofNat']
  omega

theorem wrong_chk (s : ByteArray) : wrong (cut s).e (cut s).u (cut s).r (cut s).c (cut s).d = chk (cut s).e (cut s).u (cut s).r (cut s).c (cut s).d := by
  have hA : allB (upR (cut s).c (cut s).d) (cut s).u = allB isUp (cut s).u := by
    apply allB_congr
    intro c hc
    unfold upR isUp
    cases hC : (cut s).c <;> cases hD : (cut s).d
    · have e1 : ((c.toNat : Int) == 58) = false := u8_ne (n := 58) (by decide) (cut_no_colon s hC c hc)
      have e2 : ((c.toNat : Int) == 45) = false := u8_ne (n := 45) (by decide) (cut_no_hyphen s hD c hc)
      simp [e1, e2]
    · have e1 : ((c.toNat : Int) == 58) = false := u8_ne (n := 58) (by decide) (cut_no_colon s hC c hc)
      simp [e1]
    · have e2 : ((c.toNat : Int) == 45) = false := u8_ne (n := 45) (by decide) (cut_no_hyphen s hD c hc)
      simp [e2]
    · simp
  have k1 : kind 62 = isDig := rfl
  have k2 : kind 63 = isUp := rfl
  have k3 : kind 64 = isRev := rfl
  unfold wrong chk
  rw [hA, k1, k2, k3]
  generalize (cut s).u.toList.isEmpty = a1
  generalize (cut s).e.toList.isEmpty = a2
  generalize (cut s).r.toList.isEmpty = a3
  generalize allB isDig (cut s).e = a4
  generalize allB isUp (cut s).u = a5
  generalize allB isRev (cut s).r = a6
  generalize isDig (b0 (cut s).u) = a7
  generalize (cut s).c = a8
  generalize (cut s).d = a9
  revert a1 a2 a3 a4 a5 a6 a7 a8 a9
  decide

end Go.Proofs.YtfembjjpmjfklaaGreatDoor
