import Derived.Test.YtdkpglmdncjnbaaGreatDoorZf05
namespace Go.Proofs.YtdkpglmdncjnbaaGreatDoor
section
open Go.RowKit
theorem bne_of_ne {s : ByteArray} {j : Nat} {c : Int} (hj : j < s.size) (h : ((s.data[j]!).toNat : Int) ≠ c) : ((s[j].toNat : Int) == c) = false := by
 rw [byteBang s j hj] at h; simpa using h
theorem beq_of_eq {s : ByteArray} {j : Nat} {c : Int} (hj : j < s.size) (h : ((s.data[j]!).toNat : Int) = c) : ((s[j].toNat : Int) == c) = true := by
 rw [byteBang s j hj] at h; simpa using h
theorem colon_ne {s : ByteArray} {j : Nat} (hj : j < s.size) (h : s.data.toList[j]'(by simpa using hj) ≠ 58) : ((s[j].toNat : Int) == 58) = false := by
 rw [beq_eq_false_iff_ne]
 intro hh
 apply h
 show s[j] = 58
 apply UInt8.toNat_inj.1
 show s[j].toNat = 58
 omega
theorem colon_eq {s : ByteArray} {j : Nat} (hj : j < s.size) (h : s.data.toList[j]'(by simpa using hj) = 58) : ((s[j].toNat : Int) == 58) = true := by
 have h' : s[j] = 58 := h
 rw [h']; rfl
theorem cut_eq (s r : ByteArray) (h : r = rest s) : cut s = ⟨if Lib.indexByte s.data.toList 58 = -1 then nob else s.extract 0 (Lib.indexByte s.data.toList 58).toNat, if Lib.lastIndexByte r 45 = -1 then r else r.extract 0 (Lib.lastIndexByte r 45).toNat,
 if Lib.lastIndexByte r 45 = -1 then nob else r.extract ((Lib.lastIndexByte r 45).toNat + 1) r.size, decide (Lib.indexByte s.data.toList 58 ≠ -1), decide (Lib.lastIndexByte r 45 ≠ -1)⟩ := by
 subst h; rfl
set_option maxHeartbeats 4000000 in
theorem rparts_no (s : ByteArray) (hs : s.size < 4611686018427387904) (h1 : Lib.indexByte s.data.toList 58 = -1) (hn1 : ∀ (j : Nat) (hj : j < s.data.toList.length), s.data.toList[j] ≠ 58) (w : World) :
 Calls Tryz.prog 132 #[.string s] w fun e w' => e = .returned (verAgg (cut s)) ∧ Below w.heap.size w w' := by
 have HR := hide (show s = rest s by unfold rest; rw [if_pos h1])
 have HI := hide h1
 have HN1 := hide hn1
 clear h1 hn1
 go_enter Tryz.func132, Tryz.ntmps132
 go_wp2
 go_loopw [4, 5] (fun rv i wr => ∃ k : Nat, k ≤ s.size ∧ rv = .string s ∧ i = .int .i64 k ∧ wr = (w.alloc (.cells #[.string ⟨#[]⟩, .string ⟨#[]⟩, .string ⟨#[]⟩, .bool false, .bool false] 172)).alloc (.cells #[.string ⟨#[]⟩, .string ⟨#[]⟩, .string ⟨#[]⟩, .bool false, .bool false] 172)) (fun _ i _ => s.size - (intOf i).toNat)
 case atStart => exact ⟨0, Nat.zero_le _, rfl, rfl, rfl⟩
 case round =>
  obtain ⟨k, hk, rfl, rfl, rfl⟩ := hrel
  by_cases hlt : k < s.size
  ·have hb := colon_ne hlt (unhide HN1 k (by simpa using hlt))
   go_wp2
   go_roundw
   case rel => exact ⟨k + 1, by omega, rfl, by go_num, by first | rfl | trivial⟩
   case measure => simp [intOf]; omega
  ·clear HN1
   rcases Lib.lastIndexByte_spec s 45 with ⟨h2, hn2⟩ | ⟨j0, hj0, h2, he2, hn2⟩
   ·have HF := hide (show cut s = ⟨nob, s, nob, false, false⟩ by rw [cut_eq s s (unhide HR), h2]; simp [unhide HI])
    have HN := hide hn2
    clear hn2 h2
    go_wp2
    go_loopw [6] (fun i wr => ∃ k : Nat, k ≤ s.size ∧ i = .int .i64 ((k : Int) - 1) ∧ wr = (w.alloc (.cells #[.string ⟨#[]⟩, .string ⟨#[]⟩, .string ⟨#[]⟩, .bool false, .bool false] 172)).alloc (.cells #[.string nob, .string s, .string ⟨#[]⟩, .bool false, .bool false] 172)) (fun i _ => ((intOf i) + 1).toNat)
    case atStart => exact ⟨s.size, Nat.le_refl _, by first | rfl | go_num | (congr 1; omega), rfl⟩
    case round =>
     obtain ⟨k, hk, rfl, rfl⟩ := hrel
     by_cases hlt : 0 < k
     ·have hb := bne_of_ne (s := s) (j := k - 1) (by omega) (unhide HN (k - 1) (by omega))
      go_wp2
      go_roundw
      case rel => exact ⟨k - 1, by omega, by congr 1; omega, by first | rfl | trivial⟩
      case measure => simp [intOf]; omega
     ·go_wp2
      exact bodyPost_ret (v := .agg #[.string nob, .string s, .string nob, .bool false, .bool false]) (by simp [results, Tryz.results132, go_sem, nob]) rfl ⟨by rw [unhide HF]; rfl, ((Below.refl _ _).alloc (Nat.le_refl _) _).alloc (by simp) _⟩
   ·have HF := hide (show cut s = ⟨nob, s.extract 0 j0, s.extract (j0 + 1) s.size, false, true⟩ by rw [cut_eq s s (unhide HR), h2]; simp [unhide HI, show ¬ ((j0 : Int) = -1) by omega])
    have HN := hide hn2
    have hbe := hide (beq_of_eq hj0 he2)
    clear hn2 h2 he2
    go_wp2
    go_loopw [6] (fun i wr => (∃ k : Nat, j0 < k ∧ k ≤ s.size ∧ i = .int .i64 ((k : Int) - 1) ∧ wr = (w.alloc (.cells #[.string ⟨#[]⟩, .string ⟨#[]⟩, .string ⟨#[]⟩, .bool false, .bool false] 172)).alloc (.cells #[.string nob, .string s, .string ⟨#[]⟩, .bool false, .bool false] 172)) ∨ (i = .int .i64 ((j0 : Int) - 1) ∧ wr = (w.alloc (.cells #[.string ⟨#[]⟩, .string ⟨#[]⟩, .string ⟨#[]⟩, .bool false, .bool false] 172)).alloc (.cells #[.string nob, .string (s.extract 0 j0), .string (s.extract (j0 + 1) s.size), .bool false, .bool true] 172)))
     (fun i _ => ((intOf i) + 1).toNat)
    case atStart => exact .inl ⟨s.size, hj0, Nat.le_refl _, by first | rfl | go_num | (congr 1; omega), rfl⟩
    case round =>
     rcases hrel with ⟨k, hk0, hk, rfl, rfl⟩ | ⟨rfl, rfl⟩
     ·by_cases hlt : k = j0 + 1
      ·subst hlt
       have hb : ((s[j0].toNat : Int) == 45) = true := unhide hbe
       go_wp2
       go_roundw
       case rel => exact .inr ⟨by first | rfl | (congr 1; omega), by first | rfl | trivial⟩
       case measure => simp [intOf] <;> omega
      ·have hb := bne_of_ne (s := s) (j := k - 1) (by omega) (unhide HN (k - 1) (by omega) (by omega))
       go_wp2
       go_roundw
       case rel => exact .inl ⟨k - 1, by omega, by omega, by congr 1; omega, by first | rfl | trivial⟩
       case measure => simp [intOf]; omega
     ·by_cases hj : 0 < j0
      all_goals
       go_wp2
       exact bodyPost_ret (v := .agg #[.string nob, .string (s.extract 0 j0), .string (s.extract (j0 + 1) s.size), .bool false, .bool true]) (by simp [results, Tryz.results132, go_sem, nob]) rfl ⟨by rw [unhide HF]; rfl, ((Below.refl _ _).alloc (Nat.le_refl _) _).alloc (by simp) _⟩
set_option maxHeartbeats 4000000 in
theorem rparts_yes (s : ByteArray) (hs : s.size < 4611686018427387904) (i0 : Nat) (hi0 : i0 < s.size) (h1 : Lib.indexByte s.data.toList 58 = i0) (he1 : ((s[i0].toNat : Int) == 58) = true) (hn1 : ∀ (j : Nat) (hj : j < s.size), j < i0 → ((s[j].toNat : Int) == 58) = false) (w : World) :
 Calls Tryz.prog 132 #[.string s] w fun e w' => e = .returned (verAgg (cut s)) ∧ Below w.heap.size w w' := by
 have HR0 := hide (show s.extract (i0 + 1) s.size = rest s by unfold rest; rw [if_neg (by rw [h1]; omega), h1]; rfl)
 have HI := hide h1
 have HN1 := hide hn1
 have HE1 := hide he1
 clear h1 hn1 he1
 go_enter Tryz.func132, Tryz.ntmps132
 go_wp2
 go_loopw [4, 5] (fun rv i wr => (∃ k : Nat, k ≤ i0 ∧ rv = .string s ∧ i = .int .i64 k ∧ wr = (w.alloc (.cells #[.string ⟨#[]⟩, .string ⟨#[]⟩, .string ⟨#[]⟩, .bool false, .bool false] 172)).alloc (.cells #[.string ⟨#[]⟩, .string ⟨#[]⟩, .string ⟨#[]⟩, .bool false, .bool false] 172)) ∨ (∃ r, Hid (r = rest s) ∧ Hid (r.size ≤ s.size) ∧ rv = .string r ∧ i = .int .i64 ((i0 : Int) + 1) ∧ wr = (w.alloc (.cells #[.string ⟨#[]⟩, .string ⟨#[]⟩, .string ⟨#[]⟩, .bool false, .bool false] 172)).alloc (.cells #[.string (s.extract 0 i0), .string ⟨#[]⟩, .string ⟨#[]⟩, .bool true, .bool false] 172))) (fun _ i _ => s.size - (intOf i).toNat)
 case atStart => exact .inl ⟨0, Nat.zero_le _, rfl, rfl, rfl⟩
 case round =>
  rcases hrel with ⟨k, hk, rfl, rfl, rfl⟩ | ⟨r, HR, HZ, rfl, rfl, rfl⟩
  ·by_cases hlt : k = i0
   ·subst hlt
    have hb := unhide HE1
    go_wp2
    go_roundw
    case rel => exact .inr ⟨_, hide (unhide HR0), hide (by rw [ByteArray.size_extract]; omega), rfl, rfl, by first | rfl | trivial⟩
    case measure => simp [intOf]; omega
   ·have hb := unhide HN1 k (by omega) (by omega)
    go_wp2
    go_roundw
    case rel => exact .inl ⟨k + 1, by omega, rfl, by go_num, by first | rfl | trivial⟩
    case measure => simp [intOf]; omega
  ·clear HN1 HE1 HR0
   have hz := unhide HZ
   clear HZ
   by_cases hlt : i0 + 1 < s.size
   all_goals
    rcases Lib.lastIndexByte_spec r 45 with ⟨h2, hn2⟩ | ⟨j0, hj0, h2, he2, hn2⟩
    ·have HF := hide (show cut s = ⟨(s.extract 0 i0), r, nob, true, false⟩ by rw [cut_eq s r (unhide HR), h2]; simp [unhide HI, show ¬ ((i0 : Int) = -1) by omega])
     have HN := hide hn2
     clear hn2 h2
     go_wp2
     go_loopw [6] (fun i wr => ∃ k : Nat, k ≤ r.size ∧ i = .int .i64 ((k : Int) - 1) ∧ wr = (w.alloc (.cells #[.string ⟨#[]⟩, .string ⟨#[]⟩, .string ⟨#[]⟩, .bool false, .bool false] 172)).alloc (.cells #[.string ((s.extract 0 i0)), .string r, .string ⟨#[]⟩, .bool true, .bool false] 172)) (fun i _ => ((intOf i) + 1).toNat)
     case atStart => exact ⟨r.size, Nat.le_refl _, by first | rfl | go_num | (congr 1; omega), rfl⟩
     case round =>
      obtain ⟨k, hk, rfl, rfl⟩ := hrel
      by_cases hlt : 0 < k
      ·have hb := bne_of_ne (s := r) (j := k - 1) (by omega) (unhide HN (k - 1) (by omega))
       go_wp2
       go_roundw
       case rel => exact ⟨k - 1, by omega, by congr 1; omega, by first | rfl | trivial⟩
       case measure => simp [intOf]; omega
      ·go_wp2
       exact bodyPost_ret (v := .agg #[.string ((s.extract 0 i0)), .string r, .string nob, .bool true, .bool false]) (by simp [results, Tryz.results132, go_sem, nob]) rfl ⟨by rw [unhide HF]; rfl, ((Below.refl _ _).alloc (Nat.le_refl _) _).alloc (by simp) _⟩
    ·have HF := hide (show cut s = ⟨(s.extract 0 i0), r.extract 0 j0, r.extract (j0 + 1) r.size, true, true⟩ by rw [cut_eq s r (unhide HR), h2]; simp [unhide HI, show ¬ ((j0 : Int) = -1) by omega, show ¬ ((i0 : Int) = -1) by omega])
     have HN := hide hn2
     have hbe := hide (beq_of_eq hj0 he2)
     clear hn2 h2 he2
     go_wp2
     go_loopw [6] (fun i wr => (∃ k : Nat, j0 < k ∧ k ≤ r.size ∧ i = .int .i64 ((k : Int) - 1) ∧ wr = (w.alloc (.cells #[.string ⟨#[]⟩, .string ⟨#[]⟩, .string ⟨#[]⟩, .bool false, .bool false] 172)).alloc (.cells #[.string ((s.extract 0 i0)), .string r, .string ⟨#[]⟩, .bool true, .bool false] 172)) ∨ (i = .int .i64 ((j0 : Int) - 1) ∧ wr = (w.alloc (.cells #[.string ⟨#[]⟩, .string ⟨#[]⟩, .string ⟨#[]⟩, .bool false, .bool false] 172)).alloc (.cells #[.string ((s.extract 0 i0)), .string (r.extract 0 j0), .string (r.extract (j0 + 1) r.size), .bool true, .bool true] 172)))
      (fun i _ => ((intOf i) + 1).toNat)
     case atStart => exact .inl ⟨r.size, hj0, Nat.le_refl _, by first | rfl | go_num | (congr 1; omega), rfl⟩
     case round =>
      rcases hrel with ⟨k, hk0, hk, rfl, rfl⟩ | ⟨rfl, rfl⟩
      ·by_cases hlt : k = j0 + 1
       ·subst hlt
        have hb : ((r[j0].toNat : Int) == 45) = true := unhide hbe
        go_wp2
        go_roundw
        case rel => exact .inr ⟨by first | rfl | (congr 1; omega), by first | rfl | trivial⟩
        case measure => simp [intOf] <;> omega
       ·have hb := bne_of_ne (s := r) (j := k - 1) (by omega) (unhide HN (k - 1) (by omega) (by omega))
        go_wp2
        go_roundw
        case rel => exact .inl ⟨k - 1, by omega, by omega, by congr 1; omega, by first | rfl | trivial⟩
        case measure => simp [intOf]; omega
      ·by_cases hj : 0 < j0
       all_goals
        go_wp2
        exact bodyPost_ret (v := .agg #[.string ((s.extract 0 i0)), .string (r.extract 0 j0), .string (r.extract (j0 + 1) r.size), .bool true, .bool true]) (by simp [results, Tryz.results132, go_sem]) rfl ⟨by rw [unhide HF]; rfl, ((Below.refl _ _).alloc (Nat.le_refl _) _).alloc (by simp) _⟩
end
section
open Go.RowKit
theorem rparts_any (s : ByteArray) (hs : s.size < 4611686018427387904) (w : World) :
 Calls Tryz.prog 132 #[.string s] w fun e w' => e = .returned (verAgg (cut s)) ∧ Below w.heap.size w w' := by
 rcases indexByte_spec s.data.toList 58 with ⟨h1, h2⟩ | ⟨i, hi, h1, h2, h3⟩
 ·exact rparts_no s hs h1 h2 w
 ·have hi' : i < s.size := by simpa using hi
  exact rparts_yes s hs i hi' h1 (colon_eq hi' h2) (fun j hj h => colon_ne hj (h3 j h)) w
theorem allB_congr (p q : Int → Bool) (u : ByteArray) (h : ∀ c ∈ u.data.toList, p (c.toNat : Int) = q (c.toNat : Int)) : allB p u = allB q u := by
 unfold allB
 rw [Bool.eq_iff_iff, List.all_eq_true, List.all_eq_true]
 exact ⟨fun hp c hc => (h c hc) ▸ hp c hc, fun hq c hc => (h c hc).symm ▸ hq c hc⟩
theorem mem_extract {s : ByteArray} {a b : Nat} {c : UInt8} (h : c ∈ (s.extract a b).data.toList) : c ∈ s.data.toList := by
 rw [ByteArray.data_extract, Array.toList_extract] at h
 exact List.mem_of_mem_drop (List.mem_of_mem_take h)
theorem cut_no_colon (s : ByteArray) (h : (cut s).c = false) : ∀ c ∈ (cut s).u.data.toList, c ≠ 58 := by
 have hi : Lib.indexByte s.data.toList 58 = -1 := by
  have h' : decide (Lib.indexByte s.data.toList 58 ≠ -1) = false := h
  simpa using h'
 have hr : rest s = s := by unfold rest; rw [if_pos hi]
 have hn : ∀ c ∈ s.data.toList, c ≠ 58 := by
  rcases indexByte_spec s.data.toList 58 with ⟨_, h2⟩ | ⟨i, hi', h1, _, _⟩
  ·intro c hc
   obtain ⟨j, hj, rfl⟩ := List.getElem_of_mem hc
   exact h2 j hj
  ·rw [h1] at hi; omega
 intro c hc
 have hu : (cut s).u = if Lib.lastIndexByte (rest s) 45 = -1 then rest s else (rest s).extract 0 (Lib.lastIndexByte (rest s) 45).toNat := rfl
 rw [hu, hr] at hc
 split at hc
 ·exact hn c hc
 ·exact hn c (mem_extract hc)
theorem cut_no_hyphen (s : ByteArray) (h : (cut s).d = false) : ∀ c ∈ (cut s).u.data.toList, c ≠ 45 := by
 have hi : Lib.lastIndexByte (rest s) 45 = -1 := by
  have h' : decide (Lib.lastIndexByte (rest s) 45 ≠ -1) = false := h
  simpa using h'
 have hu : (cut s).u = if Lib.lastIndexByte (rest s) 45 = -1 then rest s else (rest s).extract 0 (Lib.lastIndexByte (rest s) 45).toNat := rfl
 rw [hu, if_pos hi]
 rcases Lib.lastIndexByte_spec (rest s) 45 with ⟨_, h2⟩ | ⟨i, _, h1, _, _⟩
 ·intro c hc
  obtain ⟨j, hj, rfl⟩ := List.getElem_of_mem hc
  have hj' : j < (rest s).size := by simpa using hj
  have := h2 j hj'
  rw [byteBang _ j hj'] at this
  intro e
  apply this
  have e' : (rest s)[j] = 45 := e
  rw [e']; rfl
 ·rw [h1] at hi; omega
theorem u8_ne {c : UInt8} {n : Nat} (hn : n < 256) (h : c ≠ UInt8.ofNat n) : ((c.toNat : Int) == (n : Int)) = false := by
 rw [beq_eq_false_iff_ne]
 intro e
 apply h
 apply UInt8.toNat_inj.1
 rw [UInt8.toNat_ofNat']
 omega
theorem wrong_chk (s : ByteArray) : wrong (cut s).e (cut s).u (cut s).r (cut s).c (cut s).d = chk (cut s).e (cut s).u (cut s).r (cut s).c (cut s).d := by
 have hA : allB (upR (cut s).c (cut s).d) (cut s).u = allB isUp (cut s).u := by
  apply allB_congr
  intro c hc
  unfold upR isUp
  cases hC : (cut s).c <;> cases hD : (cut s).d
  ·have e1 : ((c.toNat : Int) == 58) = false := u8_ne (n := 58) (by decide) (cut_no_colon s hC c hc)
   have e2 : ((c.toNat : Int) == 45) = false := u8_ne (n := 45) (by decide) (cut_no_hyphen s hD c hc)
   simp [e1, e2]
  ·have e1 : ((c.toNat : Int) == 58) = false := u8_ne (n := 58) (by decide) (cut_no_colon s hC c hc)
   simp [e1]
  ·have e2 : ((c.toNat : Int) == 45) = false := u8_ne (n := 45) (by decide) (cut_no_hyphen s hD c hc)
   simp [e2]
  ·simp
 have k1 : kind 152 = isDig := rfl
 have k2 : kind 153 = isUp := rfl
 have k3 : kind 154 = isRev := rfl
 unfold wrong chk
 rw [hA, k1, k2, k3]
 generalize (cut s).u.toList.isEmpty = a1
 generalize (cut s).e.toList.isEmpty = a2
 generalize (cut s).r.toList.isEmpty = a3
 generalize allB isDig (cut s).e = a4
 generalize allB isUp (cut s).u = a5
 generalize allB isRev (cut s).r = a6
 generalize isDig (b0 (cut s).u) = a7
 generalize (cut s).c = a8
 generalize (cut s).d = a9
 revert a1 a2 a3 a4 a5 a6 a7 a8 a9
 decide
theorem rparts_as (s : ByteArray) (hs : s.size < 4611686018427387904) (E U R : ByteArray) (C D : Bool) (h : cut s = ⟨E, U, R, C, D⟩) (w : World) :
 Calls Tryz.prog 132 #[.string s] w fun e w' => e = .returned (.agg #[.string E, .string U, .string R, .bool C, .bool D]) ∧ Below w.heap.size w w' := by
 have := rparts_any s hs w
 rw [h] at this
 exact this
theorem rwrong_as (e u r : ByteArray) (c d : Bool) (n : Int) (hn : wrong e u r c d = n) (he : e.size ≤ maxLen) (hu : u.size ≤ maxLen) (hr : r.size ≤ maxLen) (w : World) :
 Calls Tryz.prog 133 #[.agg #[.string e, .string u, .string r, .bool c, .bool d]] w fun x w' => x = .returned (.int .i64 n) ∧ Below w.heap.size w w' := by
 have := rwrong_any e u r c d w he hu hr
 rw [hn] at this
 exact this
set_option maxHeartbeats 1000000 in
theorem rparse_long (s : ByteArray) (h : 256 < s.size) (hs : s.size ≤ maxLen) (w : World) :
 Calls Tryz.prog 122 #[.string s] w fun x w' => x = .returned (.tuple #[.agg #[.string nob, .string nob, .string nob, .bool false, .bool false], .int .i64 10]) ∧ Below w.heap.size w w' := by
 unfold maxLen at hs
 go_enter Tryz.func122, Tryz.ntmps122
 go_wp2
 exact bodyPost_ret (v := .tuple #[.agg #[.string nob, .string nob, .string nob, .bool false, .bool false], .int .i64 10]) (by simp [results, Tryz.results122, go_sem, nob]) rfl ⟨rfl, (Below.refl _ _).alloc (Nat.le_refl _) _⟩
set_option maxHeartbeats 1000000 in
theorem rparse_short (s : ByteArray) (h : s.size ≤ 256) (E U R : ByteArray) (C D : Bool) (hc : cut s = ⟨E, U, R, C, D⟩) (n : Int) (hn : chk E U R C D = n) (w : World) :
 Calls Tryz.prog 122 #[.string s] w fun x w' => x = .returned (.tuple #[if n = 0 then .agg #[.string E, .string U, .string R, .bool C, .bool D] else .agg #[.string nob, .string nob, .string nob, .bool false, .bool false], .int .i64 n]) ∧ Below w.heap.size w w' := by
 have hz := cut_size s
 rw [hc] at hz
 obtain ⟨z1, z2, z3⟩ := hz
 simp only at z1 z2 z3
 have c1 := hide (fun w => rparts_as s (by omega) E U R C D hc w)
 have hw : wrong E U R C D = n := by
  have := wrong_chk s
  rw [hc] at this
  exact this.trans hn
 have c2 := hide (fun w => rwrong_as E U R C D n hw (by unfold maxLen; omega) (by unfold maxLen; omega) (by unfold maxLen; omega) w)
 clear hc hn hw z1 z2 z3
 by_cases e : n = 0
 ·subst e
  rw [if_pos rfl]
  go_enter Tryz.func122, Tryz.ntmps122
  go_wp2_with fail
  refine (unhide c1 _).mono ?_
  rintro e w1 ⟨rfl, hb1⟩
  have hz1 := hb1.size
  have hb1' := hide hb1
  obtain ⟨hc1, hf1⟩ := bcell hb1
  clear hb1
  simp at hz1
  go_wp2_with fail
  refine (unhide c2 _).mono ?_
  rintro e w2 ⟨rfl, hb2⟩
  have hz2 := hb2.size
  have hb2' := hide hb2
  obtain ⟨hc2, hf2⟩ := bcell hb2
  clear hb2
  simp at hz2
  have q1 : w.heap.size < w1.heap.size + 1 := by omega
  have q2 : w.heap.size < w1.heap.size := by omega
  go_wp2_with fail
  refine bodyPost_ret (v := .tuple #[.agg #[.string E, .string U, .string R, .bool C, .bool D], .int .i64 0]) (by simp [results, Tryz.results122, go_sem, hc1, hc2, q1, q2]) rfl ⟨rfl, ?_⟩
  exact below_set5 (((((Below.refl _ w).alloc (Nat.le_refl _) _).trans ((unhide hb1').mono (by simp))).alloc (by omega) _).trans ((unhide hb2').mono (by simp; omega))) _ _ _ _ _
 ·have hn : (n != 0) = true := by simp [e]
  rw [if_neg e]
  clear e
  go_enter Tryz.func122, Tryz.ntmps122
  go_wp2_with fail
  refine (unhide c1 _).mono ?_
  rintro e w1 ⟨rfl, hb1⟩
  have hz1 := hb1.size
  have hb1' := hide hb1
  obtain ⟨hc1, hf1⟩ := bcell hb1
  clear hb1
  simp at hz1
  go_wp2_with fail
  refine (unhide c2 _).mono ?_
  rintro e w2 ⟨rfl, hb2⟩
  have hz2 := hb2.size
  have hb2' := hide hb2
  obtain ⟨hc2, hf2⟩ := bcell hb2
  clear hb2
  simp at hz2
  have q1 : w.heap.size < w1.heap.size + 1 := by omega
  have q2 : w.heap.size < w1.heap.size := by omega
  go_wp2_with fail
  refine bodyPost_ret (v := .tuple #[.agg #[.string nob, .string nob, .string nob, .bool false, .bool false], .int .i64 n]) (by simp [results, Tryz.results122, go_sem, nob, hc1, hc2, q1, q2]) rfl ⟨rfl, ?_⟩
  exact below_set5 (((((Below.refl _ w).alloc (Nat.le_refl _) _).trans ((unhide hb1').mono (by simp))).alloc (by omega) _).trans ((unhide hb2').mono (by simp; omega))) _ _ _ _ _
theorem rParse_any (s : ByteArray) (hs : s.size ≤ maxLen) (E U R : ByteArray) (C D : Bool) (n : Int) (h : parse s = (⟨E, U, R, C, D⟩, n)) (w : World) :
 Calls Tryz.prog 122 #[.string s] w fun x w' => x = .returned (.tuple #[.agg #[.string E, .string U, .string R, .bool C, .bool D], .int .i64 n]) ∧ Below w.heap.size w w' := by
 unfold parse at h
 by_cases hl : 256 < s.size
 ·rw [if_pos hl] at h
  cases h
  exact rparse_long s hl hs w
 ·rw [if_neg hl] at h
  cases hc : cut s with
  | mk E' U' R' C' D' =>
    rw [hc] at h
    have := rparse_short s (by omega) E' U' R' C' D' hc _ rfl w
    by_cases hn : chk E' U' R' C' D' = 0
    ·rw [if_pos (show chkV ⟨E', U', R', C', D'⟩ = 0 from hn)] at h
     cases h
     rw [if_pos hn, hn] at this
     exact this
    ·rw [if_neg (show ¬ chkV ⟨E', U', R', C', D'⟩ = 0 from hn)] at h
     cases h
     rw [if_neg hn] at this
     exact this
end
section
open Go.RowKit
theorem allB_nob (p : Int → Bool) : allB p nob = true := rfl
theorem parse_dig (s : ByteArray) : allB (kind 152) (parse s).1.e = true := by
 unfold parse
 split
 ·exact allB_nob _
 ·split
  ·rename_i h
   show allB _ (cut s).e = true
   cases hc : (cut s).c
   ·have hi : Lib.indexByte s.data.toList 58 = -1 := by
     have h' : decide (Lib.indexByte s.data.toList 58 ≠ -1) = false := hc
     simpa using h'
    have he : (cut s).e = nob := by
     show (if _ then _ else _) = _
     rw [if_pos hi]
    rw [he]; exact allB_nob _
   ·unfold chkV chk at h
    rw [hc] at h
    split at h
    ·cases h
    ·split at h
     ·cases h
     ·rename_i h2
      simp at h2
      exact h2.2
  ·exact allB_nob _
theorem parse_size (s : ByteArray) (hs : s.size ≤ maxLen) : (parse s).1.e.size ≤ maxLen ∧ (parse s).1.u.size ≤ maxLen ∧ (parse s).1.r.size ≤ maxLen := by
 have h := cut_size s
 unfold parse
 split
 ·exact ⟨Nat.zero_le _, Nat.zero_le _, Nat.zero_le _⟩
 ·split
  ·exact ⟨Nat.le_trans h.1 hs, Nat.le_trans h.2.1 hs, Nat.le_trans h.2.2 hs⟩
  ·exact ⟨Nat.zero_le _, Nat.zero_le _, Nat.zero_le _⟩
def cmpT (a b : ByteArray) : Int × Int :=
 if (parse a).2 = 0 then (if (parse b).2 = 0 then (ordV (parse a).1 (parse b).1, 0) else (0, (parse b).2)) else (0, (parse a).2)
theorem order_parsed (a b : ByteArray) (ha : a.size ≤ maxLen) (hb : b.size ≤ maxLen) (e u r : ByteArray) (c d : Bool) (n : Int) (E U R : ByteArray) (C D : Bool) (m : Int)
 (h1 : parse a = (⟨e, u, r, c, d⟩, n)) (h2 : parse b = (⟨E, U, R, C, D⟩, m)) (w : World) :
 Calls Tryz.prog 126 #[.agg #[.string e, .string u, .string r, .bool c, .bool d], .agg #[.string E, .string U, .string R, .bool C, .bool D]] w fun x w' =>
  x = .returned (.int .i64 (ordV ⟨e, u, r, c, d⟩ ⟨E, U, R, C, D⟩)) ∧ Below w.heap.size w w' := by
 have z1 := parse_size a ha
 have z2 := parse_size b hb
 have d1 := parse_dig a
 have d2 := parse_dig b
 rw [h1] at z1 d1
 rw [h2] at z2 d2
 exact Order_dig e u r c d E U R C D z1.1 z1.2.1 z1.2.2 z2.1 z2.2.1 z2.2.2 d1 d2 w
end
section
open Go.RowKit
def digsL (l : List UInt8) : List UInt8 := l.filter fun c => isDig (c.toNat : Int)
def digs (e : ByteArray) : ByteArray := ⟨(digsL e.data.toList).toArray⟩
theorem digs_of {t e : ByteArray} (h : t.data.toList = digsL e.data.toList) : t = digs e := by
 unfold digs; rw [← h]
theorem digs_dig (e : ByteArray) (h : allB (kind 152) e = true) : digs e = e := by
 refine (digs_of ?_).symm
 unfold digsL
 rw [List.filter_eq_self.2]
 intro c hc
 have k : kind 152 = isDig := rfl
 rw [k] at h
 unfold allB at h
 exact List.all_eq_true.1 h c hc
theorem digsL_snoc_yes (l : List UInt8) (c : UInt8) (h : isDig (c.toNat : Int) = true) : digsL (l ++ [c]) = digsL l ++ [c] := by
 unfold digsL; rw [List.filter_append]; simp [h]
theorem digsL_snoc_no (l : List UInt8) (c : UInt8) (h : isDig (c.toNat : Int) = false) : digsL (l ++ [c]) = digsL l := by
 unfold digsL; rw [List.filter_append]; simp [h]
theorem app_one (t s : ByteArray) (k : Nat) (h : k < s.size) : (t ++ s.extract k (k + 1)).data.toList = t.data.toList ++ [s[k]] := by
 rw [ByteArray.data_append, Array.toList_append, toList_ext, drop_at s k h, show k + 1 - k = 1 by omega]
 rfl
set_option maxHeartbeats 1000000 in
theorem ronly_any (s : ByteArray) (hs : s.size ≤ 4611686018427387903) (w : World) :
 Calls Tryz.prog 135 #[.string s] w fun e w' => e = .returned (.string (digs s)) ∧ w' = w := by
 go_enter Tryz.func135, Tryz.ntmps135
 go_wp2
 go_loop [3, 4] (fun ov iv => ∃ (k : Nat) (t : ByteArray), k ≤ s.size ∧ iv = .int .i64 k ∧ ov = .string t ∧ t.size ≤ k ∧ Hid (t.data.toList = digsL (s.data.toList.take k))) (fun _ iv => s.size - (intOf iv).toNat)
 case atStart => exact ⟨0, _, Nat.zero_le _, rfl, rfl, Nat.le_refl _, rfl⟩
 case round =>
  obtain ⟨k, t, hk, rfl, rfl, hts, ht⟩ := hrel
  by_cases hlt : k < s.size
  ·have hsn := hide (take_snoc s k hlt)
   have hz1 : (s.extract k (k + 1)).size = 1 := by rw [ByteArray.size_extract]; omega
   have HZ1 := hide hz1
   clear hz1
   cases hd : isDig (s[k].toNat : Int)
   ·have HT := hide (show t.data.toList = digsL (s.data.toList.take (k + 1)) by rw [unhide hsn, digsL_snoc_no _ _ hd]; exact unhide ht)
    go_wp2_with (go_at_call 143; refine (rdigit_any _ _).mono ?_; rintro e w' ⟨rfl, rfl⟩)
    go_round
    case rel => exact ⟨k + 1, t, by omega, by go_num, rfl, by omega, HT⟩
    case measure => simp [intOf]; omega
   ·have HT := hide (show (t ++ s.extract k (k + 1)).data.toList = digsL (s.data.toList.take (k + 1)) by rw [app_one t s k hlt, unhide hsn, digsL_snoc_yes _ _ hd, unhide ht])
    have hsum : t.size + (s.extract k (k + 1)).size ≤ 9223372036854775807 := by have := unhide HZ1; omega
    have hsz := hide (show (t ++ s.extract k (k + 1)).size ≤ k + 1 by rw [ByteArray.size_append, unhide HZ1]; omega)
    go_wp2_with (go_at_call 143; refine (rdigit_any _ _).mono ?_; rintro e w' ⟨rfl, rfl⟩)
    all_goals first
     | (go_round
        case rel => exact ⟨k + 1, _, by omega, by go_num, rfl, unhide hsz, HT⟩
        case measure => simp [intOf]; omega)
     | (exfalso; omega)
  ·have HT := hide (show t = digs s from digs_of (by rw [unhide ht, List.take_of_length_le (by simp; omega)]))
   go_wp2
   go_ret
   exact ⟨ret_str' (unhide HT), rfl⟩
theorem ia_dig (x : ByteArray) (h : ∀ j (hj : j < x.size), isDig (x[j].toNat : Int) = true) : ia x 1 = 0 ∧ ia x 2 = x.size := by
 have h1 : ia x 1 = 0 := by
  show endAt x 0 false = 0
  by_cases hz : 0 < x.size
  ·exact endAt_stop x 0 false hz (by rw [h 0 hz]; rfl)
  ·exact endAt_end x 0 false (by omega)
 refine ⟨h1, ?_⟩
 have h2 : ∀ (m i : Nat), x.size - i ≤ m → i ≤ x.size → endAt x i true = x.size := by
  intro m
  induction m with
  | zero => intro i hm hi; rw [endAt_end x i true (by omega)]; omega
  | succ m ih =>
    intro i hm hi
    by_cases hlt : i < x.size
    ·rw [← endAt_step x i true hlt (by rw [h i hlt]; rfl)]
     exact ih (i + 1) (by omega) (by omega)
    ·rw [endAt_end x i true (by omega)]; omega
 show endAt x (ia x 1) true = x.size
 rw [h1]
 exact h2 _ 0 (Nat.le_refl _) (Nat.zero_le _)
theorem extract_all (x : ByteArray) : x.extract 0 x.size = x := by
 apply ByteArray.ext
 apply Array.ext'
 rw [toList_ext, List.drop_zero, List.take_of_length_le (by simp)]
theorem ordPart_dig (x y : ByteArray) (hx : ∀ j (hj : j < x.size), isDig (x[j].toNat : Int) = true) (hy : ∀ j (hj : j < y.size), isDig (y[j].toNat : Int) = true) : ordPart x y = ordNum x y := by
 obtain ⟨x1, x2⟩ := ia_dig x hx
 obtain ⟨y1, y2⟩ := ia_dig y hy
 have c0 : cp x y 0 = 0 := by
  have hxs : (runOf x 0).size = 0 := by rw [runOf_sz, x1]; rfl
  have hys : (runOf y 0).size = 0 := by rw [runOf_sz, y1]; rfl
  unfold cp
  rw [ba_empty hxs, ba_empty hys]
  exact ordWord_refl _
 have rx : runOf x 1 = x := by unfold runOf; rw [x1, x2]; exact extract_all x
 have ry : runOf y 1 = y := by unfold runOf; rw [y1, y2]; exact extract_all y
 have c1 : cp x y 1 = ordNum x y := by
  unfold cp
  rw [if_pos (show odd 1 = true from rfl), rx, ry]
 have h2 : sq (cp x y) 2 = ordNum x y := by
  show (if (if (0 : Int) = 0 then cp x y 0 else 0) = 0 then cp x y 1 else _) = _
  rw [if_pos rfl, c0, if_pos rfl, c1]
 by_cases e : ordNum x y = 0
 ·rw [e, ordPart_done x y 2 x2 y2 (by rw [h2, e])]
 ·rw [ordPart_stop x y 2 (by rw [h2]; exact e), h2]
theorem digs_all (e : ByteArray) : ∀ j (hj : j < (digs e).size), isDig ((digs e)[j].toNat : Int) = true := by
 intro j hj
 have hm : (digs e)[j] ∈ digsL e.data.toList := by
  have h2 : (digs e).data.toList = digsL e.data.toList := rfl
  have h' : j < (digs e).data.toList.length := by simpa using hj
  rw [← h2]
  exact List.getElem_mem h'
 exact (List.mem_filter.1 hm).2
theorem digs_size (e : ByteArray) : (digs e).size ≤ e.size := by
 show (digsL e.data.toList).toArray.size ≤ _
 have := List.length_filter_le (fun c : UInt8 => isDig (c.toNat : Int)) e.data.toList
 simpa [digsL] using this
def ordG (v w : Ver) : Int := if ordNum (digs v.e) (digs w.e) = 0 then (if ordPart v.u w.u = 0 then ordPart v.r w.r else ordPart v.u w.u) else ordNum (digs v.e) (digs w.e)
set_option maxHeartbeats 1000000 in
theorem rOrder_any (e u r : ByteArray) (c d : Bool) (E U R : ByteArray) (C D : Bool) (he : e.size ≤ 4611686018427387903) (hu : u.size ≤ maxLen) (hr : r.size ≤ maxLen) (hE : E.size ≤ 4611686018427387903) (hU : U.size ≤ maxLen) (hR : R.size ≤ maxLen) (w : World) :
 Calls Tryz.prog 123 #[.agg #[.string e, .string u, .string r, .bool c, .bool d], .agg #[.string E, .string U, .string R, .bool C, .bool D]] w fun x w' =>
  x = .returned (.int .i64 (ordG ⟨e, u, r, c, d⟩ ⟨E, U, R, C, D⟩)) ∧ Below w.heap.size w w' := by
 have HF := hide (show ordG ⟨e, u, r, c, d⟩ ⟨E, U, R, C, D⟩ = if ordNum (digs e) (digs E) = 0 then (if ordPart u U = 0 then ordPart r R else ordPart u U) else ordNum (digs e) (digs E) from rfl)
 have m1 : (digs e).size ≤ maxLen := Nat.le_trans (digs_size e) (by unfold maxLen; omega)
 have m2 : (digs E).size ≤ maxLen := Nat.le_trans (digs_size E) (by unfold maxLen; omega)
 have c1 := hide (fun w => ronly_any e he w)
 have c2 := hide (fun w => ronly_any E hE w)
 have c3 := hide (fun w => rpart_any (digs e) (digs E) m1 m2 w)
 rw [ordPart_dig _ _ (digs_all e) (digs_all E)] at c3
 have c4 := hide (fun w => rpart_any u U hu hU w)
 have c5 := hide (fun w => rpart_any r R hr hR w)
 generalize ordG ⟨e, u, r, c, d⟩ ⟨E, U, R, C, D⟩ = res at *
 generalize ordNum (digs e) (digs E) = x1 at *
 generalize ordPart u U = x2 at *
 generalize ordPart r R = x3 at *
 generalize digs e = de at *
 generalize digs E = dE at *
 clear m1 m2 he hu hr hE hU hR
 have HB := hide (((Below.refl w.heap.size w).alloc (Nat.le_refl _) (.cells #[.string e, .string u, .string r, .bool c, .bool d] 172)).alloc (by simp) (.cells #[.string E, .string U, .string R, .bool C, .bool D] 172))
 by_cases e1 : x1 = 0
 ·have n1 : (x1 == 0) = true := by simp [e1]
  have HF1 := hide ((unhide HF).trans (if_pos e1))
  clear HF
  by_cases e2 : x2 = 0
  ·have n2 : (x2 == 0) = true := by simp [e2]
   have HF2 := hide ((unhide HF1).trans (if_pos e2))
   clear e2 HF1 e1
   go_enter Tryz.func123, Tryz.ntmps123
   go_wp2_with fail
   go_quiet (first | (go_at_call_of 135 (Value.string e); exact Calls.quiet_of_same (unhide c1 _)) | (go_at_call_of 135 (Value.string E); exact Calls.quiet_of_same (unhide c2 _)) | (go_at_call 134; refine (unhide c3 _).mono ?_; rintro e w'' ⟨rfl, n9, rfl⟩; exact ⟨rfl, _, by rw [World.drewN_drewN]⟩))
   go_wp2_with fail
   refine (unhide c4 _).mono ?_
   rintro x w1 ⟨rfl, n8, rfl⟩
   go_wp2_with fail
   refine (unhide c5 _).mono ?_
   rintro x w2 ⟨rfl, n7, rfl⟩
   go_wp2_with fail
   go_ret
   exact ⟨ret_int64 (unhide HF2).symm, below_drewN (unhide HB) _⟩
  ·have n2 : (x2 == 0) = false := by simpa using e2
   have HF2 := hide ((unhide HF1).trans (if_neg e2))
   clear e2 HF1 e1
   go_enter Tryz.func123, Tryz.ntmps123
   go_wp2_with fail
   go_quiet (first | (go_at_call_of 135 (Value.string e); exact Calls.quiet_of_same (unhide c1 _)) | (go_at_call_of 135 (Value.string E); exact Calls.quiet_of_same (unhide c2 _)) | (go_at_call 134; refine (unhide c3 _).mono ?_; rintro e w'' ⟨rfl, n9, rfl⟩; exact ⟨rfl, _, by rw [World.drewN_drewN]⟩))
   go_wp2_with fail
   refine (unhide c4 _).mono ?_
   rintro x w1 ⟨rfl, n8, rfl⟩
   go_wp2_with fail
   go_ret
   exact ⟨ret_int64 (unhide HF2).symm, below_drewN (unhide HB) _⟩
 ·have n1 : (x1 == 0) = false := by simpa using e1
  have HF1 := hide ((unhide HF).trans (if_neg e1))
  clear e1 HF
  go_enter Tryz.func123, Tryz.ntmps123
  go_wp2_with fail
  go_quiet (first | (go_at_call_of 135 (Value.string e); exact Calls.quiet_of_same (unhide c1 _)) | (go_at_call_of 135 (Value.string E); exact Calls.quiet_of_same (unhide c2 _)) | (go_at_call 134; refine (unhide c3 _).mono ?_; rintro e w'' ⟨rfl, n9, rfl⟩; exact ⟨rfl, _, by rw [World.drewN_drewN]⟩))
  go_wp2_with fail
  go_ret
  exact ⟨ret_int64 (unhide HF1).symm, below_drewN (unhide HB) _⟩
theorem ordG_dig (v w : Ver) (h1 : allB (kind 152) v.e = true) (h2 : allB (kind 152) w.e = true) : ordG v w = ordV v w := by
 unfold ordG ordV
 rw [digs_dig _ h1, digs_dig _ h2]
end
end Go.Proofs.YtdkpglmdncjnbaaGreatDoor
