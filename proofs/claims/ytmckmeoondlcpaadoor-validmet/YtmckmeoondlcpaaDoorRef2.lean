import Derived.Test.YtmckmeoondlcpaaDoorRef
import Derived.Test.YtmckmeoondlcpaaDoorParse
namespace Go.Proofs.YtmckmeoondlcpaaDoor
open Go.RowKit

theorem bne_of_ne {s : ByteArray} {j : Nat} {c : Int} (hj : j < s.size) (h : ((s.data[j]!).toNat : Int) ≠ c) : ((s[j].toNat : Int) == c) = false := by
  rw [byteBang s j hj] at h; simpa using h
theorem beq_of_eq {s : ByteArray} {j : Nat} {c : Int} (hj : j < s.size) (h : ((s.data[j]!).toNat : Int) = c) : ((s[j].toNat : Int) == c) = true := by
  rw [byteBang s j hj] at h; simpa using h
theorem colon_ne {s : ByteArray} {j : Nat} (hj : j < s.size) (h : s.data.toList[j]'(by simpa using hj) ≠ 58) : ((s[j].toNat : Int) == 58) = false := by
  rw [beq_eq_false_iff_ne]
  intro hh
  apply h
  show s[j] = 58
  apply UInt8.toNat_inj.1
  show s[j].toNat = 58
  omega
theorem colon_eq {s : ByteArray} {j : Nat} (hj : j < s.size) (h : s.data.toList[j]'(by simpa using hj) = 58) : ((s[j].toNat : Int) == 58) = true := by
  have h' : s[j] = 58 := h
  rw [h']; rfl

theorem cut_eq (s r : ByteArray) (h : r = rest s) : cut s = ⟨if Lib.indexByte s.data.toList 58 = -1 then nob else s.extract 0 (Lib.indexByte s.data.toList 58).toNat, if Lib.lastIndexByte r 45 = -1 then r else r.extract 0 (Lib.lastIndexByte r 45).toNat,
    if Lib.lastIndexByte r 45 = -1 then nob else r.extract ((Lib.lastIndexByte r 45).toNat + 1) r.size, decide (Lib.indexByte s.data.toList 58 ≠ -1), decide (Lib.lastIndexByte r 45 ≠ -1)⟩ := by
  subst h; rfl

set_option maxHeartbeats 4000000 in
theorem rparts_no (s : ByteArray) (hs : s.size < 4611686018427387904) (h1 : Lib.indexByte s.data.toList 58 = -1) (hn1 : ∀ (j : Nat) (hj : j < s.data.toList.length), s.data.toList[j] ≠ 58) (w : World) :
    Calls Tryd.prog 34 #[.string s] w fun e w' => e = .returned (verAgg (cut s)) ∧ Below w.heap.size w w' := by
  have HR := hide (show s = rest s by unfold rest; rw [if_pos h1])
  have HI := hide h1
  have HN1 := hide hn1
  clear h1 hn1
  go_enter Tryd.func34, Tryd.ntmps34
  go_wp2
  go_loopw [4, 5] (fun rv i wr => ∃ k : Nat, k ≤ s.size ∧ rv = .string s ∧ i = .int .i64 k ∧ wr = (w.alloc (.cells #[.string ⟨#[]⟩, .string ⟨#[]⟩, .string ⟨#[]⟩, .bool false, .bool false] 55)).alloc (.cells #[.string ⟨#[]⟩, .string ⟨#[]⟩, .string ⟨#[]⟩, .bool false, .bool false] 55)) (fun _ i _ => s.size - (intOf i).toNat)
  case atStart => exact ⟨0, Nat.zero_le _, rfl, rfl, rfl⟩
  case round =>
    obtain ⟨k, hk, rfl, rfl, rfl⟩ := hrel
    by_cases hlt : k < s.size
    · have hb := colon_ne hlt (unhide HN1 k (by simpa using hlt))
      go_wp2
      go_roundw
      case rel => exact ⟨k + 1, by omega, rfl, by go_num, by first | rfl | trivial⟩
      case measure => simp [intOf]; omega
    · clear HN1
      rcases Lib.lastIndexByte_spec s 45 with ⟨h2, hn2⟩ | ⟨j0, hj0, h2, he2, hn2⟩
      · have HF := hide (show cut s = ⟨nob, s, nob, false, false⟩ by rw [cut_eq s s (unhide HR), h2]; simp [unhide HI])
        have HN := hide hn2
        clear hn2 h2
        go_wp2
        go_loopw [6] (fun i wr => ∃ k : Nat, k ≤ s.size ∧ i = .int .i64 ((k : Int) - 1) ∧ wr = (w.alloc (.cells #[.string ⟨#[]⟩, .string ⟨#[]⟩, .string ⟨#[]⟩, .bool false, .bool false] 55)).alloc (.cells #[.string nob, .string s, .string ⟨#[]⟩, .bool false, .bool false] 55)) (fun i _ => ((intOf i) + 1).toNat)
        case atStart => exact ⟨s.size, Nat.le_refl _, by first | rfl | go_num | (congr 1; omega), rfl⟩
        case round =>
          obtain ⟨k, hk, rfl, rfl⟩ := hrel
          by_cases hlt : 0 < k
          · have hb := bne_of_ne (s := s) (j := k - 1) (by omega) (unhide HN (k - 1) (by omega))
            go_wp2
            go_roundw
            case rel => exact ⟨k - 1, by omega, by congr 1; omega, by first | rfl | trivial⟩
            case measure => simp [intOf]; omega
          · go_wp2
            exact bodyPost_ret (v := .agg #[.string nob, .string s, .string nob, .bool false, .bool false]) (by simp [results, Tryd.results34, go_sem, nob]) rfl ⟨by rw [unhide HF]; rfl, ((Below.refl _ _).alloc (Nat.le_refl _) _).alloc (by simp) _⟩
      · have HF := hide (show cut s = ⟨nob, s.extract 0 j0, s.extract (j0 + 1) s.size, false, true⟩ by rw [cut_eq s s (unhide HR), h2]; simp [unhide HI, show ¬ ((j0 : Int) = -1) by omega])
        have HN := hide hn2
        have hbe := hide (beq_of_eq hj0 he2)
        clear hn2 h2 he2
        go_wp2
        go_loopw [6] (fun i wr => (∃ k : Nat, j0 < k ∧ k ≤ s.size ∧ i = .int .i64 ((k : Int) - 1) ∧ wr = (w.alloc (.cells #[.string ⟨#[]⟩, .string ⟨#[]⟩, .string ⟨#[]⟩, .bool false, .bool false] 55)).alloc (.cells #[.string nob, .string s, .string ⟨#[]⟩, .bool false, .bool false] 55)) ∨ (i = .int .i64 ((j0 : Int) - 1) ∧ wr = (w.alloc (.cells #[.string ⟨#[]⟩, .string ⟨#[]⟩, .string ⟨#[]⟩, .bool false, .bool false] 55)).alloc (.cells #[.string nob, .string (s.extract 0 j0), .string (s.extract (j0 + 1) s.size), .bool false, .bool true] 55)))
          (fun i _ => ((intOf i) + 1).toNat)
        case atStart => exact .inl ⟨s.size, hj0, Nat.le_refl _, by first | rfl | go_num | (congr 1; omega), rfl⟩
        case round =>
          rcases hrel with ⟨k, hk0, hk, rfl, rfl⟩ | ⟨rfl, rfl⟩
          · by_cases hlt : k = j0 + 1
            · subst hlt
              have hb : ((s[j0].toNat : Int) == 45) = true := unhide hbe
              go_wp2
              go_roundw
              case rel => exact .inr ⟨by first | rfl | (congr 1; omega), by first | rfl | trivial⟩
              case measure => simp [intOf] <;> omega
            · have hb := bne_of_ne (s := s) (j := k - 1) (by omega) (unhide HN (k - 1) (by omega) (by omega))
              go_wp2
              go_roundw
              case rel => exact .inl ⟨k - 1, by omega, by omega, by congr 1; omega, by first | rfl | trivial⟩
              case measure => simp [intOf]; omega
          · by_cases hj : 0 < j0
            all_goals
              go_wp2
              exact bodyPost_ret (v := .agg #[.string nob, .string (s.extract 0 j0), .string (s.extract (j0 + 1) s.size), .bool false, .bool true]) (by simp [results, Tryd.results34, go_sem, nob]) rfl ⟨by rw [unhide HF]; rfl, ((Below.refl _ _).alloc (Nat.le_refl _) _).alloc (by simp) _⟩


set_option maxHeartbeats 4000000 in
theorem rparts_yes (s : ByteArray) (hs : s.size < 4611686018427387904) (i0 : Nat) (hi0 : i0 < s.size) (h1 : Lib.indexByte s.data.toList 58 = i0) (he1 : ((s[i0].toNat : Int) == 58) = true) (hn1 : ∀ (j : Nat) (hj : j < s.size), j < i0 → ((s[j].toNat : Int) == 58) = false) (w : World) :
    Calls Tryd.prog 34 #[.string s] w fun e w' => e = .returned (verAgg (cut s)) ∧ Below w.heap.size w w' := by
  have HR0 := hide (show s.extract (i0 + 1) s.size = rest s by unfold rest; rw [if_neg (by rw [h1]; omega), h1]; rfl)
  have HI := hide h1
  have HN1 := hide hn1
  have HE1 := hide he1
  clear h1 hn1 he1
  go_enter Tryd.func34, Tryd.ntmps34
  go_wp2
  go_loopw [4, 5] (fun rv i wr => (∃ k : Nat, k ≤ i0 ∧ rv = .string s ∧ i = .int .i64 k ∧ wr = (w.alloc (.cells #[.string ⟨#[]⟩, .string ⟨#[]⟩, .string ⟨#[]⟩, .bool false, .bool false] 55)).alloc (.cells #[.string ⟨#[]⟩, .string ⟨#[]⟩, .string ⟨#[]⟩, .bool false, .bool false] 55)) ∨ (∃ r, Hid (r = rest s) ∧ Hid (r.size ≤ s.size) ∧ rv = .string r ∧ i = .int .i64 ((i0 : Int) + 1) ∧ wr = (w.alloc (.cells #[.string ⟨#[]⟩, .string ⟨#[]⟩, .string ⟨#[]⟩, .bool false, .bool false] 55)).alloc (.cells #[.string (s.extract 0 i0), .string ⟨#[]⟩, .string ⟨#[]⟩, .bool true, .bool false] 55))) (fun _ i _ => s.size - (intOf i).toNat)
  case atStart => exact .inl ⟨0, Nat.zero_le _, rfl, rfl, rfl⟩
  case round =>
    rcases hrel with ⟨k, hk, rfl, rfl, rfl⟩ | ⟨r, HR, HZ, rfl, rfl, rfl⟩
    · by_cases hlt : k = i0
      · subst hlt
        have hb := unhide HE1
        go_wp2
        go_roundw
        case rel => exact .inr ⟨_, hide (unhide HR0), hide (by rw [ByteArray.size_extract]; omega), rfl, rfl, by first | rfl | trivial⟩
        case measure => simp [intOf]; omega
      · have hb := unhide HN1 k (by omega) (by omega)
        go_wp2
        go_roundw
        case rel => exact .inl ⟨k + 1, by omega, rfl, by go_num, by first | rfl | trivial⟩
        case measure => simp [intOf]; omega
    · clear HN1 HE1 HR0
      have hz := unhide HZ
      clear HZ
      by_cases hlt : i0 + 1 < s.size
      all_goals
        rcases Lib.lastIndexByte_spec r 45 with ⟨h2, hn2⟩ | ⟨j0, hj0, h2, he2, hn2⟩
        · have HF := hide (show cut s = ⟨(s.extract 0 i0), r, nob, true, false⟩ by rw [cut_eq s r (unhide HR), h2]; simp [unhide HI, show ¬ ((i0 : Int) = -1) by omega])
          have HN := hide hn2
          clear hn2 h2
          go_wp2
          go_loopw [6] (fun i wr => ∃ k : Nat, k ≤ r.size ∧ i = .int .i64 ((k : Int) - 1) ∧ wr = (w.alloc (.cells #[.string ⟨#[]⟩, .string ⟨#[]⟩, .string ⟨#[]⟩, .bool false, .bool false] 55)).alloc (.cells #[.string ((s.extract 0 i0)), .string r, .string ⟨#[]⟩, .bool true, .bool false] 55)) (fun i _ => ((intOf i) + 1).toNat)
          case atStart => exact ⟨r.size, Nat.le_refl _, by first | rfl | go_num | (congr 1; omega), rfl⟩
          case round =>
            obtain ⟨k, hk, rfl, rfl⟩ := hrel
            by_cases hlt : 0 < k
            · have hb := bne_of_ne (s := r) (j := k - 1) (by omega) (unhide HN (k - 1) (by omega))
              go_wp2
              go_roundw
              case rel => exact ⟨k - 1, by omega, by congr 1; omega, by first | rfl | trivial⟩
              case measure => simp [intOf]; omega
            · go_wp2
              exact bodyPost_ret (v := .agg #[.string ((s.extract 0 i0)), .string r, .string nob, .bool true, .bool false]) (by simp [results, Tryd.results34, go_sem, nob]) rfl ⟨by rw [unhide HF]; rfl, ((Below.refl _ _).alloc (Nat.le_refl _) _).alloc (by simp) _⟩
        · have HF := hide (show cut s = ⟨(s.extract 0 i0), r.extract 0 j0, r.extract (j0 + 1) r.size, true, true⟩ by rw [cut_eq s r (unhide HR), h2]; simp [unhide HI, show ¬ ((j0 : Int) = -1) by omega, show ¬ ((i0 : Int) = -1) by omega])
          have HN := hide hn2
          have hbe := hide (beq_of_eq hj0 he2)
          clear hn2 h2 he2
          go_wp2
          go_loopw [6] (fun i wr => (∃ k : Nat, j0 < k ∧ k ≤ r.size ∧ i = .int .i64 ((k : Int) - 1) ∧ wr = (w.alloc (.cells #[.string ⟨#[]⟩, .string ⟨#[]⟩, .string ⟨#[]⟩, .bool false, .bool false] 55)).alloc (.cells #[.string ((s.extract 0 i0)), .string r, .string ⟨#[]⟩, .bool true, .bool false] 55)) ∨ (i = .int .i64 ((j0 : Int) - 1) ∧ wr = (w.alloc (.cells #[.string ⟨#[]⟩, .string ⟨#[]⟩, .string ⟨#[]⟩, .bool false, .bool false] 55)).alloc (.cells #[.string ((s.extract 0 i0)), .string (r.extract 0 j0), .string (r.extract (j0 + 1) r.size), .bool true, .bool true] 55)))
            (fun i _ => ((intOf i) + 1).toNat)
          case atStart => exact .inl ⟨r.size, hj0, Nat.le_refl _, by first | rfl | go_num | (congr 1; omega), rfl⟩
          case round =>
            rcases hrel with ⟨k, hk0, hk, rfl, rfl⟩ | ⟨rfl, rfl⟩
            · by_cases hlt : k = j0 + 1
              · subst hlt
                have hb : ((r[j0].toNat : Int) == 45) = true := unhide hbe
                go_wp2
                go_roundw
                case rel => exact .inr ⟨by first | rfl | (congr 1; omega), by first | rfl | trivial⟩
                case measure => simp [intOf] <;> omega
              · have hb := bne_of_ne (s := r) (j := k - 1) (by omega) (unhide HN (k - 1) (by omega) (by omega))
                go_wp2
                go_roundw
                case rel => exact .inl ⟨k - 1, by omega, by omega, by congr 1; omega, by first | rfl | trivial⟩
                case measure => simp [intOf]; omega
            · by_cases hj : 0 < j0
              all_goals
                go_wp2
                exact bodyPost_ret (v := .agg #[.string ((s.extract 0 i0)), .string (r.extract 0 j0), .string (r.extract (j0 + 1) r.size), .bool true, .bool true]) (by simp [results, Tryd.results34, go_sem]) rfl ⟨by rw [unhide HF]; rfl, ((Below.refl _ _).alloc (Nat.le_refl _) _).alloc (by simp) _⟩


end Go.Proofs.YtmckmeoondlcpaaDoor
