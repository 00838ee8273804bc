import Derived.Test.YtkpkpebljkcmkaaDoorTrE
import Derived.Laws.IdiomStrings
namespace Go.Proofs.YtkpkpebljkcmkaaDoor
open Go.RowKit

theorem dec_step (n : Nat) (h : ¬ n < 10) (l : List UInt8) : Lib.decDigits (n / 10) ++ (UInt8.ofNat (48 + n % 10) :: l) = Lib.decDigits n ++ l := by
  conv => rhs; rw [Lib.decDigits, dif_neg h]
  simp
theorem conv_one (w : World) (z : Int) (b : UInt8) (hz : z = (b.toNat : Int)) : (convert 76 9 (.slice (some ⟨w.heap.size, 0, none⟩) 1 1)).run Tryd.prog (w.alloc (.cells #[.int .u8 z] 5)) = .ok (.string (ba [b])) (w.alloc (.cells #[.int .u8 z] 5)) := by
  subst hz
  refine run_convert_bytes_back (P := Tryd.prog) (w.alloc (.cells #[.int .u8 (b.toNat : Int)] 5)) 76 9 5 ⟨w.heap.size, 0, none⟩ 1 [b] Tryd.underlying76 Tryd.underlying5 Tryd.underlying9 ?_
  intro j hj
  obtain rfl : j = 0 := by simp at hj; omega
  show (w.alloc (.cells #[.int .u8 (b.toNat : Int)] 5)).cell? ⟨w.heap.size, 0, none⟩ = _
  rw [World.cell?_alloc_at _ _ _ _ rfl]
  rfl
theorem conv_rem (w : World) (m : Nat) : (convert 76 9 (.slice (some ⟨w.heap.size, 0, none⟩) 1 1)).run Tryd.prog (w.alloc (.cells #[.int .u8 (48 + (m : Int) % 10)] 5)) = .ok (.string (ba [UInt8.ofNat (48 + m % 10)])) (w.alloc (.cells #[.int .u8 (48 + (m : Int) % 10)] 5)) :=
  conv_one w _ _ (by rw [of_dg]; omega)
theorem conv_end (w : World) (m : Nat) (h : m < 10) : (convert 76 9 (.slice (some ⟨w.heap.size, 0, none⟩) 1 1)).run Tryd.prog (w.alloc (.cells #[.int .u8 (48 + (m : Int))] 5)) = .ok (.string (ba [UInt8.ofNat (48 + m)])) (w.alloc (.cells #[.int .u8 (48 + (m : Int))] 5)) :=
  conv_one w _ _ (by rw [of_nat _ (by omega)]; omega)
theorem ba_cat (a b : List UInt8) : ba a ++ ba b = ba (a ++ b) := by
  apply ba_inj
  unfold ba
  simp [ByteArray.data_append]
set_option maxRecDepth 100000 in
set_option maxHeartbeats 1000000 in
theorem decimal_any (n : Nat) (w : World) (hn : n ≤ 281474976710655) :
    Calls Tryd.prog 33 #[.int .i64 n] w fun e w' => e = .returned (.string (ba (Lib.decDigits n))) ∧ Below w.heap.size w w' := by
  go_enter Tryd.func33, Tryd.ntmps33
  go_wp2_with fail
  go_loopw [0, 3] (fun v t wr => ∃ (m : Nat) (l : List UInt8), v = .int .i64 m ∧ t = .string (ba l) ∧ m ≤ n ∧ l.length ≤ 15 ∧ Hid (Lib.decDigits m ++ l = Lib.decDigits n) ∧ Hid (Below w.heap.size w wr)) (fun v _ _ => (intOf v).toNat)
  case atStart => exact ⟨n, [], rfl, rfl, Nat.le_refl _, Nat.zero_le _, hide (by simp), hide (Below.refl _ _)⟩
  case round =>
    obtain ⟨m, l, rfl, rfl, hm, hl, HD, HB⟩ := hrel
    by_cases h10 : m < 10
    · have h10' : ¬ ((10 : Int) ≤ (m : Int)) := by omega
      have kc := conv_end wr m h10
      have hz := ba_size l
      have HF := hide (show ba [UInt8.ofNat (48 + m)] ++ ba l = ba (Lib.decDigits n) by rw [ba_cat, ← unhide HD, Lib.decDigits_one h10])
      have h1 : (ba [UInt8.ofNat (48 + m)]).size = 1 := ba_size _
      generalize ba [UInt8.ofNat (48 + m)] = x at *
      generalize ba l = y at *
      go_wp2_with fail
      go_ret
      rw [unhide HF]
      exact ⟨rfl, (unhide HB).alloc (unhide HB).size _⟩
    · have h10' : (10 : Int) ≤ (m : Int) := by omega
      have kc := conv_rem wr m
      have hz := ba_size l
      have hl' : l.length + 1 ≤ 15 := by
        have h2 := congrArg List.length (unhide HD)
        rw [List.length_append] at h2
        have h3 := dec_len n hn
        have h4 : 1 ≤ (Lib.decDigits m).length := by rw [Lib.decDigits_length]; exact Lib.nDigits_pos m
        omega
      have h1 : (ba [UInt8.ofNat (48 + m % 10)]).size = 1 := ba_size _
      have HD' := hide ((dec_step m h10 l).trans (unhide HD))
      have HF := hide (ba_cat [UInt8.ofNat (48 + m % 10)] l)
      generalize ba [UInt8.ofNat (48 + m % 10)] = x at *
      generalize hy : ba l = y at *
      have j1 : (m : Int).tdiv 10 = ((m / 10 : Nat) : Int) := by rw [Int.tdiv_eq_ediv_of_nonneg (by omega)]; omega
      have j2 : m / 10 ≤ m := by omega
      go_wp2_with fail
      go_roundw
      case rel => exact ⟨m / 10, UInt8.ofNat (48 + m % 10) :: l, by go_num, by rw [unhide HF]; rfl, by omega, hl', HD', hide ((unhide HB).alloc (unhide HB).size _)⟩
      case measure => simp [intOf]; omega

end Go.Proofs.YtkpkpebljkcmkaaDoor
