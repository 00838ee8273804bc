import Derived.Test.YtjmomdnlibfbkaaDoorAbC
import Derived.Laws.ResultCell
namespace Go.Proofs.YtjmomdnlibfbkaaDoor
open Go.RowKit

theorem Rb.of_by {w : World} {g : Nat} {L : Bs} (h : By w g L) : w.rangeAt g 0 (L.map cb) := fun j v hj => by
  rw [List.getElem?_map] at hj
  obtain ⟨x, h1, rfl⟩ := Option.map_eq_some_iff.1 hj
  rw [Nat.zero_add]
  exact h.at_ j x h1
theorem map_cb_one (L : Bs) : ∀ u ∈ L.map cb, u.oneCell' = true := fun u hu => by
  obtain ⟨b, _, rfl⟩ := List.mem_map.1 hu
  rfl
section
variable {ops : Array Oper} {rest : List Oper} {oo : Oper} {a : Act} {w : World} {Q : Exit → Act → World → Prop}
/-- A TEXT COPIED INTO A FIELD. -/
theorem b_copyS {g off dn dc : Nat} {L : Bs} {s : ByteArray} (x y : Operand) (hgd : oo.guard = none) (ho : oo.op = .call { callee := .builtin .copy, args := #[x, y], argTypes := #[23, 9] }) (hx : a.eval x = .slice (some ⟨g, off, none⟩) dn dc) (hy : a.eval y = .string s) (hle : s.size ≤ dn) (hB : By w g L) (hl : off + dn ≤ L.length)
    (h : ∀ w2, By w2 g (put L off s.data.toList) → Ow g w w2 → wpList Tryd.prog ops Q rest (a.put oo.dst (goInt s.size)) w2) : wpList Tryd.prog ops Q (oo :: rest) a w := by
  have hsz : s.data.toList.length = s.size := size_list s
  have hc : ∀ j, j < s.size → (w.cell? ⟨g, off + j, none⟩).isSome = true := fun j hj => by rw [hB.at_ (off + j) _ (List.getElem?_eq_getElem (by omega))]; rfl
  have hrun := run_copy_string (P := Tryd.prog) w 23 9 oo.type 5 g off dn dc s Tryd.underlying23 (fun w => by kernel_rfl) hle hc (fun j _ => hB.fr _)
  refine wpList_plain hgd fun _ hK => ?_
  unfold Oper.wp execOp
  simp only [ho, resolve, invoke, builtin, Sem.run_bind, Sem.run_pure, Result.andThen_ok, List.map_toArray, List.map_cons, List.map_nil, hx, hy, hrun]
  exact hK _ _ (h _ (hB.sets (t := s.data.toList) (by omega)) ((Ow.refl g w).sets off _))
end
theorem hname_any (g : Nat) (w : World) : Calls Tryd.prog 28 #[.pointer (some ⟨g, 0, none⟩)] w fun e w' => e = .returned (.slice (some ⟨g, 0, none⟩) 100 100) ∧ w' = w := by
  go_enter Tryd.func28, Tryd.ntmps28
  go_wp2_with fail
  go_ret
  exact ⟨rfl, rfl⟩
theorem hsize_any (g : Nat) (w : World) : Calls Tryd.prog 30 #[.pointer (some ⟨g, 0, none⟩)] w fun e w' => e = .returned (.slice (some ⟨g, 124, none⟩) 11 11) ∧ w' = w := by
  go_enter Tryd.func30, Tryd.ntmps30
  go_wp2_with fail
  go_ret
  exact ⟨rfl, rfl⟩
theorem hsum_any (g : Nat) (w : World) : Calls Tryd.prog 43 #[.pointer (some ⟨g, 0, none⟩)] w fun e w' => e = .returned (.slice (some ⟨g, 148, none⟩) 6 6) ∧ w' = w := by
  go_enter Tryd.func43, Tryd.ntmps43
  go_wp2_with fail
  go_ret
  exact ⟨rfl, rfl⟩
theorem hprefix_any (g : Nat) (w : World) : Calls Tryd.prog 31 #[.pointer (some ⟨g, 0, none⟩)] w fun e w' => e = .returned (.slice (some ⟨g, 345, none⟩) 155 155) ∧ w' = w := by
  go_enter Tryd.func31, Tryd.ntmps31
  go_wp2_with fail
  go_ret
  exact ⟨rfl, rfl⟩
theorem sumB_snoc (l : Bs) (b : UInt8) : sumB (l ++ [b]) = sumB l + b.toNat := by
  unfold sumB
  rw [List.foldl_append]
  rfl
theorem sumB_le : ∀ (n : Nat) (l : Bs), l.length = n → sumB l ≤ 255 * n
  | 0, l, h => by
    obtain rfl := List.length_eq_zero_iff.1 h
    decide
  | n + 1, l, h => by
    have hne : l ≠ [] := fun e => by rw [e] at h; simp at h
    rw [← List.dropLast_concat_getLast hne, sumB_snoc]
    have := sumB_le n l.dropLast (by rw [List.length_dropLast, h]; rfl)
    have := UInt8.toNat_lt (l.getLast hne)
    omega
set_option maxRecDepth 100000 in
set_option maxHeartbeats 4000000 in
theorem laySum_any {w : World} {g : Nat} {L : Bs} (h : By w g L) (hl : L.length = 512) :
    Calls Tryd.prog 32 #[.pointer (some ⟨g, 0, none⟩)] w fun e w' => e = .returned (.tuple #[]) ∧ By w' g (put (put (put L 148 (seven 32 8)) 148 (oct 6 (sumB (put L 148 (seven 32 8))))) 154 [0]) ∧ Ow g w w' := by
  have HB := hide h
  clear h
  go_enter Tryd.func32, Tryd.ntmps32
  go_wp2_with ((with_reducible refine b_copyS _ _ rfl rfl rfl rfl (by decide) (unhide HB) (by omega) ?_); intro w2 hb2 ho2; have HB2 := hide (show By w2 g (put L 148 (seven 32 8)) from hb2); have HO2 := hide ho2; clear hb2 ho2)
  have hl2 : (put L 148 (seven 32 8)).length = 512 := by rw [put_len (by rw [hl]; decide), hl]
  obtain ⟨L2, hL2⟩ : ∃ L2, put L 148 (seven 32 8) = L2 := ⟨_, rfl⟩
  rw [hL2] at HB2 hl2
  have HL2 := hide hL2
  clear hL2
  go_loopg [2, 4, 10] 512 (fun gq tv _ iv wr => ∃ i : Nat, iv = .int .i64 i ∧ tv = .int .i64 (sumB (L2.take i) : Nat) ∧ i ≤ 512 ∧ 512 - i ≤ gq ∧ wr = w2)
  case atStart => exact ⟨0, by go_num, rfl, by omega, by omega, rfl⟩
  case round =>
    obtain ⟨i, rfl, rfl, hi, hg, rfl⟩ := hrel
    by_cases hlt : i < 512
    · have hin : (i : Int) < 512 := by omega
      have c0 := (unhide HB2).at_ i _ (List.getElem?_eq_getElem (show i < L2.length by omega))
      have hsn : sumB (L2.take (i + 1)) = sumB (L2.take i) + (L2[i]'(by omega)).toNat := by
        rw [List.take_succ_eq_append_getElem (by omega), sumB_snoc]
      have hle := sumB_le i (L2.take i) (by rw [List.length_take]; omega)
      have hb := UInt8.toNat_lt (L2[i]'(by omega))
      have HS := hide hsn
      unfold cb at c0
      generalize (L2[i]'(by omega)).toNat = q at *
      generalize sumB (L2.take i) = t at *
      clear hsn
      have hw1 : IntKind.i64.wrap ((t : Int) + (q : Int)) = (t : Int) + (q : Int) := IntWalk.i64_in _ (by omega)
      have hw2 : IntKind.i64.wrap (q : Int) = (q : Int) := IntWalk.i64_in _ (by omega)
      go_wp2_with fail
      go_roundg (512 - (i + 1))
      case measure => omega
      case rel => exact ⟨i + 1, by go_num, by rw [unhide HS]; congr 1, by omega, by omega, rfl⟩
    · obtain rfl : i = 512 := by omega
      have hge : ¬ (512 : Int) < 512 := by omega
      rw [List.take_of_length_le (by omega)]
      have hle := sumB_le 512 L2 hl2
      obtain ⟨S, hS⟩ : ∃ S, sumB L2 = S := ⟨_, rfl⟩
      rw [hS] at hle ⊢
      have HS2 := hide hS
      clear hS
      have CO := hide (layOctal_any (w := wr) (g := g) (o := 148) (L := L2) (k := 6) (c := 6) (n := S) (unhide HB2) (by omega) (by decide) (by decide) (by omega))
      go_wp2_with (first
        | (go_at_call 43; refine (hsum_any g wr).mono ?_; rintro e w3 ⟨rfl, rfl⟩)
        | (go_at_call 29; refine (unhide CO).mono ?_; rintro e w4 ⟨rfl, b4, o4⟩; have HB4 := hide b4; have HO4 := hide o4; have hq := b4.at_ 154 _ (List.getElem?_eq_getElem (by rw [put_len (by rw [oct_len]; omega)]; omega)); have hqf := b4.fr 154; clear b4 o4 CO))
      go_end0
      rw [unhide HL2, unhide HS2]
      refine ⟨rfl, ?_, (unhide HO2).trans ((unhide HO4).set 154 (cb 0))⟩
      exact (unhide HB4).sets (t := [0]) (o := 154) (by rw [put_len (by rw [oct_len]; omega), hl2]; decide)
end Go.Proofs.YtjmomdnlibfbkaaDoor
