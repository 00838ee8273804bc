import Derived.Test.YtfnbclehlikbkaaDoorNought
import Derived.Test.YtfnbclehlikbkaaDoorLawOrders
import Derived.Test.YtfnbclehlikbkaaDoorBack
namespace Go.Proofs.YtfnbclehlikbkaaDoor
open Go.RowKit

set_option maxHeartbeats 400000 in
theorem ldigit_any (b : Int) (w : World) :
    Calls Tryd.prog 22 #[.int .u8 b] w fun e w' => e = .returned (.bool (isDig b)) ∧ w' = w := by
  go_enter Tryd.func22, Tryd.ntmps22
  go_wp2
  all_goals go_ret
  all_goals exact ⟨ret_bool (by simp [isDig, *] <;> omega), rfl⟩

/-- WHETHER THE LAST BYTE IS A DIGIT. -/
def lastd : Bool → List UInt8 → Bool
  | pd, [] => pd
  | _, c :: l => lastd (isDig (c.toNat : Int)) l

theorem lastd_snoc (b : UInt8) : ∀ l pd, lastd pd (l ++ [b]) = isDig (b.toNat : Int)
  | [], _ => rfl
  | _ :: l, _ => lastd_snoc b l _

theorem nUL_snoc (c : UInt8) : ∀ l pd, nUL pd (l ++ [c]) = nUL pd l ++ ((if (isDig (c.toNat : Int) && !lastd pd l) = true then [48] else []) ++ [c])
  | [], pd => by
    show (if _ then _ else _) ++ c :: [] = [] ++ _
    rfl
  | a :: l, pd => by
    show (if _ then _ else _) ++ a :: nUL (isDig (a.toNat : Int)) (l ++ [c]) = ((if _ then _ else _) ++ a :: nUL (isDig (a.toNat : Int)) l) ++ _
    rw [nUL_snoc c l (isDig (a.toNat : Int))]
    simp [lastd]

theorem one_list (u : ByteArray) (k : Nat) (h : k < u.size) : (u.extract k (k + 1)).data.toList = [u[k]] := by
  rw [toList_extract]
  have h' : k < u.data.toList.length := by simpa using h
  rw [show k + 1 - k = 1 by omega, List.drop_eq_getElem_cons h']
  rfl

theorem nstep (u x : ByteArray) (k : Nat) (h : k < u.size) (hx : x.data.toList = nUL false (u.data.toList.take k)) (hn : (isDig (u[k].toNat : Int) && !lastd false (u.data.toList.take k)) = true) :
    (x ++ ⟨#[48]⟩ ++ u.extract k (k + 1)).data.toList = nUL false (u.data.toList.take (k + 1)) := by
  rw [take_snoc u k h, nUL_snoc, if_pos hn, toList_append, toList_append, one_list u k h, hx]
  simp
theorem nstep0 (u x : ByteArray) (k : Nat) (h : k < u.size) (hx : x.data.toList = nUL false (u.data.toList.take k)) (hn : (isDig (u[k].toNat : Int) && !lastd false (u.data.toList.take k)) = false) :
    (x ++ u.extract k (k + 1)).data.toList = nUL false (u.data.toList.take (k + 1)) := by
  rw [take_snoc u k h, nUL_snoc, if_neg (by rw [hn]; decide), toList_append, one_list u k h, hx]
  simp

def nU (u : ByteArray) : ByteArray := ⟨(nUL false u.data.toList).toArray⟩
theorem nU_list (u : ByteArray) : (nU u).data.toList = nUL false u.data.toList := by simp [nU]

theorem nUL_len : ∀ l pd, (nUL pd l).length ≤ 2 * l.length
  | [], _ => Nat.le_refl _
  | c :: l, pd => by
    have := nUL_len l (isDig (c.toNat : Int))
    show ((if _ then _ else _) ++ c :: nUL (isDig (c.toNat : Int)) l).length ≤ _
    split <;> simp only [List.length_append, List.length_cons, List.length_nil] <;> omega
theorem nU_size (u : ByteArray) : (nU u).size ≤ 2 * u.size := by
  have h := nUL_len u.data.toList false
  have e1 : (nU u).size = (nUL false u.data.toList).length := by
    show (nUL false u.data.toList).toArray.size = _
    simp
  have e2 : u.data.toList.length = u.size := by simp
  omega

/-- BACK OVER ONE NEW OBJECT. -/
theorem box_back {b : Nat} {w1 : World} {o : Obj} {e u r : ByteArray} {c d : Bool} (h : Box5 b (w1.alloc o) e u r c d) (hb : b < w1.heap.size) : Box5 b w1 e u r c d := by
  have hB := (Below.refl w1.heap.size w1).alloc (Nat.le_refl _) o
  exact ⟨(hB.cell (p := ⟨b, 0, none⟩) hb).symm.trans h.1, (hB.cell (p := ⟨b, 1, none⟩) hb).symm.trans h.2.1, (hB.cell (p := ⟨b, 2, none⟩) hb).symm.trans h.2.2.1, (hB.cell (p := ⟨b, 3, none⟩) hb).symm.trans h.2.2.2.1, (hB.cell (p := ⟨b, 4, none⟩) hb).symm.trans h.2.2.2.2.1, hb⟩

theorem ext_size (u : ByteArray) (k : Nat) (h : k < u.size) : (u.extract k (k + 1)).size = 1 := by
  rw [ByteArray.size_extract]
  omega
theorem nought_size : (⟨#[48]⟩ : ByteArray).size = 1 := rfl

set_option maxHeartbeats 2000000 in
theorem nought_any (e u r : ByteArray) (c d : Bool) (he : e.size ≤ 256) (hu : u.size ≤ 256) (w : World) :
    Calls Tryd.prog 16 #[.agg #[.string e, .string u, .string r, .bool c, .bool d]] w fun x w' => x = .returned (.agg #[.string (⟨#[48]⟩ ++ e), .string (nU u), .string (if d = true then r else ⟨#[48]⟩), .bool true, .bool true]) ∧ Below w.heap.size w w' := by
  cases d
  all_goals
    go_enter Tryd.func16, Tryd.ntmps16
    go_wp2
    go_loop [3, 4] (fun uv i => ∃ (k : Nat) (x : ByteArray), k ≤ u.size ∧ i = .int .i64 k ∧ uv = .string x ∧ x.size ≤ 2 * k ∧ Hid (x.data.toList = nUL false (u.data.toList.take k))) (fun _ i => u.size - (intOf i).toNat)
    case atStart => exact ⟨0, ⟨#[]⟩, Nat.zero_le _, rfl, rfl, Nat.zero_le _, hide rfl⟩
    case round =>
      obtain ⟨k, x, hk, rfl, rfl, hsz, HX⟩ := hrel
      by_cases hlt : k < u.size
      · cases hd : isDig (u[k].toNat : Int)
        · have HN := hide (nstep0 u x k hlt (unhide HX) (by rw [hd]; rfl))
          have hz := ext_size u k hlt
          go_wp2_with (go_at_call 22; refine (ldigit_any _ _).mono ?_; rintro e w' ⟨rfl, rfl⟩)
          go_round
          case rel => exact ⟨k + 1, _, by omega, by go_num, rfl, by rw [ByteArray.size_append, hz]; omega, HN⟩
          case measure => simp [intOf]; omega
        · cases k with
          | zero =>
            have HN := hide (nstep u x 0 hlt (unhide HX) (by rw [hd]; rfl))
            have hz := ext_size u 0 hlt
            go_wp2_with (go_at_call 22; refine (ldigit_any _ _).mono ?_; rintro e w' ⟨rfl, rfl⟩)
            go_round
            case rel => exact ⟨1, _, by omega, by go_num, rfl, by rw [ByteArray.size_append, ByteArray.size_append, hz, nought_size]; omega, HN⟩
            case measure => simp [intOf]; omega
          | succ k =>
            have hlt' : k < u.size := by omega
            have hl : lastd false (u.data.toList.take (k + 1)) = isDig (u[k].toNat : Int) := by rw [take_snoc u k hlt', lastd_snoc]
            have hz := ext_size u (k + 1) hlt
            cases hd2 : isDig (u[k].toNat : Int)
            · have HN := hide (nstep u x (k + 1) hlt (unhide HX) (by rw [hd, hl, hd2]; rfl))
              clear hl
              go_wp2_with (go_at_call 22; refine (ldigit_any _ _).mono ?_; rintro e w' ⟨rfl, rfl⟩)
              go_round
              case rel => exact ⟨k + 1 + 1, _, by omega, by go_num, rfl, by rw [ByteArray.size_append, ByteArray.size_append, hz, nought_size]; omega, HN⟩
              case measure => simp [intOf]; omega
            · have HN := hide (nstep0 u x (k + 1) hlt (unhide HX) (by rw [hd, hl, hd2]; rfl))
              clear hl
              go_wp2_with (go_at_call 22; refine (ldigit_any _ _).mono ?_; rintro e w' ⟨rfl, rfl⟩)
              go_round
              case rel => exact ⟨k + 1 + 1, _, by omega, by go_num, rfl, by rw [ByteArray.size_append, hz]; omega, HN⟩
              case measure => simp [intOf]; omega
      · obtain rfl : k = u.size := by omega
        obtain rfl : x = nU u := ba_of_list ((unhide HX).trans (by rw [nU_list, List.take_of_length_le (by simp)]))
        go_wp2
        exact bodyPost_ret (v := .agg #[.string (⟨#[48]⟩ ++ e), .string (nU u), .string _, .bool true, .bool true]) (by simp [results, Tryd.results16, go_sem]) rfl ⟨rfl, ((Below.refl _ _).alloc (Nat.le_refl _) _).alloc (by simp) _⟩

end Go.Proofs.YtfnbclehlikbkaaDoor
