import Derived.Test.YtokgegbodbnimaaPqD
namespace Go.Proofs.Ytokgegbodbnimaa
open Go.RowKit Go.Maps Go.Sort

set_option maxRecDepth 100000 in
set_option maxHeartbeats 8000000 in
theorem named_any {W : World} {pa : Option Addr} {sc : List Sp} (pc : Nat) (hs : Rs W pa sc) (hl : sc.length ≤ 1099511627776) (x : Nm) :
    Calls Try.prog 19 #[.slice pa sc.length pc, .string x] W fun v W' => v = .returned (.bool (nmd sc x sc.length)) ∧ RowKit.Below W.heap.size W W' := by
  obtain ⟨N, hN⟩ : ∃ n, n = sc.length := ⟨_, rfl⟩
  have HN := hide hN
  have HS := hide hs
  rw [← hN] at hl ⊢
  clear hs hN
  go_enter Try.func19, Try.ntmps19
  go_wp2_with fail
  go_loopg [5, 6, 7] N (fun g1 vh vi _ wr => ∃ i : Nat, vh = .bool (nmd sc x i) ∧ vi = .int .i64 i ∧ i ≤ N ∧ N - i ≤ g1 ∧ Hid (RowKit.Below W.heap.size W wr))
  case atStart => exact ⟨0, rfl, by go_num, by omega, by omega, hide (Below.refl _ _)⟩
  case round =>
    obtain ⟨i, rfl, rfl, hile, hg, HB⟩ := hrel
    by_cases hlt : i < N
    · have hlt2 : (i : Int) < (N : Int) := by omega
      have hip : i < sc.length := by have := unhide HN; omega
      obtain ⟨b, of, rfl, hbl, hcs⟩ : ∃ b of, pa = some ⟨b, of, none⟩ ∧ b < W.heap.size ∧ (∀ (j : Nat) u, sc[i].cs[j]? = some u → W.cell? ⟨b, of + i * 6 + j, none⟩ = some u) := by
        rcases unhide HS with q | ⟨b, of, q1, q2, q3⟩
        · rw [q] at hip; cases hip
        · exact ⟨b, of, q1, q2, (q3 i hip).1⟩
      have HH := hide (@nmd_hit sc x i hip)
      have HY := hide (@nmd_sync sc x i hip)
      have HO := hide (@nmd_no sc x i hip)
      obtain ⟨h2, e2⟩ : ∃ h2, nmd sc x (i + 1) = h2 := ⟨_, rfl⟩
      rw [e2] at HH HY HO
      have HE2 := hide e2
      clear e2
      generalize sc[i] = p at *
      generalize nmd sc x i = h1 at *
      have bw := unhide HB
      have cc : ∀ (j : Nat) u, p.cs[j]? = some u → wr.cell? ⟨b, of + i * 6 + j, none⟩ = some u := fun j u hj => (bw.cell (p := ⟨b, of + i * 6 + j, none⟩) hbl).trans (hcs j u hj)
      have c0 := cc 0 _ rfl
      have c1 := cc 1 _ rfl
      have c2 := cc 2 _ rfl
      have c3 := cc 3 _ rfl
      have c4 := cc 4 _ rfl
      have c5 := cc 5 _ rfl
      rw [Nat.add_zero] at c0
      obtain ⟨W1, hW1⟩ : ∃ w, w = wr.alloc (.cells #[.int .i64 p.kd, .string p.nm, .string p.to, .slice p.da p.ds.length p.dc, .int .i64 p.n, .slice p.ka p.kn p.kc] 57) := ⟨_, rfl⟩
      have b1 : RowKit.Below wr.heap.size wr W1 := by rw [hW1]; exact (Below.refl _ wr).alloc (Nat.le_refl _) _
      have d0 : W1.cell? ⟨wr.heap.size, 0, none⟩ = some (.int .i64 p.kd) := by rw [hW1]; go_simp
      have d1 : W1.cell? ⟨wr.heap.size, 1, none⟩ = some (.string p.nm) := by rw [hW1]; go_simp
      have d2 : W1.cell? ⟨wr.heap.size, 2, none⟩ = some (.string p.to) := by rw [hW1]; go_simp
      have HB2 := hide (bl_t bw b1)
      go_upto_region 6 with fail
      rw [← hW1]
      clear hW1 cc c0 c1 c2 c3 c4 c5 hcs HB bw b1
      by_cases h6 : p.kd = 6
      · have hnh : ¬ hitP p x := fun q => by have := q.1; omega
        obtain rfl := unhide HY hnh h6
        have h61 : p.kd ≥ 1 := by omega
        have h65 : ¬ (p.kd ≤ 5) := by omega
        clear HH HY HO hnh
        go_wp2_with fail
        go_roundg (N - (i + 1))
        case measure => omega
        case rel => exact ⟨i + 1, by rw [unhide HE2], by go_num, by omega, by omega, HB2⟩
      · by_cases hb : 1 ≤ p.kd ∧ p.kd ≤ 5
        · have h61 : p.kd ≥ 1 := hb.1
          have h65 : p.kd ≤ 5 := hb.2
          by_cases hx : p.nm = x
          · obtain rfl := unhide HH ⟨hb, .inl hx⟩
            have hxx : (ByteArray.toList p.nm == ByteArray.toList x) = true := by rw [hx]; exact bx_eq x
            clear HH HY HO hb hx
            go_wp2_with fail
            go_roundg (N - (i + 1))
            case measure => omega
            case rel => exact ⟨i + 1, by rw [unhide HE2], by go_num, by omega, by omega, HB2⟩
          · have hxx := ba_ne hx
            by_cases h4 : p.kd = 4
            · by_cases hy : p.to = x
              · obtain rfl := unhide HH ⟨hb, .inr ⟨h4, hy⟩⟩
                have hyy : (ByteArray.toList p.to == ByteArray.toList x) = true := by rw [hy]; exact bx_eq x
                clear HH HY HO hb hx hy
                go_wp2_with fail
                go_roundg (N - (i + 1))
                case measure => omega
                case rel => exact ⟨i + 1, by rw [unhide HE2], by go_num, by omega, by omega, HB2⟩
              · have hyy := ba_ne hy
                obtain rfl := unhide HO (fun q => by rcases q.2 with q | q; exact hx q; exact hy q.2) h6
                clear HH HY HO hb hx hy
                go_wp2_with fail
                go_roundg (N - (i + 1))
                case measure => omega
                case rel => exact ⟨i + 1, by rw [unhide HE2], by go_num, by omega, by omega, HB2⟩
            · obtain rfl := unhide HO (fun q => by rcases q.2 with q | q; exact hx q; exact h4 q.1) h6
              clear HH HY HO hb hx
              go_wp2_with fail
              go_roundg (N - (i + 1))
              case measure => omega
              case rel => exact ⟨i + 1, by rw [unhide HE2], by go_num, by omega, by omega, HB2⟩
        · obtain rfl := unhide HO (fun q => hb q.1) h6
          clear HH HY HO
          by_cases h61 : p.kd ≥ 1
          · have h65 : ¬ (p.kd ≤ 5) := fun q => hb ⟨h61, q⟩
            clear hb
            go_wp2_with fail
            go_roundg (N - (i + 1))
            case measure => omega
            case rel => exact ⟨i + 1, by rw [unhide HE2], by go_num, by omega, by omega, HB2⟩
          · clear hb
            go_wp2_with fail
            go_roundg (N - (i + 1))
            case measure => omega
            case rel => exact ⟨i + 1, by rw [unhide HE2], by go_num, by omega, by omega, HB2⟩
    · obtain rfl : i = N := by omega
      go_wp2_with fail
      go_ret
      exact ⟨rfl, unhide HB⟩
end Go.Proofs.Ytokgegbodbnimaa
