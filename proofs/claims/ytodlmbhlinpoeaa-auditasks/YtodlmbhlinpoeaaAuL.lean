import Derived.Test.YtodlmbhlinpoeaaAuJ
import Derived.Deep.CutRange
namespace Go.Proofs.Ytodlmbhlinpoeaa
open Go.RowKit

set_option maxRecDepth 100000 in
set_option maxHeartbeats 4000000 in
theorem stillTexts_yes {w : World} {lo : Nat} {u v : Value} {fl : List (List Value)} (h : Len 9 1 lo w fl mkS 2 v) (k : Rws 9 1 w u fl) (hl : fl.length ≤ 8796093021952) :
    Calls Try.prog 21 #[v, u] w fun e w' => e = .returned (.bool true) ∧ ∃ n, w' = w.drewN n := by
  obtain ⟨a, c, rfl⟩ := k.form
  obtain ⟨g, cap, rfl, hcap, _, hgl, _, hmk⟩ := h.open k.ok
  have c0 := hmk 0 _ rfl
  have c1 := hmk 1 _ rfl
  have HC := hide (sameTexts_yes hl (h.rws k.ok) k)
  obtain ⟨N, hN⟩ : ∃ N, fl.length = N := ⟨_, rfl⟩
  rw [hN, Nat.mul_one, Nat.add_zero] at c0
  rw [hN, Nat.mul_one] at c1
  rw [hN] at hcap hl HC ⊢
  have hw : IntKind.i64.wrap ((N : Int) + 2) = (N : Int) + 2 := IntWalk.i64_in _ (by omega)
  have hw1 : IntKind.i64.wrap ((N : Int) + 1) = (N : Int) + 1 := IntWalk.i64_in _ (by omega)
  have hcz : (N : Int) + 2 ≤ (cap : Int) := by omega
  have hcy : N ≤ cap := by omega
  clear h k hN hmk
  go_enter Try.func21, Try.ntmps21
  go_wp2_with (first
    | (go_at_call 27; refine (unhide HC).mono ?_; rintro e w1 ⟨rfl, n, rfl⟩))
  go_ret
  exact ⟨rfl, n, rfl⟩
set_option maxRecDepth 100000 in
set_option maxHeartbeats 4000000 in
theorem stillClauses_yes {w : World} {lo : Nat} {m u v : Value} {cl : List (List (List Value))} (h : LenC lo w cl m u) (k : Cls w v cl) (ok : ∀ al ∈ cl, ∀ r ∈ al, isT 55 3 r) (hl : cl.length ≤ 5864062014634) (hls : ∀ al ∈ cl, al.length ≤ 3518437208780) :
    Calls Try.prog 20 #[m, u, v] w fun e w' => e = .returned (.bool true) ∧ ∃ n, w' = w.drewN n := by
  obtain ⟨a, c, rfl⟩ := k.form
  have HS := hide (sameClauses_yes hl hls (h.cls ok) k)
  obtain ⟨g, cap, z, hd, rfl, h1, h2, h3, h4, h5⟩ := h
  obtain ⟨ua, uc, rfl⟩ := owns_form h5
  have hcap := owns_cap h1
  have c0 : w.cell? ⟨g, cl.length, none⟩ = some (.slice (some ⟨z, 0, none⟩) 1 1) := owns_at h1 cl.length _ (by rw [List.getElem?_append_right (by omega), h2, Nat.sub_self]; rfl)
  have c1 : w.cell? ⟨z, 0, none⟩ = some (.string ⟨#[42]⟩) := (cell_blk h4.1 0).1
  have HP := hide (show ∀ i (hi : i < cl.length), ∃ b o xa xc gu g2 q, a = some ⟨b, o, none⟩ ∧ ua = some ⟨gu, 0, none⟩ ∧ w.cell? ⟨b, o + i, none⟩ = some (.slice xa (cl[i]).length xc) ∧ w.cell? ⟨gu, i, none⟩ = some (.slice (some ⟨g2, 0, none⟩) (cl[i]).length q) ∧ (cl[i]).length + 1 ≤ q ∧ (cl[i]).length ≤ 3518437208780 ∧ w.cell? ⟨g2, (cl[i]).length * 3, none⟩ = some (.string ⟨#[42]⟩) ∧ ∀ n, Calls Try.prog 26 #[.slice (some ⟨g2, 0, none⟩) (cl[i]).length q, .slice xa (cl[i]).length xc] (w.drewN n) fun e w' => e = .returned (.bool true) ∧ ∃ k, w' = (w.drewN n).drewN k from fun i hi => by
    obtain ⟨b, o, xa, xc, e1, _, k1, k2⟩ := k.at hi
    obtain ⟨x, x1, x2⟩ := h3 i _ (List.getElem?_eq_getElem hi)
    have okA := ok _ (List.getElem_mem hi)
    obtain ⟨g2, q, rfl, y1, _, _, _, y2⟩ := x2.open okA
    rcases h5.2 with ⟨_, q0⟩ | ⟨gu, _, _, e2, _⟩
    · omega
    · cases e2
      exact ⟨b, o, xa, xc, gu, g2, q, e1, rfl, k1, owns_at h5 i _ x1, y1, hls _ (List.getElem_mem hi), y2 0 _ rfl, fun n => sameAtoms_yes (Nat.le_trans (hls _ (List.getElem_mem hi)) (by decide)) ((x2.rws okA).later (bl_drewN w n)) (k2.later (bl_drewN w n))⟩)
  obtain ⟨N, hN⟩ : ∃ N, cl.length = N := ⟨_, rfl⟩
  have HN := hide hN
  rw [hN] at c0 hcap hl HS ⊢
  have hw : IntKind.i64.wrap ((N : Int) + 1) = (N : Int) + 1 := IntWalk.i64_in _ (by omega)
  have hcz : (N : Int) + 1 ≤ (cap : Int) := by omega
  clear k hN h1 h2 h3 h4 h5 ok hls
  go_enter Try.func20, Try.ntmps20
  go_wp2_with (first
    | (go_at_call 25; refine (unhide HS).mono ?_; rintro e w1 ⟨rfl, n0, rfl⟩))
  go_loopg [8, 9] N (fun gq iv _ wr => ∃ i : Nat, iv = .int .i64 i ∧ i ≤ N ∧ N - i ≤ gq ∧ Hid (∃ n, wr = w.drewN n))
  case atStart => exact ⟨0, by go_num, by omega, by omega, hide ⟨_, rfl⟩⟩
  case round =>
    obtain ⟨i, rfl, hi, hg, HW⟩ := hrel
    by_cases hlt : i < N
    · have hin : (i : Int) < (N : Int) := by omega
      obtain ⟨b, o, xa, xc, gu, g2, q, rfl, rfl, d0, d1, hq, hm, d2, hc⟩ := unhide HP i (by have := unhide HN; omega)
      generalize (cl[i]'(by have := unhide HN; omega)).length = M at *
      have hwM : IntKind.i64.wrap ((M : Int) + 1) = (M : Int) + 1 := IntWalk.i64_in _ (by omega)
      have hqz : (M : Int) + 1 ≤ (q : Int) := by omega
      have hqy : M ≤ q := by omega
      have HC := hide (show ∀ t, Calls Try.prog 26 #[.slice (some ⟨g2, 0, none⟩) M q, .slice xa M xc] (wr.drewN t) fun e w' => e = .returned (.bool true) ∧ ∃ k, w' = (wr.drewN t).drewN k from fun t => by
        obtain ⟨n, rfl⟩ := unhide HW
        rw [World.drewN_drewN]
        exact hc _)
      have HZ := hide (show ∀ t, ∃ n, wr.drewN t = w.drewN n from fun t => by
        obtain ⟨n, rfl⟩ := unhide HW
        exact ⟨_, World.drewN_drewN _ _ _⟩)
      have e0 : wr.cell? ⟨b, o + i, none⟩ = some (.slice xa M xc) := by obtain ⟨n, rfl⟩ := unhide HW; exact d0
      have e1 : wr.cell? ⟨gu, i, none⟩ = some (.slice (some ⟨g2, 0, none⟩) M q) := by obtain ⟨n, rfl⟩ := unhide HW; exact d1
      have e2 : wr.cell? ⟨g2, M * 3, none⟩ = some (.string ⟨#[42]⟩) := by obtain ⟨n, rfl⟩ := unhide HW; exact d2
      clear HP hc d0 d1 d2 c0 c1 hcz hw
      go_upto_region 9 with fail
      go_quiet (fail)
      have HC2 := hide (show ∀ t, Calls Try.prog 26 #[.slice (some ⟨g2, 0, none⟩) M q, .slice xa M xc] ((wr.drewN nq).drewN t) fun e w' => e = .returned (.bool true) ∧ ∃ k, w' = ((wr.drewN nq).drewN t).drewN k from fun t => by
        rw [World.drewN_drewN]
        exact unhide HC _)
      have HZ3 := hide (show ∀ t, ∃ n, (wr.drewN nq).drewN t = w.drewN n from fun t => by rw [World.drewN_drewN]; exact unhide HZ _)
      have f0 : (wr.drewN nq).cell? ⟨b, o + i, none⟩ = some (.slice xa M xc) := e0
      have f2 : (wr.drewN nq).cell? ⟨g2, M * 3, none⟩ = some (.string ⟨#[42]⟩) := e2
      clear e0 e1 e2 HC HZ HW HS
      generalize wr.drewN nq = W1 at *
      have hMM : (M : Int) < (M : Int) + 1 := by omega
      go_upto_region 10 with fail
      go_quiet (first | (go_at_call 26; refine (unhide HC2 _).mono ?_; rintro e w'' ⟨rfl, t, rfl⟩; exact ⟨rfl, _, by rw [World.drewN_drewN]⟩))
      go_wp2
      go_roundg (N - (i + 1))
      case measure => omega
      case rel => exact ⟨i + 1, by go_num, by omega, by omega, hide (unhide HZ3 _)⟩
    · obtain rfl : i = N := by omega
      go_wp2_with fail
      go_ret
      exact ⟨rfl, unhide HW⟩
end Go.Proofs.Ytodlmbhlinpoeaa
