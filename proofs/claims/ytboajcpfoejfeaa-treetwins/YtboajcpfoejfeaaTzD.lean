import Derived.Test.YtboajcpfoejfeaaTzC
namespace Go.Proofs.Ytboajcpfoejfeaa
open Go.RowKit Go.Maps

set_option maxHeartbeats 1000000 in
theorem sameTexts_yes {w : World} {u v : Value} {l : List Nm} (hl : l.length ≤ 2513169434843) (h : Sl w u l) (k : Sl w v l) :
    Calls Try.prog 15 #[u, v] w fun e w' => e = .returned (.bool true) ∧ ∃ n, w' = w.drewN n := by
  obtain ⟨a, c, rfl⟩ := h.form
  obtain ⟨a2, c2, rfl⟩ := k.form
  have HP := hide (show ∀ i (hi : i < l.length), ∃ b o, a = some ⟨b, o, none⟩ ∧ b < w.heap.size ∧ w.cell? ⟨b, o + i, none⟩ = some (.string l[i]) from fun i hi => h.at hi)
  have HR := hide (show ∀ i (hi : i < l.length), ∃ b o, a2 = some ⟨b, o, none⟩ ∧ b < w.heap.size ∧ w.cell? ⟨b, o + i, none⟩ = some (.string l[i]) from fun i hi => k.at hi)
  obtain ⟨N, hN⟩ : ∃ N, N = l.length := ⟨_, rfl⟩
  have HN := hide hN
  rw [← hN] at hl ⊢
  clear h k hN
  go_enter Try.func15, Try.ntmps15
  go_wp2_with fail
  go_loopg [5] N (fun gq iv wr => ∃ i n : Nat, iv = .int .i64 i ∧ i ≤ N ∧ N - i ≤ gq ∧ wr = w.drewN n)
  case atStart => exact ⟨0, 0, by go_num, by omega, by omega, rfl⟩
  case round =>
    obtain ⟨i, n, rfl, hi, hg, rfl⟩ := hrel
    by_cases hlt : i < N
    · have hin : (i : Int) < (N : Int) := by omega
      have hil : i < l.length := by have := unhide HN; omega
      obtain ⟨g, o, rfl, hgl, c0⟩ := unhide HP i hil
      obtain ⟨g2, o2, rfl, hgl2, d0⟩ := unhide HR i hil
      have h0 : (ByteArray.toList l[i] == ByteArray.toList l[i]) = true := bx_eq _
      generalize l[i] = y at *
      clear HP HR
      go_wp2_with fail
      go_quiet (fail)
      go_wp2
      go_roundg (N - (i + 1))
      case measure => omega
      case rel => exact ⟨i + 1, _, by go_num, by omega, by omega, rfl⟩
    · obtain rfl : i = N := by omega
      go_wp2_with fail
      go_ret
      exact ⟨rfl, n, rfl⟩
/-- GROUPS AS THEY LIE. -/
def Gl (w : World) (v : Value) (L : List (List Nm)) : Prop := ∃ a c, v = .slice a L.length c ∧ (0 < L.length → ∃ b o, a = some ⟨b, o, none⟩ ∧ b < w.heap.size ∧ ∀ i l, L[i]? = some l → ∃ h, w.cell? ⟨b, o + i, none⟩ = some h ∧ Sl w h l)
theorem Gl.form {w : World} {v : Value} {L : List (List Nm)} (h : Gl w v L) : ∃ a c, v = .slice a L.length c := let ⟨a, c, e, _⟩ := h; ⟨a, c, e⟩
theorem Gl.later {w w2 : World} {v : Value} {L : List (List Nm)} (h : Gl w v L) (hb : Below w.heap.size w w2) : Gl w2 v L := by
  obtain ⟨a, c, e, hr⟩ := h
  refine ⟨a, c, e, fun h0 => ?_⟩
  obtain ⟨b, o, ea, hl, hc⟩ := hr h0
  refine ⟨b, o, ea, Nat.lt_of_lt_of_le hl hb.size, fun i l hi => ?_⟩
  obtain ⟨h, h1, h2⟩ := hc i l hi
  exact ⟨h, (hb.cell (p := ⟨b, _, none⟩) hl).trans h1, h2.later hb⟩
theorem Gl.at {w : World} {a : Option Addr} {n c : Nat} {L : List (List Nm)} (h : Gl w (.slice a n c) L) {i : Nat} (hi : i < L.length) : ∃ b o x, a = some ⟨b, o, none⟩ ∧ b < w.heap.size ∧ w.cell? ⟨b, o + i, none⟩ = some x ∧ Sl w x L[i] := by
  obtain ⟨a2, c2, e, hr⟩ := h
  cases e
  obtain ⟨b, o, ea, hl, hc⟩ := hr (by omega)
  obtain ⟨x, h1, h2⟩ := hc i _ (List.getElem?_eq_getElem hi)
  exact ⟨b, o, x, ea, hl, h1, h2⟩
set_option maxHeartbeats 1000000 in
theorem sameGroups_yes {w : World} {u v : Value} {L : List (List Nm)} (hl : L.length ≤ 2513169434843) (hr : ∀ l ∈ L, l.length ≤ 2513169434843) (h : Gl w u L) (k : Gl w v L) :
    Calls Try.prog 7 #[u, v] w fun e w' => e = .returned (.bool true) ∧ ∃ n, w' = w.drewN n := by
  obtain ⟨a, c, rfl⟩ := h.form
  obtain ⟨a2, c2, rfl⟩ := k.form
  have HP := hide (show ∀ i (hi : i < L.length), ∃ b o x b2 o2 y, a = some ⟨b, o, none⟩ ∧ a2 = some ⟨b2, o2, none⟩ ∧ w.cell? ⟨b, o + i, none⟩ = some x ∧ w.cell? ⟨b2, o2 + i, none⟩ = some y ∧ ∀ n, Calls Try.prog 15 #[x, y] (w.drewN n) fun e w' => e = .returned (.bool true) ∧ ∃ k, w' = (w.drewN n).drewN k from fun i hi => by
    obtain ⟨b, o, x, e1, _, h1, h2⟩ := h.at hi
    obtain ⟨b2, o2, y, e2, _, k1, k2⟩ := k.at hi
    exact ⟨b, o, x, b2, o2, y, e1, e2, h1, k1, fun n => sameTexts_yes (hr _ (List.getElem_mem hi)) (h2.later (bl_drewN w n)) (k2.later (bl_drewN w n))⟩)
  obtain ⟨N, hN⟩ : ∃ N, N = L.length := ⟨_, rfl⟩
  have HN := hide hN
  rw [← hN] at hl ⊢
  clear h k hN hr
  go_enter Try.func7, Try.ntmps7
  go_wp2_with fail
  go_loopg [5, 6] N (fun gq iv _ wr => ∃ i : Nat, iv = .int .i64 i ∧ i ≤ N ∧ N - i ≤ gq ∧ Hid (∃ n, wr = w.drewN n))
  case atStart => exact ⟨0, by go_num, by omega, by omega, hide ⟨0, rfl⟩⟩
  case round =>
    obtain ⟨i, rfl, hi, hg, HW⟩ := hrel
    by_cases hlt : i < N
    · have hin : (i : Int) < (N : Int) := by omega
      have hil : i < L.length := by have := unhide HN; omega
      obtain ⟨g, o, x, g2, o2, y, rfl, rfl, c0, d0, hc⟩ := unhide HP i hil
      have HC := hide (show ∀ t, Calls Try.prog 15 #[x, y] (wr.drewN t) fun e w' => e = .returned (.bool true) ∧ ∃ k, w' = (wr.drewN t).drewN k from fun t => by
        obtain ⟨n, rfl⟩ := unhide HW
        rw [World.drewN_drewN]
        exact hc _)
      have HZ := hide (show ∀ t, ∃ n, wr.drewN t = w.drewN n from fun t => by
        obtain ⟨n, rfl⟩ := unhide HW
        exact ⟨_, World.drewN_drewN _ _ _⟩)
      have c0' : wr.cell? ⟨g, o + i, none⟩ = some x := by obtain ⟨n, rfl⟩ := unhide HW; exact c0
      have d0' : wr.cell? ⟨g2, o2 + i, none⟩ = some y := by obtain ⟨n, rfl⟩ := unhide HW; exact d0
      clear HP hc c0 d0
      go_wp2_with fail
      go_quiet (first | (go_at_call 15; refine (unhide HC _).mono ?_; rintro e w'' ⟨rfl, t, rfl⟩; exact ⟨rfl, _, by rw [World.drewN_drewN]⟩))
      go_wp2
      go_roundg (N - (i + 1))
      case measure => omega
      case rel => exact ⟨i + 1, by go_num, by omega, by omega, hide (unhide HZ _)⟩
    · obtain rfl : i = N := by omega
      go_wp2_with fail
      go_ret
      exact ⟨rfl, unhide HW⟩
end Go.Proofs.Ytboajcpfoejfeaa
