import Derived.Test.YtokgegbodbnimaaMsG
namespace Go.Proofs.Ytokgegbodbnimaa
open Go.RowKit Go.Maps

theorem Rb.take {W : World} {pa : Option Addr} {bs : List Int} (h : Rb W pa bs) (j : Nat) : Rb W pa (bs.take j) := by
  rcases h with rfl | ⟨b, o, h1, h2, h3⟩
  · exact .inl (by simp)
  · refine .inr ⟨b, o, h1, h2, fun i u hi => h3 i u ?_⟩
    unfold u8 at hi ⊢
    rw [List.map_take, List.getElem?_take] at hi
    split at hi
    · exact hi
    · cases hi
set_option maxRecDepth 100000 in
set_option maxHeartbeats 4000000 in
theorem first_any {W : World} {f : Hd} {bs : List Int} (b : Bt W f bs) (n : Int) (hn : 0 ≤ n) (hz : f.n ≤ 70368744177664) :
    Calls Try.prog 53 #[.slice f.a f.n f.c, .int .i64 n] W fun x W' => ∃ h, x = .returned (hv h) ∧ Bt W' h (tk bs n) ∧ (∀ g, bk h = some g → W.heap.size ≤ g) ∧ Below W.heap.size W W' := by
  have hl := b.len
  have hcap : f.n ≤ f.c := by
    rcases b.form with ⟨e, _⟩ | ⟨g, cur, _, _, q, _⟩
    · rw [e]; exact Nat.le_refl _
    · exact q
  obtain ⟨j, hj⟩ : ∃ j : Nat, j = (min n (bs.length : Int)).toNat := ⟨_, rfl⟩
  have hjn : j ≤ f.n := by omega
  have hji : min n (f.n : Int) = (j : Int) := by omega
  have ht : tk bs n = bs.take j := by unfold tk; rw [← hj]
  rw [ht]
  have hlt : (bs.take j).length = j := by simp; omega
  have C := clone_any f.c (b.rb.take j) (fun e => by
    rcases b.form with ⟨_, e2⟩ | ⟨g, cur, e2, _⟩
    · rw [e2]; simp
    · rw [e2] at e; cases e) (by rw [hlt]; omega)
  rw [hlt] at C
  have hpl : (f.a = none ∧ f.n = 0 ∧ f.c = 0) ∨ ∃ g, f.a = some ⟨g, 0, none⟩ := by
    rcases b.form with ⟨e2, e3⟩ | ⟨g, cur, e2, _⟩
    · rw [e2]; exact .inl ⟨rfl, rfl, rfl⟩
    · exact .inr ⟨g, e2⟩
  clear b hl ht hlt hj
  obtain ⟨fa, fn, fc⟩ := f
  simp only at *
  obtain ⟨n', rfl⟩ : ∃ z : Nat, n = (z : Int) := ⟨n.toNat, by omega⟩
  clear hn
  rcases hpl with ⟨rfl, rfl, rfl⟩ | ⟨g, rfl⟩
  · obtain rfl : j = 0 := by omega
    have h1 : ¬ ((n' : Int) < 0) := by omega
    go_enter Try.func53, Try.ntmps53
    by_cases h2 : (0 : Int) < (n' : Int)
    · go_wp2_with (first | (go_at_call 41; refine C.mono ?_; rintro x1 W1 ⟨h, rfl, HE⟩; have HE := hide HE))
      go_ret
      exact ⟨h, rfl, unhide HE⟩
    · obtain rfl : n' = 0 := by omega
      clear h1 h2
      go_wp2_with (first | (go_at_call 41; refine C.mono ?_; rintro x1 W1 ⟨h, rfl, HE⟩; have HE := hide HE))
      go_ret
      exact ⟨h, rfl, unhide HE⟩
  · by_cases h1 : (n' : Int) < (fn : Int)
    · obtain rfl : j = n' := by omega
      have h2 : ¬ ((fn : Int) < (j : Int)) := by omega
      have h3 : (j : Int) ≤ (fc : Int) := by omega
      have h4 : ¬ ((fn : Int) ≤ (j : Int)) := by omega
      clear hji
      go_enter Try.func53, Try.ntmps53
      go_wp2_with (first | (go_at_call 41; refine C.mono ?_; rintro x1 W1 ⟨h, rfl, HE⟩; have HE := hide HE))
      go_ret
      exact ⟨h, rfl, unhide HE⟩
    · obtain rfl : j = fn := by omega
      have h3 : (j : Int) ≤ (fc : Int) := by omega
      have h4 : (j : Int) ≤ (n' : Int) := by omega
      clear hji
      go_enter Try.func53, Try.ntmps53
      by_cases h5 : (j : Int) < (n' : Int)
      · go_wp2_with (first | (go_at_call 41; refine C.mono ?_; rintro x1 W1 ⟨h, rfl, HE⟩; have HE := hide HE))
        go_ret
        exact ⟨h, rfl, unhide HE⟩
      · obtain rfl : n' = j := by omega
        go_wp2_with (first | (go_at_call 41; refine C.mono ?_; rintro x1 W1 ⟨h, rfl, HE⟩; have HE := hide HE))
        go_ret
        exact ⟨h, rfl, unhide HE⟩
end Go.Proofs.Ytokgegbodbnimaa
