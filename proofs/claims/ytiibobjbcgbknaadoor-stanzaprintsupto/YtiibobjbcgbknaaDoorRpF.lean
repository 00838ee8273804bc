import Derived.Test.YtiibobjbcgbknaaDoorRpE
import Derived.Test.YtiibobjbcgbknaaDoorScG
import Derived.Test.YtiibobjbcgbknaaDoorSgD
namespace Go.Proofs.YtiibobjbcgbknaaDoor
open Go.RowKit

/-- OURS, OF ANY PARAGRAPHS. -/
theorem Print_a (ps : List (List Fd)) (v : Value) (w : World) (hl : ps.length ≤ 16777216) (hs : ∀ p ∈ ps, p.length ≤ 16777216 ∧ ∀ f ∈ p, szG f) (hsz : (∀ p ∈ ps, okP p = true) → (prT ps).length ≤ 16777216) (hD : DocG w v ps) :
    Calls Tryd.prog 14 #[v] w fun e w' => Below w.heap.size w w' ∧ (((∀ p ∈ ps, okP p = true) ∧ ∃ qa qc, e = .returned (.tuple #[.slice qa (prT ps).length qc, .int .i64 0]) ∧ w'.ownsRow w.heap.size 5 1 (.slice qa (prT ps).length qc) (prT ps).length (encB (prT ps))) ∨ (¬ (∀ p ∈ ps, okP p = true) ∧ e = .returned (.tuple #[.slice none 0 0, .int .i64 34]))) := by
  by_cases hok : ∀ p ∈ ps, okP p = true
  · have hdc : DocC w v ps := hD.docC fun p hp f hf => okF_ls (by
      have := hok p hp
      unfold okP at this
      simp only [Bool.and_eq_true, List.all_eq_true] at this
      exact this.1 f hf)
    refine (Print_yes ps v w hok (hsz hok) hdc).mono ?_
    rintro e w' ⟨pa, c, h1, h2, h3⟩
    exact ⟨h3, .inl ⟨hok, pa, c, h1, h2⟩⟩
  · refine (Print_no ps v w hok hl hs hD).mono ?_
    rintro e w' ⟨h1, h2⟩
    exact ⟨h2, .inr ⟨hok, h1⟩⟩
/-- OURS, OF ANY FIELD: what it is asked with, as it lies. -/
theorem Check_a (f : Fd) (pa : Option Addr) (c : Nat) (na : Option Addr) (nn nc : Nat) (w : World) (hs : szG f) (hcap : f.ls.length ≤ c) (hC : Cl w pa (strs f.ls)) :
    Calls Tryd.prog 23 #[.agg #[.string (ba f.nm), .slice pa f.ls.length c, .slice na nn nc]] w fun e w' => e = .returned (.int .i64 (ckN f)) ∧ Below w.heap.size w w' := by
  cases hok : okF f
  · have hck : ckN f = 34 := by unfold ckN; rw [hok]; rfl
    rw [hck]
    have h0 : okF ⟨f.nm, f.ls, []⟩ = false := hok
    exact Check_no f.nm f.ls pa c (.slice na nn nc) w h0 (Nat.le_trans hs.1 (by decide)) (fun l hl => Nat.le_trans (hs.2.1 l hl) (by decide)) (Nat.le_trans hs.2.2 (by decide)) hcap hC
  · have hck : ckN f = 0 := by unfold ckN; rw [hok]; rfl
    rw [hck]
    obtain ⟨nm, ls, ns⟩ := f
    cases ls with
    | nil => exact absurd rfl (okF_ls hok)
    | cons a r =>
      obtain ⟨b, o, rfl, hc⟩ := hC (by simp [strs])
      have d0 := hc 0 _ rfl
      have hb : b < w.heap.size := by
        by_cases hlt : b < w.heap.size
        · exact hlt
        · rw [World.cell?] at d0
          simp [Array.getElem?_eq_none (Nat.le_of_not_lt hlt)] at d0
      have h3 := hs.2.2
      exact Check_yes nm a r b o c (.slice na nn nc) w hok (fun l hl => Nat.le_trans (hs.2.1 l hl) (by decide)) (by simp at h3; omega) (by simpa using hcap) hb hc
end Go.Proofs.YtiibobjbcgbknaaDoor
