import Derived.Test.YtkpkpebljkcmkaaDoorMfU
import Derived.Test.YtkpkpebljkcmkaaDoorMfN
namespace Go.Proofs.YtkpkpebljkcmkaaDoor
open Go.RowKit

/-- PATHS WRITTEN OVER, EACH BY A LONGER ONE. -/
structure Tz (lo : Nat) (W wr : World) (m : Nat) : Prop where
  kd : Kd lo W wr
  sz : ∀ a s, W.cell? a = some (.string s) → ∃ s' : Nm, wr.cell? a = some (.string s') ∧ s'.size ≤ s.size + 2 * m
theorem Tz.refl (lo : Nat) (W : World) : Tz lo W W 0 := ⟨Kd.refl lo W, fun _ s h => ⟨s, h, by omega⟩⟩
theorem Tz.set {lo : Nat} {W wr : World} {m : Nat} (h : Tz lo W wr m) {b o : Nat} {s s' : Nm} (hw : W.cell? ⟨b, o, none⟩ = some (.string s)) (hc : wr.cell? ⟨b, o, none⟩ = some (.string s')) (hb : lo ≤ b) (hs : s'.size ≤ s.size + 2 * m) (hm : s.size + 2 * (m + 1) ≤ maxLen) : Tz lo W (wr.setCell ⟨b, o, none⟩ (.string ((⟨#[122, 47]⟩ : Nm) ++ s'))) (m + 1) := by
  have hsz : ((⟨#[122, 47]⟩ : Nm) ++ s').size = 2 + s'.size := by rw [ByteArray.size_append]; rfl
  refine ⟨h.kd.set hc (.inr (.inl ⟨_, _, rfl, rfl, by omega⟩)) hb, fun a t ht => ?_⟩
  by_cases e : (⟨b, o, none⟩ : Addr) = a
  · subst e
    rw [hw] at ht
    cases ht
    exact ⟨_, World.cell?_setCell_same _ _ _ hc, by omega⟩
  · obtain ⟨t', h1, h2⟩ := h.sz a t ht
    exact ⟨t', by rw [World.cell?_setCell_other _ _ _ _ e]; exact h1, by omega⟩
theorem Tz.drew {lo : Nat} {W wr : World} {m : Nat} (h : Tz lo W wr m) : Tz lo W wr.drew m := ⟨h.kd.drew, h.sz⟩
theorem Glob.from {w w' : World} {lo : Nat} (h : Glob w) (hl : 5 < lo) (hb : Below lo w w') : Glob w' := by
  obtain ⟨m, hm⟩ := h.mx
  refine ⟨Nat.lt_of_lt_of_le h.big hb.size, ⟨m, (hb.cell (p := ⟨0, 0, none⟩) (by show 0 < lo; omega)).trans hm⟩, ?_⟩
  have ht := h.tb
  have hg : Tryd.prog.globalNamed "internal/strconv.uint64pow10" = some 3 := by kernel_rfl
  unfold Lib.TabIs World.var? at ht ⊢
  rw [hg] at ht ⊢
  simp only [Option.bind_some] at ht ⊢
  rw [hb.block 3 (by omega)]
  exact ht
theorem dig_len (n : Nat) (h : n ≤ 281474976710655) : (Lib.decDigits n).length ≤ 20 := by
  rw [Lib.decDigits_length]
  have := nd_le 14 n (by omega)
  omega
/-- STEPS ARE VALUES OF TEXTS AND NUMBERS. -/
theorem stT_le {a b : Nat} (ha : a ≤ 281474976710655) (hb : b ≤ 281474976710655) : (ba (stT a b)).size ≤ maxLen := by
  have h1 := dig_len a ha
  have h2 := dig_len b hb
  show (stT a b).toArray.size ≤ maxLen
  unfold stT maxLen
  simp only [List.size_toArray, List.length_cons, List.length_append]
  omega
theorem tpN_le {p : Nm} (h : chk p = 0) : (tpN p).size ≤ maxLen := by
  have := chk_le h
  unfold tpN maxLen
  rw [ByteArray.size_append]
  have e : (⟨#[116, 47]⟩ : Nm).size = 2 := rfl
  omega
theorem St.ok {seq : Int} {I O : List (List Value)} {e : Int} {M : List (List Value)} (h : St seq I O e M) (hI : I.length ≤ 1048576) : ∀ r ∈ M, isT 42 3 r := by
  cases h with
  | arg => intro r hr; cases hr
  | inn => intro r hr; cases hr
  | out => intro r hr; cases hr
  | good CM GM hs h1 h2 =>
    intro r hr
    rcases List.mem_append.1 hr with hr | hr
    · unfold rnm at hr
      obtain ⟨⟨x, j⟩, hx, rfl⟩ := List.mem_map.1 hr
      have hm := List.mem_zipIdx hx
      have hck := h1.fine.1 x (by rw [hm.2.2]; exact List.getElem_mem _)
      exact isT_stp (by decide) (stT_le (by omega) (by omega)) (tpN_le hck)
    · unfold rmv at hr
      obtain ⟨f, hf, hr⟩ := List.mem_flatMap.1 hr
      unfold rem1 at hr
      split at hr
      · rw [List.mem_singleton] at hr
        subst hr
        obtain ⟨g1, g2, _⟩ := h2.fine
        exact isT_stp (by decide) (by unfold maxLen; decide) (tpN_le (g1 f (g2.mem_iff.1 hf)))
      · cases hr
theorem St.len {seq : Int} {I O : List (List Value)} {e : Int} {M : List (List Value)} (h : St seq I O e M) : M.length ≤ I.length + O.length := by
  cases h with
  | arg => exact Nat.zero_le _
  | inn => exact Nat.zero_le _
  | out => exact Nat.zero_le _
  | good CM GM hs h1 h2 =>
    have := rmv_len CM GM
    have := h2.len
    rw [List.length_append, rnm_len]
    omega
theorem num_any (e : Int) (w : World) : Calls Tryd.prog 10 #[.int .i64 e] w fun r w' => r = .returned (.int .i64 e) ∧ w' = w := by
  go_enter Tryd.func10, Tryd.ntmps10
  go_wp2_with fail
  go_ret
  exact ⟨rfl, rfl⟩
end Go.Proofs.YtkpkpebljkcmkaaDoor
