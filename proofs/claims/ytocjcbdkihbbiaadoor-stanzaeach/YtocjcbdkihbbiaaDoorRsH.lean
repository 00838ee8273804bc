import Derived.Test.YtocjcbdkihbbiaaDoorRsG
import Derived.Test.YtocjcbdkihbbiaaDoorStN
namespace Go.Proofs.YtocjcbdkihbbiaaDoor
open Go.RowKit Go.Shelf

theorem rline_any (lo : Nat) (p : List Fd) (ts : List Tv) (pa : Option Addr) (pc : Nat) (s : Bs) (k : Nat) (w : World) (hs2 : s.length ≤ 16777216) (hk0 : kd s ≠ 0) (hk1 : kd s ≠ 1) (ho : oddL s = false) (hlo : lo ≤ w.heap.size) (hP : RP lo w (.slice pa p.length pc) p ts) (hl : p.length ≤ 16777216) (hnm : ∀ f ∈ p, f.nm.length ≤ 16777216) (hls : ∀ f ∈ p, f.ls.length ≤ 16777216 ∧ f.ns.length ≤ 16777216) :
    Calls Tryd.prog 69 #[.slice pa p.length pc, .string (ba s), .int .i64 k] w fun e w' => ∃ v' ts', e = .returned (.tuple #[v', .int .i64 ((takeP p k s).1 : Nat)]) ∧ ((takeP p k s).1 = 0 → RP lo w' v' (takeP p k s).2 ts') ∧ Below w.heap.size w w' := by
  cases s with
  | nil => exact absurd rfl hk0
  | cons b r =>
    have hs : 0 < (b :: r).length := by simp
    have h0 : (ba (b :: r))[0]'(by rw [ba_size]; exact hs) = b := rfl
    have hkc := kd_cons b r hk0
    have h35 : ¬ b.toNat = 35 := fun e => hk1 (by rw [hkc, if_pos e])
    rw [if_neg h35] at hkc
    unfold takeP
    rw [ho, if_neg (by decide)]
    by_cases hb : blB b = true
    · rw [if_pos hb] at hkc
      rw [if_pos hkc]
      unfold goP
      by_cases hp : p.length = 0
      · rw [if_pos hp]
        have hp' : p = [] := List.length_eq_zero_iff.1 hp
        subst hp'
        refine (rline_none pa pc (b :: r) k w hs (by rw [h0]; exact hb)).mono ?_
        rintro e w' ⟨rfl, rfl⟩
        exact ⟨_, [], rfl, fun h => absurd h (by simp), Below.refl _ _⟩
      · rw [if_neg hp]
        refine (rline_goP lo p ts pa pc (b :: r) k w hs hs2 (by rw [h0]; exact hb) hlo hP (by omega) hl hls).mono ?_
        rintro e w' ⟨v', ts', rfl, h1, h2⟩
        exact ⟨v', ts', rfl, fun _ => h1, h2⟩
    · have hb' : blB b = false := by simpa using hb
      rw [if_neg hb] at hkc
      rw [if_neg (by omega), if_pos hkc]
      unfold beP
      by_cases hc : (decide (58 ∈ b :: r) && nameL (bef 58 (b :: r))) = true
      · rw [if_pos hc]
        have hc1 : 58 ∈ b :: r := by
          have := (Bool.and_eq_true _ _ ▸ hc).1
          exact of_decide_eq_true this
        have hc2 : nameL (bef 58 (b :: r)) = true := (Bool.and_eq_true _ _ ▸ hc).2
        cases hh : hasN p (bef 58 (b :: r)) with
        | true =>
          rw [if_pos rfl]
          refine (rline_twice lo p ts pa pc (b :: r) k w hs hs2 (by rw [h0]; exact hb') hP hl hnm hc1 hc2 hh).mono ?_
          rintro e w' ⟨rfl, h2⟩
          exact ⟨_, [], rfl, fun h => absurd h (by simp), h2⟩
        | false =>
          rw [if_neg (by decide)]
          refine (rline_new lo p ts pa pc (b :: r) k w hs hs2 (by rw [h0]; exact hb') hlo hP hl hnm hc1 hc2 hh).mono ?_
          rintro e w' ⟨v', ts', rfl, h1, h2⟩
          exact ⟨v', ts', rfl, fun _ => h1, h2⟩
      · rw [if_neg hc]
        refine (rline_bad p.length pa pc (b :: r) k w hs hs2 (by rw [h0]; exact hb') (by simpa using hc)).mono ?_
        rintro e w' ⟨rfl, rfl⟩
        exact ⟨_, [], rfl, fun h => absurd h (by simp), Below.refl _ _⟩

theorem RD.put {base : Nat} {W w2 : World} {av v2 pv : Value} {all : List (List Fd)} {vs : List Value} {p : List Fd} {ts : List Tv} (h : RD base W av all vs) (hp : RP base W pv p ts) (ho : w2.ownsRow base 39 1 v2 (all.length + 1) (vs ++ [pv])) (hg : (W.alloc (.cells #[pv] 39)).grownBy w2 av.ownBlock) : RD base w2 v2 (all ++ [p]) (vs ++ [pv]) := by
  have hk : ∀ (k : Nat) (c : Array Value) (t : TypeId), (t = 49 ∨ t = 9 ∨ t = 3) → W.heap[k]? = some (.cells c t (0, 0)) → w2.heap[k]? = W.heap[k]? := fun k c t ht hc => by
    have hlt := (Array.getElem?_eq_some_iff.1 hc).1
    rw [hg.block k (by simp; omega) (fun e => ?_), Below.heap_alloc _ _ _ hlt]
    obtain ⟨c2, hc2, _⟩ := ownsRow_blk h.row e.symm
    rw [hc] at hc2
    rcases ht with rfl | rfl | rfl <;> cases hc2
  refine ⟨by simp [h.len], by rw [List.length_append]; exact ho, fun i u q h1 h2 => ?_⟩
  rcases Nat.lt_or_ge i all.length with hi | hi
  · rw [List.getElem?_append_left (by rw [h.len]; exact hi)] at h1
    rw [List.getElem?_append_left hi] at h2
    exact (h.each i u q h1 h2).imp fun _ ht => ht.keep hk
  · have hi2 : i = all.length := by
      have := (List.getElem?_eq_some_iff.1 h2).1
      simp at this
      omega
    subst hi2
    rw [List.getElem?_append_right (by rw [h.len]; exact Nat.le_refl _), h.len] at h1
    rw [List.getElem?_append_right (Nat.le_refl _)] at h2
    simp at h1 h2
    subst h1 h2
    exact ⟨ts, hp.keep hk⟩
theorem RD.shape {base : Nat} {W : World} {v : Value} {ps : List (List Fd)} {vs : List Value} (h : RD base W v ps vs) : ∃ a c, v = .slice a ps.length c := by
  rcases h.row.2 with ⟨h1, h2⟩ | ⟨g, cap, cur, h1, _⟩
  · exact ⟨none, 0, by rw [h1, h2]⟩
  · exact ⟨_, _, h1⟩
def NmOk (p : List Fd) : Prop := ∀ f ∈ p, f.nm.length ≤ 16777216
theorem extL_nm (k : Nat) (s : Bs) (p : List Fd) (h : NmOk p) : NmOk (extL k s p) := by
  by_cases hp : 0 < p.length
  · obtain ⟨a, x, rfl, _⟩ := snoc_of p hp
    rw [extL_snoc]
    intro f hf
    rcases List.mem_append.1 hf with hf | hf
    · exact h f (List.mem_append_left _ hf)
    · rw [List.mem_singleton.1 hf]
      exact h x (by simp)
  · have : p = [] := List.length_eq_zero_iff.1 (by omega)
    subst this
    exact h
theorem take_nm (p : List Fd) (k : Nat) (s : Bs) (h : NmOk p) (hs : s.length ≤ 16777216) : NmOk (takeP p k s).2 := by
  unfold takeP
  split
  · exact h
  · split
    · unfold goP
      split
      · exact h
      · exact extL_nm k s p h
    · split
      · unfold beP
        split
        · split
          · exact h
          · intro f hf
            rcases List.mem_append.1 hf with hf | hf
            · exact h f hf
            · rw [List.mem_singleton.1 hf]
              exact Nat.le_trans (bef_le 58 s) hs
        · exact h
      · exact h
end Go.Proofs.YtocjcbdkihbbiaaDoor
