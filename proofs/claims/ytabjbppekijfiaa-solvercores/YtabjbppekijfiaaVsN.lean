import Derived.Test.YtabjbppekijfiaaVsA
namespace Go.Proofs.Ytabjbppekijfiaa
open Go.RowKit

theorem Sm.setL {P : Pb} {w0 : World} {bb kb sb vb lo B c : Nat} {ca qa : Option Addr} {cc qc : Nat} {vr : List Int} {s : Sx} {tv uv : Value} {W : World} (h : Sm P w0 bb kb sb vb lo B c ca qa cc qc vr s tv uv W) (k : Nat) :
    Sm P w0 bb kb sb vb lo B c ca qa cc qc vr ⟨s.tr, s.tu, k⟩ tv uv (W.setCell ⟨sb, 2, none⟩ (.int .i64 k)) :=
  h.sets (s2 := ⟨s.tr, s.tu, k⟩) (by simp) h.trl h.trn
theorem len_snoc {P : Pb} {s : Sx} (hI : Iv P s) {l : Int} (hl : okL P.n l = true) (ho : stn s.tr l = 0) : s.tr.length < P.n := by
  have := trail_le (nd_snoc hI.nd (okL_ne hl) ho) (ok_snoc hI.ok hl)
  simp at this
  omega
theorem drewN_two (w : World) (a b : Nat) : (w.drewN a).drewN b = w.drewN (a + b) := by
  unfold World.drewN
  simp [Nat.add_assoc]
theorem up_le : ∀ (n : Nat) (tu : List (Nat × Nat)), (∀ t ∈ tu, t.1 < n) → tu.Pairwise (fun a b => a.1 < b.1) → tu.length ≤ n
  | n, tu, h, hp => by
    have := nodup_le n (tu.map fun t => t.1 + 1) (by
      unfold List.Nodup
      rw [List.pairwise_map]
      exact hp.imp fun {a b} q => by omega) (fun x hx => by
      obtain ⟨t, ht, rfl⟩ := List.mem_map.1 hx
      have := h t ht
      omega)
    simpa using this
theorem turns_le {P : Pb} {s : Sx} (hI : Iv P s) : s.tu.length ≤ s.tr.length := up_le _ _ (fun t ht => (hI.pl t ht).1) hI.up
end Go.Proofs.Ytabjbppekijfiaa
