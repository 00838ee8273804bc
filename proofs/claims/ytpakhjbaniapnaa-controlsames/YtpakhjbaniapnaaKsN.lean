import Derived.Test.YtpakhjbaniapnaaKsM
namespace Go.Proofs.Ytpakhjbaniapnaa
open Go.RowKit

theorem Cls.at {w : World} {va : Option Addr} {n vc : Nat} {al : List (List Am)} (h : Cls w (.slice va n vc) al) (k : Nat) (hk : k < al.length) : ∃ b o xa xc, va = some ⟨b, o, none⟩ ∧ b < w.heap.size ∧ w.cell? ⟨b, o + k, none⟩ = some (.slice xa al[k].length xc) ∧ Ams w (.slice xa al[k].length xc) al[k] := by
  obtain ⟨b, o, x, h1, h2, h3, h4⟩ := h.elem k hk
  obtain ⟨xa, xc, rfl⟩ := h4.shape
  exact ⟨b, o, xa, xc, h1, h2, h3, h4⟩
/-- ONE CLAUSE COPIED, AND ITS PLACE IN THE ROW. -/
theorem one_more {lo : Nat} {wr : World} {ov : Value} {cl : List (List Am)} {k : Nat} {xs : List Value} (h : Out lo wr ov cl k xs) (hlo : lo ≤ wr.heap.size) (hk : k < cl.length) (hN : cl.length ≤ 5864062014634) (hL : cl[k].length ≤ 3518437208780) (xa : Option Addr) (xc : Nat) (hx : Ams wr (.slice xa cl[k].length xc) cl[k]) :
    ∃ v1 W1 g cap W2 v3 W3, (Builtin.append_ #[42, 42] 42 #[.slice (some ⟨wr.heap.size, 0, none⟩) 0 0, .slice xa cl[k].length xc]).run Try.prog (wr.alloc (.cells #[] 33)) = .ok v1 W1 ∧
      (Builtin.append_ #[42, 42] 42 #[v1, .slice (some ⟨W1.heap.size, 0, none⟩) 1 1]).run Try.prog (W1.alloc (.cells #[.string ⟨#[98, 101, 104, 105, 110, 100]⟩, .int .i64 0, .string ⟨#[]⟩] 33)) = .ok (.slice (some ⟨g, 0, none⟩) (cl[k].length + 1) cap) W2 ∧
      (Builtin.append_ #[22, 22] 22 #[ov, .slice (some ⟨W2.heap.size, 0, none⟩) 1 1]).run Try.prog (W2.alloc (.cells #[.slice (some ⟨g, 0, none⟩) cl[k].length cap] 42)) = .ok v3 W3 ∧
      cl[k].length + 1 ≤ cap ∧ Below wr.heap.size wr W1 ∧ Below wr.heap.size wr W2 ∧ Below lo wr W3 ∧ ∃ xs', Out lo W3 v3 cl (k + 1) xs' := by
  obtain ⟨i0, hi, hz0, hz1, hz2⟩ := info_parts infoA
  obtain ⟨v1, W1, g, cap, W2, hr1, hr2, ho, hb2, hb1⟩ := app2 (P := Try.prog) 42 42 33 i0 _ 3 40 Try.underlying42 hi hz0 hz1 hz2 rfl (by omega) cl[k].length (cl[k].flatMap amCells) [.string bhd, .int .i64 0, .string ⟨#[]⟩] (flat_len 3 amCells (fun _ => rfl) _) (amCells_one _) rfl (by simp [Value.oneCell']) (by omega) (by unfold maxLen; omega) xa xc wr hx.src
  have hK := Kp.of_row ho (Nat.le_trans hL (by decide)) (flat_len 3 amCells (fun _ => rfl) _) (by omega) rfl
  have hb3 : Below W2.heap.size W2 (W2.alloc (.cells #[.slice (some ⟨g, 0, none⟩) cl[k].length cap] 42)) := (Below.refl _ W2).alloc (Nat.le_refl _) _
  have hg0 : wr.heap.size ≤ g := (ho.lt g rfl).1
  have h2 := (h.later hb2).later hb3
  have hK2 := hK.later hb3
  obtain ⟨i1, hj, hy0, hy1, hy2⟩ := info_parts infoC
  obtain ⟨v3, W3, hr3, ho3, hg3, -, hv3⟩ := run_append_own_at (P := Try.prog) (W2.alloc (.cells #[.slice (some ⟨g, 0, none⟩) cl[k].length cap] 42)) lo 22 22 42 i1 _ 1 24 Try.underlying22 hj hy0 hy1 hy2 rfl (by omega) ov k xs h2.row ⟨W2.heap.size, 0, none⟩ 1 1 [.slice (some ⟨g, 0, none⟩) cl[k].length cap] rfl
    (fun j u hj => by rw [Addr.add_mid, Nat.zero_add, World.cell?_alloc_new]; simpa using hj) (by simp [Value.oneCell']) (by unfold maxLen; omega) (by omega) (Nat.le_trans hlo (Nat.le_trans hb2.size hb3.size))
  have hne : ov.ownBlock ≠ some g := fun e => by
    have := (h.row.lt g e).2
    omega
  have hbl : Below lo wr (W2.alloc (.cells #[.slice (some ⟨g, 0, none⟩) cl[k].length cap] 42)) := (hb2.trans (hb3.mono hb2.size)).mono hlo
  exact ⟨v1, W1, g, cap, W2, v3, W3, hr1, hr2, hr3, hK.cp, hb1, hb2, hbl.grown hg3 (Nat.le_trans hlo (Nat.le_trans hb2.size hb3.size)) (fun b e => (h.row.lt b e).1), _, h2.put hk hK2 hne (Nat.le_trans hlo hg0) ho3 hg3 (hv3.imp Eq.symm id)⟩

end Go.Proofs.Ytpakhjbaniapnaa
