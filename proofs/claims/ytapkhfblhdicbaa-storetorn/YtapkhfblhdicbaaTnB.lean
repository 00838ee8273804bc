import Derived.Test.YtapkhfblhdicbaaTnA
namespace Go.Proofs.Ytapkhfblhdicbaa
open Go.RowKit Go.Maps

theorem Rb.rx {W W2 : World} {pa : Option Addr} {bs : List Int} (h : Rb W pa bs) (b : Below W.heap.size W W2) {B n : Nat} (hB : W.heap.size ≤ B) (hn : W.heap.size ≤ n) : Rx B n W2 pa bs := by
  rcases h with h | ⟨c, o, h1, h2, h3⟩
  · exact .inl h
  · exact .inr ⟨c, o, h1, Nat.lt_of_lt_of_le h2 b.size, by omega, by omega, fun j u hj => (b.cell (p := ⟨c, o + j, none⟩) h2).trans (h3 j u hj)⟩
theorem torn_all {W W1 W2 : World} (e1 : W1 = W.alloc (.cells (st0 1073741824) 75)) (e2 : W2 = W1.alloc (.cells (st0 1073741824) 75)) {oa da : Option Addr} {os ds : List Int} (oc dc : Nat) (ho : Rb W oa os) (hd : Rb W da ds) (ho0 : oa = none → os = []) (hd0 : da = none → ds = []) (hz : os.length + ds.length ≤ 1073741824) (k : Int) (hk : k ≤ 9223372036854775807) :
    Calls Try.prog 12 #[.pointer (some ⟨W.heap.size, 0, none⟩), .string ⟨#[102, 102]⟩, .slice oa os.length oc] W2 fun v W3 => v = .returned (.int .i64 0) ∧
      Calls Try.prog 13 #[.pointer (some ⟨W.heap.size, 0, none⟩)] W3 fun v W4 => v = .returned (.int .i64 0) ∧
        Calls Try.prog 12 #[.pointer (some ⟨W.heap.size, 0, none⟩), .string ⟨#[102, 102]⟩, .slice da ds.length dc] W4 fun v W5 => v = .returned (.int .i64 0) ∧
          Calls Try.prog 14 #[.pointer (some ⟨W.heap.size, 0, none⟩), .agg #[.slice (some ⟨W5.heap.size, 0, none⟩) 1 1]] (W5.alloc (.cells #[.int .i64 k] 3)) fun v W6 => v = .returned (.int .i64 0) ∧
            Calls Try.prog 12 #[.pointer (some ⟨W1.heap.size, 0, none⟩), .string ⟨#[102, 102]⟩, .slice oa os.length oc] W6 fun v W7 => v = .returned (.int .i64 0) ∧
      Calls Try.prog 13 #[.pointer (some ⟨W1.heap.size, 0, none⟩)] W7 fun v W8 => v = .returned (.int .i64 0) ∧
        Calls Try.prog 15 #[.pointer (some ⟨W1.heap.size, 0, none⟩), .string ⟨#[102, 102]⟩, .slice da ds.length dc] W8 fun v W9 => v = .returned (.int .i64 0) ∧
          Calls Try.prog 14 #[.pointer (some ⟨W1.heap.size, 0, none⟩), .agg #[.slice (some ⟨W9.heap.size, 0, none⟩) 1 1]] (W9.alloc (.cells #[.int .i64 k] 3)) fun v W10 => v = .returned (.int .i64 0) ∧
            Calls Try.prog 16 #[.pointer (some ⟨W.heap.size, 0, none⟩), .string ⟨#[102, 102]⟩] W10 fun v W11 => ∃ f : Hd, v = .returned (.tuple #[.slice f.a f.n f.c, .int .i64 0]) ∧
              Calls Try.prog 16 #[.pointer (some ⟨W1.heap.size, 0, none⟩), .string ⟨#[102, 102]⟩] W11 fun v W12 => ∃ g : Hd, v = .returned (.tuple #[.slice g.a g.n g.c, .int .i64 0]) ∧ Bt W12 f (res os ds k) ∧ Bt W12 g (resA os ds k) ∧ Below W.heap.size W W12 := by
  have z1 : W1.heap.size = W.heap.size + 1 := by rw [e1, World.size_alloc]
  have z2 : W2.heap.size = W.heap.size + 2 := by rw [e2, World.size_alloc, z1]
  have b1 : Below W.heap.size W W1 := by rw [e1]; exact (Below.refl _ W).alloc (Nat.le_refl _) _
  have b12 : Below W1.heap.size W1 W2 := by rw [e2]; exact (Below.refl _ W1).alloc (Nat.le_refl _) _
  have b2 := bl_t b1 b12
  obtain ⟨Ms, ss, ps, cs, us⟩ := Sto_new W 1073741824
  rw [← e1] at ss
  obtain ⟨Mt, st, pt, ct, ut⟩ := Sto_new W1 1073741824
  rw [← e2] at st
  have ss2 : Sto (Ob W.heap.size W2.heap.size) W.heap.size Ms (fun _ => none) (fun _ => none) 0 W2 := (ss.later b12).mono (fun b _ q => .inl q) (Nat.le_refl _) (by decide)
  refine (chain_w ss2 cs us (Nat.le_refl _) oc dc (ho.rx b2 (Nat.le_refl _) (by omega)) (hd.rx b2 (Nat.le_refl _) (by omega)) ho0 hd0 hz k hk).mono fun v W3 ⟨q0, C⟩ => ⟨q0, ?_⟩
  refine C.mono fun v W4 ⟨q0, C⟩ => ⟨q0, ?_⟩
  refine C.mono fun v W5 ⟨q0, C⟩ => ⟨q0, ?_⟩
  refine C.mono fun v W6 ⟨q0, M6, m6, K6, s6, r6, f6⟩ => ⟨q0, ?_⟩
  have nb : ∀ b, b < W.heap.size → ¬ Ob W.heap.size W2.heap.size b := fun b h1 q => by rcases q with q | q <;> omega
  have bw6 : Below W.heap.size W W6 := b2.trans (f6.below (s := W.heap.size) (by omega) nb)
  have hs6 := f6.size
  have st6 : Sto (Ob W1.heap.size W6.heap.size) W1.heap.size Mt (fun _ => none) (fun _ => none) 0 W6 := (st.fx f6 fun b _ q z => by
    have q2 : b = W1.heap.size := q
    rcases z with z | z <;> omega).mono (fun b _ q => .inl q) (Nat.le_refl _) (by decide)
  refine (chain_a st6 ct ut (Nat.le_refl _) oc dc (ho.rx bw6 (by omega) (by omega)) (hd.rx bw6 (by omega) (by omega)) ho0 hd0 hz k hk).mono fun v W7 ⟨q0, C⟩ => ⟨q0, ?_⟩
  refine C.mono fun v W8 ⟨q0, C⟩ => ⟨q0, ?_⟩
  refine C.mono fun v W9 ⟨q0, C⟩ => ⟨q0, ?_⟩
  refine C.mono fun v W10 ⟨q0, M10, m10, K10, s10, r10, f10⟩ => ⟨q0, ?_⟩
  have bw10 : Below W.heap.size W W10 := bw6.trans (f10.below (s := W.heap.size) (by omega) fun b h1 q => by rcases q with q | q <;> omega)
  have ss10 : Sto (Ob W.heap.size W2.heap.size) W.heap.size M6 m6 m6 K6 W10 := s6.fx f10 fun b hb q z => by
    rcases q with q | q <;> rcases z with z | z <;> omega
  refine (Read_some ss10 isNm_ff r6).mono fun v W11 ⟨f, q0, bt, b11⟩ => ⟨f, q0, ?_⟩
  exact (Read_some (s10.later b11) isNm_ff r10).mono fun v W12 ⟨g, q0, bg, b12⟩ => ⟨g, q0, bt.later b12, bg, bl_t (bl_t bw10 b11) b12⟩
end Go.Proofs.Ytapkhfblhdicbaa
