import Derived.Test.YtboajcpfoejfeaaTzO
import Derived.Deep.Onto
import Derived.ChangeAgain
namespace Go.Proofs.Ytboajcpfoejfeaa
open Go.RowKit Go.Maps

/-- A MARK OF TWO BYTES. -/
def mb1 (i : Nat) : UInt8 := UInt8.ofNat i
def mb2 (i : Nat) : UInt8 := UInt8.ofNat (i / 256)
def mk (i : Nat) : Nm := ⟨#[mb1 i, mb2 i]⟩
theorem wrap_u8 (n : Nat) : IntKind.u8.wrap (n : Int) = ((UInt8.ofNat n).toNat : Int) := by
  rw [UInt8.toNat_ofNat']
  simp [IntKind.wrap, IntKind.signed, IntKind.bits]
theorem conv_mk (X : World) (b i : Nat) (h1 : X.cell? ⟨b, 0, none⟩ = some (.int .u8 ((mb1 i).toNat : Int))) (h2 : X.cell? ⟨b, 1, none⟩ = some (.int .u8 ((mb2 i).toNat : Int))) : Sem.run Try.prog (convert 29 9 (.slice (some ⟨b, 0, none⟩) 2 2)) X = .ok (.string (mk i)) X :=
  run_convert_bytes_back (P := Try.prog) X 29 9 5 ⟨b, 0, none⟩ 2 [mb1 i, mb2 i] Try.underlying29 Try.underlying5 Try.underlying9 (fun j hj => by
    match j, hj with
    | 0, _ => exact h1
    | 1, _ => exact h2)
def more : Nm := ⟨#[77, 79, 82, 69]⟩
def rp (t : Nat) : List Nm := List.replicate t more
theorem rp_len (t : Nat) : (rp t).length = t := List.length_replicate
theorem rp_succ (t : Nat) : rp (t + 1) = rp t ++ [more] := List.replicate_succ'
/-- WHAT THE LAW HAS WRITTEN OVER: A's WINDOW LIES FROM A TO B; C: the world in which all answers lie. -/
structure Lw (A B C wr : World) (av : Value) (E : List En) (Y : Nat → List Nm) (i0 : Nat) : Prop where
  row : wr.ownsRow A.heap.size 28 1 av E.length (E.map (·.1))
  own : ∀ (j : Nat) (e : En), i0 ≤ j → E[j]? = some e → wr.ownsRow A.heap.size 9 1 e.1 e.2.length (sv (Y j))
  old : ∀ (j : Nat) (e : En), E[j]? = some e → Sl wr e.1 (Y j) ∧ (Y j).length = e.2.length
  fx : Fx (fun b => A.heap.size ≤ b ∧ b < B.heap.size) C wr
/-- WHAT STAYS AS IT IS. -/
structure Lk (A B C : World) (av : Value) (E : List En) : Prop where
  inj : Inj E
  win : ∀ e ∈ E, ∀ g, e.1.ownBlock = some g → A.heap.size ≤ g ∧ g < B.heap.size
  out : ∀ g, av.ownBlock = some g → A.heap.size ≤ g ∧ g < B.heap.size
  bc : B.heap.size ≤ C.heap.size
  ty : ∀ e ∈ E, ∀ g, e.1.ownBlock = some g → av.ownBlock ≠ some g
theorem Lw.start {A B C : World} {av : Value} {E : List En} (h : Ga A B av E) (hi : Inj E) (hb : Below B.heap.size B C) : Lk A B C av E ∧ Lw A B C C av E (fun j => match E[j]? with | some e => e.2 | none => []) 0 := by
  have h2 := h.later hb
  refine ⟨⟨hi, fun e he g q => World.ownsRow.lt (h.own e he) g q, fun g q => World.ownsRow.lt h.row g q, hb.size, fun e he g q z => ?_⟩, ⟨h2.row, fun j e _ he => ?_, fun j e he => ?_, Fx.refl _ _⟩⟩
  · obtain ⟨c1, q1⟩ := own_type (h.own e he) q
    obtain ⟨c2, q2⟩ := own_type h.row z
    rw [q1] at q2; cases q2
  · simp only [he]
    exact h2.own e (List.mem_of_getElem? he)
  · simp only [he]
    exact ⟨own_sl (h2.own e (List.mem_of_getElem? he)), trivial⟩
theorem Sl.fx {w X : World} {v : Value} {l : List Nm} (h : Sl w v l) (hs : w.heap.size ≤ X.heap.size) (hb : ∀ g, v.ownBlock = some g → X.heap[g]? = w.heap[g]?) : Sl X v l := by
  obtain ⟨a, c, e, hr⟩ := h
  refine ⟨a, c, e, fun h0 => ?_⟩
  obtain ⟨b, o, ea, hl, hc⟩ := hr h0
  exact ⟨b, o, ea, Nat.lt_of_lt_of_le hl hs, fun i s hi => (World.cell?_of_block (a := ⟨b, _, none⟩) (hb b (by rw [e, ea]; rfl))).trans (hc i s hi)⟩
/-- NEW MEMORY AND DRAWS TOUCH NOTHING. -/
theorem Lw.later {A B C wr X : World} {av : Value} {E : List En} {Y : Nat → List Nm} {i0 : Nat} (h : Lw A B C wr av E Y i0) (hb : Below wr.heap.size wr X) : Lw A B C X av E Y i0 :=
  ⟨own_low h.row hb, fun j e hj he => own_low (h.own j e hj he) hb, fun j e he => ⟨(h.old j e he).1.later hb, (h.old j e he).2⟩, h.fx.trans (Fx.of hb)⟩
def setY (Y : Nat → List Nm) (i k : Nat) (c : Nm) : Nat → List Nm := fun j => if j = i then (Y i).set k c else Y j
/-- ONE CELL WRITTEN OVER. -/
theorem Lw.write {A B C wr : World} {av : Value} {E : List En} {Y : Nat → List Nm} (L : Lk A B C av E) (h : Lw A B C wr av E Y 0) {i k : Nat} {e : En} (he : E[i]? = some e) (hk : k < e.2.length) (c : Nm) :
    ∃ g cap, e.1 = .slice (some ⟨g, 0, none⟩) e.2.length cap ∧ g < wr.heap.size ∧ (∃ z, wr.cell? ⟨g, k, none⟩ = some z) ∧ wr.frozen? ⟨g, k, none⟩ = false ∧ av.ownBlock ≠ some g ∧ Lw A B C (wr.setCell ⟨g, k, none⟩ (.string c)) av E (setY Y i k c) 0 := by
  have hr := h.own i e (Nat.zero_le _) he
  have hm := List.mem_of_getElem? he
  rcases hr.2 with ⟨_, q⟩ | ⟨g, cap, cur, e1, hg, hh, _⟩
  · omega
  · have ho : e.1.ownBlock = some g := by rw [e1]; rfl
    have hlen : (sv (Y i)).length = e.2.length := by have := hr.1; omega
    refine ⟨g, cap, e1, blk_lt hh, ?_, (cell_blk hh k).2, L.ty e hm g ho, ?_⟩
    · rw [e1] at hr
      exact ⟨_, owns_at hr k _ (List.getElem?_eq_getElem (by omega))⟩
    have own2 : ∀ (j : Nat) (x : En), E[j]? = some x → (wr.setCell ⟨g, k, none⟩ (.string c)).ownsRow A.heap.size 9 1 x.1 x.2.length (sv (setY Y i k c j)) := fun j x hx => by
      by_cases q : j = i
      · subst q
        rw [he] at hx
        cases hx
        rw [e1] at hr ⊢
        have := own_set hr k (.string c)
        unfold setY
        rw [if_pos rfl]
        unfold sv at this ⊢
        rw [List.map_set]
        exact this
      · unfold setY
        rw [if_neg q]
        exact own_same (h.own j x (Nat.zero_le _) hx) fun b e2 => set_other _ _ _ _ _ fun e3 => q (L.inj j i g x e hx he (by rw [← e3]; exact e2) ho)
    have hl2 : ∀ (j : Nat) (x : En), E[j]? = some x → (setY Y i k c j).length = x.2.length := fun j x hx => by
      have := (h.old j x hx).2
      unfold setY
      by_cases q : j = i
      · subst q; rw [if_pos rfl, List.length_set]; exact this
      · rw [if_neg q]; exact this
    refine ⟨own_same h.row fun b e2 => set_other _ _ _ _ _ fun e3 => L.ty e hm g ho (by rw [← e3]; exact e2), fun j x _ hx => own2 j x hx, fun j x hx => ⟨own_sl (by have := own2 j x hx; rw [hl2 j x hx]; exact this), hl2 j x hx⟩, ⟨h.fx.bel.setCell (p := ⟨g, k, none⟩) (Nat.zero_le _) _, fun b hb hn => (set_other _ _ _ _ _ fun e3 => hn (by rw [e3]; exact L.win e hm g ho)).trans (h.fx.blk b hb hn)⟩⟩
theorem Lw.mono {A B C wr : World} {av : Value} {E : List En} {Y : Nat → List Nm} {i j : Nat} (h : Lw A B C wr av E Y i) (hij : i ≤ j) : Lw A B C wr av E Y j := ⟨h.row, fun k e hk he => h.own k e (by omega) he, h.old, h.fx⟩
/-- THE SLICE THAT IS APPENDED TO. -/
theorem Lw.came {A B C wr : World} {av : Value} {E : List En} {Y : Nat → List Nm} {i : Nat} {e : En} (h : Lw A B C wr av E Y i) (he : E[i]? = some e) :
    ∃ a b c, e.1 = .slice a e.2.length c ∧ Came wr 1 a b 0 e.2.length c (sv (Y i)) ∧ (0 < c → e.1.ownBlock = some b) ∧ c ≤ maxLen := by
  have hr := h.own i e (Nat.le_refl _) he
  have hlen : (sv (Y i)).length = e.2.length := by have := hr.1; omega
  rcases hr.2 with ⟨h1, h2⟩ | ⟨g, cap, cur, e1, hg, hh, h1, h2, h3, h4⟩
  · refine ⟨none, 0, 0, by rw [h1, h2], ⟨by omega, fun q => by omega, fun q => by omega, by omega, fun j u hj => ?_, fun j hj => by omega⟩, fun q => by omega, Nat.zero_le _⟩
    have := (List.getElem?_eq_some_iff.1 hj).1
    omega
  · refine ⟨some ⟨g, 0, none⟩, g, cap, e1, ⟨h1, fun _ => rfl, fun _ => blk_lt hh, by omega, fun j u hj => ?_, fun j hj => ?_⟩, fun _ => by rw [e1]; rfl, h2⟩
    · rw [Nat.zero_add]
      rw [e1] at hr
      exact owns_at hr j u hj
    · rw [(cell_blk hh _).1, (cell_blk hh _).2]
      refine ⟨?_, rfl⟩
      rw [Array.getElem?_eq_getElem (by omega)]
      rfl
/-- WHEN IT IS LONGER. -/
theorem Lw.after {A B C wi wr : World} {av x : Value} {E : List En} {Y : Nat → List Nm} {i : Nat} {e : En} {a : Option Addr} {b c m : Nat} {ks : List Value} (L : Lk A B C av E) (h : Lw A B C wi av E Y i) (he : E[i]? = some e) (hv : e.1 = .slice a e.2.length c) (hc : Came wi 1 a b 0 e.2.length c (sv (Y i))) (hb2 : 0 < c → e.1.ownBlock = some b)
    (o : Onto wi 9 1 a b 0 e.2.length c (sv (Y i)) wr x m ks) (hbi : Below 0 C wr) (hsz : C.heap.size ≤ wi.heap.size) : Lw A B C wr av E Y (i + 1) := by
  have hm := List.mem_of_getElem? he
  have hblk : ∀ k, k < wi.heap.size → (0 < c → k ≠ b) → wr.heap[k]? = wi.heap[k]? := fun k hk hn => o.kept.block hk fun p ⟨j, h1, h2, e⟩ => by
    subst e
    exact fun q => hn (by omega) q.symm
  have hother : ∀ (j : Nat) (y : En), E[j]? = some y → j ≠ i → ∀ g, y.1.ownBlock = some g → wr.heap[g]? = wi.heap[g]? := fun j y hy hji g q => by
    have hg := (L.win y (List.mem_of_getElem? hy) g q).2
    have := L.bc
    exact hblk g (by omega) fun z eq => hji (L.inj j i g y e hy he q (by rw [eq]; exact hb2 z))
  refine ⟨own_same h.row fun g q => hblk g (World.ownsRow.lt h.row g q).2 fun z eq => L.ty e hm b (hb2 z) (by rw [← eq]; exact q), fun j y hj hy => own_same (h.own j y (by omega) hy) (hother j y hy (by omega)), fun j y hy => ⟨?_, (h.old j y hy).2⟩, ⟨hbi, fun k hk hn => ?_⟩⟩
  · by_cases q : j = i
    · subst q
      rw [he] at hy
      cases hy
      refine ⟨a, c, by rw [hv, (h.old j e he).2], fun h0 => ?_⟩
      rw [(h.old j e he).2] at h0
      have hc0 : 0 < c := Nat.lt_of_lt_of_le h0 hc.le
      refine ⟨b, 0, hc.addr hc0, Nat.lt_of_lt_of_le (hc.lt hc0) o.kept.size, fun t u ht => ?_⟩
      have htn : t < e.2.length := by have := (List.getElem?_eq_some_iff.1 ht).1; rw [(h.old j e he).2] at this; exact this
      rw [o.old (hc.lt hc0) fun q _ _ e => by omega]
      exact hc.olds t _ (by rw [sv_at, ht]; rfl)
    · exact (h.old j y hy).1.fx o.kept.size (hother j y hy q)
  · rw [hblk k (Nat.lt_of_lt_of_le hk hsz) fun z eq => hn (by rw [eq]; exact L.win e hm b (hb2 z))]
    exact h.fx.blk k hk hn
/-- ONE MORE BEHIND IT. -/
theorem app_both {W wi wr : World} {a : Option Addr} {b n c t : Nat} {l : List Nm} {x : Value} (hl : l.length = n) (hc : Came wi 1 a b 0 n c (sv l)) (o : Onto wi 9 1 a b 0 n c (sv l) wr x t (sv (rp t))) (ho : wr.ownsRow W.heap.size 9 1 x (n + t) (sv (l ++ rp t))) (hb : Below W.heap.size W wr) (hn : n ≤ 2513169434843) (ht : t < 100) (ty : TypeId) :
    ∃ x' w9, (Builtin.append_ #[28, 28] ty #[x, .slice (some ⟨wr.heap.size, 0, none⟩) 1 1]).run Try.prog (wr.alloc (.cells #[.string more] 9)) = .ok x' w9 ∧ Onto wi 9 1 a b 0 n c (sv l) w9 x' (t + 1) (sv (rp (t + 1))) ∧ w9.ownsRow W.heap.size 9 1 x' (n + (t + 1)) (sv (l ++ rp (t + 1))) ∧ Below W.heap.size W w9 ∧ Below 0 wr w9 := by
  obtain ⟨i0, hi0, hz0, hz1, hz2⟩ := info_parts2 infoS
  have hll : (l ++ rp t).length = n + t := by rw [List.length_append, rp_len, hl]
  obtain ⟨g, cap, w9, hr, h1, h2, hgr, _⟩ := row_app2 (w := W) (wr := wr) (l := l ++ rp t) (by rw [hll]; exact ho) hb hb.size (by omega) more ty
  obtain ⟨v', w', hr2, h3⟩ := run_append_onto (P := Try.prog) hc 28 ty i0 (.string ⟨#[]⟩) 16 Try.underlying28 hi0 hz0 hz1 hz2 rfl (by decide) (o.alloc hc (.cells #[.string more] 9)) ⟨wr.heap.size, 0, none⟩ 1 [.string more] rfl
    (fun j u hj => by rw [Addr.add_mid, Nat.zero_add, World.cell?_alloc_new]; simpa using hj) (fun u hu => by rw [List.mem_singleton] at hu; subst hu; rfl) (by unfold maxLen; omega) (by omega)
  rw [hr] at hr2
  injection hr2 with e1 e2
  subst e1 e2
  refine ⟨_, _, hr, ?_, ?_, h2, ?_⟩
  · have e : sv (rp (t + 1)) = sv (rp t) ++ [.string more] := by rw [rp_succ]; unfold sv; rw [List.map_append]; rfl
    rw [e]
    exact h3
  · rw [rp_succ, ← List.append_assoc]
    rw [hll] at h1 ⊢
    exact h1
  · exact ((Below.refl 0 wr).alloc (Nat.zero_le _) _).grown hgr (Nat.zero_le _) fun _ _ => Nat.zero_le _
end Go.Proofs.Ytboajcpfoejfeaa
