import Derived.Test.YtodlmbhlinpoeaaAuC
import Derived.Maps.OwnSet
namespace Go.Proofs.Ytodlmbhlinpoeaa
open Go.RowKit

/-- NOTHING BUT BLOCKS OF P HAS CHANGED. -/
structure Fx (P : Nat → Prop) (W W2 : World) : Prop where
  bel : Below 0 W W2
  blk : ∀ b, b < W.heap.size → ¬ P b → W2.heap[b]? = W.heap[b]?
theorem Fx.of {P : Nat → Prop} {W W2 : World} (h : Below W.heap.size W W2) : Fx P W W2 := ⟨h.mono (Nat.zero_le _), fun b hb _ => h.block b hb⟩
theorem Fx.size {P : Nat → Prop} {W W2 : World} (h : Fx P W W2) : W.heap.size ≤ W2.heap.size := h.bel.size
theorem Fx.below {P : Nat → Prop} {W W2 : World} {B : Nat} (h : Fx P W W2) (hB : B ≤ W.heap.size) (hp : ∀ b, b < B → ¬ P b) : Below B W W2 :=
  ⟨h.bel.1, h.bel.2, h.bel.3, h.bel.size, fun b hb => h.blk b (Nat.lt_of_lt_of_le hb hB) (hp b hb)⟩
theorem own_low {W W2 : World} {base e size n : Nat} {v : Value} {xs : List Value} (h : W.ownsRow base e size v n xs) (hb : Below W.heap.size W W2) : W2.ownsRow base e size v n xs := own_same h fun b e => hb.block b (World.ownsRow.lt h b e).2
theorem own_base {W : World} {b1 b2 e size n : Nat} {v : Value} {xs : List Value} (h : W.ownsRow b1 e size v n xs) (hb : b2 ≤ b1) : W.ownsRow b2 e size v n xs := by
  refine ⟨h.1, ?_⟩
  rcases h.2 with h' | ⟨g, cap, cur, rfl, h2, h3, h4⟩
  · exact .inl h'
  · exact .inr ⟨g, cap, cur, rfl, Nat.le_trans hb h2, h3, h4⟩
theorem info_parts2 {e : TypeId} {z : Value} {s b : Nat} (h : (Try.prog.info? e).map (fun i => (i.zero, i.size, i.bytes)) = some (some z, s, b)) : ∃ i, Try.prog.info? e = some i ∧ i.zero = some z ∧ i.size = s ∧ i.bytes = b := by
  obtain ⟨i, hi, e⟩ := Option.map_eq_some_iff.1 h
  injection e with e1 e2
  injection e2 with e2 e3
  exact ⟨i, hi, e1, e2, e3⟩
/-- WHAT A TYPE'S ROWS ARE MADE OF. -/
structure Ty (t e k bytes : Nat) (z : Value) : Prop where
  und : Try.prog.underlying t = some (.slice e)
  inf : (Try.prog.info? e).map (fun i => (i.zero, i.size, i.bytes)) = some (some z, k, bytes)
  zs : z.cells.size = k
  pos : 0 < k
/-- MORE BEHIND A ROW OF ONE'S OWN. -/
theorem row_app {t e k bytes : Nat} {z : Value} (T : Ty t e k bytes z) {wr : World} {lo n m : Nat} {s : Value} {xs : List Value} (h : wr.ownsRow lo e k s n xs) (hlo : lo ≤ wr.heap.size) (news : List Value) (hnl : news.length = m * k) (h1 : ∀ u ∈ news, u.oneCell' = true) (hm : 0 < m) (h63 : n + m ≤ maxLen) (hb : (n + m) * bytes ≤ 140737488355328) (ty : TypeId) :
    ∃ g cap w9, (Builtin.append_ #[t, t] ty #[s, .slice (some ⟨wr.heap.size, 0, none⟩) m m]).run Try.prog (wr.alloc (.cells news.toArray e)) = .ok (.slice (some ⟨g, 0, none⟩) (n + m) cap) w9 ∧
      w9.ownsRow lo e k (.slice (some ⟨g, 0, none⟩) (n + m) cap) (n + m) (xs ++ news) ∧ Fx (fun b => s.ownBlock = some b) wr w9 ∧ (s.ownBlock = some g ∨ wr.heap.size ≤ g) := by
  obtain ⟨i0, hi0, hz0, hz1, hz2⟩ := info_parts2 T.inf
  have hb2 : Below wr.heap.size wr (wr.alloc (.cells news.toArray e)) := (Below.refl _ wr).alloc (Nat.le_refl _) _
  obtain ⟨g, cap, w9, hr, ho, hg, hgg, _⟩ := run_append_lies (P := Try.prog) (wr.alloc (.cells news.toArray e)) t ty lo e i0 z k bytes T.und hi0 hz0 hz1 hz2 T.zs T.pos s n xs (own_low h hb2) ⟨wr.heap.size, 0, none⟩ m m news hnl
    (fun j u hj => by rw [Addr.add_mid, Nat.zero_add, World.cell?_alloc_new]; simpa using hj) h1 hm h63 hb (Nat.le_trans hlo hb2.size) _ rfl
  refine ⟨g, cap, w9, hr, ho, ⟨⟨hg.1, hg.2, hg.3, Nat.le_trans hb2.size hg.size, fun _ h => absurd h (Nat.not_lt_zero _)⟩, fun c hc hn => ?_⟩, hgg.imp id fun e => by rw [e]; exact hb2.size⟩
  rw [hg.block c (Nat.lt_of_lt_of_le hc hb2.size) (fun q => hn q.symm)]
  exact hb2.block c hc
/-- A LIST THAT IS LENT, WITH WHAT STANDS BEHIND IT. -/
def Len (t k lo : Nat) (W : World) (fl : List (List Value)) (mk : List Value) (m : Nat) (v : Value) : Prop := ∃ g cap, v = .slice (some ⟨g, 0, none⟩) fl.length cap ∧ W.ownsRow lo t k (.slice (some ⟨g, 0, none⟩) (fl.length + m) cap) (fl.length + m) (fl.flatten ++ mk)
theorem Len.same {t k lo : Nat} {W W2 : World} {fl : List (List Value)} {mk : List Value} {m : Nat} {v : Value} (h : Len t k lo W fl mk m v) (hb : ∀ b, lo ≤ b → b < W.heap.size → W2.heap[b]? = W.heap[b]?) : Len t k lo W2 fl mk m v := by
  obtain ⟨g, cap, e, ho⟩ := h
  exact ⟨g, cap, e, own_same ho fun b e => hb b (World.ownsRow.lt ho b e).1 (World.ownsRow.lt ho b e).2⟩
theorem Len.keep {t k lo : Nat} {W W2 : World} {fl : List (List Value)} {mk : List Value} {m : Nat} {v : Value} (h : Len t k lo W fl mk m v) (hb : ∀ b, v.ownBlock = some b → W2.heap[b]? = W.heap[b]?) : Len t k lo W2 fl mk m v := by
  obtain ⟨g, cap, e, ho⟩ := h
  exact ⟨g, cap, e, own_same ho fun b e2 => hb b (by rw [e]; exact e2)⟩
theorem Len.base {t k l1 l2 : Nat} {W : World} {fl : List (List Value)} {mk : List Value} {m : Nat} {v : Value} (h : Len t k l1 W fl mk m v) (hb : l2 ≤ l1) : Len t k l2 W fl mk m v := by
  obtain ⟨g, cap, e, ho⟩ := h
  exact ⟨g, cap, e, own_base ho hb⟩
theorem Len.blk {t k lo : Nat} {W : World} {fl : List (List Value)} {mk : List Value} {m : Nat} {v : Value} (h : Len t k lo W fl mk m v) : ∀ g, v.ownBlock = some g → lo ≤ g ∧ g < W.heap.size := by
  obtain ⟨g, cap, e, ho⟩ := h
  intro b hb
  rw [e] at hb
  exact World.ownsRow.lt ho b hb
theorem Len.one {t k lo : Nat} {W : World} {fl : List (List Value)} {mk : List Value} {m : Nat} {v : Value} (h : Len t k lo W fl mk m v) : v.oneCell' = true := by
  obtain ⟨g, cap, e, ho⟩ := h
  rw [e]; rfl
theorem Len.rws {t k lo : Nat} {W : World} {fl : List (List Value)} {mk : List Value} {m : Nat} {v : Value} (h : Len t k lo W fl mk m v) (ok : ∀ r ∈ fl, isT t k r) : Rws t k W v fl := by
  obtain ⟨g, cap, e, ho⟩ := h
  rw [e]
  exact own_rws ok ho _
/-- .. OPENED. -/
theorem Len.open {t k lo : Nat} {W : World} {fl : List (List Value)} {mk : List Value} {m : Nat} {v : Value} (h : Len t k lo W fl mk m v) (ok : ∀ r ∈ fl, isT t k r) : ∃ g cap, v = .slice (some ⟨g, 0, none⟩) fl.length cap ∧ fl.length + m ≤ cap ∧ lo ≤ g ∧ g < W.heap.size ∧ (∀ j, W.frozen? ⟨g, j, none⟩ = false) ∧ (∀ j u, mk[j]? = some u → W.cell? ⟨g, fl.length * k + j, none⟩ = some u) := by
  obtain ⟨g, cap, e, ho⟩ := h
  refine ⟨g, cap, e, owns_cap ho, (World.ownsRow.lt ho g rfl).1, (World.ownsRow.lt ho g rfl).2, fun j => owns_fro ho j, fun j u hj => owns_at ho _ _ ?_⟩
  have hl := flat_len ok
  rw [List.getElem?_append_right (by omega), hl, Nat.add_sub_cancel_left]
  exact hj
def mkA : List Value := [.string ⟨#[42]⟩, .int .i64 0, .string ⟨#[]⟩]
def mkS : List Value := [.string ⟨#[42]⟩, .string ⟨#[42, 42]⟩]
theorem tyA : Ty 40 55 3 40 (.agg #[.string ⟨#[]⟩, .int .i64 0, .string ⟨#[]⟩]) := ⟨Try.underlying40, by kernel_rfl, by kernel_rfl, by decide⟩
theorem tyA2 : Ty 63 55 3 40 (.agg #[.string ⟨#[]⟩, .int .i64 0, .string ⟨#[]⟩]) := ⟨Try.underlying63, by kernel_rfl, by kernel_rfl, by decide⟩
theorem tyS : Ty 41 9 1 16 (.string ⟨#[]⟩) := ⟨Try.underlying41, by kernel_rfl, by kernel_rfl, by decide⟩
theorem tyL : Ty 39 63 1 24 (.slice none 0 0) := ⟨Try.underlying39, by kernel_rfl, by kernel_rfl, by decide⟩
theorem zeroF : ∃ zc : List Value, (Try.prog.info? 49).map (fun i => (i.zero, i.size, i.bytes)) = some (some (.agg zc.toArray), 34, 56) ∧ zc.length = 34 :=
  ⟨((((Try.prog.info? 49).bind (·.zero)).map fun z => z.cells.toList).getD []), by kernel_rfl, by kernel_rfl⟩
theorem tyF : ∃ z, Ty 42 49 34 56 z := by
  obtain ⟨zc, h, hl⟩ := zeroF
  exact ⟨_, Try.underlying42, h, by show zc.toArray.size = 34; simpa using hl, by decide⟩
theorem tyW : ∃ z, Ty 23 31 4 56 z := ⟨(((Try.prog.info? 31).bind (·.zero)).getD undef), Try.underlying23, by kernel_rfl, by kernel_rfl, by decide⟩
theorem tyH : ∃ z, Ty 22 47 44 240 z := ⟨(((Try.prog.info? 47).bind (·.zero)).getD undef), Try.underlying22, by kernel_rfl, by kernel_rfl, by decide⟩
theorem tyLL : Ty 24 39 1 24 (.slice none 0 0) := ⟨Try.underlying24, by kernel_rfl, by kernel_rfl, by decide⟩
/-- A LIST LENT, WITH MARKS BEHIND IT: THE TWO APPENDS. -/
theorem lend {t e k bytes : Nat} {z : Value} (T : Ty t e k bytes z) {wr : World} {fl : List (List Value)} {xa : Option Addr} {xc : Nat} (h : Rws e k wr (.slice xa fl.length xc) fl) (mk : List Value) {m : Nat} (hm0 : 0 < m) (hmk : mk.length = m * k) (hm1 : ∀ u ∈ mk, u.oneCell' = true) (h63 : fl.length + m ≤ maxLen) (hn : (fl.length + m) * bytes ≤ 140737488355328) (ty : TypeId) :
    ∃ v1 W1 g cap W2, (Builtin.append_ #[t, t] ty #[.slice (some ⟨wr.heap.size, 0, none⟩) 0 0, .slice xa fl.length xc]).run Try.prog (wr.alloc (.cells #[] e)) = .ok v1 W1 ∧
      (Builtin.append_ #[t, t] ty #[v1, .slice (some ⟨W1.heap.size, 0, none⟩) m m]).run Try.prog (W1.alloc (.cells mk.toArray e)) = .ok (.slice (some ⟨g, 0, none⟩) (fl.length + m) cap) W2 ∧
      fl.length + m ≤ cap ∧ Len e k wr.heap.size W2 fl mk m (.slice (some ⟨g, 0, none⟩) fl.length cap) ∧ Below wr.heap.size wr W2 := by
  obtain ⟨i0, hi0, hz0, hz1, hz2⟩ := info_parts2 T.inf
  obtain ⟨v1, W1, g, cap, W2, h1, h2, h3, h4⟩ := app2 (P := Try.prog) t ty e i0 z k bytes T.und hi0 hz0 hz1 hz2 T.zs T.pos fl.length m hm0 fl.flatten mk (flat_len h.ok) (flat_one h.ok) hmk hm1 hn h63 xa xc wr h.src
  exact ⟨v1, W1, g, cap, W2, h1, h2, owns_cap h3, ⟨g, cap, rfl, h3⟩, h4⟩
/-- TEXTS IN NEW MEMORY. -/
theorem texts_run {w : World} {fl : List (List Value)} {xa : Option Addr} {xc : Nat} (h : Rws 9 1 w (.slice xa fl.length xc) fl) (hl : fl.length ≤ 8796093021952) (ty : TypeId) :
    ∃ v1 W1, (Builtin.append_ #[41, 41] ty #[.slice none 0 0, .slice xa fl.length xc]).run Try.prog w = .ok v1 W1 ∧ W1.ownsRow w.heap.size 9 1 v1 fl.length fl.flatten ∧ Below w.heap.size w W1 := by
  obtain ⟨i0, hi0, hz0, hz1, hz2⟩ := info_parts2 tyS.inf
  rcases h.src with h0 | ⟨b, o, rfl, hbl, hc⟩
  · have e : fl = [] := List.length_eq_zero_iff.1 h0
    subst e
    refine ⟨.slice none 0 0, w, ?_, World.ownsRow_nil _ _ _ _, Below.refl _ _⟩
    have hl : ∀ (x : Addr), (loadCells x 0).run Try.prog w = .ok #[] w := fun x => by simpa using run_loadCells_list (P := Try.prog) w x [] (by simp)
    cases xa <;> simp [Builtin.append_, run_underlying tyS.und, sizeOf, typeInfo, hi0, Builtin.lenOf, Builtin.firstCells, hl]
  · obtain ⟨v1, W1, hr, h2, h3, _, h5⟩ := run_append_own_at (P := Try.prog) w w.heap.size 41 ty 9 i0 (.string ⟨#[]⟩) 1 16 tyS.und hi0 hz0 hz1 hz2 rfl (by decide) (.slice none 0 0) 0 [] (World.ownsRow_nil _ _ _ _) ⟨b, o, none⟩ fl.length xc fl.flatten (flat_len h.ok)
      (fun j u hj => by rw [Addr.add_mid]; exact hc j u hj) (flat_one h.ok) (by unfold maxLen; omega) (by omega) (Nat.le_refl _)
    rw [Nat.zero_add, List.nil_append] at h2
    exact ⟨v1, W1, hr, h2, (Below.refl _ w).grown h3 (Nat.le_refl _) (fun k hk => by cases hk)⟩
theorem texts_any {w : World} {v : Value} {fl : List (List Value)} (h : Rws 9 1 w v fl) (hl : fl.length ≤ 8796093021952) :
    Calls Try.prog 22 #[v] w fun e w' => ∃ r, e = .returned r ∧ w'.ownsRow w.heap.size 9 1 r fl.length fl.flatten ∧ Below w.heap.size w w' := by
  obtain ⟨a, c, rfl⟩ := h.form
  obtain ⟨v1, W1, hr, ho, hb⟩ := texts_run h hl 41
  have HO := hide (And.intro ho hb)
  clear h ho hb
  go_enter Try.func22, Try.ntmps22
  go_wp2_with (at_builtin; refine wpList_append_run rfl _ _ 41 rfl _ _ rfl rfl hr ?_)
  go_ret
  exact ⟨_, rfl, unhide HO⟩
theorem lentTexts_any {w : World} {v : Value} {fl : List (List Value)} (h : Rws 9 1 w v fl) (hl : fl.length ≤ 8796093021952) :
    Calls Try.prog 14 #[v] w fun e w' => ∃ r, e = .returned r ∧ Len 9 1 w.heap.size w' fl mkS 2 r ∧ Below w.heap.size w w' := by
  obtain ⟨a, c, rfl⟩ := h.form
  have HC := hide (texts_any h hl)
  have HA := hide (show ∀ v1 W1, W1.ownsRow w.heap.size 9 1 v1 fl.length fl.flatten → Below w.heap.size w W1 → ∃ g cap w9, (Builtin.append_ #[41, 41] 41 #[v1, .slice (some ⟨W1.heap.size, 0, none⟩) 2 2]).run Try.prog (W1.alloc (.cells mkS.toArray 9)) = .ok (.slice (some ⟨g, 0, none⟩) (fl.length + 2) cap) w9 ∧ fl.length ≤ cap ∧ Len 9 1 w.heap.size w9 fl mkS 2 (.slice (some ⟨g, 0, none⟩) fl.length cap) ∧ Below w.heap.size w w9 from fun v1 W1 ho hb => by
    obtain ⟨g, cap, w9, h1, h2, h3, h4⟩ := row_app tyS ho hb.size mkS rfl (by simp [mkS, Value.oneCell']) (m := 2) (by decide) (by unfold maxLen; omega) (by omega) 41
    exact ⟨g, cap, w9, h1, by have := owns_cap h2; omega, ⟨g, cap, rfl, h2⟩, hb.trans (h3.below hb.size fun b hb2 e => by have := (World.ownsRow.lt ho b e).1; omega)⟩)
  obtain ⟨N, hN⟩ : ∃ N, fl.length = N := ⟨_, rfl⟩
  have HN := hide hN
  rw [hN] at HA HC hl ⊢
  clear h hN
  go_enter Try.func14, Try.ntmps14
  go_wp2_with (first
    | (go_at_call 22; refine (unhide HC).mono ?_; rintro e w1 ⟨v1, rfl, ho, hb⟩; obtain ⟨g, cap, w9, hr, hcap, hln, hb9⟩ := unhide HA v1 w1 ho hb; have HR := hide (And.intro hln hb9); clear ho hb hln hb9)
    | (at_builtin; refine wpList_append_run rfl _ _ 41 rfl _ _ rfl rfl hr ?_))
  go_ret
  exact ⟨_, rfl, unhide HR⟩
end Go.Proofs.Ytodlmbhlinpoeaa
