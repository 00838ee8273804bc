import Derived.Test.YtmjdpddpphfpiaaOrM
import Derived.Test.YtmjdpddpphfpiaaOrR
import Derived.Test.YtmjdpddpphfpiaaOrT
namespace Go.Proofs.Ytmjdpddpphfpiaa
open Go.RowKit Go.Maps Go.Sort Go.Shelf

theorem lay_h {w : World} {a : Option Addr} {c : Nat} {hs : List Hx} (hh : hs.length ≤ 586406201463) (h : Hls w (.slice a hs.length c) hs) :
    ∃ v1 W1 g cap W2, (Builtin.append_ #[22, 22] 22 #[.slice (some ⟨w.heap.size, 0, none⟩) 0 0, .slice a hs.length c]).run Try.prog (w.alloc (.cells #[] 31)) = .ok v1 W1 ∧
      (Builtin.append_ #[22, 22] 22 #[v1, .slice (some ⟨W1.heap.size, 0, none⟩) 1 1]).run Try.prog (W1.alloc (.cells #[.string ⟨#[]⟩, .string ⟨#[]⟩, .bool false, .slice none 0 0, .slice none 0 0, .slice none 0 0, .slice none 0 0, .slice none 0 0, .string ⟨#[]⟩, .int .i64 0, .int .u8 0, .int .u8 0, .int .u8 0, .int .u8 0, .int .u8 0, .int .u8 0, .int .u8 0, .int .u8 0, .int .u8 0, .int .u8 0, .int .u8 0, .int .u8 0, .int .u8 0, .int .u8 0, .int .u8 0, .int .u8 0, .int .u8 0, .int .u8 0, .int .u8 0, .int .u8 0, .int .u8 0, .int .u8 0, .int .u8 0, .int .u8 0, .int .u8 0, .int .u8 0, .int .u8 0, .int .u8 0, .int .u8 0, .int .u8 0, .int .u8 0, .int .u8 0, .string ⟨#[]⟩, .int .i64 (-7)] 31)) = .ok (.slice (some ⟨g, 0, none⟩) (hs.length + 1) cap) W2 ∧
      W2.ownsRow w.heap.size 31 44 (.slice (some ⟨g, 0, none⟩) (hs.length + 1) cap) (hs.length + 1) (hC hs ++ mkL) ∧ Below w.heap.size w W2 := by
  obtain ⟨zc, hzc, hzl⟩ := infoH
  obtain ⟨ih, hih, hh0, hh1, hh2⟩ := info_parts2 hzc
  exact app2 (P := Try.prog) 22 22 31 ih _ 44 240 Try.underlying22 hih hh0 hh1 hh2 (by show zc.toArray.size = 44; simpa using hzl) (by decide) hs.length 1 (by decide) (hC hs) mkL (hC_len h.ok2) (hC_one h.ok2) rfl (fun u hu => List.all_eq_true.1 (show mkL.all (·.oneCell') = true by decide) u hu) (by omega) (by unfold maxLen; omega) a c w h.src
theorem lay_s {w : World} {a : Option Addr} {c : Nat} {l : List Nm} (hh : l.length ≤ 8796093021952) (h : Sl w (.slice a l.length c) l) (s : Nm) :
    ∃ v1 W1 g cap W2, (Builtin.append_ #[23, 23] 23 #[.slice (some ⟨w.heap.size, 0, none⟩) 0 0, .slice a l.length c]).run Try.prog (w.alloc (.cells #[] 9)) = .ok v1 W1 ∧
      (Builtin.append_ #[23, 23] 23 #[v1, .slice (some ⟨W1.heap.size, 0, none⟩) 1 1]).run Try.prog (W1.alloc (.cells #[.string s] 9)) = .ok (.slice (some ⟨g, 0, none⟩) (l.length + 1) cap) W2 ∧
      W2.ownsRow w.heap.size 9 1 (.slice (some ⟨g, 0, none⟩) (l.length + 1) cap) (l.length + 1) (sv l ++ [.string s]) ∧ Below w.heap.size w W2 := by
  obtain ⟨i0, hi0, hz0, hz1, hz2⟩ := info_parts2 infoS
  exact app2 (P := Try.prog) 23 23 9 i0 _ 1 16 Try.underlying23 hi0 hz0 hz1 hz2 rfl (by decide) l.length 1 (by decide) (sv l) [.string s] (by rw [sv_len]; omega) (sv_one l) rfl (fun u hu => by rw [List.mem_singleton] at hu; subst hu; rfl) (by omega) (by unfold maxLen; omega) a c w h.src
/-- A NAME AMONG OTHERS THAT RISE. -/
def insN (x : Nm) : List Nm → List Nm
  | [] => [x]
  | y :: t => if x.data.toList < y.data.toList then x :: y :: t else if x = y then y :: t else y :: insN x t
theorem insN_mem (x z : Nm) : ∀ l, z ∈ insN x l ↔ z = x ∨ z ∈ l
  | [] => by simp [insN]
  | y :: t => by
    unfold insN
    by_cases h1 : x.data.toList < y.data.toList
    · rw [if_pos h1, List.mem_cons]
    · rw [if_neg h1]
      by_cases h2 : x = y
      · rw [if_pos h2]
        subst h2
        simp
      · rw [if_neg h2, List.mem_cons, insN_mem x z t, List.mem_cons]
        constructor
        · rintro (q | q | q)
          · exact .inr (.inl q)
          · exact .inl q
          · exact .inr (.inr q)
        · rintro (q | q | q)
          · exact .inr (.inl q)
          · exact .inl q
          · exact .inr (.inr q)
theorem insN_up (x : Nm) : ∀ l : List Nm, (l.Pairwise fun x y => x.data.toList < y.data.toList) → (insN x l).Pairwise fun x y => x.data.toList < y.data.toList
  | [], _ => by simp [insN]
  | y :: t, h => by
    rw [List.pairwise_cons] at h
    unfold insN
    by_cases h1 : x.data.toList < y.data.toList
    · rw [if_pos h1, List.pairwise_cons]
      refine ⟨fun z hz => ?_, List.pairwise_cons.2 h⟩
      rcases List.mem_cons.1 hz with rfl | q
      · exact h1
      · exact List.lt_trans h1 (h.1 z q)
    · rw [if_neg h1]
      by_cases h2 : x = y
      · rw [if_pos h2]; exact List.pairwise_cons.2 h
      · rw [if_neg h2, List.pairwise_cons]
        refine ⟨fun z hz => ?_, insN_up x t h.2⟩
        rcases (insN_mem x z t).1 hz with rfl | q
        · exact lt_tri h1 h2
        · exact h.1 z q
theorem ris_ex : ∀ L : List Nm, ∃ l, Ris l L
  | [] => ⟨[], List.Pairwise.nil, fun _ => Iff.rfl⟩
  | x :: r => by
    obtain ⟨l, h⟩ := ris_ex r
    exact ⟨insN x l, insN_up x l h.up, fun z => by rw [insN_mem, List.mem_cons, h.mem]⟩
/-- THE CALLS WITH THEIR ANSWER NAMED. -/
theorem rootsP {X : World} {v u : Value} {hs : List Hx} {L P : List Nm} (hP : Ris P (pick hs L)) (hh : hs.length ≤ 586406201463) (hL : L.length ≤ 8796093022208) (hz : ∀ x ∈ L, x.size ≤ 140737488351233) (h : Hls X v hs) (k : Sl X u L) :
    Calls Try.prog 4 #[v, u] X fun e w' => ∃ r, e = .returned r ∧ w'.ownsRow X.heap.size 9 1 r P.length (sv P) ∧ Below X.heap.size X w' := by
  refine (Roots_any hh hL hz h k).mono ?_
  rintro e w' ⟨r, l, rfl, h1, h2, h3⟩
  rw [h1.uniq hP] at h2
  exact ⟨r, rfl, h2, h3⟩
theorem rrootsP {X : World} {v u : Value} {hs : List Hx} {L P : List Nm} (hP : Ris P (pick hs L)) (hh : hs.length ≤ 586406201463) (hL : L.length ≤ 8796093022208) (h : Hls X v hs) (k : Sl X u L) :
    Calls Try.prog 5 #[v, u] X fun e w' => ∃ r, e = .returned r ∧ w'.ownsRow X.heap.size 9 1 r P.length (sv P) ∧ Below X.heap.size X w' := by
  refine (rRoots_any hh hL h k).mono ?_
  rintro e w' ⟨r, l, rfl, h1, h2, h3⟩
  rw [h1.uniq hP] at h2
  exact ⟨r, rfl, h2, h3⟩
theorem namesP {X : World} {u v : Value} {l : List Nm} (hl : l.length ≤ 8796093022208) (h : Sl X u l) (k : Sl X v l) :
    Calls Try.prog 6 #[u, v] X fun e w' => e = .returned (.bool true) ∧ Below X.heap.size X w' := by
  refine (names_any hl hl h k).mono ?_
  rintro e w' ⟨rfl, n, rfl⟩
  exact ⟨by simp, bl_drewN _ _⟩
/-- THE TWO THAT THE LAW MAKES ITSELF. -/
def zzH : Hx := ⟨[.string ⟨#[122, 122]⟩, .string ⟨#[]⟩, .bool false, .slice none 0 0, .slice none 0 0, .slice none 0 0, .slice none 0 0, .slice none 0 0, .string ⟨#[]⟩, .int .i64 0, .int .u8 0, .int .u8 0, .int .u8 0, .int .u8 0, .int .u8 0, .int .u8 0, .int .u8 0, .int .u8 0, .int .u8 0, .int .u8 0, .int .u8 0, .int .u8 0, .int .u8 0, .int .u8 0, .int .u8 0, .int .u8 0, .int .u8 0, .int .u8 0, .int .u8 0, .int .u8 0, .int .u8 0, .int .u8 0, .int .u8 0, .int .u8 0, .int .u8 0, .int .u8 0, .int .u8 0, .int .u8 0, .int .u8 0, .int .u8 0, .int .u8 0, .int .u8 0, .string ⟨#[]⟩, .int .i64 0], ⟨#[122, 122]⟩, false, 0⟩
def yyH : Hx := ⟨[.string ⟨#[121, 121]⟩, .string ⟨#[]⟩, .bool false, .slice none 0 0, .slice none 0 0, .slice none 0 0, .slice none 0 0, .slice none 0 0, .string ⟨#[]⟩, .int .i64 0, .int .u8 0, .int .u8 0, .int .u8 0, .int .u8 0, .int .u8 0, .int .u8 0, .int .u8 0, .int .u8 0, .int .u8 0, .int .u8 0, .int .u8 0, .int .u8 0, .int .u8 0, .int .u8 0, .int .u8 0, .int .u8 0, .int .u8 0, .int .u8 0, .int .u8 0, .int .u8 0, .int .u8 0, .int .u8 0, .int .u8 0, .int .u8 0, .int .u8 0, .int .u8 0, .int .u8 0, .int .u8 0, .int .u8 0, .int .u8 0, .int .u8 0, .int .u8 0, .string ⟨#[]⟩, .int .i64 0], ⟨#[121, 121]⟩, false, 0⟩
theorem zz_ok : zzH.ok := ⟨rfl, fun u hu => List.all_eq_true.1 (show zzH.cs.all (·.oneCell') = true by decide) u hu, rfl, rfl, rfl, by decide⟩
theorem yy_ok : yyH.ok := ⟨rfl, fun u hu => List.all_eq_true.1 (show yyH.cs.all (·.oneCell') = true by decide) u hu, rfl, rfl, rfl, by decide⟩
def yz : List Nm := [⟨#[121, 121]⟩, ⟨#[122, 122]⟩]
theorem yz_ris : Ris yz (pick [zzH, yyH] []) := by
  refine ⟨?_, fun x => ?_⟩
  · unfold yz
    rw [List.pairwise_cons]
    exact ⟨fun z hz => by rw [List.mem_singleton] at hz; subst hz; decide, List.pairwise_singleton _ _⟩
  · show x ∈ ([⟨#[121, 121]⟩, ⟨#[122, 122]⟩] : List Nm) ↔ x ∈ ([⟨#[122, 122]⟩, ⟨#[121, 121]⟩] : List Nm)
    simp only [List.mem_cons, List.not_mem_nil, or_false]
    exact Or.comm
theorem o_call (X : World) : Calls Try.prog 4 #[.slice (some ⟨X.heap.size, 0, none⟩) 2 2, .slice none 0 0] (X.alloc (.cells #[.string ⟨#[122, 122]⟩, .string ⟨#[]⟩, .bool false, .slice none 0 0, .slice none 0 0, .slice none 0 0, .slice none 0 0, .slice none 0 0, .string ⟨#[]⟩, .int .i64 0, .int .u8 0, .int .u8 0, .int .u8 0, .int .u8 0, .int .u8 0, .int .u8 0, .int .u8 0, .int .u8 0, .int .u8 0, .int .u8 0, .int .u8 0, .int .u8 0, .int .u8 0, .int .u8 0, .int .u8 0, .int .u8 0, .int .u8 0, .int .u8 0, .int .u8 0, .int .u8 0, .int .u8 0, .int .u8 0, .int .u8 0, .int .u8 0, .int .u8 0, .int .u8 0, .int .u8 0, .int .u8 0, .int .u8 0, .int .u8 0, .int .u8 0, .int .u8 0, .string ⟨#[]⟩, .int .i64 0, .string ⟨#[121, 121]⟩, .string ⟨#[]⟩, .bool false, .slice none 0 0, .slice none 0 0, .slice none 0 0, .slice none 0 0, .slice none 0 0, .string ⟨#[]⟩, .int .i64 0, .int .u8 0, .int .u8 0, .int .u8 0, .int .u8 0, .int .u8 0, .int .u8 0, .int .u8 0, .int .u8 0, .int .u8 0, .int .u8 0, .int .u8 0, .int .u8 0, .int .u8 0, .int .u8 0, .int .u8 0, .int .u8 0, .int .u8 0, .int .u8 0, .int .u8 0, .int .u8 0, .int .u8 0, .int .u8 0, .int .u8 0, .int .u8 0, .int .u8 0, .int .u8 0, .int .u8 0, .int .u8 0, .int .u8 0, .int .u8 0, .int .u8 0, .int .u8 0, .string ⟨#[]⟩, .int .i64 0] 31)) fun e w' => ∃ r, e = .returned r ∧ w'.ownsRow X.heap.size 9 1 r 2 (sv yz) ∧ Below X.heap.size X w' := by
  have hb : Below X.heap.size X (X.alloc (.cells #[.string ⟨#[122, 122]⟩, .string ⟨#[]⟩, .bool false, .slice none 0 0, .slice none 0 0, .slice none 0 0, .slice none 0 0, .slice none 0 0, .string ⟨#[]⟩, .int .i64 0, .int .u8 0, .int .u8 0, .int .u8 0, .int .u8 0, .int .u8 0, .int .u8 0, .int .u8 0, .int .u8 0, .int .u8 0, .int .u8 0, .int .u8 0, .int .u8 0, .int .u8 0, .int .u8 0, .int .u8 0, .int .u8 0, .int .u8 0, .int .u8 0, .int .u8 0, .int .u8 0, .int .u8 0, .int .u8 0, .int .u8 0, .int .u8 0, .int .u8 0, .int .u8 0, .int .u8 0, .int .u8 0, .int .u8 0, .int .u8 0, .int .u8 0, .int .u8 0, .string ⟨#[]⟩, .int .i64 0, .string ⟨#[121, 121]⟩, .string ⟨#[]⟩, .bool false, .slice none 0 0, .slice none 0 0, .slice none 0 0, .slice none 0 0, .slice none 0 0, .string ⟨#[]⟩, .int .i64 0, .int .u8 0, .int .u8 0, .int .u8 0, .int .u8 0, .int .u8 0, .int .u8 0, .int .u8 0, .int .u8 0, .int .u8 0, .int .u8 0, .int .u8 0, .int .u8 0, .int .u8 0, .int .u8 0, .int .u8 0, .int .u8 0, .int .u8 0, .int .u8 0, .int .u8 0, .int .u8 0, .int .u8 0, .int .u8 0, .int .u8 0, .int .u8 0, .int .u8 0, .int .u8 0, .int .u8 0, .int .u8 0, .int .u8 0, .int .u8 0, .int .u8 0, .int .u8 0, .string ⟨#[]⟩, .int .i64 0] 31)) := (Below.refl _ X).alloc (Nat.le_refl _) _
  have ok : ∀ h ∈ [zzH, yyH], h.ok := fun h hh => by
    rcases List.mem_cons.1 hh with rfl | hh
    · exact zz_ok
    · rw [List.mem_singleton] at hh; subst hh; exact yy_ok
  refine (rootsP (hs := [zzH, yyH]) (L := []) (P := yz) yz_ris (by decide) (by decide) (fun x hx => by cases hx) ⟨_, _, rfl, ok, fun _ => ⟨X.heap.size, 0, rfl, by simp, fun i h hi j u hj => ?_⟩⟩ ⟨_, _, rfl, fun h0 => absurd h0 (by decide)⟩).mono ?_
  · rw [Nat.zero_add, World.cell?_alloc_new]
    have e := hC_at ok hi hj
    exact (List.getElem?_toArray).trans e
  · rintro e w' ⟨r, rfl, h1, h2⟩
    exact ⟨r, rfl, row_lo h1 hb.size, bl_t hb h2⟩
set_option maxRecDepth 100000 in
set_option maxHeartbeats 4000000 in
theorem roots_walk {w : World} {v u : Value} {hs : List Hx} {L : List Nm} (hh : hs.length ≤ 586406201463) (hL : L.length ≤ 8796093021952) (hz : ∀ x ∈ L, x.size ≤ 140737488351232) (h : Hls w v hs) (k : Sl w u L) :
    Calls Try.prog 3 #[v, u] w fun e w' => e = .returned (.bool true) ∧ Below w.heap.size w w' := by
  obtain ⟨a, c, rfl⟩ := h.form
  obtain ⟨a2, c2, rfl⟩ := k.form
  obtain ⟨v1, W1, g, cap, W2, hr1, hr2, ho2, hb2⟩ := lay_h hh h
  obtain ⟨v3, W3, g2, cap2, W4, hr3, hr4, ho4, hb4⟩ := lay_s hL (k.later hb2) ⟨#[98, 101, 104, 105, 110, 100]⟩
  obtain ⟨P, hP⟩ := ris_ex (pick hs L)
  have hPl : P.length ≤ 586406201463 := Nat.le_trans hP.len (Nat.le_trans (pick_len hs L) hh)
  have b4 := bl_t hb2 hb4
  have ho2' : W4.ownsRow w.heap.size 31 44 (.slice (some ⟨g, 0, none⟩) (hs.length + 1) cap) (hs.length + 1) (hC hs ++ mkL) := own_low ho2 hb4
  have hgl : g < W4.heap.size := (World.ownsRow.lt ho2' g rfl).2
  have hgl2 : g2 < W4.heap.size := (World.ownsRow.lt ho4 g2 rfl).2
  have hcap : hs.length + 1 ≤ cap := owns_cap ho2
  have hcap2 : L.length + 1 ≤ cap2 := owns_cap ho4
  have hmk : W4.cell? ⟨g, hs.length * 44 + 43, none⟩ = some (.int .i64 (-7)) := owns_at ho2' _ _ (by
    rw [List.getElem?_append_right (by rw [hC_len h.ok2]; omega), hC_len h.ok2, Nat.add_sub_cancel_left]
    rfl)
  have hmt : W4.cell? ⟨g2, L.length, none⟩ = some (.string ⟨#[98, 101, 104, 105, 110, 100]⟩) := owns_at ho4 _ _ (by
    rw [List.getElem?_append_right (by rw [sv_len]; omega), sv_len, Nat.sub_self]
    rfl)
  have HG := hide (show ∀ X, Below W4.heap.size W4 X → Hls X (.slice (some ⟨g, 0, none⟩) hs.length cap) hs ∧ Sl X (.slice (some ⟨g2, 0, none⟩) L.length cap2) L ∧ Hls X (.slice a hs.length c) hs ∧ Sl X (.slice a2 L.length c2) L ∧ X.cell? ⟨g, hs.length * 44 + 43, none⟩ = some (.int .i64 (-7)) ∧ X.cell? ⟨g2, L.length, none⟩ = some (.string ⟨#[98, 101, 104, 105, 110, 100]⟩) ∧ g < X.heap.size ∧ g2 < X.heap.size from fun X hX =>
    ⟨(own_hls h.ok2 ho2' cap).later hX, (own_sls ho4 cap2).later hX, h.later (bl_t b4 hX), k.later (bl_t b4 hX), (hX.cell (p := ⟨g, _, none⟩) hgl).trans hmk, (hX.cell (p := ⟨g2, _, none⟩) hgl2).trans hmt, Nat.lt_of_lt_of_le hgl hX.size, Nat.lt_of_lt_of_le hgl2 hX.size⟩)
  have cR := hide (show ∀ X, Below W4.heap.size W4 X → Calls Try.prog 4 #[.slice (some ⟨g, 0, none⟩) hs.length cap, .slice (some ⟨g2, 0, none⟩) L.length cap2] X fun e w' => ∃ r, e = .returned r ∧ w'.ownsRow X.heap.size 9 1 r P.length (sv P) ∧ Below X.heap.size X w' from fun X hX => by
    obtain ⟨q1, q2, _⟩ := unhide HG X hX
    exact rootsP hP (by omega) (by omega) (fun x hx => Nat.le_trans (hz x hx) (by omega)) q1 q2)
  have cW := hide (show ∀ X, Below W4.heap.size W4 X → Calls Try.prog 5 #[.slice a hs.length c, .slice a2 L.length c2] X fun e w' => ∃ r, e = .returned r ∧ w'.ownsRow X.heap.size 9 1 r P.length (sv P) ∧ Below X.heap.size X w' from fun X hX => by
    obtain ⟨_, _, q1, q2, _⟩ := unhide HG X hX
    exact rrootsP hP (by omega) (by omega) q1 q2)
  have HGG := hide (show g ≠ g2 from by
    have q1 := (World.ownsRow.lt ho2 g rfl).2
    have q2 := (World.ownsRow.lt ho4 g2 rfl).1
    omega)
  have HW2 := hide (show w.heap.size ≤ W2.heap.size from hb2.size)
  have HO2 := hide ho2'
  have HO4 := hide ho4
  have HB4 := hide b4
  have HZ := hide hz
  have HH := hide h
  have HK := hide k
  obtain ⟨N, hN⟩ : ∃ N, N = hs.length := ⟨_, rfl⟩
  obtain ⟨M, hM⟩ : ∃ M, M = L.length := ⟨_, rfl⟩
  have HN := hide hN
  have HM := hide hM
  have HPP := hide hP
  clear hz h k ho2 ho4 ho2' b4 hb2 hb4 hmk hmt hP
  go_enter Try.func3, Try.ntmps3
  go_upto_region 3 with (first | (at_builtin; refine wpList_append_run rfl _ _ 22 rfl _ _ rfl rfl hr1 ?_) | (at_builtin; refine wpList_append_run rfl _ _ 22 rfl _ _ rfl rfl hr2 ?_) | (at_builtin; refine wpList_append_run rfl _ _ 23 rfl _ _ rfl rfl hr3 ?_) | (at_builtin; refine wpList_append_run rfl _ _ 23 rfl _ _ rfl rfl hr4 ?_))
  clear hr1 hr2 hr3 hr4
  rw [← hN] at hh HG cR cW HO2 HH hcap ⊢
  rw [← hM] at hL HG cR cW HO4 HK hcap2 ⊢
  clear hN hM
  have B0 := hide ((Below.refl W4.heap.size W4).drew)
  have hx1 : (N : Int) ≤ (cap : Int) := by omega
  have hx2 : (M : Int) ≤ (cap2 : Int) := by omega
  go_region_held3 (fun _ => True) (first | exact trivial) (first | (go_at_call 4; refine (unhide cR _ (unhide B0)).mono ?_; rintro e wA ⟨qA, rfl, hoA, hbA⟩; obtain ⟨xA, yA, rfl⟩ := owns_form hoA; have HA := hide (And.intro (row_lo hoA (unhide B0).size) (bl_t (unhide B0) hbA)); clear hoA hbA))
  go_upto_region 5 with (go_at_call 5; refine (unhide cW wA (unhide HA).2).mono ?_; rintro e wB ⟨rB, rfl, hoB, hbB⟩)
  have HB := hide (And.intro (own_low (unhide HA).1 hbB) (And.intro (row_lo hoB (unhide HA).2.size) (bl_t (unhide HA).2 hbB)))
  have HAB := hide (And.intro hoB hbB)
  clear hoB hbB B0
  have cN1 := hide (namesP (X := wB) (by omega) (own_sl (unhide HB).1) (own_sl (unhide HB).2.1))
  have cN2 := hide (show ∀ X, Below W4.heap.size W4 X → Calls Try.prog 6 #[.slice (some ⟨g2, 0, none⟩) M cap2, .slice a2 M c2] X fun e w' => e = .returned (.bool true) ∧ Below X.heap.size X w' from fun X hX => by
    obtain ⟨_, q1, _, q2, _⟩ := unhide HG X hX
    exact namesP (l := L) (by rw [← unhide HM]; omega) q1 q2)
  have hx3 : (N : Int) < (N : Int) + 1 := by omega
  have hx4 : (M : Int) < (M : Int) + 1 := by omega
  have hx5 : (ByteArray.toList ⟨#[98, 101, 104, 105, 110, 100]⟩ == ByteArray.toList ⟨#[98, 101, 104, 105, 110, 100]⟩) = true := bx_eq _
  go_upto_region 7 with (first | (go_at_call_of 6 (Value.slice xA P.length yA); refine (unhide cN1).mono ?_; rintro e wC ⟨rfl, hbC⟩; obtain ⟨_, _, _, _, cmk, cmt, gl1, gl2⟩ := unhide HG wC (bl_t (unhide HB).2.2 hbC); have HC := hide hbC; clear hbC) | (go_at_call 6; refine (unhide cN2 wC (bl_t (unhide HB).2.2 (unhide HC))).mono ?_; rintro e wD ⟨rfl, hbD⟩; have HD := hide hbD; clear hbD))
  have hbD := bl_t (unhide HB).2.2 (bl_t (unhide HC) (unhide HD))
  have HE0 := hide (show wD.ownsRow W4.heap.size 9 1 (.slice xA P.length yA) P.length (sv P) ∧ (∀ q, (Value.slice xA P.length yA).ownBlock = some q → q < wD.heap.size) ∧ wD.ownsRow W4.heap.size 9 1 rB P.length (sv P) ∧ Below W4.heap.size W4 wD from by
    have b := bl_t (unhide HC) (unhide HD)
    have q1 := own_low (unhide HB).1 b
    exact ⟨q1, fun q e => (World.ownsRow.lt q1 q e).2, own_low (unhide HB).2.1 b, hbD⟩)
  have B1 := hide (bl_t hbD ((Below.refl wD.heap.size wD).drew))
  clear HB HAB HC HD HA cN1 hbD cmk cmt gl1 gl2
  go_region_held3 (fun _ => True) (first | exact trivial) (first | (go_at_call 4; refine (unhide cR _ (unhide B1)).mono ?_; rintro e wE ⟨qE, rfl, hoE, hbE⟩; obtain ⟨xE, yE, rfl⟩ := owns_form hoE))
  have HE := hide (show wE.ownsRow wD.heap.size 9 1 (.slice xE P.length yE) P.length (sv P) ∧ Below wD.heap.size wD wE from ⟨hoE, bl_t ((Below.refl wD.heap.size wD).drew) hbE⟩)
  clear hoE hbE B1
  go_upto_region 9 with (go_at_call 4; refine (o_call wE).mono ?_; rintro e wF ⟨qO, rfl, hoO, hbO⟩; obtain ⟨xO, yO, rfl⟩ := owns_form hoO)
  have HF := hide (And.intro hoO hbO)
  clear hoO hbO
  have B2 := hide (bl_t (bl_t (unhide HE0).2.2.2 (unhide HE).2) (bl_t (unhide HF).2 ((Below.refl wF.heap.size wF).drew)))
  go_region_held3 (fun _ => True) (first | exact trivial) (first | (go_at_call 4; refine (unhide cR _ (unhide B2)).mono ?_; rintro e wG ⟨qC, rfl, hoC, hbC⟩; obtain ⟨xC, yC, rfl⟩ := owns_form hoC))
  have HGC := hide (show wG.ownsRow wF.heap.size 9 1 (.slice xC P.length yC) P.length (sv P) ∧ Below wF.heap.size wF wG from ⟨hoC, bl_t ((Below.refl wF.heap.size wF).drew) hbC⟩)
  clear hoC hbC B2
  have HAL := hide (show ∀ X, Below wG.heap.size wG X → Sl X (.slice xA P.length yA) P ∧ Sl X rB P ∧ Sl X (.slice xE P.length yE) P ∧ Sl X (.slice xO 2 yO) yz ∧ Sl X (.slice xC P.length yC) P from fun X hX => by
    have b2 := (unhide HGC).2
    have b1 := bl_t (unhide HF).2 b2
    have b0 := bl_t (unhide HE).2 b1
    exact ⟨(own_sl (own_low (unhide HE0).1 b0)).later hX, (own_sl (own_low (unhide HE0).2.2.1 b0)).later hX, (own_sl (own_low (unhide HE).1 b1)).later hX, (own_sl (own_low (unhide HF).1 b2)).later hX, (own_sl (unhide HGC).1).later hX⟩)
  have cA := hide (show ∀ X, Below wG.heap.size wG X → Calls Try.prog 6 #[.slice xA P.length yA, rB] X fun e w' => e = .returned (.bool true) ∧ Below X.heap.size X w' from fun X hX => namesP (by omega) (unhide HAL X hX).1 (unhide HAL X hX).2.1)
  have cE := hide (show ∀ X, Below wG.heap.size wG X → Calls Try.prog 6 #[(.slice xE P.length yE), rB] X fun e w' => e = .returned (.bool true) ∧ Below X.heap.size X w' from fun X hX => namesP (by omega) (unhide HAL X hX).2.2.1 (unhide HAL X hX).2.1)
  have cC := hide (show ∀ X, Below wG.heap.size wG X → Calls Try.prog 6 #[(.slice xC P.length yC), rB] X fun e w' => e = .returned (.bool true) ∧ Below X.heap.size X w' from fun X hX => namesP (by omega) (unhide HAL X hX).2.2.2.2 (unhide HAL X hX).2.1)
  have cO := hide (show ∀ X, Below wG.heap.size wG X → Calls Try.prog 6 #[(.slice xO 2 yO), .slice (some ⟨X.heap.size, 0, none⟩) 2 2] (X.alloc (.cells #[.string ⟨#[121, 121]⟩, .string ⟨#[122, 122]⟩] 9)) fun e w' => e = .returned (.bool true) ∧ Below X.heap.size X w' from fun X hX => by
    have hb : Below X.heap.size X (X.alloc (.cells #[.string ⟨#[121, 121]⟩, .string ⟨#[122, 122]⟩] 9)) := (Below.refl _ X).alloc (Nat.le_refl _) _
    refine (namesP (l := yz) (by decide) ((unhide HAL X hX).2.2.2.1.later hb) ⟨_, _, rfl, fun _ => ⟨X.heap.size, 0, rfl, by simp, fun i s hi => ?_⟩⟩).mono ?_
    · rw [Nat.zero_add, World.cell?_alloc_new]
      show ((sv yz).toArray)[i]? = _
      rw [List.getElem?_toArray, sv_at, hi]
      rfl
    · rintro e w' ⟨rfl, h⟩
      exact ⟨rfl, bl_t hb h⟩)
  have B5 := hide ((Below.refl wG.heap.size wG).alloc (Nat.le_refl _) (.cells #[.slice xA P.length yA, .slice xE P.length yE, .slice xO 2 yO, .slice xC P.length yC] 23))
  go_upto_region 13 with (first | (go_at_call_of 6 (Value.slice xA P.length yA); refine (unhide cA _ (unhide B5)).mono ?_; rintro e w5 ⟨rfl, hb5⟩; have B6 := hide (bl_t (unhide B5) hb5); have K5 := hide hb5; clear hb5) | (go_at_call_of 6 (Value.slice xE P.length yE); refine (unhide cE _ (unhide B6)).mono ?_; rintro e w6 ⟨rfl, hb6⟩; have B7 := hide (bl_t (unhide B6) hb6); have K6 := hide hb6; clear hb6) | (go_at_call_of 6 (Value.slice xO 2 yO); refine (unhide cO w6 (unhide B7)).mono ?_; rintro e w7 ⟨rfl, hb7⟩; have B8 := hide (bl_t (unhide B7) hb7); have K7 := hide hb7; clear hb7) | (go_at_call_of 6 (Value.slice xC P.length yC); refine (unhide cC _ (unhide B8)).mono ?_; rintro e w8 ⟨rfl, hb8⟩; have K8 := hide hb8; clear hb8))
  have HX := hide (show ∃ (vv : Nat → Value) (lo : Nat → Nat) (X : Nat → List Nm), Fr W4.heap.size wG.heap.size vv lo ∧ R4 W4 w8 wG.heap.size vv lo X ∧ ∀ j, (X j).length ≤ 586406201463 from by
    have b4 : RowKit.Below (wG.alloc (.cells #[.slice xA P.length yA, .slice xE P.length yE, .slice xO 2 yO, .slice xC P.length yC] 23)).heap.size (wG.alloc (.cells #[.slice xA P.length yA, .slice xE P.length yE, .slice xO 2 yO, .slice xC P.length yC] 23)) w8 := bl_t (unhide K5) (bl_t (unhide K6) (bl_t (unhide K7) (unhide K8)))
    have b3 : RowKit.Below wG.heap.size wG w8 := bl_t (unhide B5) b4
    have b2 := bl_t (unhide HGC).2 b3
    have b1 := bl_t (unhide HF).2 b2
    have b0 := bl_t (unhide HE).2 b1
    have z0 := (unhide HE0).2.2.2.size
    have z1 := (unhide HE).2.size
    have z2 := (unhide HF).2.size
    have z3 := (unhide HGC).2.size
    have hyz : yz.length = 2 := rfl
    refine ⟨fun i => match i with | 0 => (.slice xA P.length yA) | 1 => (.slice xE P.length yE) | 2 => (.slice xO 2 yO) | _ => (.slice xC P.length yC), fun i => match i with | 0 => W4.heap.size | 1 => wD.heap.size | 2 => wE.heap.size | 3 => wF.heap.size | _ => wG.heap.size, fun i => match i with | 2 => yz | _ => P, ⟨fun i q hi e => ?_, fun i j hij hj => ?_, Nat.le_refl _, Nat.le_refl _⟩, ⟨fun i hi => ?_, ?_, bl_t (unhide HE0).2.2.2 b0⟩, fun j => ?_⟩
    · match i, hi with
      | 0, _ => exact ⟨(World.ownsRow.lt (unhide HE0).1 q e).1, (unhide HE0).2.1 q e⟩
      | 1, _ => exact ⟨(World.ownsRow.lt (unhide HE).1 q e).1, (World.ownsRow.lt (unhide HE).1 q e).2⟩
      | 2, _ => exact ⟨(World.ownsRow.lt (unhide HF).1 q e).1, (World.ownsRow.lt (unhide HF).1 q e).2⟩
      | 3, _ => exact ⟨(World.ownsRow.lt (unhide HGC).1 q e).1, (World.ownsRow.lt (unhide HGC).1 q e).2⟩
    · match i, j, hij, hj with
      | 0, 0, _, _ => exact Nat.le_refl _
      | 0, 1, _, _ => exact z0
      | 0, 2, _, _ => exact Nat.le_trans z0 z1
      | 0, 3, _, _ => exact Nat.le_trans z0 (Nat.le_trans z1 z2)
      | 0, 4, _, _ => exact Nat.le_trans z0 (Nat.le_trans z1 (Nat.le_trans z2 z3))
      | 1, 1, _, _ => exact Nat.le_refl _
      | 1, 2, _, _ => exact z1
      | 1, 3, _, _ => exact Nat.le_trans z1 z2
      | 1, 4, _, _ => exact Nat.le_trans z1 (Nat.le_trans z2 z3)
      | 2, 2, _, _ => exact Nat.le_refl _
      | 2, 3, _, _ => exact z2
      | 2, 4, _, _ => exact Nat.le_trans z2 z3
      | 3, 3, _, _ => exact Nat.le_refl _
      | 3, 4, _, _ => exact z3
      | 4, 4, _, _ => exact Nat.le_refl _
      | _ + 5, _, hij, hj => exact absurd hij (by omega)
    · match i, hi with
      | 0, _ => exact own_low (unhide HE0).1 b0
      | 1, _ => exact own_low (unhide HE).1 b1
      | 2, _ => exact own_low (unhide HF).1 b2
      | 3, _ => exact own_low (unhide HGC).1 b3
    · exact (b4.block _ (by simp)).trans (heap_alloc_new wG _)
    · match j with
      | 0 => exact hPl
      | 1 => exact hPl
      | 2 => exact (by decide : (2 : Nat) ≤ 586406201463)
      | _ + 3 => exact hPl)
  clear cA cE cC cO B5 B6 B7 B8 K5 K6 K7 K8 HAL HGC HF HE HE0
  obtain ⟨vv, lo, X0, fr, r40, hx0⟩ := unhide HX
  obtain ⟨nn, hnn⟩ : ∃ nn : Nat → Nat, ∀ j, (X0 j).length = nn j := ⟨_, fun _ => rfl⟩
  have hnl : ∀ j, nn j ≤ 586406201463 := fun j => by rw [← hnn]; exact hx0 j
  have HFR := hide fr
  have HST := hide (show R4 W4 w8 wG.heap.size vv lo X0 ∧ (∀ j, (X0 j).length = nn j) ∧ ∀ j, j < 0 → ∀ t, t < nn j → (X0 j)[t]? = some (ch 97 j) from ⟨r40, hnn, fun j h => absurd h (Nat.not_lt_zero _)⟩)
  have HNL := hide hnl
  clear HX fr r40 hx0 hnn hnl
  generalize wG.heap.size = lb at *
  go_wp2_with fail
  go_loopg [13, 14] 4 (fun gq iv _ wr => ∃ (i : Nat) (X : Nat → List Nm), iv = .int .i64 i ∧ i ≤ 4 ∧ 4 - i ≤ gq ∧ Hid (R4 W4 wr lb vv lo X ∧ (∀ j, (X j).length = nn j) ∧ ∀ j, j < i → ∀ t, t < nn j → (X j)[t]? = some (ch 97 j)))
  case atStart => exact ⟨0, X0, by go_num, by omega, by omega, HST⟩
  case round =>
    clear HST
    obtain ⟨i, X, rfl, hi4, hgi, HU⟩ := hrel
    by_cases hlt : i < 4
    · have hin : (i : Int) < (4 : Int) := by omega
      have HU0 := hide (show R4 W4 wr lb vv lo X ∧ (∀ j, (X j).length = nn j) ∧ (∀ j, j < i → ∀ t, t < nn j → (X j)[t]? = some (ch 97 j)) ∧ ∀ t, t < 0 → (X i)[t]? = some (ch 97 i) from ⟨(unhide HU).1, (unhide HU).2.1, (unhide HU).2.2, fun t h => absurd h (Nat.not_lt_zero _)⟩)
      have hni := unhide HNL i
      obtain ⟨ai, ci, hv0, _, _⟩ := (unhide HU).1.head hlt
      rw [(unhide HU).2.1 i] at hv0
      have HVI := hide hv0
      clear HU hv0
      generalize hnq : nn i = n at *
      have HNQ := hide hnq
      clear hnq
      go_wp2_with fail
      go_loopg [14] n (fun gq kv wq => ∃ (k : Nat) (X : Nat → List Nm), kv = .int .i64 k ∧ k ≤ n ∧ n - k ≤ gq ∧ Hid (R4 W4 wq lb vv lo X ∧ (∀ j, (X j).length = nn j) ∧ (∀ j, j < i → ∀ t, t < nn j → (X j)[t]? = some (ch 97 j)) ∧ ∀ t, t < k → (X i)[t]? = some (ch 97 i)))
      case atStart => exact ⟨0, X, by go_num, by omega, by omega, HU0⟩
      case round =>
        clear HU0
        obtain ⟨k, Y, rfl, hk, hgk, HV⟩ := hrel
        have hc : wr.cell? ⟨lb, i, none⟩ = some (.slice ai n ci) := by
          rw [(cell_blk (unhide HV).1.hd i).1, h4_at vv hlt, unhide HVI]
        by_cases hkn : k < n
        · have hkn2 : (k : Int) < (n : Int) := by omega
          obtain ⟨g5, cp, hv5, hgl5, ⟨z5, cz5⟩, fz5, hwr5⟩ := (unhide HV).1.write (unhide HFR) hlt (k := k) (by rw [(unhide HV).2.1, unhide HNQ]; exact hkn)
          obtain ⟨rfl, rfl⟩ : ai = some ⟨g5, 0, none⟩ ∧ ci = cp := by
            have e := (unhide HVI).symm.trans hv5
            injection e with e1 _ e3
            exact ⟨e1, e3⟩
          have hlb : lb < wr.heap.size := blk_lt (unhide HV).1.hd
          clear hv5
          have hcv := conv97 (w := wr) hlt (wr.alloc (.cells #[.int .u8 (97 + (i : Int))] 5)).drew rfl
          go_wp2_with fail
          go_big_region
          have HW := hide (show R4 W4 ((wr.setCell ⟨g5, k, none⟩ (.string (ch 97 i))).alloc (.cells #[.int .u8 (97 + (i : Int))] 5)).drew lb vv lo (setX Y i k (ch 97 i)) ∧ (∀ j, (setX Y i k (ch 97 i) j).length = nn j) ∧ (∀ j, j < i → ∀ t, t < nn j → (setX Y i k (ch 97 i) j)[t]? = some (ch 97 j)) ∧ ∀ t, t < k + 1 → (setX Y i k (ch 97 i) i)[t]? = some (ch 97 i) from by
            refine ⟨((hwr5 (ch 97 i)).later ((Below.refl _ _).alloc (Nat.le_refl _) _)).later (Below.refl _ _).drew, fun j => by rw [setX_len]; exact (unhide HV).2.1 j, fun j hj t ht => ?_, fun t ht => ?_⟩
            · rw [setX_other _ _ _ (by omega)]
              exact (unhide HV).2.2.1 j hj t ht
            · rw [setX_same]
              by_cases e : t = k
              · subst e
                rw [List.getElem?_set_self (by rw [(unhide HV).2.1, unhide HNQ]; exact hkn)]
              · rw [List.getElem?_set_ne (by omega)]
                exact (unhide HV).2.2.2 t (by omega))
          clear HV hcv hwr5
          go_wp2_with fail
          go_roundg (n - (k + 1))
          case measure => omega
          case rel => exact ⟨k + 1, _, by go_num, by omega, by omega, HW⟩
        · obtain rfl : k = n := by omega
          go_wp2_with fail
          go_roundg (4 - (i + 1))
          case measure => omega
          case rel => exact ⟨i + 1, Y, by go_num, by omega, by omega, hide ⟨(unhide HV).1, (unhide HV).2.1, fun j hj t ht => by
            by_cases e : j = i
            · subst e; exact (unhide HV).2.2.2 t (by rw [unhide HNQ] at ht; exact ht)
            · exact (unhide HV).2.2.1 j (by omega) t ht⟩⟩
    · obtain rfl : i = 4 := by omega
      have HS := hide (S3.start (unhide HU).1 (unhide HU).2.1 (fun j hj => (unhide HU).2.2 j hj))
      clear HU
      go_wp2_with fail
      go_loopg [15, 16, 17, 18] 4 (fun gq sv iv _ _ wr => ∃ (i : Nat) (lv : Nat → Value), iv = .int .i64 i ∧ i ≤ 4 ∧ 4 - i ≤ gq ∧ Hid (S3 W4 wr lb vv lo nn i sv lv))
      case atStart => exact ⟨0, _, by go_num, by omega, by omega, HS⟩
      case round =>
        clear HS
        obtain ⟨i, lv, rfl, hi4, hgi, HU⟩ := hrel
        by_cases hlt : i < 4
        · have hin : (i : Int) < (4 : Int) := by omega
          obtain ⟨ai, bi, ci, hv, came, hb1, hb2, hcm⟩ := (unhide HU).came hlt
          have hc : wr.cell? ⟨lb, i, none⟩ = some (.slice ai (nn i) ci) := by
            rw [(cell_blk (unhide HU).hd i).1, h4_at vv hlt, hv]
          have hni := unhide HNL i
          obtain ⟨wi, hwi⟩ : ∃ z, z = wr := ⟨_, rfl⟩
          rw [← hwi] at HU came
          have HST := hide (show Onto wi 9 1 ai bi 0 (nn i) ci (sv (rep (nn i) 97 i)) wr (.slice ai (nn i) ci) 0 (sv (rep 0 65 i)) ∧ wr.ownsRow W4.heap.size 9 1 (.slice ai (nn i) ci) (nn i + 0) (sv (rep (nn i) 97 i ++ rep 0 65 i)) ∧ Below W4.heap.size W4 wr from by
            rw [← hwi]
            refine ⟨Onto.start came, ?_, (unhide HU).bw⟩
            have q := (unhide HU).rows i (Nat.le_refl _) hlt
            rw [hv] at q
            have e : rep (nn i) 97 i ++ rep 0 65 i = rep (nn i) 97 i := by simp [rep]
            rw [e]
            exact row_lo q (Nat.le_trans (unhide HFR).base ((unhide HFR).mono 0 i (by omega) (by omega))))
          have HCM := hide (And.intro came (And.intro hv (And.intro hb1 (And.intro hb2 hcm))))
          clear came hv hb1 hb2 hcm hwi
          generalize hnq : nn i = n at *
          have HNQ := hide hnq
          clear hnq
          go_wp2_with fail
          go_loopg [17, 18] 64 (fun gq xv kv wq => ∃ t : Nat, kv = .int .i64 t ∧ t ≤ 64 ∧ 64 - t ≤ gq ∧ Hid (Onto wi 9 1 ai bi 0 n ci (sv (rep n 97 i)) wq xv t (sv (rep t 65 i)) ∧ wq.ownsRow W4.heap.size 9 1 xv (n + t) (sv (rep n 97 i ++ rep t 65 i)) ∧ Below W4.heap.size W4 wq))
          case atStart => exact ⟨0, by go_num, by omega, by omega, HST⟩
          case round =>
            clear HST
            obtain ⟨t, rfl, ht, hgt, HV⟩ := hrel
            by_cases htn : t < 64
            · have htn2 : (t : Int) < (64 : Int) := by omega
              have hcv := conv65 (w := wr) hlt (wr.alloc (.cells #[.int .u8 (65 + (i : Int))] 5)) rfl
              obtain ⟨x9, w9, hap, o9, ho9, hb9⟩ := app_both (unhide HCM).1 (unhide HV).1 (unhide HV).2.1 (unhide HV).2.2 hni htn (.cells #[.int .u8 (65 + (i : Int))] 5) 23
              have HW := hide (And.intro o9 (And.intro ho9 hb9))
              clear o9 ho9 hb9 HV
              go_wp2_with (at_builtin; refine wpList_append_run rfl _ _ 23 rfl _ _ rfl rfl hap ?_)
              go_roundg (64 - (t + 1))
              case measure => omega
              case rel => exact ⟨t + 1, by go_num, by omega, by omega, HW⟩
            · obtain rfl : t = 64 := by omega
              obtain ⟨ow, hown, hbw⟩ := unhide HV
              obtain ⟨xa, xc, rfl⟩ := owns_form hown
              obtain ⟨hcm1, hcm2, hcm3, hcm4, hcm5⟩ := unhide HCM
              rw [← unhide HNQ] at ow hcm1 hcm2
              obtain ⟨q1, q2, q3, q4, q5, q6⟩ := (unhide HU).after (unhide HFR) hlt hcm1 hcm2 hcm3 hcm4 hcm5 ow
              obtain ⟨s9, w9, hap, hs9⟩ := S3.next (unhide HFR) hlt rfl q1 q2 q3 q4 q5 q6 hbw 34
              have HW := hide hs9
              rw [unhide HNQ] at hap
              clear ow hown hbw hcm1 hcm2 hcm3 hcm4 hcm5 q1 q2 q3 q4 q5 q6 hs9 HV
              go_wp2_with (at_builtin; refine wpList_append_run rfl _ _ 34 rfl _ _ rfl rfl hap ?_)
              go_roundg (4 - (i + 1))
              case measure => omega
              case rel => exact ⟨i + 1, _, by go_num, by omega, by omega, HW⟩
        · obtain rfl : i = 4 := by omega
          have HS4 := hide (unhide HU)
          have bW := (unhide HU).bw
          clear HU
          go_wp2_with fail
          obtain ⟨lA, lC, hlf⟩ := owns_form (unhide HS4).long
          subst hlf
          obtain ⟨lgb, rfl⟩ : ∃ lgb, lA = some ⟨lgb, 0, none⟩ := by
            rcases (unhide HS4).long.2 with ⟨_, q⟩ | ⟨g9, _, _, e9, _⟩
            · cases q
            · injection e9 with e9 _ _
              exact ⟨g9, e9⟩
          obtain ⟨wL, hwL⟩ : ∃ x, x = wr := ⟨_, rfl⟩
          rw [← hwL] at HS4 bW
          have HST := hide (show Below wL.heap.size wL wr from by rw [hwL]; exact Below.refl _ _)
          clear hwL
          have HF := hide (show ∀ X, Below wL.heap.size wL X → ∀ i, i < 4 → ∃ ai ci b o c, X.cell? ⟨lb, i, none⟩ = some (.slice ai (nn i) ci) ∧ X.cell? ⟨lgb, i, none⟩ = some (.slice (some ⟨b, o, none⟩) (nn i + 64) c) ∧ lb < X.heap.size ∧ lgb < X.heap.size ∧ b < X.heap.size ∧ (∀ t, t < nn i → X.cell? ⟨b, o + t, none⟩ = some (.string (ch 97 i)) ∧ ∃ b2 o2, ai = some ⟨b2, o2, none⟩ ∧ b2 < X.heap.size ∧ X.cell? ⟨b2, o2 + t, none⟩ = some (.string (ch 97 i))) ∧ ∀ t, nn i ≤ t → t < nn i + 64 → X.cell? ⟨b, o + t, none⟩ = some (.string (ch 65 i)) from fun X hX i hi => by
            have hs := unhide HS4
            obtain ⟨ai, ci, e1, hr⟩ := hs.olds i hi
            rw [rep_len] at e1 hr
            obtain ⟨b, o, c9, e2, h1, _, h3⟩ := hs.news i hi
            have hlw := blk_lt hs.hd
            have hgw := (World.ownsRow.lt hs.long lgb rfl).2
            refine ⟨ai, ci, b, o, c9, ?_, ?_, Nat.lt_of_lt_of_le hlw hX.size, Nat.lt_of_lt_of_le hgw hX.size, Nat.lt_of_lt_of_le h1 hX.size, fun t ht => ⟨?_, ?_⟩, fun t ht ht2 => ?_⟩
            · rw [hX.cell (p := ⟨lb, i, none⟩) hlw, (cell_blk hs.hd i).1, h4_at vv hi, e1]
            · rw [hX.cell (p := ⟨lgb, i, none⟩) hgw]
              refine owns_at hs.long i _ ?_
              rw [List.getElem?_map, List.getElem?_range hi, ← e2]
              rfl
            · rw [hX.cell (p := ⟨b, _, none⟩) h1]
              exact h3 t _ (by rw [List.getElem?_append_left (by rw [rep_len]; exact ht)]; exact rep_at ht)
            · obtain ⟨b2, o2, e3, h4, h5⟩ := hr (by omega)
              exact ⟨b2, o2, e3, Nat.lt_of_lt_of_le h4 hX.size, (hX.cell (p := ⟨b2, _, none⟩) h4).trans (h5 t _ (rep_at ht))⟩
            · rw [hX.cell (p := ⟨b, _, none⟩) h1]
              exact h3 t _ (by rw [List.getElem?_append_right (by rw [rep_len]; exact ht), rep_len]; exact rep_at (by omega)))
          clear HS4
          go_loopg [19, 20] 4 (fun gq iv _ wq => ∃ i : Nat, iv = .int .i64 i ∧ i ≤ 4 ∧ 4 - i ≤ gq ∧ Hid (Below wL.heap.size wL wq))
          case atStart => exact ⟨0, by go_num, by omega, by omega, HST⟩
          case round =>
            clear HST
            obtain ⟨i, rfl, hi4, hgi, HU⟩ := hrel
            by_cases hlt : i < 4
            · have hin : (i : Int) < (4 : Int) := by omega
              have hni := unhide HNL i
              generalize hnq : nn i = n at *
              have HNQ := hide hnq
              clear hnq
              go_wp2_with fail
              go_loopg [20] (n + 64) (fun gq kv wq => ∃ k : Nat, kv = .int .i64 k ∧ k ≤ n + 64 ∧ n + 64 - k ≤ gq ∧ Hid (Below wL.heap.size wL wq))
              case atStart => exact ⟨0, by go_num, by omega, by omega, HU⟩
              case round =>
                clear HU
                obtain ⟨k, rfl, hk, hgk, HV⟩ := hrel
                obtain ⟨ai, ci, b, o, c9, d1, d2, l1, l2, l3, q1, q2⟩ := unhide HF wr (unhide HV) i hlt
                rw [unhide HNQ] at d1 d2 q1 q2
                by_cases hkn : k < n + 64
                · have hk2 : (k : Int) < (n : Int) + 64 := by omega
                  by_cases hkl : k < n
                  · have hk3 : (k : Int) < (n : Int) := by omega
                    have hk5 : ¬ (n : Int) ≤ (k : Int) := by omega
                    obtain ⟨r1, b2, o2, rfl, l4, r2⟩ := q1 k hkl
                    clear q1 q2
                    go_wp2_with fail
                    refine regA (fun _ _ _ _ h => h) hlt (by omega) (by omega) d1 r1 r2 l4 d2 l1 l2 l3 ?_
                    intro v196 v197 v198 v199 v200 v201 v202 v203 v204 v205 v206 v207 v208 v209 v210 v211 v212 v213 v214 v215 v216 v217 v218 v219 v220 v221 v222 v223 v224 v225 v226 v227 v228 v229 v230 v231 v232 v233 v234 v235 v236 v237 v238 v239 v240 v241 v242 v243 v244 v245 v246 v247 v248 v249 v250 v251 v252 v253 v254 v255 v256 v257 w' hb'
                    have HB9 := hide (bl_t (unhide HV) hb')
                    clear hb'
                    go_wp2_with fail
                    go_roundg (n + 64 - (k + 1))
                    case measure => omega
                    case rel => exact ⟨k + 1, by go_num, by omega, by omega, HB9⟩
                  · have hk3 : ¬ (k : Int) < (n : Int) := by omega
                    have hk4 : (n : Int) ≤ (k : Int) := by omega
                    have r1 := q2 k (by omega) hkn
                    clear q1 q2
                    go_wp2_with fail
                    refine regB (fun _ _ _ _ h => h) hlt (by omega) (by omega) (by omega) d1 r1 d2 l1 l2 l3 ?_
                    intro v196 v197 v198 v199 v200 v201 v202 v203 v204 v205 v206 v207 v208 v209 v210 v211 v212 v213 v214 v215 v216 v217 v218 v219 v220 v221 v222 v223 v224 v225 v226 v227 v228 v229 v230 v231 v232 v233 v234 v235 v236 v237 v238 v239 v240 v241 v242 v243 v244 v245 v246 v247 v248 v249 v250 v251 v252 v253 v254 v255 v256 v257 w' hb'
                    have HB9 := hide (bl_t (unhide HV) hb')
                    clear hb'
                    go_wp2_with fail
                    go_roundg (n + 64 - (k + 1))
                    case measure => omega
                    case rel => exact ⟨k + 1, by go_num, by omega, by omega, HB9⟩
                · obtain rfl : k = n + 64 := by omega
                  go_wp2_with fail
                  go_roundg (4 - (i + 1))
                  case measure => omega
                  case rel => exact ⟨i + 1, by go_num, by omega, by omega, HV⟩
            · obtain rfl : i = 4 := by omega
              have bX := hide (bl_t bW (unhide HU))
              clear HF HU bW
              go_wp2_with fail
              obtain ⟨wX, hwX⟩ : ∃ x, x = wr := ⟨_, rfl⟩
              rw [← hwX] at bX
              have HST := hide (show L7 wX wr g hs (.slice (some ⟨g, 0, none⟩) (N + 1) cap) w.heap.size 0 from by
                have q := own_low (unhide HO2) (unhide bX)
                rw [← hwX]
                rw [unhide HN] at q ⊢
                exact L7.start (unhide HH).ok2 q)
              clear hwX
              go_loopg [21] N (fun gq iv wq => ∃ i : Nat, iv = .int .i64 i ∧ i ≤ N ∧ N - i ≤ gq ∧ Hid (L7 wX wq g hs (.slice (some ⟨g, 0, none⟩) (N + 1) cap) w.heap.size i))
              case atStart => exact ⟨0, by go_num, by omega, by omega, HST⟩
              case round =>
                clear HST
                obtain ⟨i, rfl, hiN, hgi, HU⟩ := hrel
                by_cases hlt : i < N
                · have hin : (i : Int) < (N : Int) := by omega
                  have hin2 : (i : Int) < (N : Int) + 1 := by omega
                  obtain ⟨x, d1, f1, gl, hw⟩ := (unhide HU).write (by rw [← unhide HN]; exact hlt)
                  have HW := hide hw
                  clear hw
                  go_wp2_with fail
                  go_roundg (N - (i + 1))
                  case measure => omega
                  case rel => exact ⟨i + 1, by go_num, by omega, by omega, HW⟩
                · obtain rfl : i = N := by omega
                  have HT0 := hide (show wr.ownsRow W2.heap.size 9 1 (.slice (some ⟨g2, 0, none⟩) (M + 1) cap2) (M + 1) (sv L ++ [.string ⟨#[98, 101, 104, 105, 110, 100]⟩]) from own_same (own_low (unhide HO4) (unhide bX)) fun b e => by
                    have e2 : b = g2 := by injection e with e; exact e.symm
                    subst e2
                    exact (unhide HU).fx.blk b (World.ownsRow.lt (own_low (unhide HO4) (unhide bX)) b rfl).2 fun q => unhide HGG q.symm)
                  go_wp2_with fail
                  obtain ⟨wY, hwY⟩ : ∃ x, x = wr := ⟨_, rfl⟩
                  rw [← hwY] at HU
                  have HST := hide (show L8 wY wr g2 L (.slice (some ⟨g2, 0, none⟩) (M + 1) cap2) W2.heap.size (.string ⟨#[98, 101, 104, 105, 110, 100]⟩) 0 from by
                    have q := unhide HT0
                    rw [← hwY] at q ⊢
                    rw [unhide HM] at q ⊢
                    exact L8.start q)
                  clear hwY HT0
                  go_loopg [22] M (fun gq iv wq => ∃ i : Nat, iv = .int .i64 i ∧ i ≤ M ∧ M - i ≤ gq ∧ Hid (L8 wY wq g2 L (.slice (some ⟨g2, 0, none⟩) (M + 1) cap2) W2.heap.size (.string ⟨#[98, 101, 104, 105, 110, 100]⟩) i))
                  case atStart => exact ⟨0, by go_num, by omega, by omega, HST⟩
                  case round =>
                    clear HST
                    obtain ⟨j, rfl, hjM, hgj, HV⟩ := hrel
                    by_cases hlt : j < M
                    · have hjn : (j : Int) < (M : Int) := by omega
                      have hjn2 : (j : Int) < (M : Int) + 1 := by omega
                      have hjl : j < L.length := by rw [← unhide HM]; exact hlt
                      obtain ⟨d1, f1, gl, hw⟩ := (unhide HV).write hjl
                      have hzy := unhide HZ _ (List.getElem_mem hjl)
                      generalize L[j] = y at *
                      have HW := hide hw
                      have hys : ¬ 9223372036854775807 < ByteArray.size y + 1 := by omega
                      have hys2 : ¬ 9223372036854775807 < ByteArray.size y + ByteArray.size ⟨#[48]⟩ := by
                        have : ByteArray.size ⟨#[48]⟩ = 1 := rfl
                        omega
                      clear hw HV
                      go_wp2_with fail
                      go_roundg (M - (j + 1))
                      case measure => omega
                      case rel => exact ⟨j + 1, by go_num, by omega, by omega, HW⟩
                    · obtain rfl : j = M := by omega
                      have h7 := unhide HU
                      have h8 := unhide HV
                      have hsl : (hs.map turn).length = i := by rw [List.length_map, ← unhide HN]
                      have hLl : (L.map (· ++ nought)).length = j := by rw [List.length_map, ← unhide HM]
                      have ok' : ∀ h ∈ hs.map turn, h.ok := fun h hh => by
                        obtain ⟨q, hq, rfl⟩ := List.mem_map.1 hh
                        exact turn_ok ((unhide HH).ok2 q hq)
                      have rG0 := h7.row
                      have e7 : tk hs i = hs.map turn := by rw [unhide HN]; exact tk_all hs
                      have e8 : tx L j = L.map (· ++ nought) := by rw [unhide HM]; exact tx_all L
                      rw [e7, ← unhide HN] at rG0
                      have rG : wr.ownsRow w.heap.size 31 44 (.slice (some ⟨g, 0, none⟩) (i + 1) cap) (i + 1) (hC (hs.map turn) ++ mkL) := own_same rG0 fun b e => by
                        have e2 : b = g := by injection e with e; exact e.symm
                        subst e2
                        exact h8.fx.blk b (World.ownsRow.lt rG0 b rfl).2 (unhide HGG)
                      have rT := h8.row
                      rw [e8, ← unhide HM] at rT
                      have hz' : ∀ q ∈ L.map (· ++ nought), q.size ≤ 140737488351233 := fun q hq => by
                        obtain ⟨r, hr, rfl⟩ := List.mem_map.1 hq
                        have := unhide HZ r hr
                        rw [ByteArray.size_append]
                        have : ByteArray.size nought = 1 := rfl
                        omega
                      have bF : Below w.heap.size w wr := by
                        have b1 := bl_t (unhide HB4) (unhide bX)
                        have b2 := b1.trans (h7.fx.below b1.size fun b hb e => by
                          have := (World.ownsRow.lt rG0 g rfl).1
                          omega)
                        exact b2.trans (h8.fx.below b2.size fun b hb e => by
                          have q1 := (World.ownsRow.lt rT g2 rfl).1
                          have q2 := unhide HW2
                          omega)
                      obtain ⟨n1, wN, hrn, hon, hbn⟩ := now_run ok' (by omega) rG cap
                      obtain ⟨t1, wT, hrt, hot, hbt⟩ := txt_run (l := L.map (· ++ nought)) (by omega) (own_low rT hbn) cap2
                      rw [hsl] at hrn hon
                      rw [hLl] at hrt hot
                      obtain ⟨P2, hP2⟩ := ris_ex (pick (hs.map turn) (L.map (· ++ nought)))
                      have hP2l : P2.length ≤ 586406201463 := Nat.le_trans hP2.len (Nat.le_trans (pick_len _ _) (by omega))
                      have cF := hide (show Calls Try.prog 5 #[n1, t1] wT fun e w' => ∃ r, e = .returned r ∧ w'.ownsRow wT.heap.size 9 1 r P2.length (sv P2) ∧ Below wT.heap.size wT w' from rrootsP hP2 (by omega) (by omega) (own_hls2 ok' (by rw [hsl]; exact own_low hon hbt)) (own_sl (by rw [hLl]; exact hot)))
                      have bNT := bl_t hbn hbt
                      have cG := hide (show ∀ X, Below wT.heap.size wT X → Calls Try.prog 4 #[.slice (some ⟨g, 0, none⟩) i cap, .slice (some ⟨g2, 0, none⟩) j cap2] X fun e w' => ∃ r, e = .returned r ∧ w'.ownsRow X.heap.size 9 1 r P2.length (sv P2) ∧ Below X.heap.size X w' from fun X hX => by
                        have q1 := own_hls ok' (own_low rG (bl_t bNT hX)) cap
                        have q2 := own_sls (own_low rT (bl_t bNT hX)) cap2
                        rw [hsl] at q1
                        rw [hLl] at q2
                        exact rootsP hP2 (by omega) (by omega) hz' q1 q2)
                      have BF := hide (bl_t bF bNT)
                      clear h7 h8 rG0 rG rT hz' bF hon hot hbn hbt bNT HV HU ok'
                      go_upto_region 49 with (first | (at_builtin; refine wpList_append_run rfl _ _ 22 rfl _ _ rfl rfl hrn ?_) | (at_builtin; refine wpList_append_run rfl _ _ 23 rfl _ _ rfl rfl hrt ?_) | (go_at_call 5; refine (unhide cF).mono ?_; rintro e wQ ⟨rQ, rfl, hoQ, hbQ⟩))
                      have HQ := hide (And.intro hoQ hbQ)
                      clear hoQ hbQ hrn hrt cF
                      have BQ := hide (bl_t (unhide HQ).2 (Below.refl wQ.heap.size wQ).drew)
                      have hy1 : (i : Int) ≤ (cap : Int) := by omega
                      have hy2 : (j : Int) ≤ (cap2 : Int) := by omega
                      go_region_held3 (fun _ => True) (first | exact trivial) (first | (go_at_call 4; refine (unhide cG _ (unhide BQ)).mono ?_; rintro e wR ⟨rR, rfl, hoR, hbR⟩; have HR9 := hide (And.intro hoR hbR); clear hoR hbR) | (go_at_call 6; refine (namesP (X := wR) (l := P2) (by omega) (own_sl (unhide HR9).1) ((own_sl (own_low (unhide HQ).1 (bl_t (Below.refl wQ.heap.size wQ).drew (unhide HR9).2))))).mono ?_; rintro e wS ⟨rfl, hbS⟩))
                      go_wp2_with fail
                      go_ret
                      exact ⟨rfl, bl_t (unhide BF) (bl_t (unhide BQ) (bl_t (unhide HR9).2 hbS))⟩
end Go.Proofs.Ytmjdpddpphfpiaa
