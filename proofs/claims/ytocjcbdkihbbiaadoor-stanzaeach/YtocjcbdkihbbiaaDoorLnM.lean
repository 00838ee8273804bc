import Derived.Test.YtocjcbdkihbbiaaDoorSwA
import Derived.BigQuiet
import Derived.Test.YtocjcbdkihbbiaaDoorStX
import Derived.Test.YtocjcbdkihbbiaaDoorSpW
namespace Go.Proofs.YtocjcbdkihbbiaaDoor
open Go.RowKit

abbrev pad (t : Bs) (k : Nat) : Bs := t ++ List.replicate k 165
theorem pad_len (t : Bs) (k : Nat) : (pad t k).length = t.length + k := by simp [pad]
theorem pad_succ (t : Bs) (k : Nat) : pad t (k + 1) = pad t k ++ [165] := by simp [pad, List.replicate_succ']
theorem cap_le {W : World} {base : Nat} {qa : Option Addr} {n c m : Nat} {l : List Value} (h : W.ownsRow base 5 1 (.slice qa n c) m l) (hm : 0 < m) : m ≤ c := by
  rcases h.2 with ⟨h1, h2⟩ | ⟨g, cap, cur, h1, _, _, _, hs, _, _⟩
  · omega
  · cases h1
    first | exact hs | omega

set_option maxRecDepth 100000 in
set_option maxHeartbeats 2000000 in
theorem lent_any (t : Bs) (pa : Option Addr) (c : Nat) (w : World) (ht : t.length ≤ 140737488351232) (hR : Rb w pa t) :
    Calls Tryd.prog 27 #[.slice pa t.length c] w fun e w' => ∃ qa qc, e = .returned (.slice qa t.length qc) ∧ w'.ownsRow w.heap.size 5 1 (.slice qa (t.length + 70) qc) (t.length + 70) (encB (pad t 70)) ∧ Below w.heap.size w w' := by
  obtain ⟨i0, hi, hz0, hz1, hz2⟩ := info_parts info5
  have cC := hide (copied_wide t pa c w (by omega) hR)
  clear hR
  go_enter Tryd.func27, Tryd.ntmps27
  go_wp2_with (first | (go_at_call 12; refine (unhide cC).mono ?_; rintro e w1 ⟨qa, qc, rfl, ho, hb⟩; have HO1 := hide ho; have HB1 := hide hb; clear ho hb))
  clear cC
  go_loopw [3, 4] (fun lv iv wr => ∃ (k : Nat) (qa : Option Addr) (qc : Nat), k ≤ 70 ∧ iv = .int .i64 k ∧ lv = .slice qa (t.length + k) qc ∧ Hid (wr.ownsRow w.heap.size 5 1 (.slice qa (t.length + k) qc) (t.length + k) (encB (pad t k))) ∧ Hid (Below w.heap.size w wr)) (fun _ iv _ => 70 - (intOf iv).toNat)
  case atStart => exact ⟨0, qa, qc, Nat.zero_le _, rfl, rfl, hide (by have := unhide HO1; simpa [pad] using this), HB1⟩
  case round =>
    clear HO1 HB1
    obtain ⟨k, qa, qc, hk, rfl, rfl, HO, HB⟩ := hrel
    by_cases hlt : k < 70
    · have hz := (unhide HB).size
      have HT := hide (pad_succ t k)
      go_wp2_with (at_builtin; go_must (refine wpList_append_own_wide _ rfl _ _ 22 rfl w.heap.size 5 i0 (.int .u8 0) 1 1 Tryd.underlying22 hi hz0 hz1 hz2 rfl (by decide) _ _ _ rfl ((unhide HO).alloc _) ⟨wr.heap.size, 0, none⟩ 1 1 [.int .u8 165] rfl rfl (cell_one_new _ _ _) (by simp [Value.oneCell']) (by unfold maxLen; omega) (by omega) (by simp; omega) ?_); intro v2 w2 hown2 hgrow2 _; have HO2 := hide hown2; have HB2 := hide (((unhide HB).alloc hz _).grown hgrow2 (by simp; omega) (fun j e => ((unhide HO).lt j e).1)); obtain ⟨g2, cap2, rfl⟩ := ownsRow_succ hown2; clear hown2 hgrow2)
      go_roundw
      case rel => exact ⟨k + 1, some ⟨g2, 0, none⟩, cap2, by omega, by go_num, rfl, hide (by rw [unhide HT, encB_snoc]; exact unhide HO2), HB2⟩
      case measure => simp [intOf]; omega
    · obtain rfl : k = 70 := by omega
      have hc := cap_le (unhide HO) (by omega)
      have hc2 : t.length ≤ qc := by omega
      go_wp2
      go_ret
      exact ⟨qa, qc, rfl, unhide HO, unhide HB⟩

end Go.Proofs.YtocjcbdkihbbiaaDoor

namespace Go.Proofs.YtocjcbdkihbbiaaDoor
open Go.RowKit

/-- THE BYTE AT k, WITHIN AND BEYOND. -/
theorem still_at {W : World} {t : Bs} {L : Nat} (hL : t.length = L) {g o : Nat} {pa : Option Addr} (h1 : Rb W (some ⟨g, o, none⟩) (pad t 70)) (h2 : Rb W pa t) {k : Nat} (hk : k < L + 70) :
    (k < L → ∃ b p x, pa = some ⟨b, p, none⟩ ∧ W.cell? ⟨g, o + k, none⟩ = some (.int .u8 x) ∧ W.cell? ⟨b, p + k, none⟩ = some (.int .u8 x)) ∧ (¬ k < L → W.cell? ⟨g, o + k, none⟩ = some (.int .u8 165)) := by
  subst hL
  obtain ⟨g2, o2, e2, hq2⟩ := h1 (by rw [pad_len]; omega)
  cases e2
  have d1 := hq2 k (by rw [pad_len]; omega)
  refine ⟨fun h => ?_, fun h => ?_⟩
  · obtain ⟨b, p, rfl, hc2⟩ := h2 (by omega)
    have e1 : (pad t 70)[k]'(by rw [pad_len]; omega) = t[k] := List.getElem_append_left h
    rw [e1] at d1
    exact ⟨b, p, _, rfl, d1, hc2 k h⟩
  · have e1 : (pad t 70)[k]'(by rw [pad_len]; omega) = 165 := by
      unfold pad
      rw [List.getElem_append_right (by omega), List.getElem_replicate]
    rw [e1] at d1
    exact d1

set_option maxRecDepth 100000 in
set_option maxHeartbeats 4000000 in
theorem still_L (t : Bs) (L : Nat) (hL : t.length = L) (g o : Nat) (pa : Option Addr) (qc c : Nat) (w : World) (ht : L ≤ 140737488351232) (hq : L + 70 ≤ qc) (h1 : Rb w (some ⟨g, o, none⟩) (pad t 70)) (h2 : Rb w pa t) :
    Calls Tryd.prog 29 #[.slice (some ⟨g, o, none⟩) L qc, .slice pa L c] w fun e w' => e = .returned (.bool true) ∧ Below w.heap.size w w' := by
  have HA := hide (fun (k : Nat) (hk : k < L + 70) (W : World) (hb : Below w.heap.size w W) => still_at hL (h1.later hb) (h2.later hb) hk)
  clear h1 h2 hL
  go_enter Tryd.func29, Tryd.ntmps29
  go_wp2
  go_loopw [6] (fun iv wr => ∃ k : Nat, k ≤ L + 70 ∧ iv = .int .i64 k ∧ Hid (Below w.heap.size w wr)) (fun iv _ => L + 70 - (intOf iv).toNat)
  case atStart => exact ⟨0, Nat.zero_le _, rfl, hide (Below.refl _ _)⟩
  case round =>
    obtain ⟨k, hk, rfl, HB⟩ := hrel
    have HBd := hide (fun n => bl_t (unhide HB) (bl_drewN wr n))
    by_cases hlt : k < L + 70
    · have hx := unhide HA k hlt wr (unhide HB)
      clear HA
      by_cases hkt : k < L
      · obtain ⟨b, p, x, rfl, d1, d2⟩ := hx.1 hkt
        have hkz : (k : Int) < (L : Int) := by omega
        have hd2 : decide (L ≤ k) = false := by simp; omega
        clear hx
        go_wp2_with fail
        go_quiet (fail)
        go_wp2
        go_roundw
        case rel => exact ⟨k + 1, by omega, by go_num, hide (unhide HBd _)⟩
        case measure => simp [intOf]; omega
      · have d1 := hx.2 hkt
        have hd1 : decide (k < L) = false := by simp; omega
        have hd2 : decide (L ≤ k) = true := by simp; omega
        have hkz : (L : Int) ≤ (k : Int) := by omega
        clear hx
        go_wp2_with fail
        go_quiet (fail)
        go_wp2
        go_roundw
        case rel => exact ⟨k + 1, by omega, by go_num, hide (unhide HBd _)⟩
        case measure => simp [intOf]; omega
    · go_wp2
      go_ret
      exact ⟨rfl, unhide HB⟩

end Go.Proofs.YtocjcbdkihbbiaaDoor

namespace Go.Proofs.YtocjcbdkihbbiaaDoor
open Go.RowKit

abbrev lit2 : Bs := [88, 58, 32, 49, 10, 32, 121, 10, 32, 122, 10, 10, 89, 58, 10, 90, 58, 32, 50, 10]

theorem rb_blk {W : World} {g : Nat} {C : Array Value} {t : TypeId} {q : Nat × Nat} {l : Bs} (hb : W.heap[g]? = some (.cells C t q)) (hC : C.toList = encB l) : Rb W (some ⟨g, 0, none⟩) l := fun _ =>
  ⟨g, 0, rfl, fun i hi => by
    rw [Nat.zero_add]
    have h1 : W.cell? ⟨g, i, none⟩ = C[i]? := by simp [World.cell?, hb]
    rw [h1, ← Array.getElem?_toList, hC]
    simp [encB, hi]⟩

set_option maxRecDepth 100000 in
set_option maxHeartbeats 2000000 in
theorem other_any (w : World) :
    Calls Tryd.prog 31 #[] w fun e w' => ∃ qa qc, e = .returned (.slice qa 20 qc) ∧ 20 ≤ qc ∧ Rb w' qa lit2 ∧ Below w.heap.size w w' := by
  have kc := fun (w : World) (C : Array Value) (n c : Nat) => Lib.run_convert_bytes_const (P := Tryd.prog) w 22 5 C n c Tryd.underlying22 Tryd.underlying5
  go_enter Tryd.func31, Tryd.ntmps31
  go_wp2
  refine ⟨rfl, _, results_tmp (t := 0) (by kernel_rfl) _ _ _, _, _, rfl, ?_, rb_blk (World.alloc_heap_new w _) rfl, (Below.refl _ _).alloc (Nat.le_refl _) _⟩
  decide

end Go.Proofs.YtocjcbdkihbbiaaDoor

namespace Go.Proofs.YtocjcbdkihbbiaaDoor
open Go.RowKit

theorem own_at {W : World} {lo e s n : Nat} {v : Value} {xs : List Value} (h : W.ownsRow lo e s v n xs) {g : Nat} {c : Array Value} (hg : v.ownBlock = some g) (hc : W.heap[g]? = some (.cells c e (0, 0))) : lo ≤ g ∧ g < W.heap.size :=
  ⟨(ownsRow_blk h hg).choose_spec.2.1, (Array.getElem?_eq_some_iff.1 hc).1⟩
/-- WHAT LIES IN A WINDOW THAT NOBODY WRITES STAYS. -/
theorem RD.keepB {base : Nat} {W W2 : World} {v : Value} {ps : List (List Fd)} {vs : List Value} (h : RD base W v ps vs) (hk : ∀ q, base ≤ q → q < W.heap.size → W2.heap[q]? = W.heap[q]?) : RD base W2 v ps vs := by
  have key : ∀ {e s n : Nat} {v : Value} {xs : List Value}, W.ownsRow base e s v n xs → W2.ownsRow base e s v n xs := fun hr => ownsRow_same hr fun g c hg hc => hk g (own_at hr hg hc).1 (own_at hr hg hc).2
  refine ⟨h.len, key h.row, fun i u p h1 h2 => ?_⟩
  obtain ⟨ts, ht⟩ := h.each i u p h1 h2
  refine ⟨ts, ht.len, fun j t f h3 h4 => ?_, key ht.row⟩
  have hf := ht.each j t f h3 h4
  obtain ⟨b, c, h5, h6⟩ := hf.ls
  obtain ⟨b', c', h7, h8⟩ := hf.ns
  exact ⟨hf.nm, ⟨b, c, h5, key h6⟩, ⟨b', c', h7, key h8⟩⟩

/-- EACH PARAGRAPH IN A WINDOW OF ITS OWN, GAPS BETWEEN. -/
structure Wn (lo hi : Nat → Nat) (W : World) (vs : List Value) (ps : List (List Fd)) : Prop where
  ap : ∀ i j, i < j → j < vs.length → hi i ≤ lo j
  ea : ∀ (i : Nat) v p, vs[i]? = some v → ps[i]? = some p → Wh (lo i) (hi i) W v p
theorem Win.wn {bl base : Nat} {W : World} {vs : List Value} {ps : List (List Fd)} (h : Win bl base W vs ps) : ∃ lo hi, Wn lo hi W vs ps ∧ ∀ i, i < vs.length → bl ≤ lo i ∧ hi i ≤ base := by
  obtain ⟨c, h1, h2, h3, h4⟩ := h
  exact ⟨c, fun i => c (i + 1), ⟨fun i j hij _ => h1 _ _ hij, h4⟩, fun i hi => ⟨Nat.le_trans h2 (h1 0 i (Nat.zero_le _)), Nat.le_trans (h1 (i + 1) vs.length hi) h3⟩⟩
theorem Wn.join {lo hi lo2 hi2 : Nat → Nat} {W : World} {vs vs2 : List Value} {ps ps2 : List (List Fd)} (h : Wn lo hi W vs ps) (h2 : Wn lo2 hi2 W vs2 ps2) (hl : vs.length = ps.length) (hs : ∀ i j, i < vs.length → j < vs2.length → hi i ≤ lo2 j) :
    Wn (fun i => if i < vs.length then lo i else lo2 (i - vs.length)) (fun i => if i < vs.length then hi i else hi2 (i - vs.length)) W (vs ++ vs2) (ps ++ ps2) := by
  refine ⟨fun i j hij hj => ?_, fun i v p hv hp => ?_⟩
  · rw [List.length_append] at hj
    by_cases h1 : i < vs.length
    · by_cases h3 : j < vs.length
      · simp only [h1, h3, if_true]; exact h.ap i j hij h3
      · simp only [h1, h3, if_true, if_false]; exact hs i _ h1 (by omega)
    · have h3 : ¬ j < vs.length := by omega
      simp only [h1, h3, if_false]
      exact h2.ap _ _ (by omega) (by omega)
  · by_cases h1 : i < vs.length
    · simp only [h1, if_true]
      rw [List.getElem?_append_left h1] at hv
      rw [List.getElem?_append_left (by omega)] at hp
      exact h.ea i v p hv hp
    · simp only [h1, if_false]
      rw [List.getElem?_append_right (by omega)] at hv
      rw [List.getElem?_append_right (by omega), ← hl] at hp
      exact h2.ea _ v p hv hp

end Go.Proofs.YtocjcbdkihbbiaaDoor

namespace Go.Proofs.YtocjcbdkihbbiaaDoor
open Go.RowKit

def Fs.z : Fs := ⟨⟨[], [], []⟩, 0, 0, 0, 0⟩
def Fs.tv (x : Fs) : Tv := ⟨.string (ba x.f.nm), x.lv, x.av⟩
theorem range_getD {α β : Type} (F : α → β) (z : α) (xs : List α) : (List.range xs.length).map (fun k => F (xs.getD k z)) = xs.map F := by
  apply List.ext_getElem
  · simp
  · intro i h1 h2
    have hi : i < xs.length := by simpa using h2
    simp [List.getD, hi]
theorem flat_tv : ∀ xs : List Fs, flat (xs.map Fs.tv) = xs.flatMap cells3
  | [] => rfl
  | x :: r => by
    rw [List.map_cons, List.flatMap_cons, ← flat_tv r]
    rfl
theorem getD_mem {α : Type} (z : α) (xs : List α) {k : Nat} (h : k < xs.length) : xs.getD k z ∈ xs := by
  rw [List.getD_eq_getElem?_getD, List.getElem?_eq_getElem h]
  exact List.getElem_mem h
theorem pair_getD {xs : List Fs} {R : Fs → Nat} (h : xs.Pairwise fun x y => R x ≠ R y) {k m : Nat} (hk : k < xs.length) (hm : m < xs.length) (hne : k ≠ m) : R (xs.getD k Fs.z) ≠ R (xs.getD m Fs.z) := by
  rw [List.getD_eq_getElem?_getD, List.getElem?_eq_getElem hk, List.getD_eq_getElem?_getD, List.getElem?_eq_getElem hm]
  rw [List.pairwise_iff_getElem] at h
  rcases Nat.lt_or_gt_of_ne hne with hl | hl
  · exact h k m hk hm hl
  · exact fun e => h m k hm hk hl e.symm

theorem Wn.one {lo hi : Nat → Nat} {W : World} {vs : List Value} {ps : List (List Fd)} (h : Wn lo hi W vs ps) (hl : vs.length = ps.length) (hne : ∀ p ∈ ps, p ≠ []) (i : Nat) : ∃ (xs : List Fs) (g c : Nat), i < vs.length → ps[i]? = some (xs.map (·.f)) ∧ vs[i]? = some (.slice (some ⟨g, 0, none⟩) xs.length c) ∧ PF (lo i) W (.slice (some ⟨g, 0, none⟩) xs.length c) xs ∧ (lo i ≤ g ∧ g < hi i) ∧ ∀ x ∈ xs, (lo i ≤ x.lg ∧ x.lg < hi i) ∧ (lo i ≤ x.ag ∧ x.ag < hi i) := by
  by_cases hi' : i < vs.length
  · have hp : i < ps.length := by omega
    obtain ⟨xs, h1, h2, h3, h4⟩ := (h.ea i vs[i] ps[i] (List.getElem?_eq_getElem hi') (List.getElem?_eq_getElem hp)).sh
    have hx : xs ≠ [] := fun e => hne ps[i] (List.getElem_mem hp) (by rw [← h1, e]; rfl)
    obtain ⟨n, hn⟩ : ∃ n, xs.length = n + 1 := ⟨xs.length - 1, by have := List.length_pos_iff.2 hx; omega⟩
    have hr := h2.row
    rw [hn] at hr
    obtain ⟨g, c, cur, hv, _⟩ := slice_of (n := n) hr
    rw [← hn] at hv
    rw [hv] at h2 h3
    refine ⟨xs, g, c, fun _ => ⟨by rw [List.getElem?_eq_getElem hp, h1], by rw [List.getElem?_eq_getElem hi', hv], h2, ⟨(ownsRow_blk h2.row (g := g) rfl).choose_spec.2.1, h3 g rfl⟩, fun x hx => ⟨⟨?_, (h4 x hx).1⟩, ⟨?_, (h4 x hx).2⟩⟩⟩⟩
    · exact (ownsRow_blk (h2.ok x hx).l (g := x.lg) rfl).choose_spec.2.1
    · exact (ownsRow_blk (h2.ok x hx).a (g := x.ag) rfl).choose_spec.2.1
  · exact ⟨[], 0, 0, fun h => absurd h hi'⟩

/-- WHAT SPOIL IS GIVEN. -/
theorem Wn.sp {lo hi : Nat → Nat} {W : World} {vs : List Value} {ps : List (List Fd)} (h : Wn lo hi W vs ps) (hl : vs.length = ps.length) (hne : ∀ p ∈ ps, p ≠ []) (Pb B : Nat) (hB : ∀ i, i < vs.length → B ≤ lo i) (hc : ∀ i v, vs[i]? = some v → W.cell? ⟨Pb, i, none⟩ = some v) (hT : ∃ c, W.heap[Pb]? = some (.cells c 39 (0, 0))) :
    ∃ (d : Sd) (Nm : Nat → Nat → ByteArray) (L A : Nat → Nat → List Value), d.n = vs.length ∧ Sp B Pb d Nm L A W ∧ (∀ q, d.T q → ∃ i, i < vs.length ∧ lo i ≤ q ∧ q < hi i) ∧ ∀ i, i < d.n → ∃ p, ps[i]? = some p ∧ d.pl i = p.length ∧ ∀ k, k < d.pl i → ∃ f, p[k]? = some f ∧ d.ll i k = f.ls.length ∧ d.al i k = f.ns.length := by
  obtain ⟨X, hX⟩ := Classical.axiomOfChoice (fun i => h.one hl hne i)
  obtain ⟨G, hG⟩ := Classical.axiomOfChoice hX
  obtain ⟨C, hC⟩ := Classical.axiomOfChoice hG
  clear hX hG
  have apart : ∀ i j, i < vs.length → j < vs.length → i ≠ j → ∀ q r, lo i ≤ q → q < hi i → lo j ≤ r → r < hi j → q ≠ r := fun i j h1 h2 hij q r a b c' e => by
    rcases Nat.lt_or_gt_of_ne hij with hlt | hlt
    · have := h.ap i j hlt h2; omega
    · have := h.ap j i hlt h1; omega
  refine ⟨⟨vs.length, fun i => (X i).length, G, C, fun i k => ((X i).getD k Fs.z).lg, fun i k => ((X i).getD k Fs.z).f.ls.length, fun i k => ((X i).getD k Fs.z).lc, fun i k => ((X i).getD k Fs.z).ag, fun i k => ((X i).getD k Fs.z).f.ns.length, fun i k => ((X i).getD k Fs.z).ac⟩, fun i k => ba ((X i).getD k Fs.z).f.nm, fun i k => strs ((X i).getD k Fs.z).f.ls, fun i k => ints ((X i).getD k Fs.z).f.ns, rfl, ?_, ?_, ?_⟩
  · refine ⟨fun i hi' => hc i _ (hC i hi').2.1, hT, fun i hi' => ?_, fun i k hi' hk => ownsRow_lower ((hC i hi').2.2.1.ok _ (getD_mem _ _ hk)).l (hB i hi'), fun i k hi' hk => ownsRow_lower ((hC i hi').2.2.1.ok _ (getD_mem _ _ hk)).a (hB i hi'), ?_, ?_, ?_⟩
    · have hr := ownsRow_lower (hC i hi').2.2.1.row (hB i hi')
      rw [← flat_tv, ← range_getD Fs.tv Fs.z (X i)] at hr
      exact hr
    · exact fun i j h1 h2 hij => apart i j h1 h2 hij _ _ (hC i h1).2.2.2.1.1 (hC i h1).2.2.2.1.2 (hC j h2).2.2.2.1.1 (hC j h2).2.2.2.1.2
    · intro i k j m h1 hk h2 hm hd
      by_cases hij : i = j
      · subst hij
        exact pair_getD (hC i h1).2.2.1.dl hk hm (by rcases hd with hd | hd; exact absurd rfl hd; exact hd)
      · have a := ((hC i h1).2.2.2.2 _ (getD_mem Fs.z _ hk)).1
        have b := ((hC j h2).2.2.2.2 _ (getD_mem Fs.z _ hm)).1
        exact apart i j h1 h2 hij _ _ a.1 a.2 b.1 b.2
    · intro i k j m h1 hk h2 hm hd
      by_cases hij : i = j
      · subst hij
        exact pair_getD (hC i h1).2.2.1.da hk hm (by rcases hd with hd | hd; exact absurd rfl hd; exact hd)
      · have a := ((hC i h1).2.2.2.2 _ (getD_mem Fs.z _ hk)).2
        have b := ((hC j h2).2.2.2.2 _ (getD_mem Fs.z _ hm)).2
        exact apart i j h1 h2 hij _ _ a.1 a.2 b.1 b.2
  · rintro q ⟨i, hi', rfl | ⟨k, hk, rfl | rfl⟩⟩
    · exact ⟨i, hi', (hC i hi').2.2.2.1⟩
    · exact ⟨i, hi', ((hC i hi').2.2.2.2 _ (getD_mem Fs.z _ hk)).1⟩
    · exact ⟨i, hi', ((hC i hi').2.2.2.2 _ (getD_mem Fs.z _ hk)).2⟩
  · intro i hi'
    refine ⟨_, (hC i hi').1, by simp, fun k hk => ⟨((X i).getD k Fs.z).f, ?_, rfl, rfl⟩⟩
    have hk' : k < (X i).length := hk
    simp [List.getD, hk']

end Go.Proofs.YtocjcbdkihbbiaaDoor

namespace Go.Proofs.YtocjcbdkihbbiaaDoor
open Go.RowKit

def tot (ps : List (List Fd)) : Nat := (ps.map List.length).sum
theorem tot_snoc (ps : List (List Fd)) (p : List Fd) : tot (ps ++ [p]) = tot ps + p.length := by simp [tot]
theorem tot_app (ps qs : List (List Fd)) : tot (ps ++ qs) = tot ps + tot qs := by simp [tot]
theorem take_more (p : List Fd) (k : Nat) (s : Bs) : (takeP p k s).2.length ≤ p.length + 1 := by
  unfold takeP
  split
  · exact Nat.le_succ _
  · split
    · unfold goP
      split
      · exact Nat.le_succ _
      · rcases List.eq_nil_or_concat p with rfl | ⟨q, f, rfl⟩
        · exact Nat.le_succ _
        · simp only [List.concat_eq_append] at *
          rw [extL_snoc]
          simp
    · split
      · unfold beP
        split
        · split
          · exact Nat.le_succ _
          · simp
        · exact Nat.le_succ _
      · exact Nat.le_succ _
/-- HOW MUCH IS READ IN n LINES. -/
structure Sm (n : Nat) (st : St) : Prop where
  t : tot st.all + st.p.length ≤ n
  a : ∀ p ∈ st.all, p ≠ [] ∧ bd n p
  b : Bd n st
theorem Sm.shut {n : Nat} {st : St} (h : Sm n st) : tot (shut st) ≤ n ∧ ∀ p ∈ shut st, p ≠ [] ∧ bd n p := by
  have := h.t
  unfold Go.Proofs.YtocjcbdkihbbiaaDoor.shut
  split
  · exact ⟨by omega, h.a⟩
  · rename_i h0
    refine ⟨by rw [tot_snoc]; exact h.t, fun p hp => ?_⟩
    rcases List.mem_append.1 hp with hp | hp
    · exact h.a p hp
    · obtain rfl : p = st.p := by simpa using hp
      exact ⟨fun e => h0 (by rw [e]; rfl), h.b.b⟩
theorem Sm.step {n : Nat} {st : St} (h : Sm n st) (x : Nat × Bs) : Sm (n + 1) (stp st x) := by
  have hb := h.b.step x
  have ht := h.t
  have up : ∀ p ∈ st.all, p ≠ [] ∧ bd (n + 1) p := fun p hp => ⟨(h.a p hp).1, (h.a p hp).2.mono (by omega)⟩
  revert hb
  unfold stp
  split
  · exact fun hb => ⟨by omega, up, hb⟩
  · split
    · intro hb
      have hs := h.shut
      exact ⟨by show tot (Go.Proofs.YtocjcbdkihbbiaaDoor.shut st) + 0 ≤ n + 1; omega, fun p hp => ⟨(hs.2 p hp).1, (hs.2 p hp).2.mono (by omega)⟩, hb⟩
    · split
      · intro hb
        have := take_more st.p x.1 x.2
        exact ⟨by show tot st.all + (takeP st.p x.1 x.2).2.length ≤ n + 1; omega, up, hb⟩
      · exact fun hb => ⟨by show tot st.all + st.p.length ≤ n + 1; omega, up, hb⟩
theorem Sm.foldl (xs : List (Nat × Bs)) : ∀ (n : Nat) (st : St), Sm n st → Sm (n + xs.length) (xs.foldl stp st) := by
  induction xs with
  | nil => intro n st h; exact h
  | cons x r ih =>
    intro n st h
    have := ih (n + 1) (stp st x) (h.step x)
    rw [List.length_cons, show n + (r.length + 1) = n + 1 + r.length by omega]
    exact this
theorem Sm.run (xs : List (Nat × Bs)) : Sm xs.length (runL xs) := by
  have := Sm.foldl xs 0 st0 ⟨Nat.le_refl _, fun p hp => (by cases hp), ⟨bd_nil _, nz_nil, Nat.le_refl _⟩⟩
  rwa [Nat.zero_add] at this

/-- THE FIELDS AHEAD, AS A SUM. -/
theorem Sd.s_take (d : Sd) (ps : List (List Fd)) : ∀ n, n ≤ ps.length → (∀ i, i < n → ∃ p, ps[i]? = some p ∧ d.pl i = p.length) → d.s n = tot (ps.take n)
  | 0, _, _ => rfl
  | n + 1, hn, h => by
    obtain ⟨p, hp, e⟩ := h n (by omega)
    have hlt : n < ps.length := by omega
    rw [List.getElem?_eq_getElem hlt] at hp
    cases hp
    rw [List.take_succ_eq_append_getElem hlt, tot_snoc, ← Sd.s_take d ps n (by omega) (fun i hi => h i (by omega)), ← e]
    rfl
theorem Sd.s_tot (d : Sd) (ps : List (List Fd)) (h : ∀ i, i < ps.length → ∃ p, ps[i]? = some p ∧ d.pl i = p.length) : d.s ps.length = tot ps := by
  rw [Sd.s_take d ps ps.length (Nat.le_refl _) h, List.take_length]
theorem len_tot : ∀ ps : List (List Fd), (∀ p ∈ ps, p ≠ []) → ps.length ≤ tot ps
  | [], _ => Nat.le_refl _
  | p :: r, h => by
    have h1 := List.length_pos_iff.2 (h p (by simp))
    have h2 := len_tot r (fun q hq => h q (by simp [hq]))
    simp only [tot, List.map_cons, List.sum_cons, List.length_cons] at h2 ⊢
    omega
/-- HOW MUCH A TEXT HOLDS. -/
theorem parse_sm (t : Bs) : tot (shut (parseT t)) ≤ t.length ∧ (shut (parseT t)).length ≤ t.length ∧ ∀ p ∈ shut (parseT t), p ≠ [] ∧ bd t.length p := by
  have h := (Sm.run (numb 1 (linesL t))).shut
  have hl := linesL_len t.length t (Nat.le_refl _)
  rw [numb_len] at h
  have h2 := len_tot (shut (parseT t)) (fun p hp => (h.2 p hp).1)
  have h1 : tot (shut (parseT t)) ≤ (linesL t).length := h.1
  exact ⟨by omega, by omega, fun p hp => ⟨(h.2 p hp).1, (h.2 p hp).2.mono hl⟩⟩

end Go.Proofs.YtocjcbdkihbbiaaDoor

namespace Go.Proofs.YtocjcbdkihbbiaaDoor
open Go.RowKit

/-- SPOIL OF PARAGRAPHS IN WINDOWS OF THEIR OWN. -/
theorem spoil_wn {lo hi : Nat → Nat} {W : World} {vs : List Value} {ps : List (List Fd)} (h : Wn lo hi W vs ps) (hl : vs.length = ps.length) (hne : ∀ p ∈ ps, p ≠ [] ∧ bd 1073741824 p) (ht : tot ps ≤ 1073741824) (Pb B c : Nat) (hBw : B ≤ W.heap.size) (hB : ∀ i, i < vs.length → B ≤ lo i) (hrow : W.ownsRow B 39 1 (.slice (some ⟨Pb, 0, none⟩) vs.length c) vs.length vs) :
    Calls Tryd.prog 30 #[.slice (some ⟨Pb, 0, none⟩) vs.length c] W fun e W2 => e = .returned (.bool true) ∧ Env W W2 ∧ W.heap.size ≤ W2.heap.size ∧ ∀ q, q < W.heap.size → (∀ i, i < vs.length → lo i ≤ q → hi i ≤ q) → W2.heap[q]? = W.heap[q]? := by
  obtain ⟨cp, hcp, _⟩ := ownsRow_blk hrow (g := Pb) rfl
  obtain ⟨d, Nm, L, A, hn, hS, hT, hp⟩ := h.sp hl (fun p hp => (hne p hp).1) Pb B hB (fun i v hv => by
    have := hrow.cells (g := Pb) rfl i v hv
    rw [Addr.add_mid, Nat.zero_add] at this
    exact this) ⟨cp, hcp⟩
  have hlen := len_tot ps (fun p hp => (hne p hp).1)
  have hs : d.s d.n = tot ps := by
    rw [hn, hl]
    exact Sd.s_tot d ps (fun i hi => (hp i (by omega)).imp fun p h => ⟨h.1, h.2.1⟩)
  rw [← hn]
  refine (spoil_any B Pb c d Nm L A W hS hBw (by omega) (fun i hi => ?_) (by omega) (fun i k hi hk => ?_)).mono ?_
  · obtain ⟨p, h1, h2, _⟩ := hp i hi
    rw [h2]
    exact (hne p (List.mem_of_getElem? h1)).2.1
  · obtain ⟨p, h1, h2, h3⟩ := hp i hi
    obtain ⟨f, h4, h5, h6⟩ := h3 k hk
    rw [h5, h6]
    exact (hne p (List.mem_of_getElem? h1)).2.2 f (List.mem_of_getElem? h4)
  · rintro e W2 ⟨rfl, hF⟩
    refine ⟨rfl, hF.env, hF.size, fun q hq hw => hF.blk q hq (fun hTq => ?_)⟩
    obtain ⟨i, h1, h2, h3⟩ := hT q hTq
    have := hw i (by omega) h2
    omega

end Go.Proofs.YtocjcbdkihbbiaaDoor

namespace Go.Proofs.YtocjcbdkihbbiaaDoor
open Go.RowKit

/-- THE PARAGRAPHS THAT ARE HANDED OUT. -/
def outP (t : Bs) : List (List Fd) := if (pOut t).2 = 0 then shut (parseT t) else []
theorem outP_sm (t : Bs) : tot (outP t) ≤ t.length ∧ (outP t).length ≤ t.length ∧ ∀ p ∈ outP t, p ≠ [] ∧ bd t.length p := by
  unfold outP
  split
  · exact parse_sm t
  · exact ⟨Nat.zero_le _, Nat.zero_le _, fun p hp => (by cases hp)⟩
/-- OUR PARAGRAPHS AS THEY ARE HANDED OUT. -/
structure PD (lo hi : Nat) (W : World) (v : Value) (ps : List (List Fd)) (vs : List Value) : Prop where
  len : vs.length = ps.length
  row : W.ownsRow lo 39 1 v vs.length vs
  win : Win lo hi W vs ps
theorem win_nil (n : Nat) (W : World) : Win n n W [] [] := ⟨fun _ => n, fun _ _ _ => Nat.le_refl _, Nat.le_refl _, Nat.le_refl _, fun i v p h => by simp at h⟩
theorem rParse_o (t : Bs) (pa : Option Addr) (c : Nat) (w : World) (hc : t.length ≤ c) (hR : Rb w pa t) :
    Calls Tryd.prog 32 #[.slice pa t.length c] w fun e w' => ∃ v vs, e = .returned (.tuple #[v, .int .i64 (pOut t).1, .int .i64 (pOut t).2]) ∧ Below w.heap.size w w' ∧ RD w.heap.size w' v (outP t) vs := by
  refine (rParse_any t pa c w hc hR).mono ?_
  rintro e w' ⟨v, vs, rfl, hb, h1, h2⟩
  by_cases h0 : (pOut t).2 = 0
  · exact ⟨v, vs, rfl, hb, by unfold outP; rw [if_pos h0]; exact h2 h0⟩
  · refine ⟨v, [], rfl, hb, ?_⟩
    unfold outP
    rw [if_neg h0, h1 h0]
    exact RD.nil _ _
theorem Parse_o (t : Bs) (pa : Option Addr) (c : Nat) (w : World) (ht : t.length ≤ 140737488351232) (hG : Glob w) (hR : Rb w pa t) :
    Calls Tryd.prog 11 #[.slice pa t.length c] w fun e w' => ∃ v vs, e = .returned (.tuple #[v, .int .i64 (pOut t).1, .int .i64 (pOut t).2]) ∧ Below w.heap.size w w' ∧ PD w.heap.size w'.heap.size w' v (outP t) vs := by
  refine (Parse_win t pa c w (by omega) hG (fun W3 hbW => (hR.later hbW).cv c)).mono ?_
  rintro e w' ⟨v, rfl, hb, h1, h2⟩
  by_cases h0 : (pOut t).2 = 0
  · obtain ⟨vs, a1, a2, a3⟩ := h2 h0
    refine ⟨v, vs, rfl, hb, ?_⟩
    unfold outP
    rw [if_pos h0]
    exact ⟨a1, a2, a3⟩
  · refine ⟨v, [], rfl, hb, ?_⟩
    unfold outP
    rw [if_neg h0, h1 h0]
    exact ⟨rfl, World.ownsRow_nil _ _ _ _, ((win_nil _ _).mono hb.size)⟩

end Go.Proofs.YtocjcbdkihbbiaaDoor

namespace Go.Proofs.YtocjcbdkihbbiaaDoor
open Go.RowKit

theorem Wh.rp {lo hi : Nat} {W : World} {v : Value} {p : List Fd} (h : Wh lo hi W v p) : ∃ ts, RP lo W v p ts := by
  obtain ⟨xs, rfl, h2, _⟩ := h.sh
  refine ⟨xs.map Fs.tv, by simp, fun i t f h3 h4 => ?_, ?_⟩
  · obtain ⟨x, hx, rfl⟩ : ∃ x, xs[i]? = some x ∧ x.tv = t := by simpa using h3
    have hf : x.f = f := by
      rw [List.getElem?_map, hx] at h4
      simpa using h4
    subst hf
    have hk := h2.ok x (List.mem_of_getElem? hx)
    exact ⟨rfl, ⟨x.lg, x.lc, rfl, hk.l⟩, ⟨x.ag, x.ac, rfl, hk.a⟩⟩
  · rw [flat_tv, List.length_map]
    exact h2.row
theorem PD.rd {lo hi : Nat} {W : World} {v : Value} {ps : List (List Fd)} {vs : List Value} (h : PD lo hi W v ps vs) : RD lo W v ps vs :=
  ⟨h.len, by rw [← h.len]; exact h.row, fun i u p h1 h2 => (h.win.each i u p h1 h2).rp⟩
theorem outP_le (t : Bs) : tot (outP t) ≤ 16777216 ∧ (outP t).length ≤ 16777216 ∧ ∀ p ∈ outP t, p ≠ [] ∧ bd 16777216 p := by
  by_cases h : 16777216 < t.length
  · have : outP t = [] := by
      unfold outP pOut
      rw [if_pos h]
      rfl
    rw [this]
    exact ⟨Nat.zero_le _, Nat.zero_le _, fun p hp => (by cases hp)⟩
  · have hs := outP_sm t
    exact ⟨by omega, by omega, fun p hp => ⟨(hs.2.2 p hp).1, (hs.2.2 p hp).2.mono (by omega)⟩⟩
theorem lit2_two : (outP lit2).length = 2 := by kernel_rfl
/-- ALIKE OF WHAT BOTH HAND OUT. -/
theorem alike_o (t : Bs) {b1 b2 : Nat} {W : World} {v u : Value} {vs us : List Value} (h1 : RD b1 W v (outP t) vs) (h2 : RD b2 W u (outP t) us) :
    Calls Tryd.prog 26 #[v, u] W fun e w' => e = .returned (.bool true) ∧ Below W.heap.size W w' := by
  obtain ⟨va, vc, rfl⟩ := h1.shape
  obtain ⟨ua, uc, rfl⟩ := h2.shape
  have hs := outP_le t
  exact alike_yes (outP t) va ua vc uc W (by omega) (fun p hp => (hs.2.2 p hp).2) h1.docC h2.docC

end Go.Proofs.YtocjcbdkihbbiaaDoor

namespace Go.Proofs.YtocjcbdkihbbiaaDoor
open Go.RowKit

theorem num_any (n : Nat) (w : World) :
    Calls Tryd.prog 21 #[.int .i64 n] w fun e w' => e = .returned (.int .i64 n) ∧ Below w.heap.size w w' := by
  go_enter Tryd.func21, Tryd.ntmps21
  go_wp2
  first | exact ⟨rfl, Below.refl _ _⟩ | (go_ret; exact ⟨rfl, Below.refl _ _⟩) | exact ⟨rfl, _, results_tmp (t := 2) (by kernel_rfl) _ _ _, rfl, Below.refl _ _⟩

/-- ALL THAT STANDS WHEN ALL HAS BEEN READ. -/
structure Kp (t : Bs) (g : Nat) (pa : Option Addr) (na nb nx ny nz nc nd : Nat) (va vb vx vy vz vc vd : Value) (vsa vsb vsx vsy vsz vsc vsd : List Value) (W : World) : Prop where
  a : RD na W va (outP t) vsa
  b : RD nb W vb (outP t) vsb
  x : RD nx W vx (outP lit2) vsx
  y : RD ny W vy (outP lit2) vsy
  z : RD nz W vz (outP t) vsz
  c : RD nc W vc (outP t) vsc
  d : RD nd W vd (outP lit2) vsd
  g : Rb W (some ⟨g, 0, none⟩) (pad t 70)
  t : Rb W pa t
theorem Kp.later {t : Bs} {g : Nat} {pa : Option Addr} {na nb nx ny nz nc nd : Nat} {va vb vx vy vz vc vd : Value} {vsa vsb vsx vsy vsz vsc vsd : List Value} {W W2 : World} (h : Kp t g pa na nb nx ny nz nc nd va vb vx vy vz vc vd vsa vsb vsx vsy vsz vsc vsd W) (hb : Below W.heap.size W W2) : Kp t g pa na nb nx ny nz nc nd va vb vx vy vz vc vd vsa vsb vsx vsy vsz vsc vsd W2 :=
  ⟨h.a.later hb, h.b.later hb, h.x.later hb, h.y.later hb, h.z.later hb, h.c.later hb, h.d.later hb, h.g.later hb, h.t.later hb⟩

end Go.Proofs.YtocjcbdkihbbiaaDoor

namespace Go.Proofs.YtocjcbdkihbbiaaDoor
open Go.RowKit

theorem append_zero {P : Program} (w : World) (t ty e : TypeId) (i : TypeInfo) (ht : P.underlying t = some (.slice e)) (hi : P.info? e = some i) (sa : Option Addr) (n c : Nat) (hnc : n ≤ c) (a : Option Addr) (c2 : Nat) :
    (Builtin.append_ #[t, t] ty #[.slice sa n c, .slice a 0 c2]).run P w = .ok (.slice sa n c) w := by
  have hl : ∀ (x : Addr), (loadCells x 0).run P w = .ok #[] w := fun x => by simpa using run_loadCells_list (P := P) w x [] (by simp)
  cases a <;> cases sa <;> simp [Builtin.append_, run_underlying ht, sizeOf, typeInfo, hi, Builtin.lenOf, Builtin.firstCells, storeCells, hl, hnc]
/-- A LIST BEHIND A ROW OF OUR OWN. -/
theorem app_src {P : Program} (t ty e : TypeId) (i : TypeInfo) (z : Value) (size bytes : Nat) (ht : P.underlying t = some (.slice e)) (hi : P.info? e = some i) (hz : i.zero = some z) (hsize : i.size = size) (hby : i.bytes = bytes) (hzs : z.cells.size = size) (hsz : 0 < size)
    (B n m : Nat) (v : Value) (xs ys : List Value) (W : World) (hB : B ≤ W.heap.size) (hown : W.ownsRow B e size v n xs) (hy : ys.length = m * size) (h1 : ∀ u ∈ ys, u.oneCell' = true) (hn : (n + m) * bytes ≤ 140737488355328) (h63 : n + m ≤ maxLen)
    (xa : Option Addr) (xc : Nat) (hsrc : m = 0 ∨ ∃ b o, xa = some ⟨b, o, none⟩ ∧ ∀ j u, ys[j]? = some u → W.cell? ⟨b, o + j, none⟩ = some u) :
    ∃ v1 W1, (Builtin.append_ #[t, t] ty #[v, .slice xa m xc]).run P W = .ok v1 W1 ∧ W1.ownsRow B e size v1 (n + m) (xs ++ ys) ∧ Below B W W1 := by
  have hk1 : ∀ k, v.ownBlock = some k → B ≤ k := fun k hk => (hown.lt k hk).1
  rcases hsrc with rfl | ⟨b, o, rfl, hc⟩
  · obtain rfl : ys = [] := List.length_eq_zero_iff.1 (by omega)
    rw [List.append_nil, Nat.add_zero]
    rcases hown.2 with ⟨rfl, h0⟩ | ⟨g, cap, cur, rfl, h2, h3, h4, h5⟩
    · exact ⟨_, _, append_zero W t ty e i ht hi none 0 0 (Nat.le_refl _) xa xc, hown, Below.refl _ _⟩
    · have hcap : n ≤ cap := by
        first | exact h4 | omega | exact h4.1 | (have := h5; omega)
      exact ⟨_, _, append_zero W t ty e i ht hi _ n cap hcap xa xc, hown, Below.refl _ _⟩
  · obtain ⟨v1, W1, hr, h2, h3, _, h5⟩ := run_append_own_at (P := P) W B t ty e i z size bytes ht hi hz hsize hby hzs hsz v n xs hown ⟨b, o, none⟩ m xc ys hy
      (fun j u hj => by rw [Addr.add_mid]; exact hc j u hj) h1 h63 hn hB
    exact ⟨v1, W1, hr, h2, (Below.refl B W).grown h3 hB hk1⟩

theorem RD.src {base : Nat} {W : World} {va : Option Addr} {n c : Nat} {ps : List (List Fd)} {vs : List Value} (h : RD base W (.slice va n c) ps vs) : n = ps.length ∧ (ps.length = 0 ∨ ∃ b, va = some ⟨b, 0, none⟩ ∧ b < W.heap.size ∧ ∀ j u, vs[j]? = some u → W.cell? ⟨b, j, none⟩ = some u) := by
  obtain ⟨a', c', e⟩ := h.shape
  cases e
  refine ⟨rfl, ?_⟩
  by_cases h0 : ps.length = 0
  · exact .inl h0
  · rcases h.row.2 with ⟨_, e⟩ | ⟨g, cap, cur, e, _⟩
    · exact absurd e h0
    · cases e
      have := row_cells h.row
      exact .inr ⟨g, rfl, this.1, this.2.2⟩
theorem RD.ones {base : Nat} {W : World} {v : Value} {ps : List (List Fd)} {vs : List Value} (h : RD base W v ps vs) : ∀ u ∈ vs, u.oneCell' = true := fun u hu => by
  obtain ⟨i, hi, e⟩ := List.mem_iff_getElem.1 hu
  have hp : i < ps.length := by have := h.len; omega
  obtain ⟨ts, ht⟩ := h.each i u ps[i] (by rw [List.getElem?_eq_getElem hi, e]) (List.getElem?_eq_getElem hp)
  obtain ⟨a, c, rfl⟩ := ht.shape
  rfl

/-- THE ROW OF ALL PARAGRAPHS THAT ARE WRITTEN OVER. -/
theorem all_row {t : Bs} {la lx lz : Nat} {aa xa za : Option Addr} {na nx nz ac xc zc : Nat} {vsa vsx vsz : List Value} {W : World} (ty1 ty2 ty3 : TypeId)
    (hA : RD la W (.slice aa na ac) (outP t) vsa) (hX : RD lx W (.slice xa nx xc) (outP lit2) vsx) (hZ : RD lz W (.slice za nz zc) (outP t) vsz) :
    ∃ v1 W1 v2 W2 g cap W3, (Builtin.append_ #[24, 24] ty1 #[.slice (some ⟨W.heap.size, 0, none⟩) 0 0, .slice aa na ac]).run Tryd.prog (W.alloc (.cells #[] 39)) = .ok v1 W1 ∧
      (Builtin.append_ #[24, 24] ty2 #[v1, .slice xa nx xc]).run Tryd.prog W1 = .ok v2 W2 ∧
      (Builtin.append_ #[24, 24] ty3 #[v2, .slice za nz zc]).run Tryd.prog W2 = .ok (.slice (some ⟨g, 0, none⟩) (vsa ++ vsx ++ vsz).length cap) W3 ∧
      W3.ownsRow W.heap.size 39 1 (.slice (some ⟨g, 0, none⟩) (vsa ++ vsx ++ vsz).length cap) (vsa ++ vsx ++ vsz).length (vsa ++ vsx ++ vsz) ∧ Below W.heap.size W W3 := by
  obtain ⟨i0, hi, hz0, hz1, hz2⟩ := info_parts info39
  have la1 := (outP_le t).2.1
  have lx1 := lit2_two
  obtain ⟨ea, sa⟩ := hA.src
  obtain ⟨ex, sx⟩ := hX.src
  obtain ⟨ez, sz⟩ := hZ.src
  have l1 := hA.len
  have l2 := hX.len
  have l3 := hZ.len
  have hb0 : Below W.heap.size W (W.alloc (.cells #[] 39)) := (Below.refl _ W).alloc (Nat.le_refl _) _
  have ho0 : (W.alloc (.cells #[] 39)).ownsRow W.heap.size 39 1 (.slice (some ⟨W.heap.size, 0, none⟩) 0 0) 0 [] := World.ownsRow_lit W #[] 0 (Nat.le_refl _) (Nat.zero_le _) (by simp)
  obtain ⟨v1, W1, r1, o1, b1⟩ := app_src (P := Tryd.prog) 24 ty1 39 i0 (.slice none 0 0) 1 24 Tryd.underlying24 hi hz0 hz1 hz2 rfl (by decide) W.heap.size 0 na _ [] vsa _ hb0.size ho0 (by omega) hA.ones (by omega) (by unfold maxLen; omega) aa ac
    (by
      rcases sa with h | ⟨b, h1, h2, h3⟩
      · exact .inl (by omega)
      · exact .inr ⟨b, 0, h1, fun j u hj => by rw [Nat.zero_add]; exact (hb0.cell (p := ⟨b, j, none⟩) h2).trans (h3 j u hj)⟩)
  have b01 := hb0.trans b1
  obtain ⟨v2, W2, r2, o2, b2⟩ := app_src (P := Tryd.prog) 24 ty2 39 i0 (.slice none 0 0) 1 24 Tryd.underlying24 hi hz0 hz1 hz2 rfl (by decide) W.heap.size (0 + na) nx _ ([] ++ vsa) vsx _ b01.size o1 (by omega) hX.ones (by omega) (by unfold maxLen; omega) xa xc
    (by
      rcases sx with h | ⟨b, h1, h2, h3⟩
      · exact .inl (by omega)
      · exact .inr ⟨b, 0, h1, fun j u hj => by rw [Nat.zero_add]; exact (b01.cell (p := ⟨b, j, none⟩) h2).trans (h3 j u hj)⟩)
  have b02 := b01.trans b2
  obtain ⟨v3, W3, r3, o3, b3⟩ := app_src (P := Tryd.prog) 24 ty3 39 i0 (.slice none 0 0) 1 24 Tryd.underlying24 hi hz0 hz1 hz2 rfl (by decide) W.heap.size (0 + na + nx) nz _ ([] ++ vsa ++ vsx) vsz _ b02.size o2 (by omega) hZ.ones (by omega) (by unfold maxLen; omega) za zc
    (by
      rcases sz with h | ⟨b, h1, h2, h3⟩
      · exact .inl (by omega)
      · exact .inr ⟨b, 0, h1, fun j u hj => by rw [Nat.zero_add]; exact (b02.cell (p := ⟨b, j, none⟩) h2).trans (h3 j u hj)⟩)
  have hN : 0 + na + nx + nz = (vsa ++ vsx ++ vsz).length := by simp; omega
  rw [hN, List.nil_append] at o3
  rcases o3.2 with ⟨_, e⟩ | ⟨g, cap, cur, e, _⟩
  · exfalso
    rw [← hN] at e
    omega
  · subst e
    exact ⟨v1, W1, v2, W2, g, cap, W3, r1, r2, r3, o3, b02.trans b3⟩

/-- SPOIL OF THEM ALL. -/
theorem spoil_all {t : Bs} {la ha lx hx lz hz B g cap : Nat} {vsa vsx vsz : List Value} {W : World} (wA : Win la ha W vsa (outP t)) (wX : Win lx hx W vsx (outP lit2)) (wZ : Win lz hz W vsz (outP t))
    (l1 : vsa.length = (outP t).length) (l2 : vsx.length = (outP lit2).length) (l3 : vsz.length = (outP t).length) (q1 : ha ≤ lx) (q2 : hx ≤ lz) (q3 : lx ≤ hx) (hBa : B ≤ la) (hBx : B ≤ lx) (hBz : B ≤ lz) (hBw : B ≤ W.heap.size)
    (hrow : W.ownsRow B 39 1 (.slice (some ⟨g, 0, none⟩) (vsa ++ vsx ++ vsz).length cap) (vsa ++ vsx ++ vsz).length (vsa ++ vsx ++ vsz)) :
    Calls Tryd.prog 30 #[.slice (some ⟨g, 0, none⟩) (vsa ++ vsx ++ vsz).length cap] W fun e W2 => e = .returned (.bool true) ∧ Env W W2 ∧ W.heap.size ≤ W2.heap.size ∧ ∀ q, q < W.heap.size → (q < la ∨ ha ≤ q) → (q < lx ∨ hx ≤ q) → (q < lz ∨ hz ≤ q) → W2.heap[q]? = W.heap[q]? := by
  obtain ⟨lo1, hi1, n1, m1⟩ := wA.wn
  obtain ⟨lo2, hi2, n2, m2⟩ := wX.wn
  obtain ⟨lo3, hi3, n3, m3⟩ := wZ.wn
  have j1 := n1.join n2 l1 (fun i j hi hj => Nat.le_trans (m1 i hi).2 (Nat.le_trans q1 (m2 j hj).1))
  have j2 := j1.join n3 (by simp [l1, l2]) (fun i j hi hj => by
    have := (m3 j hj).1
    by_cases h : i < vsa.length
    · simp only [h, if_true]
      have := (m1 i h).2
      omega
    · simp only [h, if_false]
      have := (m2 (i - vsa.length) (by rw [List.length_append] at hi; omega)).2
      omega)
  have s1 := outP_le t
  have s2 := outP_le lit2
  have hlen : (vsa ++ vsx ++ vsz).length = vsa.length + vsx.length + vsz.length := by simp; omega
  have hw : ∀ i, i < (vsa ++ vsx ++ vsz).length → ∃ l h, (l = la ∧ h = ha ∨ l = lx ∧ h = hx ∨ l = lz ∧ h = hz) ∧
      l ≤ (if i < (vsa ++ vsx).length then if i < vsa.length then lo1 i else lo2 (i - vsa.length) else lo3 (i - (vsa ++ vsx).length)) ∧
      (if i < (vsa ++ vsx).length then if i < vsa.length then hi1 i else hi2 (i - vsa.length) else hi3 (i - (vsa ++ vsx).length)) ≤ h := fun i hi => by
    by_cases h1 : i < (vsa ++ vsx).length
    · by_cases h2 : i < vsa.length
      · simp only [h1, h2, if_true]
        exact ⟨la, ha, .inl ⟨rfl, rfl⟩, m1 i h2⟩
      · simp only [h1, h2, if_true, if_false]
        exact ⟨lx, hx, .inr (.inl ⟨rfl, rfl⟩), m2 _ (by rw [List.length_append] at h1; omega)⟩
    · simp only [h1, if_false]
      exact ⟨lz, hz, .inr (.inr ⟨rfl, rfl⟩), m3 _ (by rw [List.length_append] at h1 ⊢; omega)⟩
  refine (spoil_wn j2 (by simp [l1, l2, l3]) (fun p hp => ?_) ?_ g B cap hBw (fun i hi => ?_) hrow).mono ?_
  · rcases List.mem_append.1 hp with hp | hp
    · rcases List.mem_append.1 hp with hp | hp
      · exact ⟨(s1.2.2 p hp).1, (s1.2.2 p hp).2.mono (by omega)⟩
      · exact ⟨(s2.2.2 p hp).1, (s2.2.2 p hp).2.mono (by omega)⟩
    · exact ⟨(s1.2.2 p hp).1, (s1.2.2 p hp).2.mono (by omega)⟩
  · rw [tot_app, tot_app]
    omega
  · obtain ⟨l, h, e, f1, _⟩ := hw i hi
    rcases e with ⟨rfl, _⟩ | ⟨rfl, _⟩ | ⟨rfl, _⟩ <;> omega
  · rintro e W2 ⟨rfl, h1, h2, h3⟩
    refine ⟨rfl, h1, h2, fun q hq k1 k2 k3 => h3 q hq (fun i hi hl => ?_)⟩
    obtain ⟨l, h, e, f1, f2⟩ := hw i hi
    rcases e with ⟨rfl, rfl⟩ | ⟨rfl, rfl⟩ | ⟨rfl, rfl⟩ <;> omega

/-- WHAT HANGS ON THE BLOCKS OF A WINDOW ALONE. -/
def Sw (lo hi : Nat) (W : World) (P : World → Prop) : Prop := ∀ W2 : World, (∀ q, lo ≤ q → q < hi → W2.heap[q]? = W.heap[q]?) → P W2
theorem Sw.now {lo hi : Nat} {W : World} {P : World → Prop} (h : Sw lo hi W P) : P W := h W fun _ _ _ => rfl
theorem Sw.next {lo hi : Nat} {W W2 : World} {P : World → Prop} (h : Sw lo hi W P) (hk : ∀ q, lo ≤ q → q < hi → W2.heap[q]? = W.heap[q]?) : Sw lo hi W2 P := fun W3 h3 => h W3 fun q a b => (h3 q a b).trans (hk q a b)
theorem RD.st {base : Nat} {W W2 : World} {v : Value} {ps : List (List Fd)} {vs : List Value} (h : RD base W v ps vs) (hb : Below W.heap.size W W2) : Sw base W.heap.size W2 (fun W3 => RD base W3 v ps vs) := fun _ hk => h.keepB fun q h1 h2 => (hk q h1 h2).trans (hb.block q h2)

/-- WHAT STAYS BEHIND SPOIL. -/
structure Bk (w : World) (t : Bs) (s1 nb hb ny hy nc hc nd hd : Nat) (vb vy vc vd : Value) (vsb vsy vsc vsd : List Value) (W : World) : Prop where
  bel : Below w.heap.size w W
  b : Sw nb hb W (fun W2 => RD nb W2 vb (outP t) vsb)
  y : Sw ny hy W (fun W2 => RD ny W2 vy (outP lit2) vsy)
  c : Sw nc hc W (fun W2 => RD nc W2 vc (outP t) vsc)
  d : Sw nd hd W (fun W2 => RD nd W2 vd (outP lit2) vsd)
  o : w.heap.size ≤ s1 ∧ s1 ≤ nb ∧ nb ≤ hb ∧ hb ≤ ny ∧ ny ≤ hy ∧ hy ≤ nc ∧ nc ≤ hc ∧ hc ≤ nd ∧ nd ≤ hd ∧ hd ≤ W.heap.size
theorem Bk.next {w : World} {t : Bs} {s1 nb hb ny hy nc hc nd hd : Nat} {vb vy vc vd : Value} {vsb vsy vsc vsd : List Value} {W W2 : World} (h : Bk w t s1 nb hb ny hy nc hc nd hd vb vy vc vd vsb vsy vsc vsd W) (he : Env W W2) (hs : W.heap.size ≤ W2.heap.size)
    (hk : ∀ q, q < w.heap.size ∨ (nb ≤ q ∧ q < hb) ∨ (ny ≤ q ∧ q < hy) ∨ (nc ≤ q ∧ q < hc) ∨ (nd ≤ q ∧ q < hd) → W2.heap[q]? = W.heap[q]?) : Bk w t s1 nb hb ny hy nc hc nd hd vb vy vc vd vsb vsy vsc vsd W2 := by
  have ho := h.o
  exact ⟨⟨he.os.trans h.bel.os, he.tape.trans h.bel.tape, he.output.trans h.bel.output, Nat.le_trans h.bel.size hs, fun k hk' => (hk k (.inl hk')).trans (h.bel.block k hk')⟩,
    h.b.next fun q a b => hk q (.inr (.inl ⟨a, b⟩)), h.y.next fun q a b => hk q (.inr (.inr (.inl ⟨a, b⟩))), h.c.next fun q a b => hk q (.inr (.inr (.inr (.inl ⟨a, b⟩)))), h.d.next fun q a b => hk q (.inr (.inr (.inr (.inr ⟨a, b⟩)))), by omega⟩
theorem Bk.later {w : World} {t : Bs} {s1 nb hb ny hy nc hc nd hd : Nat} {vb vy vc vd : Value} {vsb vsy vsc vsd : List Value} {W W2 : World} (h : Bk w t s1 nb hb ny hy nc hc nd hd vb vy vc vd vsb vsy vsc vsd W) (hb' : Below W.heap.size W W2) : Bk w t s1 nb hb ny hy nc hc nd hd vb vy vc vd vsb vsy vsc vsd W2 := by
  have ho := h.o
  exact h.next (Env.bel hb') hb'.size fun q hq => hb'.block q (by omega)
theorem Bk.set {w : World} {t : Bs} {s1 nb hb ny hy nc hc nd hd : Nat} {vb vy vc vd : Value} {vsb vsy vsc vsd : List Value} {W : World} (h : Bk w t s1 nb hb ny hy nc hc nd hd vb vy vc vd vsb vsy vsc vsd W) {g : Nat} (h1 : w.heap.size ≤ g) (h2 : g < s1) (i : Nat) (v : Value) : Bk w t s1 nb hb ny hy nc hc nd hd vb vy vc vd vsb vsy vsc vsd (W.setCell ⟨g, i, none⟩ v) := by
  have ho := h.o
  exact h.next (Env.set _ _ _) (by rw [set_size]; exact Nat.le_refl _) fun q hq => set_other _ _ _ _ _ (by omega)

end Go.Proofs.YtocjcbdkihbbiaaDoor

