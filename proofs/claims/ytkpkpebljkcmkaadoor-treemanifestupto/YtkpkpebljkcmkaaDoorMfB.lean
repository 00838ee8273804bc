import Derived.Test.YtkpkpebljkcmkaaDoorMfA
import Derived.Test.YtkpkpebljkcmkaaDoorGnS
namespace Go.Proofs.YtkpkpebljkcmkaaDoor
open Go.RowKit

/-- WHILE IT IS LAID. -/
structure Pu (W wr : World) (l : List (List Value)) (r : List Value) (i : Nat) (laid : Bool) (mv : Value) (n : Nat) : Prop where
  row : wr.ownsRow W.heap.size 40 34 mv n (if laid = true then insR r (l.take i) else l.take i).flatten
  cnt : n = if laid = true then i + 1 else i
  yes : laid = true → ∃ x ∈ l.take i, ltR r x
  no : laid = false → ∀ x ∈ l.take i, ¬ ltR r x
  ne : ∀ x ∈ l.take i, pth x ≠ pth r
  bw : Below W.heap.size W wr
theorem take_snoc2 {l : List (List Value)} {i : Nat} (hi : i < l.length) : l.take (i + 1) = l.take i ++ [l[i]] := by
  rw [List.take_add_one, List.getElem?_eq_getElem hi]
  rfl
theorem Pu.start (W : World) (l : List (List Value)) (r : List Value) : Pu W W l r 0 false (.slice none 0 0) 0 :=
  ⟨World.ownsRow_nil _ _ _ _, rfl, fun h => (by cases h), fun _ x hx => (by cases hx), fun x hx => (by cases hx), Below.refl _ _⟩
/-- ONE MORE OF THEM. -/
theorem Pu.next {W wr w9 : World} {l : List (List Value)} {r : List Value} {i : Nat} {mv mv2 : Value} {n : Nat} {laid : Bool} (h : Pu W wr l r i laid mv n) (hi : i < l.length) (hn : pth l[i] ≠ pth r) (hl : laid = false → ¬ ltR r l[i]) (hrow : w9.ownsRow W.heap.size 40 34 mv2 (n + 1) ((if laid = true then insR r (l.take i) else l.take i).flatten ++ l[i])) (hb : Below W.heap.size W w9) : Pu W w9 l r (i + 1) laid mv2 (n + 1) := by
  have ht := take_snoc2 hi
  have hne : ∀ x ∈ l.take (i + 1), pth x ≠ pth r := fun x hx => by
    rw [ht] at hx
    rcases List.mem_append.1 hx with q | q
    · exact h.ne x q
    · rw [List.mem_singleton] at q; subst q; exact hn
  cases laid with
  | true =>
    obtain ⟨x, hx, hlt⟩ := h.yes rfl
    refine ⟨?_, by have := h.cnt; simp at this ⊢; omega, fun _ => ⟨x, by rw [ht]; exact List.mem_append_left _ hx, hlt⟩, fun e => (by cases e), hne, hb⟩
    rw [if_pos rfl] at hrow ⊢
    rw [ht, insR_laid r _ ⟨x, hx, hlt⟩, List.flatten_append]
    simpa using hrow
  | false =>
    refine ⟨?_, by have := h.cnt; simp at this ⊢; omega, fun e => (by cases e), fun _ x hx => ?_, hne, hb⟩
    · rw [if_neg (by decide)] at hrow ⊢
      rw [ht, List.flatten_append]
      simpa using hrow
    · rw [ht] at hx
      rcases List.mem_append.1 hx with q | q
      · exact h.no rfl x q
      · rw [List.mem_singleton] at q; subst q; exact hl rfl
/-- IT IS LAID HERE. -/
theorem Pu.here {W wr w9 : World} {l : List (List Value)} {r : List Value} {i : Nat} {mv mv2 : Value} {n : Nat} (h : Pu W wr l r i false mv n) (hi : i < l.length) (hn : pth l[i] ≠ pth r) (hl : ltR r l[i]) (hrow : w9.ownsRow W.heap.size 40 34 mv2 (n + 1 + 1) ((l.take i).flatten ++ r ++ l[i])) (hb : Below W.heap.size W w9) : Pu W w9 l r (i + 1) true mv2 (n + 1 + 1) := by
  have ht := take_snoc2 hi
  refine ⟨?_, by have := h.cnt; simp at this ⊢; omega, fun _ => ⟨l[i], by rw [ht]; exact List.mem_append_right _ List.mem_cons_self, hl⟩, fun e => (by cases e), fun x hx => ?_, hb⟩
  · rw [if_pos rfl, ht, insR_here r _ (h.no rfl) hl, List.flatten_append, List.flatten_append]
    simpa using hrow
  · rw [ht] at hx
    rcases List.mem_append.1 hx with q | q
    · exact h.ne x q
    · rw [List.mem_singleton] at q; subst q; exact hn
set_option maxRecDepth 100000 in
set_option maxHeartbeats 4000000 in
theorem put_any {w : World} {v : Value} {l : List (List Value)} {r : List Value} (h : Rws 40 34 w v l) (hl : l.length ≤ 2513169434000) (hr : isT 40 34 r) :
    Calls Tryd.prog 18 #[v, .agg r.toArray] w fun e w' => Below w.heap.size w w' ∧ (((∃ x ∈ l, pth x = pth r) ∧ e = .returned (.tuple #[v, .bool false])) ∨ ((∀ x ∈ l, pth x ≠ pth r) ∧ ∃ v', e = .returned (.tuple #[v', .bool true]) ∧ w'.ownsRow w.heap.size 40 34 v' (l.length + 1) (insR r l).flatten)) := by
  obtain ⟨a, c, rfl⟩ := h.form
  obtain ⟨zF, TF⟩ := tyF
  obtain ⟨p, hp⟩ := hr.path
  have hpr : pth r = p := by unfold pth; rw [hp]
  have HP := hide (show ∀ i (hi : i < l.length), ∃ b o, a = some ⟨b, o, none⟩ ∧ b < w.heap.size ∧ isT 40 34 l[i] ∧ w.rangeAt b (o + i * 34) l[i] from fun i hi => h.at hi)
  have HOK := hide h.ok
  have hrl := hr.1
  have HR1 := hide hr.2.2
  have HPR := hide hpr
  have HP0 := hide hp
  have HTF := hide TF
  obtain ⟨N, hN⟩ : ∃ N, l.length = N := ⟨_, rfl⟩
  have HN := hide hN
  rw [hN] at hl ⊢
  have HST := hide (World.ownsRow_nil w w.heap.size 40 34)
  clear h hN hp hpr TF
  go_enter Tryd.func18, Tryd.ntmps18
  go_wp2_with (first
    | ((with_reducible refine b_box (t := 40) (k := 34) r hrl (unhide HR1) _ rfl rfl rfl ?_); intro w2 B1 k1 z1; have K1 := hide k1; have X1 := hide B1; have a0 := B1.cell (unhide HP0); clear B1 k1 z1))
  have HPU := hide (Pu.start w2 l r)
  have HLE := hide (unhide K1).size
  clear HST
  go_loopg [6, 7, 8] N (fun gq mv lv iv wr => ∃ (i n : Nat) (laid : Bool), iv = .int .i64 i ∧ lv = .bool laid ∧ i ≤ N ∧ N - i ≤ gq ∧ Hid (Pu w2 wr l r i laid mv n))
  case atStart => exact ⟨0, 0, false, by go_num, rfl, by omega, by omega, HPU⟩
  case round =>
    clear HPU a0
    obtain ⟨i, n, laid, rfl, rfl, hi, hg, HU⟩ := hrel
    by_cases hlt : i < N
    · have hin : (i : Int) < (N : Int) := by omega
      have hil : i < l.length := by have := unhide HN; omega
      obtain ⟨b, o, rfl, hbl, hok, hrg⟩ := unhide HP i hil
      have HNX := hide (fun (mv2 : Value) (w9 : World) (q1 : pth l[i] ≠ pth r) (q2 : laid = false → ¬ ltR r l[i]) q3 q4 => (unhide HU).next (mv2 := mv2) (w9 := w9) hil q1 q2 q3 q4)
      have HHR := hide (fun (mv2 : Value) (w9 : World) (q0 : laid = false) (q1 : pth l[i] ≠ pth r) (q2 : ltR r l[i]) q3 q4 => Pu.here (mv2 := mv2) (w9 := w9) (q0 ▸ unhide HU) hil q1 q2 q3 q4)
      have HMM := hide (show l[i] ∈ l from List.getElem_mem _)
      obtain ⟨px, hpx⟩ := hok.path
      have hpp : pth l[i] = px := by unfold pth; rw [hpx]
      have BW := hide (bl_t (unhide K1) (unhide HU).bw)
      have HRW := hide (fun (X : World) (hX : Below w2.heap.size w2 X) => rangeAt_later hrg hbl (bl_t (unhide K1) hX))
      have HXW := hide (fun (X : World) (hX : Below w2.heap.size w2 X) => (unhide X1).later hX)
      have HC := hide (show ∀ X, Below w2.heap.size w2 X → X.cell? ⟨b, o + i * 34, none⟩ = some (.string px) ∧ X.cell? ⟨w.heap.size, 0, none⟩ = some (.string p) from fun X hX => ⟨by have := unhide HRW X hX 0 _ hpx; rw [Nat.add_zero] at this; exact this, (unhide HXW X hX).cell (unhide HP0)⟩)
      have HO1 := hide hok.2.2
      have hxl := hok.1
      generalize l[i] = xs at *
      have BU := hide (unhide HU).bw
      obtain ⟨c1, c2⟩ := unhide HC wr (unhide BU)
      clear hok hrg hpx
      by_cases e : px = p
      · subst e
        have q0 := bx_eq px
        go_upto_region 6 with fail
        go_quiet (fail)
        have BQ := hide (bl_t (unhide BW) (bl_drewN wr nq))
        clear c1 c2
        go_wp2_with fail
        go_ret2
        exact ⟨unhide BQ, .inl ⟨⟨xs, unhide HMM, by rw [hpp, unhide HPR]⟩, rfl⟩⟩
      · have q0 : (ByteArray.toList px == ByteArray.toList p) = false := by rw [ba_if, decide_eq_false e]
        have q1 := lt_iff p px
        have hne : pth xs ≠ pth r := by rw [hpp, unhide HPR]; exact e
        go_upto_region 6 with fail
        go_quiet (fail)
        have HD := hide (bl_drewN wr nq)
        clear c1 c2
        generalize wr.drewN nq = wa at *
        have BA := hide (bl_t (unhide BU) (unhide HD))
        obtain ⟨c1, c2⟩ := unhide HC wa (unhide BA)
        cases laid with
        | true =>
          go_upto_region 8 with fail
          go_quiet (fail)
          have BB := hide (bl_t (unhide BA) (bl_drewN wa nq))
          have hrb := own_low (unhide HU).row (bl_t (unhide HD) (bl_drewN wa nq))
          clear c1 c2
          generalize wa.drewN nq = wb at *
          have hcn := (unhide HU).cnt
          simp at hcn
          have HG := hide (fun (wx : World) hsrc hx => own_grow (unhide HTF) (w := w2) (wr := wb) (wx := wx) hrb (unhide BB) xs hxl hsrc hx (unhide HO1) (by unfold maxLen; omega) (by omega) 24)
          have HRG := hide (unhide HRW wb (unhide BB))
          clear hrb hcn
          go_wp2_with (first
            | ((with_reducible refine m_load (t := 40) (k := 34) Tryd.underlying40 rfl infoF _ rfl rfl b (o + i * 34) rfl xs (unhide HRG) hxl ?_))
            | ((with_reducible refine g_sl1 (t := 24) (e := 40) (k := 34) Tryd.underlying24 zeroF1 (by decide) (by decide) _ rfl rfl xs rfl hxl ?_); intro wx1 hsrc hx hxs; obtain ⟨mv1, w91, hr91, hrow9, hb9⟩ := unhide HG wx1 hsrc hx; have HR1' := hide hrow9; have HB1 := hide hb9; clear hsrc hx hxs hrow9 hb9)
            | (at_builtin; refine wpList_append_run rfl _ _ 24 rfl _ _ rfl rfl hr91 ?_; clear hr91))
          have HN9 := hide (unhide HNX _ _ hne (fun e => (by cases e)) (unhide HR1') (unhide HB1))
          go_roundg (N - (i + 1))
          case measure => omega
          case rel => exact ⟨i + 1, n + 1, true, by go_num, rfl, by omega, by omega, HN9⟩
        | false =>
          by_cases hlt2 : lt p px
          · have q2 : Op.bytesLess (ByteArray.toList px) (ByteArray.toList p) = false := by rw [lt_iff, decide_eq_false (fun z => lt_irr _ (lt_tr z hlt2))]
            rw [decide_eq_true hlt2] at q1
            go_upto_region 8 with fail
            go_quiet (fail)
            have BB := hide (bl_t (unhide BA) (bl_drewN wa nq))
            have hrb := own_low (unhide HU).row (bl_t (unhide HD) (bl_drewN wa nq))
            rw [if_neg (by decide)] at hrb
            clear c1 c2
            generalize wa.drewN nq = wb at *
            have hcn := (unhide HU).cnt
            simp at hcn
            have HG := hide (fun (wx : World) hsrc hx => own_grow (unhide HTF) (w := w2) (wr := wb) (wx := wx) hrb (unhide BB) r hrl hsrc hx (unhide HR1) (by unfold maxLen; omega) (by omega) 24)
            have HBX := hide (unhide HXW wb (unhide BB)).range
            have hlr : ltR r xs := by unfold ltR; rw [hpp, unhide HPR]; exact hlt2
            clear hrb
            go_wp2_with (first
              | ((with_reducible refine m_load (t := 40) (k := 34) Tryd.underlying40 rfl infoF _ rfl rfl w.heap.size 0 rfl r (unhide HBX) hrl ?_))
              | ((with_reducible refine m_load (t := 40) (k := 34) Tryd.underlying40 rfl infoF _ rfl rfl b (o + i * 34) rfl xs (unhide HRG) hxl ?_))
              | ((with_reducible refine g_sl1 (t := 24) (e := 40) (k := 34) Tryd.underlying24 zeroF1 (by decide) (by decide) _ rfl rfl r rfl hrl ?_); intro wx1 hsrc hx hxs; obtain ⟨mv1, w91, hr91, hrow9, hb9⟩ := unhide HG wx1 hsrc hx; have HR1' := hide hrow9; have HB1 := hide hb9; clear hsrc hx hxs hrow9 hb9; have HG2 := hide (fun (wx : World) hsrc hx => own_grow (unhide HTF) (w := w2) (wr := w91) (wx := wx) (unhide HR1') (unhide HB1) xs hxl hsrc hx (unhide HO1) (by unfold maxLen; omega) (by omega) 24); have HRG := hide (unhide HRW w91 (unhide HB1)); clear HG)
              | (at_builtin; refine wpList_append_run rfl _ _ 24 rfl _ _ rfl rfl hr91 ?_; clear hr91)
              | ((with_reducible refine g_sl1 (t := 24) (e := 40) (k := 34) Tryd.underlying24 zeroF1 (by decide) (by decide) _ rfl rfl xs rfl hxl ?_); intro wx2 hsrc hx hxs; obtain ⟨mv2, w92, hr92, hrow9, hb9⟩ := unhide HG2 wx2 hsrc hx; have HR2' := hide hrow9; have HB2 := hide hb9; clear hsrc hx hxs hrow9 hb9)
              | (at_builtin; refine wpList_append_run rfl _ _ 24 rfl _ _ rfl rfl hr92 ?_; clear hr92))
            have HN9 := hide (unhide HHR _ _ (by first | rfl | trivial) hne hlr (unhide HR2') (unhide HB2))
            go_roundg (N - (i + 1))
            case measure => omega
            case rel => exact ⟨i + 1, n + 1 + 1, true, by go_num, rfl, by omega, by omega, HN9⟩
          · have q2 : Op.bytesLess (ByteArray.toList px) (ByteArray.toList p) = true := by rw [lt_iff, decide_eq_true (lt_tri hlt2 fun z => e z.symm)]
            rw [decide_eq_false hlt2] at q1
            go_upto_region 8 with fail
            go_quiet (fail)
            have BB := hide (bl_t (unhide BA) (bl_drewN wa nq))
            have hrb := own_low (unhide HU).row (bl_t (unhide HD) (bl_drewN wa nq))
            clear c1 c2
            generalize wa.drewN nq = wb at *
            have hcn := (unhide HU).cnt
            simp at hcn
            have HG := hide (fun (wx : World) hsrc hx => own_grow (unhide HTF) (w := w2) (wr := wb) (wx := wx) hrb (unhide BB) xs hxl hsrc hx (unhide HO1) (by unfold maxLen; omega) (by omega) 24)
            have HRG := hide (unhide HRW wb (unhide BB))
            clear hrb hcn
            go_wp2_with (first
              | ((with_reducible refine m_load (t := 40) (k := 34) Tryd.underlying40 rfl infoF _ rfl rfl b (o + i * 34) rfl xs (unhide HRG) hxl ?_))
              | ((with_reducible refine g_sl1 (t := 24) (e := 40) (k := 34) Tryd.underlying24 zeroF1 (by decide) (by decide) _ rfl rfl xs rfl hxl ?_); intro wx1 hsrc hx hxs; obtain ⟨mv1, w91, hr91, hrow9, hb9⟩ := unhide HG wx1 hsrc hx; have HR1' := hide hrow9; have HB1 := hide hb9; clear hsrc hx hxs hrow9 hb9)
              | (at_builtin; refine wpList_append_run rfl _ _ 24 rfl _ _ rfl rfl hr91 ?_; clear hr91))
            have HN9 := hide (unhide HNX _ _ hne (fun _ e => hlt2 (by unfold ltR at e; rw [hpp, unhide HPR] at e; exact e)) (unhide HR1') (unhide HB1))
            go_roundg (N - (i + 1))
            case measure => omega
            case rel => exact ⟨i + 1, n + 1, false, by go_num, rfl, by omega, by omega, HN9⟩
    · obtain rfl : i = N := by omega
      have hge : ¬ (i : Int) < (i : Int) := by omega
      have hNN : l.length = i := unhide HN
      have htk : l.take i = l := by rw [← hNN]; exact List.take_length
      have HROW := hide (unhide HU).row
      have hcn := (unhide HU).cnt
      have HNE := hide (show ∀ x ∈ l, pth x ≠ pth r from by have := (unhide HU).ne; rw [htk] at this; exact this)
      have BU := hide (unhide HU).bw
      have hsz := (unhide K1).size
      cases laid with
      | true =>
        rw [if_pos rfl, htk] at HROW
        simp at hcn
        subst hcn
        go_wp2_with fail
        go_ret2
        exact ⟨bl_t (unhide K1) (unhide BU), .inr ⟨unhide HNE, _, rfl, own_base (unhide HROW) hsz⟩⟩
      | false =>
        rw [if_neg (by decide), htk] at HROW
        simp at hcn
        subst hcn
        have hno := (unhide HU).no rfl
        rw [htk] at hno
        have HINS := hide (insR_none r hno)
        have HG := hide (fun (wx : World) hsrc hx => own_grow (unhide HTF) (w := w2) (wr := wr) (wx := wx) (unhide HROW) (unhide BU) r hrl hsrc hx (unhide HR1) (by unfold maxLen; omega) (by omega) 24)
        have HBX := hide ((unhide X1).later (unhide BU)).range
        clear hno
        go_wp2_with (first
          | ((with_reducible refine m_load (t := 40) (k := 34) Tryd.underlying40 rfl infoF _ rfl rfl w.heap.size 0 rfl r (unhide HBX) hrl ?_))
          | ((with_reducible refine g_sl1 (t := 24) (e := 40) (k := 34) Tryd.underlying24 zeroF1 (by decide) (by decide) _ rfl rfl r rfl hrl ?_); intro wx1 hsrc hx hxs; obtain ⟨mv1, w91, hr91, hrow9, hb9⟩ := unhide HG wx1 hsrc hx; have HR1' := hide hrow9; have HB1 := hide hb9; clear hsrc hx hxs hrow9 hb9)
          | (at_builtin; refine wpList_append_run rfl _ _ 24 rfl _ _ rfl rfl hr91 ?_; clear hr91))
        go_ret2
        refine ⟨bl_t (unhide K1) (unhide HB1), .inr ⟨unhide HNE, _, rfl, ?_⟩⟩
        rw [unhide HINS, List.flatten_append]
        simpa using own_base (unhide HR1') hsz
end Go.Proofs.YtkpkpebljkcmkaaDoor
