import Derived.Test.YtocjcbdkihbbiaaDoorRsC
namespace Go.Proofs.YtocjcbdkihbbiaaDoor
open Go.RowKit Go.Shelf

theorem RP.cellA {lo : Nat} {W : World} {g cap : Nat} {p : List Fd} {ts : List Tv} (h : RP lo W (.slice (some ⟨g, 0, none⟩) p.length cap) p ts) (i : Nat) (t : Tv) (ht : ts[i]? = some t) :
    W.cell? ⟨g, i * 3, none⟩ = some t.a ∧ W.cell? ⟨g, i * 3 + 1, none⟩ = some t.b ∧ W.cell? ⟨g, i * 3 + 2, none⟩ = some t.c := by
  obtain ⟨h1, h2, h3⟩ := flat_at ts i t ht
  have key : ∀ j u, (flat ts)[j]? = some u → W.cell? ⟨g, j, none⟩ = some u := fun j u hj => by
    have := h.row.cells (g := g) rfl j u hj
    rw [Addr.add_mid, Nat.zero_add] at this
    exact this
  exact ⟨key _ _ h1, key _ _ h2, key _ _ h3⟩
theorem RP.blk {lo : Nat} {W : World} {a : Option Addr} {n c : Nat} {p : List Fd} {ts : List Tv} (h : RP lo W (.slice a n c) p ts) (hp : 0 < p.length) : ∃ g, a = some ⟨g, 0, none⟩ ∧ g < W.heap.size ∧ p.length ≤ c ∧ n = p.length := by
  rcases h.row.2 with ⟨_, e2⟩ | ⟨g, cap, cur, e, _, hg, hc, _⟩
  · omega
  · cases e
    exact ⟨g, rfl, (Array.getElem?_eq_some_iff.1 hg).1, hc, rfl⟩

set_option maxRecDepth 100000 in
set_option maxHeartbeats 2000000 in
theorem rfind_any (lo : Nat) (p : List Fd) (ts : List Tv) (pa : Option Addr) (pc : Nat) (n : Bs) (w : World) (hP : RP lo w (.slice pa p.length pc) p ts) (hl : p.length ≤ 16777216) (hn : n.length ≤ 16777216) (hnm : ∀ f ∈ p, f.nm.length ≤ 16777216) :
    Calls Tryd.prog 43 #[.slice pa p.length pc, .string (ba n)] w fun e w' => ∃ x : Int, e = .returned (.int .i64 x) ∧ (0 ≤ x ↔ hasN p n = true) ∧ Below w.heap.size w w' := by
  have HP := hide hP
  have HNM := hide hnm
  obtain ⟨N, hN⟩ : ∃ N, p.length = N := ⟨_, rfl⟩
  rw [hN] at hl ⊢
  have HN := hide hN
  clear hP hnm hN
  go_enter Tryd.func43, Tryd.ntmps43
  go_wp2_with fail
  go_loopw [5] (fun iv wr => ∃ k : Nat, k ≤ N ∧ iv = .int .i64 k ∧ Hid (∀ j f, j < k → p[j]? = some f → ¬ small f.nm = small n) ∧ Hid (Below w.heap.size w wr)) (fun iv _ => N - (intOf iv).toNat)
  case atStart => exact ⟨0, Nat.zero_le _, rfl, hide (fun j _ h => absurd h (Nat.not_lt_zero _)), hide (Below.refl _ _)⟩
  case round =>
    obtain ⟨k, hk, rfl, HZ, HB⟩ := hrel
    by_cases hlt : k < N
    · have hkp : k < p.length := by have := unhide HN; omega
      have hkt : k < ts.length := by have := (unhide HP).len; omega
      obtain ⟨g, rfl, hg, _, _⟩ := (unhide HP).blk (by omega)
      have hF := (unhide HP).each k ts[k] p[k] (List.getElem?_eq_getElem hkt) (List.getElem?_eq_getElem hkp)
      have c0 := ((unhide HB).cell (p := ⟨g, k * 3, none⟩) hg).trans ((unhide HP).cellA k ts[k] (List.getElem?_eq_getElem hkt)).1
      rw [hF.nm] at c0
      have hsz := unhide HNM p[k] (List.getElem_mem hkp)
      have hltz : (k : Int) < (N : Int) := by omega
      by_cases hb : small p[k].nm = small n
      · have c1 := hide (fun w' => by have := rAlike_any (ba p[k].nm) (ba n) w' (by rw [ba_size]; omega) (by rw [ba_size]; omega); rw [ba_list, ba_list, decide_eq_true hb] at this; exact this)
        have HF := hide (show hasN p n = true by
          unfold hasN
          rw [List.any_eq_true]
          exact ⟨p[k], List.getElem_mem hkp, decide_eq_true hb⟩)
        generalize p[k].nm = q at *
        clear hF hb HZ
        go_wp2_with (go_at_call 61; refine (unhide c1 _).mono ?_; rintro e w2 ⟨rfl, hb2⟩; have HB2 := hide (bl_t (unhide HB) hb2); clear hb2)
        go_ret
        exact ⟨_, rfl, ⟨fun _ => unhide HF, fun _ => by omega⟩, unhide HB2⟩
      · have c1 := hide (fun w' => by have := rAlike_any (ba p[k].nm) (ba n) w' (by rw [ba_size]; omega) (by rw [ba_size]; omega); rw [ba_list, ba_list, decide_eq_false hb] at this; exact this)
        have HZ2 := hide (show ∀ j f, j < k + 1 → p[j]? = some f → ¬ small f.nm = small n from fun j f hj hf => by
          by_cases e : j < k
          · exact unhide HZ j f e hf
          · obtain rfl : j = k := by omega
            rw [List.getElem?_eq_getElem hkp] at hf
            cases hf
            exact hb)
        generalize p[k].nm = q at *
        clear hF hb HZ
        go_wp2_with (go_at_call 61; refine (unhide c1 _).mono ?_; rintro e w2 ⟨rfl, hb2⟩; have HB2 := hide (bl_t (unhide HB) hb2); clear hb2)
        go_roundw
        case rel => exact ⟨k + 1, by omega, by go_num, HZ2, HB2⟩
        case measure => simp [intOf]; omega
    · have HF := hide (show hasN p n = false by
        unfold hasN
        rw [List.any_eq_false]
        intro f hf
        obtain ⟨i, hi, e⟩ := List.getElem_of_mem hf
        have := unhide HZ i f (by have := unhide HN; omega) (by rw [List.getElem?_eq_getElem hi, e])
        simpa using this)
      have hltz : ¬ (k : Int) < (N : Int) := by omega
      clear HZ
      go_wp2_with fail
      go_ret
      refine ⟨-1, rfl, ⟨fun h => by omega, fun h => ?_⟩, unhide HB⟩
      rw [unhide HF] at h
      cases h
theorem trimR_cons (b : UInt8) (r : Bs) : Lib.trimRightS (b :: r) bl2 = if Lib.trimRightS r bl2 = [] then (if blB b = true then [] else [b]) else b :: Lib.trimRightS r bl2 := by
  unfold Lib.trimRightS blB
  rw [List.reverse_cons, List.dropWhile_append]
  by_cases h : (r.reverse.dropWhile (bl2.contains ·)) = []
  · rw [h]
    simp only [List.isEmpty_nil, if_pos, List.reverse_nil]
    rw [List.dropWhile_cons, List.dropWhile_nil]
    split <;> simp
  · have h1 : (r.reverse.dropWhile (bl2.contains ·)).isEmpty = false := by
      cases hh : r.reverse.dropWhile (bl2.contains ·) with
      | nil => exact absurd hh h
      | cons _ _ => rfl
    rw [h1, if_neg (by decide), if_neg (by simpa using h)]
    simp
theorem trim_comm : ∀ l : Bs, Lib.trimRightS (Lib.trimLeftS l bl2) bl2 = Lib.trimS l bl2
  | [] => rfl
  | b :: r => by
    have ih := trim_comm r
    unfold Lib.trimS at ih ⊢
    rw [trimL_cons, trimR_cons]
    by_cases hb : blB b = true
    · rw [if_pos hb, ih]
      by_cases h : Lib.trimRightS r bl2 = []
      · rw [if_pos h, if_pos hb, h]
      · rw [if_neg h, trimL_cons, if_pos hb]
    · rw [if_neg hb, trimR_cons]
      by_cases h : Lib.trimRightS r bl2 = []
      · rw [if_pos h, if_neg hb, trimL_cons, if_neg hb]
      · rw [if_neg h, trimL_cons, if_neg hb]
theorem ba_take (s : Bs) (k : Nat) : (ba s).extract 0 k = ba (s.take k) := by
  have h := Lib.extract_toList (ba s) 0 k
  rw [Lib.toList_data, ba_list] at h
  rw [← ba_of ((ba s).extract 0 k), h]
  simp
theorem ba_drop (s : Bs) (k : Nat) : (ba s).extract k (ba s).size = ba (s.drop k) := by
  have h := Lib.extract_toList (ba s) k (ba s).size
  rw [Lib.toList_data, ba_list] at h
  rw [← ba_of ((ba s).extract k (ba s).size), h, ba_size, List.take_of_length_le (by rw [List.length_drop]; omega)]

set_option maxRecDepth 100000 in
set_option maxHeartbeats 4000000 in
theorem rline_new (lo : Nat) (p : List Fd) (ts : List Tv) (pa : Option Addr) (pc : Nat) (s : Bs) (k : Nat) (w : World) (hs : 0 < s.length) (hs2 : s.length ≤ 16777216) (hb : blB ((ba s)[0]'(by rw [ba_size]; exact hs)) = false) (hlo : lo ≤ w.heap.size) (hP : RP lo w (.slice pa p.length pc) p ts) (hl : p.length ≤ 16777216) (hnm : ∀ f ∈ p, f.nm.length ≤ 16777216)
    (hc : 58 ∈ s) (hn : nameL (bef 58 s) = true) (hh : hasN p (bef 58 s) = false) :
    Calls Tryd.prog 69 #[.slice pa p.length pc, .string (ba s), .int .i64 k] w fun e w' => ∃ v' ts', e = .returned (.tuple #[v', .int .i64 0]) ∧ RP lo w' v' (p ++ [⟨bef 58 s, [Lib.trimS (aft 58 s) bl2], [k]⟩]) ts' ∧ Below w.heap.size w w' := by
  have cb := hide (fun w => by have := rblank_any ((ba s)[0]'(by rw [ba_size]; exact hs)) w; rw [hb] at this; exact this)
  have hsz : (ba s).size = s.length := ba_size s
  have hs' : 0 < (ba s).size := by omega
  obtain ⟨i1, i2, i3⟩ := (idx1 58 s).2 hc
  have cc := hide (fun w => by have := rcolon_any (ba s) w (by omega); rw [ba_list, show colI s = ((bef 58 s).length : Int) from if_pos hc] at this; exact this)
  have hbl := bef_le 58 s
  have hal := aft_le 58 s
  have x1 : (ba s).extract 0 (bef 58 s).length = ba (bef 58 s) := by rw [ba_take, i2]
  have x2 : (ba s).extract ((bef 58 s).length + 1) (ba s).size = ba (aft 58 s) := by rw [ba_drop, i3]
  have hkk : (bef 58 s).length + 1 ≤ s.length := by
    have h1 := List.length_drop (i := (bef 58 s).length + 1) (l := s)
    by_cases h : (bef 58 s).length + 1 ≤ s.length
    · exact h
    · exfalso
      have e : bef 58 s = s := by rw [← i2]; exact List.take_of_length_le (by omega)
      have hm := hc
      rw [← e] at hm
      obtain ⟨_, _, hnn⟩ := nameL_parts hn
      exact (nmB_parts (hnn.2.2.2 _ hm)).1 rfl
  have cN := hide (fun w => by have := rName_any (ba (bef 58 s)) w (by rw [ba_size]; omega); rw [ba_list, hn] at this; exact this)
  have cF := hide (fun (w1 : World) (h : RP lo w1 (.slice pa p.length pc) p ts) => rfind_any lo p ts pa pc (bef 58 s) w1 h hl (by omega) hnm)
  have cFr := hide (fun w => by have := rFront_any (ba (aft 58 s)) w; rw [ba_list] at this; exact this)
  have cBk := hide (fun w => by have := rBack_any (ba (Lib.trimLeftS (aft 58 s) bl2)) w (by rw [ba_size]; have := (List.dropWhile_sublist (bl2.contains ·) (l := aft 58 s)).length_le; unfold Lib.trimLeftS; omega); rw [ba_list, trim_comm] at this; exact this)
  generalize Lib.trimLeftS (aft 58 s) bl2 = tl1 at cFr cBk
  generalize Lib.trimS (aft 58 s) bl2 = tv at cBk ⊢
  generalize aft 58 s = av at *
  generalize bef 58 s = nm at *
  obtain ⟨n1, hn1⟩ : ∃ n1, n1 = nm.length := ⟨_, rfl⟩
  rw [← hn1] at x1 x2 hkk cc hbl
  have e1 : ¬ (n1 : Int) < 0 := by omega
  have e2 : (n1 : Int) ≤ ((ba s).size : Int) := by omega
  have e3 : (n1 : Int) + 1 ≤ ((ba s).size : Int) := by omega
  have e4 : ((n1 : Int) + 1).toNat = n1 + 1 := by omega
  have e5 : n1 ≤ (ba s).size := by omega
  have e6 : n1 + 1 ≤ (ba s).size := by omega
  have e7 : (0 : Int) ≤ (n1 : Int) + 1 := by omega
  have HP := hide hP
  have HH := hide hh
  have HNM := hide hnm
  have HL := hide hl
  obtain ⟨N, hN⟩ : ∃ N, p.length = N := ⟨_, rfl⟩
  rw [hN] at cF HP hl ⊢
  have HN := hide hN
  clear hP hh hnm hN hb hc hn i1 i2 i3 hn1 hsz
  go_enter Tryd.func69, Tryd.ntmps69
  go_upto_region 17 with (first | (go_at_call 86; refine (unhide cb _).mono ?_; rintro e w1 ⟨rfl, rfl⟩) | (go_at_call 87; refine (unhide cc _).mono ?_; rintro e w2 ⟨rfl, rfl⟩) | (go_at_call 49; refine (unhide cN _).mono ?_; rintro e w3 ⟨rfl, rfl⟩) | (go_at_call 43; refine (unhide cF _ (unhide HP)).mono ?_; rintro e w4 ⟨x, rfl, hx, hb4⟩; have HB4 := hide hb4; have hx0 : ¬ 0 ≤ x := (fun h => by have := hx.1 h; rw [unhide HH] at this; cases this); clear hb4 hx))
  go_upto_region 18 with (first | (go_at_call 66; refine (unhide cFr _).mono ?_; rintro e w5 ⟨rfl, rfl⟩) | (go_at_call 67; refine (unhide cBk _).mono ?_; rintro e w7 ⟨rfl, rfl⟩))
  obtain ⟨w8, hw8⟩ : ∃ w8, w8 = w7 := ⟨_, rfl⟩
  rw [← hw8] at HB4 ⊢
  clear hw8
  obtain ⟨z1, n1', o1⟩ := al_ w8 (.cells #[.string (ba tv)] 9)
  obtain ⟨z2, n2', o2⟩ := al_ (w8.alloc (.cells #[.string (ba tv)] 9)) (.cells #[.int .i64 k] 3)
  obtain ⟨z3, n3', o3⟩ := al_ ((w8.alloc (.cells #[.string (ba tv)] 9)).alloc (.cells #[.int .i64 k] 3)) (.cells #[.string (ba nm), .slice (some ⟨w8.heap.size, 0, none⟩) 1 1, .slice (some ⟨w8.heap.size + 1, 0, none⟩) 1 1] 49)
  have hb6 : Below w8.heap.size w8 (((w8.alloc (.cells #[.string (ba tv)] 9)).alloc (.cells #[.int .i64 k] 3)).alloc (.cells #[.string (ba nm), .slice (some ⟨w8.heap.size, 0, none⟩) 1 1, .slice (some ⟨w8.heap.size + 1, 0, none⟩) 1 1] 49)) := (((Below.refl _ w8).alloc (Nat.le_refl _) _).alloc (by simp) _).alloc (by simp; omega) _
  rw [z1] at z2 n2' o2
  rw [z2] at z3 n3' o3
  obtain ⟨W6, hW6⟩ : ∃ W6, (((w8.alloc (.cells #[.string (ba tv)] 9)).alloc (.cells #[.int .i64 k] 3)).alloc (.cells #[.string (ba nm), .slice (some ⟨w8.heap.size, 0, none⟩) 1 1, .slice (some ⟨w8.heap.size + 1, 0, none⟩) 1 1] 49)) = W6 := ⟨_, rfl⟩
  rw [hW6] at z3 n3' o3 hb6 ⊢
  clear hW6
  have hLB := (o3 w8.heap.size (by omega)).trans ((o2 w8.heap.size (by omega)).trans n1')
  have hCB := (o3 (w8.heap.size + 1) (by omega)).trans n2'
  obtain ⟨L, hLe⟩ : ∃ L, w8.heap.size = L := ⟨_, rfl⟩
  rw [hLe] at z3 n3' hb6 hLB hCB ⊢
  obtain ⟨C, hCe⟩ : ∃ C, L + 1 = C := ⟨_, rfl⟩
  rw [hCe] at z3 n3' hCB ⊢
  obtain ⟨B, hBe⟩ : ∃ B, C + 1 = B := ⟨_, rfl⟩
  rw [hBe] at z3 n3' ⊢
  have hLC : L ≤ C := by omega
  have hLlt : L < W6.heap.size := by omega
  have hClt : C < W6.heap.size := by omega
  have hBlt6 : B < W6.heap.size := by omega
  have hLB' := hide hLB
  have hCB' := hide hCB
  have HLE := hide hLe
  clear z1 n1' o1 z2 n2' o2 z3 o3 hLB hCB hCe hBe
  have q0 := (cell_blk n3' 0).1
  have q1 := (cell_blk n3' 1).1
  have q2 := (cell_blk n3' 2).1
  simp only [List.getElem?_toArray, List.getElem?_cons_succ, List.getElem?_cons_zero] at q0 q1 q2
  have hloL0 : lo ≤ w3.heap.size := hlo
  have hloL : lo ≤ L := by have := (unhide HB4).size; rw [unhide HLE] at this; omega
  have hloC : lo ≤ C := by omega
  have hbw6 : Below w3.heap.size w3 W6 := bl_t (unhide HB4) (by rw [unhide HLE]; exact hb6)
  have hP6 : RP lo W6 (.slice pa N pc) p ts := (unhide HP).later hbw6
  obtain ⟨i4, hi4, hx0', hx1', hx2'⟩ := info_parts infoF39
  have hsrc : N = 0 ∨ ∃ b o, pa = some ⟨b, o, none⟩ ∧ b < W6.drew.heap.size ∧ ∀ j u, (flat ts)[j]? = some u → W6.drew.cell? ⟨b, o + j, none⟩ = some u := by
    by_cases h0 : N = 0
    · exact .inl h0
    · obtain ⟨g, rfl, hg, _, _⟩ := hP6.blk (by have := unhide HN; omega)
      refine .inr ⟨g, 0, rfl, hg, fun j u hj => ?_⟩
      have := hP6.row.cells (g := g) rfl j u hj
      rw [Addr.add_mid, Nat.zero_add] at this
      rw [Nat.zero_add]
      exact this
  have hfl : (flat ts).length = N * 3 := by rw [flat_len, hP6.len, unhide HN]
  obtain ⟨⟨vb, Wb1, gb, capb, Wb2, rb1, rb2, hob, hbb2, hbb1⟩, ⟨vc, Wc1, gc, capc, Wc2, rc1, rc2, hoc, hbc2, hbc1⟩⟩ := app2x (P := Tryd.prog) 39 39 49 i4 (.agg #[.string ⟨#[]⟩, .slice none 0 0, .slice none 0 0]) 3 64 Tryd.underlying39 hi4 hx0' hx1' hx2' rfl (by decide) N (flat ts) [.string (ba nm), .slice (some ⟨L, 0, none⟩) 1 1, .slice (some ⟨C, 0, none⟩) 1 1] hfl hP6.ones rfl (by simp [Value.oneCell']) (by omega) (by unfold maxLen; omega) pa pc W6.drew hsrc
  obtain ⟨va, Wa1, ga, capa, Wa2, ra1, ra2, hoa, hba2, hba1⟩ := app2 (P := Tryd.prog) 39 39 49 i4 (.agg #[.string ⟨#[]⟩, .slice none 0 0, .slice none 0 0]) 3 64 Tryd.underlying39 hi4 hx0' hx1' hx2' rfl (by decide) N (flat ts) [.string (ba nm), .slice (some ⟨L, 0, none⟩) 1 1, .slice (some ⟨C, 0, none⟩) 1 1] hfl hP6.ones rfl (by simp [Value.oneCell']) (by omega) (by unfold maxLen; omega) pa pc W6.drew hsrc
  have FIN := hide (show ∀ (W8 : World) (g3 cap3 : Nat), W8.ownsRow W6.drew.heap.size 49 3 (.slice (some ⟨g3, 0, none⟩) (N + 1) cap3) (N + 1) (flat ts ++ [.string (ba nm), .slice (some ⟨L, 0, none⟩) 1 1, .slice (some ⟨C, 0, none⟩) 1 1]) → Below W6.drew.heap.size W6.drew W8 →
      RP lo W8 (.slice (some ⟨g3, 0, none⟩) (N + 1) cap3) (p ++ [⟨nm, [tv], [k]⟩]) (ts ++ [⟨.string (ba nm), .slice (some ⟨L, 0, none⟩) 1 1, .slice (some ⟨C, 0, none⟩) 1 1⟩]) ∧ Below w3.heap.size w3 W8 from fun W8 g3 cap3 ho hbw => by
    have hbw' : Below W6.heap.size W6 W8 := ((Below.refl W6.heap.size W6).drew).trans hbw
    have hP8 := hP6.later hbw'
    refine ⟨⟨by simp [hP8.len], fun i t f h1 h2 => ?_, ?_⟩, bl_t hbw6 hbw'⟩
    · rcases Nat.lt_or_ge i p.length with hi | hi
      · rw [List.getElem?_append_left (by rw [hP8.len]; exact hi)] at h1
        rw [List.getElem?_append_left hi] at h2
        exact hP8.each i t f h1 h2
      · have hi2 : i = p.length := by
          have := (List.getElem?_eq_some_iff.1 h2).1
          simp at this
          omega
        subst hi2
        rw [List.getElem?_append_right (by rw [hP8.len]; exact Nat.le_refl _), hP8.len] at h1
        rw [List.getElem?_append_right (Nat.le_refl _)] at h2
        simp at h1 h2
        subst h1 h2
        have hL8 := (hbw'.block L hLlt).trans (unhide hLB')
        have hC8 := (hbw'.block C hClt).trans (unhide hCB')
        exact ⟨rfl, ⟨L, 1, rfl, rfl, .inr ⟨L, 1, _, rfl, hloL, hL8, Nat.le_refl _, by decide, rfl, rfl⟩⟩, ⟨C, 1, rfl, rfl, .inr ⟨C, 1, _, rfl, hloC, hC8, Nat.le_refl _, by decide, rfl, rfl⟩⟩⟩
    · rw [List.length_append, flat_app, unhide HN]
      exact ownsRow_lower ho (show lo ≤ W6.heap.size by omega))
  have KS := hide (show ∀ X : World, Below W6.drew.heap.size W6.drew X → X.cell? ⟨B, 0, none⟩ = some (.string (ba nm)) ∧ X.cell? ⟨B, 1, none⟩ = some (.slice (some ⟨L, 0, none⟩) 1 1) ∧ X.cell? ⟨B, 2, none⟩ = some (.slice (some ⟨C, 0, none⟩) 1 1) from fun X hX => ⟨(hX.cell (p := ⟨B, 0, none⟩) hBlt6).trans q0, (hX.cell (p := ⟨B, 1, none⟩) hBlt6).trans q1, (hX.cell (p := ⟨B, 2, none⟩) hBlt6).trans q2⟩)
  have BA1 := hide hba1
  have BB1 := hide hbb1
  have BC1 := hide hbc1
  have HOA := hide hoa
  have BA := hide hba2
  have HOB := hide hob
  have BB := hide hbb2
  have HOC := hide hoc
  have BC := hide hbc2
  clear hoa hba2 hba1 hob hbb2 hbb1 hoc hbc2 hbc1 hi4 hx0' hx1' hx2' hsrc hfl hP6 hbw6 hb6 n3' hLe
  refine wp_region_held_drew (S := fun w9 => w9.cell? ⟨B, 0, none⟩ = some (.string (ba nm)) ∧ w9.cell? ⟨B, 1, none⟩ = some (.slice (some ⟨L, 0, none⟩) 1 1) ∧ w9.cell? ⟨B, 2, none⟩ = some (.slice (some ⟨C, 0, none⟩) 1 1)) (by kernel_rfl) ?_ (fun hHeld => ?_)
  · exact ⟨q0, q1, q2⟩
  refine wpAnyH_take (i := 1) (oi := { dst := some 84, op := Op.move (Operand.tmp 0), type := 39, pos := "ref.go:136", after := #[], guard := none }) (v := ?_) rfl (by kernel_rfl) (by kernel_rfl) (by kernel_rfl) (fun _ _ _ h => h) (Or.inl ⟨by rfl, ?_⟩) (by assumption) ?_
  rotate_left
  · intro w hSw; (try dsimp only at hSw); go_simp; (try with_reducible rfl)
  try simp only [Act.put, List.setIfInBounds_toArray, List.set_cons_zero, List.set_cons_succ]
  refine wpAnyH_take (i := 3) (oi := { dst := some 86, op := Op.load 49 (Operand.tmp 12), type := 49, pos := "ref.go:136", after := #[], guard := none }) (v := .agg #[.string (ba nm), .slice (some ⟨L, 0, none⟩) 1 1, .slice (some ⟨C, 0, none⟩) 1 1]) rfl (by kernel_rfl) (by kernel_rfl) (by kernel_rfl) (fun _ _ _ h => h) (Or.inl ⟨by rfl, by intro w hSw; obtain ⟨s0, s1, s2⟩ := hSw; go_simp; (try with_reducible rfl)⟩) (by assumption) ?_
  try simp only [Act.put, List.setIfInBounds_toArray, List.set_cons_zero, List.set_cons_succ]
  refine wpAnyH_ready (rs := [0, 4]) (by kernel_rfl) (by simp) ?_
  refine AllReadyH.cons (o := { dst := some 83, op := Op.buildSlice 39 0 #[], type := 39, pos := "ref.go:136", after := #[], guard := none }) rfl (fun K hK => ?_) (AllReadyH.cons (o := { dst := some 87, op := Op.buildSlice 39 1 #[(0, Operand.tmp 86)], type := 39, pos := "ref.go:136", after := #[{ on := 3, ground := Ground.data }], guard := none }) rfl (fun K hK => ?_) AllReadyH.nil)
  · go_simp
    refine hK.out _ _ (unhide KS _ ((Below.refl _ W6.drew).alloc (Nat.le_refl _) (.cells #[] 49))) (fun hHeld2 => ?_)
    clear hHeld
    have hHeld := hHeld2
    clear hHeld2 hK K
    try simp only [Act.put, List.setIfInBounds_toArray, List.set_cons_zero, List.set_cons_succ]
    refine wpAnyH_ready (rs := [2, 4]) (by kernel_rfl) (by simp) ?_
    refine AllReadyH.cons (o := { dst := some 85, op := Op.call { callee := Callee.builtin Builtin.append, args := #[Operand.tmp 83, Operand.tmp 84], argTypes := #[39, 39] }, type := 39, pos := "ref.go:136", after := #[{ on := 0, ground := Ground.data }, { on := 1, ground := Ground.data }], guard := none }) rfl (fun K hK => ?_) (AllReadyH.cons (o := { dst := some 87, op := Op.buildSlice 39 1 #[(0, Operand.tmp 86)], type := 39, pos := "ref.go:136", after := #[{ on := 3, ground := Ground.data }], guard := none }) rfl (fun K hK => ?_) AllReadyH.nil)
    · refine step_run (by rfl) (.tmp 83) (.tmp 84) 39 rfl _ _ rfl rfl _ _ ra1 ?_
      refine hK.out _ _ (unhide KS _ (unhide BA1)) (fun hHeld2 => ?_)
      clear hHeld
      have hHeld := hHeld2
      clear hHeld2 hK K
      try simp only [Act.put, List.setIfInBounds_toArray, List.set_cons_zero, List.set_cons_succ]
      refine wpAnyH_ready (rs := [4]) (by kernel_rfl) (by simp) ?_
      refine AllReadyH.cons (o := { dst := some 87, op := Op.buildSlice 39 1 #[(0, Operand.tmp 86)], type := 39, pos := "ref.go:136", after := #[{ on := 3, ground := Ground.data }], guard := none }) rfl (fun K hK => ?_) AllReadyH.nil
      go_simp
      refine hK.out _ _ (unhide KS _ ((unhide BA1).alloc (unhide BA1).size (.cells #[.string (ba nm), .slice (some ⟨L, 0, none⟩) 1 1, .slice (some ⟨C, 0, none⟩) 1 1] 49))) (fun hHeld2 => ?_)
      clear hHeld
      have hHeld := hHeld2
      clear hHeld2 hK K
      try simp only [Act.put, List.setIfInBounds_toArray, List.set_cons_zero, List.set_cons_succ]
      refine wpAnyH_ready (rs := [5]) (by kernel_rfl) (by simp) ?_
      refine AllReadyH.cons (o := { dst := some 88, op := Op.call { callee := Callee.builtin Builtin.append, args := #[Operand.tmp 85, Operand.tmp 87], argTypes := #[39, 39] }, type := 39, pos := "ref.go:136", after := #[{ on := 2, ground := Ground.data }, { on := 4, ground := Ground.data }, { on := 2, ground := Ground.chain }], guard := none }) rfl (fun K hK => ?_) AllReadyH.nil
      refine step_run (by rfl) (.tmp 85) (.tmp 87) 39 rfl _ _ rfl rfl _ _ ra2 ?_
      refine hK.out _ _ (unhide KS _ (unhide BA)) (fun hHeld2 => ?_)
      clear hHeld
      have hHeld := hHeld2
      clear hHeld2 hK K
      try simp only [Act.put, List.setIfInBounds_toArray, List.set_cons_zero, List.set_cons_succ]
      refine wpAnyH_take (i := 6) (oi := { dst := some 6, op := Op.assign (Operand.tmp 88), type := 39, pos := "ref.go:136", after := #[{ on := 5, ground := Ground.data }, { on := 5, ground := Ground.chain }, { on := 0, ground := Ground.phase }, { on := 1, ground := Ground.phase }, { on := 2, ground := Ground.phase }, { on := 3, ground := Ground.phase }, { on := 4, ground := Ground.phase }, { on := 5, ground := Ground.phase }], guard := none }) (v := ?_) rfl (by kernel_rfl) (by kernel_rfl) (by kernel_rfl) (fun _ _ _ h => h) (Or.inl ⟨by rfl, ?_⟩) (by assumption) ?_
      rotate_left
      · intro w hSw; (try dsimp only at hSw); go_simp; (try with_reducible rfl)
      try simp only [Act.put, List.setIfInBounds_toArray, List.set_cons_zero, List.set_cons_succ]
      refine wpAnyH_take (i := 7) (oi := { dst := some 7, op := Op.assign (Operand.const (Value.int IntKind.i64 0)), type := 3, pos := "ref.go:136", after := #[{ on := 6, ground := Ground.chain }, { on := 0, ground := Ground.phase }, { on := 1, ground := Ground.phase }, { on := 2, ground := Ground.phase }, { on := 3, ground := Ground.phase }, { on := 4, ground := Ground.phase }, { on := 5, ground := Ground.phase }, { on := 6, ground := Ground.phase }], guard := none }) (v := ?_) rfl (by kernel_rfl) (by kernel_rfl) (by kernel_rfl) (fun _ _ _ h => h) (Or.inl ⟨by rfl, ?_⟩) (by assumption) ?_
      rotate_left
      · intro w hSw; (try dsimp only at hSw); go_simp; (try with_reducible rfl)
      try simp only [Act.put, List.setIfInBounds_toArray, List.set_cons_zero, List.set_cons_succ]
      refine wpAnyH_done (by kernel_rfl) ?_ _
      go_wp2_with fail
      go_ret2
      exact ⟨_, _, rfl, unhide FIN _ _ _ (unhide HOA) (unhide BA)⟩
    · go_simp
      refine hK.out _ _ (unhide KS _ ((((Below.refl _ W6.drew).alloc (Nat.le_refl _) (.cells #[] 49))).alloc (by simp) (.cells #[.string (ba nm), .slice (some ⟨L, 0, none⟩) 1 1, .slice (some ⟨C, 0, none⟩) 1 1] 49))) (fun hHeld2 => ?_)
      clear hHeld
      have hHeld := hHeld2
      clear hHeld2 hK K
      try simp only [Act.put, List.setIfInBounds_toArray, List.set_cons_zero, List.set_cons_succ]
      refine wpAnyH_ready (rs := [2]) (by kernel_rfl) (by simp) ?_
      refine AllReadyH.cons (o := { dst := some 85, op := Op.call { callee := Callee.builtin Builtin.append, args := #[Operand.tmp 83, Operand.tmp 84], argTypes := #[39, 39] }, type := 39, pos := "ref.go:136", after := #[{ on := 0, ground := Ground.data }, { on := 1, ground := Ground.data }], guard := none }) rfl (fun K hK => ?_) AllReadyH.nil
      refine step_run (by rfl) (.tmp 83) (.tmp 84) 39 rfl _ _ rfl rfl _ _ rb1 ?_
      refine hK.out _ _ (unhide KS _ (unhide BB1)) (fun hHeld2 => ?_)
      clear hHeld
      have hHeld := hHeld2
      clear hHeld2 hK K
      try simp only [Act.put, List.setIfInBounds_toArray, List.set_cons_zero, List.set_cons_succ]
      refine wpAnyH_ready (rs := [5]) (by kernel_rfl) (by simp) ?_
      refine AllReadyH.cons (o := { dst := some 88, op := Op.call { callee := Callee.builtin Builtin.append, args := #[Operand.tmp 85, Operand.tmp 87], argTypes := #[39, 39] }, type := 39, pos := "ref.go:136", after := #[{ on := 2, ground := Ground.data }, { on := 4, ground := Ground.data }, { on := 2, ground := Ground.chain }], guard := none }) rfl (fun K hK => ?_) AllReadyH.nil
      refine step_run (by rfl) (.tmp 85) (.tmp 87) 39 rfl _ _ rfl rfl _ _ rb2 ?_
      refine hK.out _ _ (unhide KS _ (unhide BB)) (fun hHeld2 => ?_)
      clear hHeld
      have hHeld := hHeld2
      clear hHeld2 hK K
      try simp only [Act.put, List.setIfInBounds_toArray, List.set_cons_zero, List.set_cons_succ]
      refine wpAnyH_take (i := 6) (oi := { dst := some 6, op := Op.assign (Operand.tmp 88), type := 39, pos := "ref.go:136", after := #[{ on := 5, ground := Ground.data }, { on := 5, ground := Ground.chain }, { on := 0, ground := Ground.phase }, { on := 1, ground := Ground.phase }, { on := 2, ground := Ground.phase }, { on := 3, ground := Ground.phase }, { on := 4, ground := Ground.phase }, { on := 5, ground := Ground.phase }], guard := none }) (v := ?_) rfl (by kernel_rfl) (by kernel_rfl) (by kernel_rfl) (fun _ _ _ h => h) (Or.inl ⟨by rfl, ?_⟩) (by assumption) ?_
      rotate_left
      · intro w hSw; (try dsimp only at hSw); go_simp; (try with_reducible rfl)
      try simp only [Act.put, List.setIfInBounds_toArray, List.set_cons_zero, List.set_cons_succ]
      refine wpAnyH_take (i := 7) (oi := { dst := some 7, op := Op.assign (Operand.const (Value.int IntKind.i64 0)), type := 3, pos := "ref.go:136", after := #[{ on := 6, ground := Ground.chain }, { on := 0, ground := Ground.phase }, { on := 1, ground := Ground.phase }, { on := 2, ground := Ground.phase }, { on := 3, ground := Ground.phase }, { on := 4, ground := Ground.phase }, { on := 5, ground := Ground.phase }, { on := 6, ground := Ground.phase }], guard := none }) (v := ?_) rfl (by kernel_rfl) (by kernel_rfl) (by kernel_rfl) (fun _ _ _ h => h) (Or.inl ⟨by rfl, ?_⟩) (by assumption) ?_
      rotate_left
      · intro w hSw; (try dsimp only at hSw); go_simp; (try with_reducible rfl)
      try simp only [Act.put, List.setIfInBounds_toArray, List.set_cons_zero, List.set_cons_succ]
      refine wpAnyH_done (by kernel_rfl) ?_ _
      go_wp2_with fail
      go_ret2
      exact ⟨_, _, rfl, unhide FIN _ _ _ (unhide HOB) (unhide BB)⟩
  · go_simp
    refine hK.out _ _ (unhide KS _ ((Below.refl _ W6.drew).alloc (Nat.le_refl _) (.cells #[.string (ba nm), .slice (some ⟨L, 0, none⟩) 1 1, .slice (some ⟨C, 0, none⟩) 1 1] 49))) (fun hHeld2 => ?_)
    clear hHeld
    have hHeld := hHeld2
    clear hHeld2 hK K
    try simp only [Act.put, List.setIfInBounds_toArray, List.set_cons_zero, List.set_cons_succ]
    refine wpAnyH_ready (rs := [0]) (by kernel_rfl) (by simp) ?_
    refine AllReadyH.cons (o := { dst := some 83, op := Op.buildSlice 39 0 #[], type := 39, pos := "ref.go:136", after := #[], guard := none }) rfl (fun K hK => ?_) AllReadyH.nil
    go_simp
    refine hK.out _ _ (unhide KS _ ((((Below.refl _ W6.drew).alloc (Nat.le_refl _) (.cells #[.string (ba nm), .slice (some ⟨L, 0, none⟩) 1 1, .slice (some ⟨C, 0, none⟩) 1 1] 49))).alloc (by simp) (.cells #[] 49))) (fun hHeld2 => ?_)
    clear hHeld
    have hHeld := hHeld2
    clear hHeld2 hK K
    try simp only [Act.put, List.setIfInBounds_toArray, List.set_cons_zero, List.set_cons_succ]
    refine wpAnyH_ready (rs := [2]) (by kernel_rfl) (by simp) ?_
    refine AllReadyH.cons (o := { dst := some 85, op := Op.call { callee := Callee.builtin Builtin.append, args := #[Operand.tmp 83, Operand.tmp 84], argTypes := #[39, 39] }, type := 39, pos := "ref.go:136", after := #[{ on := 0, ground := Ground.data }, { on := 1, ground := Ground.data }], guard := none }) rfl (fun K hK => ?_) AllReadyH.nil
    refine step_run (by rfl) (.tmp 83) (.tmp 84) 39 rfl _ _ rfl rfl _ _ rc1 ?_
    refine hK.out _ _ (unhide KS _ (unhide BC1)) (fun hHeld2 => ?_)
    clear hHeld
    have hHeld := hHeld2
    clear hHeld2 hK K
    try simp only [Act.put, List.setIfInBounds_toArray, List.set_cons_zero, List.set_cons_succ]
    refine wpAnyH_ready (rs := [5]) (by kernel_rfl) (by simp) ?_
    refine AllReadyH.cons (o := { dst := some 88, op := Op.call { callee := Callee.builtin Builtin.append, args := #[Operand.tmp 85, Operand.tmp 87], argTypes := #[39, 39] }, type := 39, pos := "ref.go:136", after := #[{ on := 2, ground := Ground.data }, { on := 4, ground := Ground.data }, { on := 2, ground := Ground.chain }], guard := none }) rfl (fun K hK => ?_) AllReadyH.nil
    refine step_run (by rfl) (.tmp 85) (.tmp 87) 39 rfl _ _ rfl rfl _ _ rc2 ?_
    refine hK.out _ _ (unhide KS _ (unhide BC)) (fun hHeld2 => ?_)
    clear hHeld
    have hHeld := hHeld2
    clear hHeld2 hK K
    try simp only [Act.put, List.setIfInBounds_toArray, List.set_cons_zero, List.set_cons_succ]
    refine wpAnyH_take (i := 6) (oi := { dst := some 6, op := Op.assign (Operand.tmp 88), type := 39, pos := "ref.go:136", after := #[{ on := 5, ground := Ground.data }, { on := 5, ground := Ground.chain }, { on := 0, ground := Ground.phase }, { on := 1, ground := Ground.phase }, { on := 2, ground := Ground.phase }, { on := 3, ground := Ground.phase }, { on := 4, ground := Ground.phase }, { on := 5, ground := Ground.phase }], guard := none }) (v := ?_) rfl (by kernel_rfl) (by kernel_rfl) (by kernel_rfl) (fun _ _ _ h => h) (Or.inl ⟨by rfl, ?_⟩) (by assumption) ?_
    rotate_left
    · intro w hSw; (try dsimp only at hSw); go_simp; (try with_reducible rfl)
    try simp only [Act.put, List.setIfInBounds_toArray, List.set_cons_zero, List.set_cons_succ]
    refine wpAnyH_take (i := 7) (oi := { dst := some 7, op := Op.assign (Operand.const (Value.int IntKind.i64 0)), type := 3, pos := "ref.go:136", after := #[{ on := 6, ground := Ground.chain }, { on := 0, ground := Ground.phase }, { on := 1, ground := Ground.phase }, { on := 2, ground := Ground.phase }, { on := 3, ground := Ground.phase }, { on := 4, ground := Ground.phase }, { on := 5, ground := Ground.phase }, { on := 6, ground := Ground.phase }], guard := none }) (v := ?_) rfl (by kernel_rfl) (by kernel_rfl) (by kernel_rfl) (fun _ _ _ h => h) (Or.inl ⟨by rfl, ?_⟩) (by assumption) ?_
    rotate_left
    · intro w hSw; (try dsimp only at hSw); go_simp; (try with_reducible rfl)
    try simp only [Act.put, List.setIfInBounds_toArray, List.set_cons_zero, List.set_cons_succ]
    refine wpAnyH_done (by kernel_rfl) ?_ _
    go_wp2_with fail
    go_ret2
    exact ⟨_, _, rfl, unhide FIN _ _ _ (unhide HOC) (unhide BC)⟩
end Go.Proofs.YtocjcbdkihbbiaaDoor
