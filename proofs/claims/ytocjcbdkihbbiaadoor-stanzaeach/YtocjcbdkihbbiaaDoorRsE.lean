import Derived.Test.YtocjcbdkihbbiaaDoorRsD
namespace Go.Proofs.YtocjcbdkihbbiaaDoor
open Go.RowKit Go.Shelf

theorem snoc_of {α : Type} (l : List α) (h : 0 < l.length) : ∃ a x, l = a ++ [x] ∧ l.length = a.length + 1 := by
  have hne : l ≠ [] := by intro e; subst e; exact absurd h (Nat.lt_irrefl 0)
  exact ⟨l.dropLast, l.getLast hne, (List.dropLast_concat_getLast hne).symm, by rw [List.length_dropLast]; omega⟩

/-- A FOLDED LINE. -/
theorem rline_goP (lo : Nat) (p : List Fd) (ts : List Tv) (pa : Option Addr) (pc : Nat) (s : Bs) (k : Nat) (w : World) (hs : 0 < s.length) (hs2 : s.length ≤ 16777216) (hb : blB ((ba s)[0]'(by rw [ba_size]; exact hs)) = true) (hlo : lo ≤ w.heap.size) (hP : RP lo w (.slice pa p.length pc) p ts) (hp : 0 < p.length) (hl : p.length ≤ 16777216) (hls : ∀ f ∈ p, f.ls.length ≤ 16777216 ∧ f.ns.length ≤ 16777216) :
    Calls Tryd.prog 69 #[.slice pa p.length pc, .string (ba s), .int .i64 k] w fun e w' => ∃ v' ts', e = .returned (.tuple #[v', .int .i64 0]) ∧ RP lo w' v' (extL k s p) ts' ∧ Below w.heap.size w w' := by
  obtain ⟨p0, f, rfl, hpl⟩ := snoc_of p hp
  have htl := hP.len
  obtain ⟨ts0, t, rfl, htsl⟩ := snoc_of ts (by omega)
  have hm : ts0.length = p0.length := by omega
  have hF := hP.each p0.length t f (by rw [List.getElem?_append_right (by omega), hm]; simp) (by simp)
  obtain ⟨g, rfl, hg, hmc, _⟩ := hP.blk hp
  obtain ⟨c0, c1, c2⟩ := hP.cellA p0.length t (by rw [List.getElem?_append_right (by omega), hm]; simp)
  obtain ⟨lb, lc, e1, hlr⟩ := hF.ls
  obtain ⟨ab, ac, e2, har⟩ := hF.ns
  obtain ⟨hlb, hlc, hlcell⟩ := row_cells hlr
  obtain ⟨hab, _, hacell⟩ := row_cells har
  rw [hF.nm] at c0
  rw [e1] at c1
  rw [e2] at c2
  have hff := hls f (by simp)
  have hsz : (ba s).size = s.length := ba_size s
  have hxs : ∀ j u, (flat ts0)[j]? = some u → w.cell? ⟨g, j, none⟩ = some u := fun j u hj => by
    have hj2 : (flat (ts0 ++ [t]))[j]? = some u := by
      rw [flat_app, List.getElem?_append_left (List.getElem?_eq_some_iff.1 hj).1]
      exact hj
    have := hP.row.cells (g := g) rfl j u hj2
    rw [Addr.add_mid, Nat.zero_add] at this
    exact this
  have hones : ∀ u ∈ flat ts0, u.oneCell' = true := fun u hu => hP.ones u (by rw [flat_app]; exact List.mem_append_left _ hu)
  rw [extL_snoc, hpl]
  refine (rline_go p0.length g pc (ba s) k (ba f.nm) lb lc f.ls.length ab ac f.ns.length f.ls f.ns (flat ts0) w (by omega) (by omega) hb (by omega) c0 c1 c2 hlb rfl hff.1 hlcell hab rfl hff.2 hacell hg (by omega) (by rw [flat_len, hm]) hones hxs).mono ?_
  rintro e w' ⟨v', g1, cap1, g2, cap2, rfl, hbw, hown, hl1, hl2⟩
  have htx : ((ba s).extract 1 (ba s).size).data.toList = s.drop 1 := by rw [ba_drop, ba_list]
  rw [htx] at hl1
  generalize Lib.trimRightS (s.drop 1) bl2 = tx at hl1 ⊢
  have hP' := hP.later hbw
  refine ⟨v', ts0 ++ [⟨.string (ba f.nm), .slice (some ⟨g1, 0, none⟩) (f.ls.length + 1) cap1, .slice (some ⟨g2, 0, none⟩) (f.ns.length + 1) cap2⟩], rfl, ⟨by simp [hm], fun i t' f' h1 h2 => ?_, ?_⟩, hbw⟩
  · rcases Nat.lt_or_ge i p0.length with hi | hi
    · rw [List.getElem?_append_left (by omega)] at h1
      rw [List.getElem?_append_left hi] at h2
      exact hP'.each i t' f' (by rw [List.getElem?_append_left (by omega)]; exact h1) (by rw [List.getElem?_append_left hi]; exact h2)
    · have hi2 : i = p0.length := by
        have := (List.getElem?_eq_some_iff.1 h2).1
        simp at this
        omega
      subst hi2
      rw [List.getElem?_append_right (by omega), hm] at h1
      rw [List.getElem?_append_right (Nat.le_refl _)] at h2
      simp at h1 h2
      subst h1 h2
      refine ⟨rfl, ⟨g1, cap1, by simp, ownsRow_lower ?_ hlo⟩, ⟨g2, cap2, by simp, ownsRow_lower ?_ hlo⟩⟩
      · have e1 : strs (f.ls ++ [tx]) = strs f.ls ++ [.string (ba tx)] := by simp [strs]
        show w'.ownsRow w.heap.size 9 1 (.slice (some ⟨g1, 0, none⟩) (f.ls ++ [tx]).length cap1) (f.ls ++ [tx]).length (strs (f.ls ++ [tx]))
        rw [e1, List.length_append]
        exact hl1
      · have e1 : ints (f.ns ++ [k]) = ints f.ns ++ [.int .i64 k] := by simp [ints]
        show w'.ownsRow w.heap.size 3 1 (.slice (some ⟨g2, 0, none⟩) (f.ns ++ [k]).length cap2) (f.ns ++ [k]).length (ints (f.ns ++ [k]))
        rw [e1, List.length_append]
        exact hl2
  · rw [flat_app, List.length_append]
    exact ownsRow_lower hown hlo

set_option maxRecDepth 100000 in
set_option maxHeartbeats 2000000 in
theorem rline_none (pa : Option Addr) (pc : Nat) (s : Bs) (k : Nat) (w : World) (hs : 0 < s.length) (hb : blB ((ba s)[0]'(by rw [ba_size]; exact hs)) = true) :
    Calls Tryd.prog 69 #[.slice pa 0 pc, .string (ba s), .int .i64 k] w fun e w' => e = .returned (.tuple #[.slice pa 0 pc, .int .i64 32]) ∧ w' = w := by
  have cb := hide (fun w => by have := rblank_any ((ba s)[0]'(by rw [ba_size]; exact hs)) w; rw [hb] at this; exact this)
  have hs' : 0 < (ba s).size := by rw [ba_size]; exact hs
  clear hb
  go_enter Tryd.func69, Tryd.ntmps69
  go_wp2_with (go_at_call 86; refine (unhide cb _).mono ?_; rintro e w1 ⟨rfl, rfl⟩)
  go_ret2
  exact ⟨rfl, rfl⟩
set_option maxRecDepth 100000 in
set_option maxHeartbeats 2000000 in
theorem rline_bad (N : Nat) (pa : Option Addr) (pc : Nat) (s : Bs) (k : Nat) (w : World) (hs : 0 < s.length) (hs2 : s.length ≤ 16777216) (hb : blB ((ba s)[0]'(by rw [ba_size]; exact hs)) = false) (hc : (decide (58 ∈ s) && nameL (bef 58 s)) = false) :
    Calls Tryd.prog 69 #[.slice pa N pc, .string (ba s), .int .i64 k] w fun e w' => e = .returned (.tuple #[.slice pa N pc, .int .i64 31]) ∧ w' = w := by
  have cb := hide (fun w => by have := rblank_any ((ba s)[0]'(by rw [ba_size]; exact hs)) w; rw [hb] at this; exact this)
  have hs' : 0 < (ba s).size := by rw [ba_size]; exact hs
  have hsz : (ba s).size = s.length := ba_size s
  by_cases hm : 58 ∈ s
  · obtain ⟨_, i2, _⟩ := (idx1 58 s).2 hm
    have hn : nameL (bef 58 s) = false := by simpa [hm] using hc
    have cc := hide (fun w => by have := rcolon_any (ba s) w (by omega); rw [ba_list, show colI s = ((bef 58 s).length : Int) from if_pos hm] at this; exact this)
    have hbl := bef_le 58 s
    have x1 : (ba s).extract 0 (bef 58 s).length = ba (bef 58 s) := by rw [ba_take, i2]
    have cN := hide (fun w => by have := rName_any (ba (bef 58 s)) w (by rw [ba_size]; omega); rw [ba_list, hn] at this; exact this)
    generalize bef 58 s = nm at *
    obtain ⟨n1, hn1⟩ : ∃ n1, n1 = nm.length := ⟨_, rfl⟩
    rw [← hn1] at x1 cc hbl
    have e1 : ¬ (n1 : Int) < 0 := by omega
    have e2 : (n1 : Int) ≤ ((ba s).size : Int) := by omega
    have e5 : n1 ≤ (ba s).size := by omega
    clear hb hc hm hn i2 hn1 hsz
    go_enter Tryd.func69, Tryd.ntmps69
    go_wp2_with (first | (go_at_call 86; refine (unhide cb _).mono ?_; rintro e w1 ⟨rfl, rfl⟩) | (go_at_call 87; refine (unhide cc _).mono ?_; rintro e w2 ⟨rfl, rfl⟩) | (go_at_call 49; refine (unhide cN _).mono ?_; rintro e w3 ⟨rfl, rfl⟩))
    go_ret2
    exact ⟨rfl, rfl⟩
  · have cc := hide (fun w => by have := rcolon_any (ba s) w (by omega); rw [ba_list, show colI s = -1 from if_neg hm] at this; exact this)
    clear hb hc hm hsz
    go_enter Tryd.func69, Tryd.ntmps69
    go_wp2_with (first | (go_at_call 86; refine (unhide cb _).mono ?_; rintro e w1 ⟨rfl, rfl⟩) | (go_at_call 87; refine (unhide cc _).mono ?_; rintro e w2 ⟨rfl, rfl⟩))
    go_ret2
    exact ⟨rfl, rfl⟩
set_option maxRecDepth 100000 in
set_option maxHeartbeats 2000000 in
theorem rline_twice (lo : Nat) (p : List Fd) (ts : List Tv) (pa : Option Addr) (pc : Nat) (s : Bs) (k : Nat) (w : World) (hs : 0 < s.length) (hs2 : s.length ≤ 16777216) (hb : blB ((ba s)[0]'(by rw [ba_size]; exact hs)) = false) (hP : RP lo w (.slice pa p.length pc) p ts) (hl : p.length ≤ 16777216) (hnm : ∀ f ∈ p, f.nm.length ≤ 16777216)
    (hc : 58 ∈ s) (hn : nameL (bef 58 s) = true) (hh : hasN p (bef 58 s) = true) :
    Calls Tryd.prog 69 #[.slice pa p.length pc, .string (ba s), .int .i64 k] w fun e w' => e = .returned (.tuple #[.slice pa p.length pc, .int .i64 33]) ∧ Below w.heap.size w w' := by
  have cb := hide (fun w => by have := rblank_any ((ba s)[0]'(by rw [ba_size]; exact hs)) w; rw [hb] at this; exact this)
  have hs' : 0 < (ba s).size := by rw [ba_size]; exact hs
  have hsz : (ba s).size = s.length := ba_size s
  obtain ⟨_, i2, _⟩ := (idx1 58 s).2 hc
  have cc := hide (fun w => by have := rcolon_any (ba s) w (by omega); rw [ba_list, show colI s = ((bef 58 s).length : Int) from if_pos hc] at this; exact this)
  have hbl := bef_le 58 s
  have x1 : (ba s).extract 0 (bef 58 s).length = ba (bef 58 s) := by rw [ba_take, i2]
  have cN := hide (fun w => by have := rName_any (ba (bef 58 s)) w (by rw [ba_size]; omega); rw [ba_list, hn] at this; exact this)
  have cF := hide (fun (w1 : World) (h : RP lo w1 (.slice pa p.length pc) p ts) => rfind_any lo p ts pa pc (bef 58 s) w1 h hl (by omega) hnm)
  generalize bef 58 s = nm at *
  obtain ⟨n1, hn1⟩ : ∃ n1, n1 = nm.length := ⟨_, rfl⟩
  rw [← hn1] at x1 cc hbl
  have e1 : ¬ (n1 : Int) < 0 := by omega
  have e2 : (n1 : Int) ≤ ((ba s).size : Int) := by omega
  have e5 : n1 ≤ (ba s).size := by omega
  have HP := hide hP
  have HH := hide hh
  generalize p.length = N at *
  clear hP hh hnm hb hc hn i2 hn1 hsz
  go_enter Tryd.func69, Tryd.ntmps69
  go_wp2_with (first | (go_at_call 86; refine (unhide cb _).mono ?_; rintro e w1 ⟨rfl, rfl⟩) | (go_at_call 87; refine (unhide cc _).mono ?_; rintro e w2 ⟨rfl, rfl⟩) | (go_at_call 49; refine (unhide cN _).mono ?_; rintro e w3 ⟨rfl, rfl⟩) | (go_at_call 43; refine (unhide cF _ (unhide HP)).mono ?_; rintro e w4 ⟨x, rfl, hx, hb4⟩; have HB4 := hide hb4; have hx0 : 0 ≤ x := hx.2 (unhide HH); clear hb4 hx))
  go_ret2
  exact ⟨rfl, unhide HB4⟩
end Go.Proofs.YtocjcbdkihbbiaaDoor
