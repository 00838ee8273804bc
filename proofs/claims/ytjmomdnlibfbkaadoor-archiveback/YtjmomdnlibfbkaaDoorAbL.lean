import Derived.Test.YtjmomdnlibfbkaaDoorAbK
namespace Go.Proofs.YtjmomdnlibfbkaaDoor
open Go.RowKit

/-- FILES AS THEY READ. -/
def Fb (w : World) (v : Value) (fs : List Fl) : Prop := ∃ a c, v = .slice a fs.length c ∧ fs.length ≤ c ∧ ∀ (i : Nat) (f : Fl), fs[i]? = some f → ∃ b o x, a = some ⟨b, o, none⟩ ∧ b < w.heap.size ∧ w.rangeAt b (o + i * 2) [.string f.1, x] ∧ Rb w x f.2
theorem Fb.form {w : World} {v : Value} {fs : List Fl} (h : Fb w v fs) : ∃ a c, v = .slice a fs.length c ∧ fs.length ≤ c := let ⟨a, c, e, k, _⟩ := h; ⟨a, c, e, k⟩
theorem Fb.at {w : World} {a : Option Addr} {n c : Nat} {fs : List Fl} (h : Fb w (.slice a n c) fs) {i : Nat} (hi : i < fs.length) : ∃ b o x y, a = some ⟨b, o, none⟩ ∧ w.rangeAt b (o + i * 2) [.string fs[i].1, .slice x fs[i].2.length y] ∧ Rb w (.slice x fs[i].2.length y) fs[i].2 := by
  obtain ⟨a2, c2, e, _, k⟩ := h
  cases e
  obtain ⟨b, o, x, q1, _, q3, q4⟩ := k i _ (List.getElem?_eq_getElem hi)
  obtain ⟨xa, xc, rfl, _⟩ := q4.form
  exact ⟨b, o, xa, xc, q1, q3, q4⟩
theorem Fb.later {w w' : World} {v : Value} {fs : List Fl} (h : Fb w v fs) (hb : Below w.heap.size w w') : Fb w' v fs := by
  obtain ⟨a, c, e, k, hh⟩ := h
  refine ⟨a, c, e, k, fun i f hi => ?_⟩
  obtain ⟨b, o, x, q1, q2, q3, q4⟩ := hh i f hi
  exact ⟨b, o, x, q1, Nat.lt_of_lt_of_le q2 hb.size, fun j u hj => (hb.cell (p := ⟨b, o + i * 2 + j, none⟩) q2).trans (q3 j u hj), q4.later hb⟩
/-- THE FIRST ERROR OF SINGLE FILES. -/
def ckE : List Fl → Int
  | [] => 0
  | f :: r => if (spl f.1).2.2 ≠ 0 then (spl f.1).2.2 else if 1048576 < f.2.length then 78 else ckE r
theorem ckE_iff : ∀ fs : List Fl, ckE fs = 0 ↔ ∀ f ∈ fs, okF f
  | [] => ⟨fun _ f hf => (by cases hf), fun _ => rfl⟩
  | f :: r => by
    unfold ckE
    by_cases h1 : (spl f.1).2.2 = 0
    · rw [if_neg (fun q => q h1)]
      by_cases h2 : 1048576 < f.2.length
      · rw [if_pos h2]
        exact ⟨fun q => (by cases q), fun q => by have := (q f (List.mem_cons_self ..)).2; omega⟩
      · rw [if_neg h2, ckE_iff r]
        refine ⟨fun q g hg => ?_, fun q g hg => q g (List.mem_cons_of_mem _ hg)⟩
        rcases List.mem_cons.1 hg with rfl | hg
        · exact ⟨h1, by omega⟩
        · exact q g hg
    · rw [if_pos h1]
      exact ⟨fun q => absurd q h1, fun q => absurd (q f (List.mem_cons_self ..)).1 h1⟩
theorem ckE_drop {fs : List Fl} {i : Nat} (hi : i < fs.length) : ckE (fs.drop i) = if (spl fs[i].1).2.2 ≠ 0 then (spl fs[i].1).2.2 else if 1048576 < fs[i].2.length then 78 else ckE (fs.drop (i + 1)) := by
  rw [List.drop_eq_getElem_cons hi]
  rfl
set_option maxRecDepth 100000 in
set_option maxHeartbeats 8000000 in
theorem checkFiles_any {w : World} {v : Value} {fs : List Fl} (h : Fb w v fs) (hn : fs.length ≤ 5864062014805) (hs : ∀ f ∈ fs, f.1.size ≤ 9223372036854775807) (hb : ∀ f ∈ fs, f.2.length ≤ 140737488355328) (hg : Glob w) :
    Calls Tryd.prog 15 #[v] w fun e w' => e = .returned (.int .i64 (ckE fs)) ∧ Below w.heap.size w w' := by
  obtain ⟨a, c, rfl, hc⟩ := h.form
  have HG := hide hg
  have HA := hide h
  have HS := hide hs
  have HBB := hide hb
  have HE := hide (show ckE fs = ckE (fs.drop 0) from rfl)
  obtain ⟨N, hN⟩ : ∃ N, fs.length = N := ⟨_, rfl⟩
  have HN := hide hN
  rw [hN] at hn HA hc ⊢
  obtain ⟨R, hR⟩ : ∃ R, ckE fs = R := ⟨_, rfl⟩
  rw [hR] at HE ⊢
  clear h hg hs hb hN hR
  go_enter Tryd.func15, Tryd.ntmps15
  go_wp2_with fail
  go_loopg [4, 5, 8] N (fun gq _ _ iv wr => ∃ i : Nat, iv = .int .i64 i ∧ i ≤ N ∧ N - i ≤ gq ∧ Hid (R = ckE (fs.drop i)) ∧ Hid (Below w.heap.size w wr))
  case atStart => exact ⟨0, by go_num, by omega, by omega, HE, hide (Below.refl _ _)⟩
  case round =>
    clear HE
    obtain ⟨i, rfl, hi, hgk, HE, HW⟩ := hrel
    by_cases hlt : i < N
    · have hin : (i : Int) < (N : Int) := by omega
      have hil : i < fs.length := by have := unhide HN; omega
      obtain ⟨b, o, x, y, rfl, hrg, hRb⟩ := ((unhide HA).later (unhide HW)).at hil
      have hsz := unhide HS _ (List.getElem_mem hil)
      have hbl := unhide HBB _ (List.getElem_mem hil)
      have HD := hide (ckE_drop hil)
      generalize fs[i] = f at *
      have HRG := hide hrg
      clear hrg hRb
      have CK := hide (fun X (hX : Below w.heap.size w X) => CheckPath_any f.1 X hsz ((unhide HG).later hX))
      generalize (spl f.1).2.2 = er at *
      have HLO := hide (unhide HW).size
      by_cases h0 : er = 0
      · subst h0
        rw [if_neg (fun q => q rfl)] at HD
        by_cases hz : 1048576 < f.2.length
        · have hz' : (1048576 : Int) < (f.2.length : Int) := by omega
          rw [if_pos hz] at HD
          go_wp2_with (first
            | ((with_reducible refine m_load (t := 40) (k := 2) Tryd.underlying40 rfl infoBl _ rfl rfl b (o + i * 2) rfl [.string f.1, .slice x f.2.length y] (unhide HRG) rfl ?_))
            | ((with_reducible refine b_alloc (t := 40) (k := 2) zeroBl rfl rfl ?_); intro w4 q4 k4 z4; have P4 := hide q4; have W4 := hide ((unhide HW).trans (k4.mono (unhide HLO))); clear q4 k4 z4)
            | ((with_reducible refine b_store (t := 40) (k := 2) infoBl _ _ rfl rfl wr.heap.size rfl [.string f.1, .slice x f.2.length y] rfl rfl (two_one rfl) _ (unhide P4) ?_); intro w5 q5 o5 k5 z5; have P5 := hide q5; have c0 := q5.range 0 _ rfl; have W5 := hide ((unhide W4).trans (k5 _ (unhide HLO))); clear q5 o5 k5 z5 P4 W4)
            | (go_at_call 26; refine (unhide CK _ (unhide W5)).mono ?_; rintro e w6 ⟨rfl, b6⟩; have c1 := ((unhide P5).later b6).range 1 _ rfl; have W6 := hide ((unhide W5).trans (b6.mono (unhide W5).size)); clear b6 c0 P5 W5 CK))
          go_ret
          exact ⟨by rw [unhide HE, unhide HD]; rfl, unhide W6⟩
        · have hz' : ¬ (1048576 : Int) < (f.2.length : Int) := by omega
          rw [if_neg hz] at HD
          go_wp2_with (first
            | ((with_reducible refine m_load (t := 40) (k := 2) Tryd.underlying40 rfl infoBl _ rfl rfl b (o + i * 2) rfl [.string f.1, .slice x f.2.length y] (unhide HRG) rfl ?_))
            | ((with_reducible refine b_alloc (t := 40) (k := 2) zeroBl rfl rfl ?_); intro w4 q4 k4 z4; have P4 := hide q4; have W4 := hide ((unhide HW).trans (k4.mono (unhide HLO))); clear q4 k4 z4)
            | ((with_reducible refine b_store (t := 40) (k := 2) infoBl _ _ rfl rfl wr.heap.size rfl [.string f.1, .slice x f.2.length y] rfl rfl (two_one rfl) _ (unhide P4) ?_); intro w5 q5 o5 k5 z5; have P5 := hide q5; have c0 := q5.range 0 _ rfl; have W5 := hide ((unhide W4).trans (k5 _ (unhide HLO))); clear q5 o5 k5 z5 P4 W4)
            | (go_at_call 26; refine (unhide CK _ (unhide W5)).mono ?_; rintro e w6 ⟨rfl, b6⟩; have c1 := ((unhide P5).later b6).range 1 _ rfl; have W6 := hide ((unhide W5).trans (b6.mono (unhide W5).size)); clear b6 c0 P5 W5 CK))
          go_roundg (N - (i + 1))
          case measure => omega
          case rel => exact ⟨i + 1, by go_num, by omega, by omega, hide (by rw [unhide HE, unhide HD]), W6⟩
      · rw [if_pos h0] at HD
        go_wp2_with (first
          | ((with_reducible refine m_load (t := 40) (k := 2) Tryd.underlying40 rfl infoBl _ rfl rfl b (o + i * 2) rfl [.string f.1, .slice x f.2.length y] (unhide HRG) rfl ?_))
          | ((with_reducible refine b_alloc (t := 40) (k := 2) zeroBl rfl rfl ?_); intro w4 q4 k4 z4; have P4 := hide q4; have W4 := hide ((unhide HW).trans (k4.mono (unhide HLO))); clear q4 k4 z4)
          | ((with_reducible refine b_store (t := 40) (k := 2) infoBl _ _ rfl rfl wr.heap.size rfl [.string f.1, .slice x f.2.length y] rfl rfl (two_one rfl) _ (unhide P4) ?_); intro w5 q5 o5 k5 z5; have P5 := hide q5; have c0 := q5.range 0 _ rfl; have W5 := hide ((unhide W4).trans (k5 _ (unhide HLO))); clear q5 o5 k5 z5 P4 W4)
          | (go_at_call 26; refine (unhide CK _ (unhide W5)).mono ?_; rintro e w6 ⟨rfl, b6⟩; have c1 := ((unhide P5).later b6).range 1 _ rfl; have W6 := hide ((unhide W5).trans (b6.mono (unhide W5).size)); clear b6 c0 P5 W5 CK))
        go_ret
        exact ⟨by rw [unhide HE, unhide HD]; rfl, unhide W6⟩
    · obtain rfl : i = N := by omega
      have hge : ¬ (i : Int) < (i : Int) := by omega
      have HZ := hide (show R = 0 by rw [unhide HE, List.drop_of_length_le (Nat.le_of_eq (unhide HN))]; rfl)
      go_wp2_with fail
      go_ret
      exact ⟨by rw [unhide HZ]; rfl, unhide HW⟩
end Go.Proofs.YtjmomdnlibfbkaaDoor
