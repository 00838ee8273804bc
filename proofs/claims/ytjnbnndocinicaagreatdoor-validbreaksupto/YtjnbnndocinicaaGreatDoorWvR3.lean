import Derived.Test.YtjnbnndocinicaaGreatDoorWvR2
import Derived.Test.YtjnbnndocinicaaGreatDoorWvI
import Derived.Test.YtjnbnndocinicaaGreatDoorWvR1
import Derived.WalkMore
import Derived.Deep.LoopGhost
import Derived.Test.YtjnbnndocinicaaGreatDoorUmB
import Derived.Deep.RegionHeld3
import Derived.Deep.RegionLaw
import Derived.Deep.Cut
import Derived.Deep.QuietTactic
import Derived.BigQuiet
import Derived.BigRegion
namespace Go.Proofs.YtjnbnndocinicaaGreatDoor
open Go.RowKit Go.Maps

/-- PART LIES IN WHOLE, in the whole's order. -/
def SubP (part ps : List Pk) (f : Nat → Nat) : Prop := (∀ i j, i < j → f i < f j) ∧ ∀ (i : Nat) (q : Pk), part[i]? = some q → ps[f i]? = some q
theorem SubP.ne {part ps : List Pk} {f : Nat → Nat} (h : SubP part ps f) {i j : Nat} (e : i ≠ j) : f i ≠ f j := by
  rcases Nat.lt_or_gt_of_ne e with l | l
  · have := h.1 _ _ l; omega
  · have := h.1 _ _ l; omega
theorem SubP.mP {part ps : List Pk} {f : Nat → Nat} (h : SubP part ps f) {k : Nat} {p : Pk} (hp : part[k]? = some p) (a : At) : mP part a k = Proofs.YtjnbnndocinicaaGreatDoor.mP ps a (f k) := by
  rw [mP_at hp, mP_at (h.2 k p hp)]
/-- P11.7: no name, no path, no conflict twice: that a part has from the whole. -/
theorem SubP.apt {part ps : List Pk} {f : Nat → Nat} (h : SubP part ps f) (ha : Apt ps) : Apt part := fun i k q p hq hp => by
  have h1 := ha (f i) (f k) q p (h.2 i q hq) (h.2 k p hp)
  refine ⟨fun hk => h1.nm (h.1 k i hk), fun hk a haa => ?_, fun n m x y hx hy ho => h1.fs n m x y hx hy ?_⟩
  · rw [h.mP hp]
    exact h1.cf (h.ne hk) a haa
  · rcases ho with hk | hm
    · exact .inl (h.ne hk)
    · exact .inr hm
/-- THE LIST TURNED. -/
theorem rev_at {ps : List Pk} {i : Nat} {q : Pk} (h : ps.reverse[i]? = some q) : i < ps.length ∧ ps[ps.length - 1 - i]? = some q := by
  have hi := (List.getElem?_eq_some_iff.1 h).1
  rw [List.length_reverse] at hi
  rw [List.getElem?_reverse hi] at h
  exact ⟨hi, h⟩
theorem at_rev {ps : List Pk} {i : Nat} {q : Pk} (h : ps[i]? = some q) : ps.reverse[ps.length - 1 - i]? = some q := by
  have hi := (List.getElem?_eq_some_iff.1 h).1
  rw [List.getElem?_reverse (by omega), show ps.length - 1 - (ps.length - 1 - i) = i by omega]
  exact h
theorem mP_rev {ps : List Pk} {a : At} {i : Nat} (h : mP ps a i = true) : mP ps.reverse a (ps.length - 1 - i) = true := by
  have hi := mP_lt h
  obtain ⟨q, hq⟩ : ∃ q, ps[i]? = some q := ⟨_, List.getElem?_eq_getElem hi⟩
  rw [mP_at (at_rev hq), ← mP_at hq]
  exact h
theorem imP_iff {ps : List Pk} {but : Int} {al : List At} : imP ps (fun _ => true) but al = true ↔ ∃ a ∈ al, ∃ p, mP ps a p = true ∧ (p : Int) ≠ but := by
  constructor
  · intro h
    unfold imP at h
    rw [List.any_eq_true] at h
    obtain ⟨a, ha, h⟩ := h
    rw [List.any_eq_true] at h
    obtain ⟨p, _, h⟩ := h
    rw [Bool.and_eq_true] at h
    exact ⟨a, ha, p, h.1, by have := h.2; unfold hitP at this; simpa using this⟩
  · rintro ⟨a, ha, p, hm, hp⟩
    exact imP_yes ha hm (by unfold hitP; rw [decide_eq_false hp]; rfl)
theorem imP_rev {ps : List Pk} {al : List At} {but but2 : Int} (hb : ∀ p, p < ps.length → (p : Int) ≠ but → ((ps.length - 1 - p : Nat) : Int) ≠ but2) (h : imP ps (fun _ => true) but al = true) : imP ps.reverse (fun _ => true) but2 al = true := by
  obtain ⟨a, ha, p, hm, hp⟩ := imP_iff.1 h
  exact imP_iff.2 ⟨a, ha, _, mP_rev hm, hb p (mP_lt hm) hp⟩
theorem cld_rev {ps : List Pk} (h : Cld ps) : Cld ps.reverse := fun i q hq => by
  obtain ⟨hi, hq2⟩ := rev_at hq
  have h1 := h _ q hq2
  refine ⟨fun al hal => imP_rev (fun p hp _ => by omega) (h1.1 al hal), fun al hal => imP_rev (fun p hp hne => ?_) (h1.2 al hal)⟩
  omega
theorem apt_rev {ps : List Pk} (h : Apt ps) : Apt ps.reverse := fun i k q p hq hp => by
  obtain ⟨hi, hq2⟩ := rev_at hq
  obtain ⟨hk, hp2⟩ := rev_at hp
  have h1 := h _ _ q p hq2 hp2
  have h2 := h _ _ p q hp2 hq2
  refine ⟨fun hlt e => h2.nm (by omega) e.symm, fun hne a haa => ?_, fun n m x y hx hy ho => h1.fs n m x y hx hy ?_⟩
  · have hm := h1.cf (by omega) a haa
    rw [mP_at hp2] at hm
    rw [mP_at hp]
    exact hm
  · rcases ho with hne | hm
    · exact .inl (by omega)
    · exact .inr hm
theorem words_rev (ps : List Pk) : (Cld ps.reverse ∧ Apt ps.reverse) ↔ (Cld ps ∧ Apt ps) := by
  constructor
  · rintro ⟨h1, h2⟩
    have h3 := cld_rev h1
    have h4 := apt_rev h2
    rw [List.reverse_reverse] at h3 h4
    exact ⟨h3, h4⟩
  · rintro ⟨h1, h2⟩
    exact ⟨cld_rev h1, apt_rev h2⟩
/-- A PART OF A SET WITHOUT FAULTS: its faults are clauses unmet alone. -/
theorem part_kinds {ps : List Pk} (h : Apt ps) : ∀ n, ∀ f ∈ ftL ps n, f.kd = 2 ∨ f.kd = 3
  | 0, f, hf => by cases hf
  | n + 1, f, hf => by
    unfold ftL at hf
    rcases List.mem_append.1 hf with hf | hf
    · exact part_kinds h n f hf
    · cases e : ps[n]? with
      | none => rw [e] at hf; cases hf
      | some q =>
        rw [e] at hf
        simp only at hf
        unfold ftA at hf
        have e1 : twF ps n q = [] := (twF_nil ps n q).2 fun k r hk hr => (h n k q r e hr).nm hk
        have e3 : cfJ ps n q q.cf.length = [] := (cfJ_nil ps n q _).2 fun j a _ hj k hk => by
          cases e2 : ps[k]? with
          | none => unfold mP; rw [e2]
          | some r => exact (h n k q r e e2).cf hk a (List.mem_of_getElem? hj)
        have e4 : paJ ps n q q.fs.length = [] := (pa_all ps).2 (fun i k q p hq hp => (h i k q p hq hp).fs) n q e
        rw [e1, e3, e4, List.nil_append, List.append_nil, List.append_nil] at hf
        unfold unF at hf
        rcases List.mem_append.1 hf with hf | hf
        · obtain ⟨i, _, hi⟩ := List.mem_flatMap.1 hf
          unfold unE at hi
          split at hi
          · cases hi
          · simp at hi; subst hi; exact .inl rfl
        · obtain ⟨i, _, hi⟩ := List.mem_flatMap.1 hf
          unfold unE at hi
          split at hi
          · cases hi
          · simp at hi; subst hi; exact .inr rfl
end Go.Proofs.YtjnbnndocinicaaGreatDoor
namespace Go.Proofs.YtjnbnndocinicaaGreatDoor
open Go.RowKit Go.Maps

/-- PACKAGES WHILE THEY ARE GATHERED. -/
structure Pw (W wr : World) (s : Value) (css : List (List Value)) : Prop where
  row : wr.ownsRow W.heap.size 38 43 s css.length css.flatten
  bw : RowKit.Below W.heap.size W wr
theorem Pw.start (W : World) : Pw W W (.slice none 0 0) [] := ⟨⟨rfl, .inl ⟨rfl, rfl⟩⟩, Below.refl _ _⟩
theorem Pw.later {W wr w2 : World} {s : Value} {l : List (List Value)} (h : Pw W wr s l) (hb : RowKit.Below wr.heap.size wr w2) : Pw W w2 s l := ⟨own_same h.row fun b e => hb.block b (World.ownsRow.lt h.row b e).2, bl_t h.bw hb⟩
theorem Pw.grow {W wr w9 : World} {s v' : Value} {l : List (List Value)} {c : List Value} (h : Pw W wr s l) (hown : w9.ownsRow W.heap.size 38 43 v' (l.length + 1) (l.flatten ++ c)) (hg : wr.grownBy w9 s.ownBlock) : Pw W w9 v' (l ++ [c]) := by
  refine ⟨?_, h.bw.grown hg h.bw.size fun j e => (World.ownsRow.lt h.row j e).1⟩
  rw [List.length_append, List.flatten_append, List.flatten_singleton]
  exact hown
theorem infoP3 : ∃ zc : List Value, (Tryz.prog.info? 38).map (fun i => (i.zero, i.size, i.bytes)) = some (some (.agg zc.toArray), 43, 232) ∧ zc.length = 43 :=
  ⟨((((Tryz.prog.info? 38).bind (·.zero)).map fun z => z.cells.toList).getD []), by kernel_rfl, by kernel_rfl⟩
theorem flat_at {c : List Value} {j : Nat} {u : Value} : ∀ (css : List (List Value)) (i : Nat), (∀ c ∈ css, c.length = 43) → css[i]? = some c → c[j]? = some u → css.flatten[i * 43 + j]? = some u
  | [], i, _, h, _ => by simp at h
  | d :: css, 0, hl, h, hj => by
    simp at h
    subst h
    have := (List.getElem?_eq_some_iff.1 hj).1
    rw [List.flatten_cons, Nat.zero_mul, Nat.zero_add, List.getElem?_append_left this]
    exact hj
  | d :: css, i + 1, hl, h, hj => by
    have hd := hl d List.mem_cons_self
    rw [List.getElem?_cons_succ] at h
    have ih := flat_at css i (fun c hc => hl c (List.mem_cons_of_mem _ hc)) h hj
    rw [List.flatten_cons, List.getElem?_append_right (by omega), hd, show (i + 1) * 43 + j - 43 = i * 43 + j by omega]
    exact ih
/-- THE CELLS OF PACKAGES BY PLACE. -/
def Cf (w : World) (b o : Nat) (ps : List Pk) (f : Nat → List Value) : Prop := b < w.heap.size ∧ ∀ (i : Nat) (q : Pk), ps[i]? = some q → w.rangeAt b (o + i * 43) (f i) ∧ ∃ d r c v g, PkC (f i) q d r c v g ∧ PkL w q d r c v g
theorem Pkl.cf {w : World} {va : Option Addr} {n vc : Nat} {ps : List Pk} (h : Pkl w (.slice va n vc) ps) (h0 : 0 < ps.length) : ∃ b o f, va = some ⟨b, o, none⟩ ∧ Cf w b o ps f := by
  obtain ⟨a, c, e, h2⟩ := h
  obtain ⟨b, o, rfl, h3, h4⟩ := h2 h0
  have hc : ∀ i, ∃ cs : List Value, ∀ q, ps[i]? = some q → w.rangeAt b (o + i * 43) cs ∧ ∃ d r c v g, PkC cs q d r c v g ∧ PkL w q d r c v g := fun i => by
    cases e : ps[i]? with
    | none => exact ⟨[], fun q hq => by cases hq⟩
    | some q =>
      obtain ⟨cs, d, r, c, v, g, k1, k2, k3⟩ := h4 i q e
      exact ⟨cs, fun q2 hq => by cases hq; exact ⟨k1, d, r, c, v, g, k2, k3⟩⟩
  obtain ⟨f, hf⟩ := Classical.axiomOfChoice hc
  injection e with e1
  exact ⟨b, o, f, e1, h3, hf⟩
theorem Cf.later {w w2 : World} {b o : Nat} {ps : List Pk} {f : Nat → List Value} (h : Cf w b o ps f) (hb : RowKit.Below w.heap.size w w2) : Cf w2 b o ps f :=
  ⟨Nat.lt_of_lt_of_le h.1 hb.size, fun i q hq => let ⟨k1, d, r, c, v, g, k2, k3⟩ := h.2 i q hq; ⟨range_bel k1 h.1 hb, d, r, c, v, g, k2, k3.later hb⟩⟩
/-- THE PACKAGE AT A PLACE. -/
def pAt (ps : List Pk) (i : Nat) : Pk := ps.getD i (pkL ⟨#[]⟩ [])
theorem pAt_at {ps : List Pk} {i : Nat} (h : i < ps.length) : ps[i]? = some (pAt ps i) := by
  unfold pAt
  rw [List.getD_eq_getElem?_getD, List.getElem?_eq_getElem h]
  rfl
/-- WHAT WAS GATHERED ARE PACKAGES. -/
theorem Pw.pkl {w W wr : World} {s : Value} {b o : Nat} {ps : List Pk} {f : Nat → List Value} {L : List Nat} (h : Pw W wr s (L.map f)) (hc : Cf w b o ps f) (hb : RowKit.Below w.heap.size w wr) (hL : ∀ i ∈ L, i < ps.length) : Pkl wr s (L.map (pAt ps)) := by
  have hlen : ∀ c ∈ L.map f, c.length = 43 := fun c hcm => by
    obtain ⟨i, hi, rfl⟩ := List.mem_map.1 hcm
    obtain ⟨_, d, r, c, v, g, k2, _⟩ := hc.2 i _ (pAt_at (hL i hi))
    exact k2.len
  rcases h.row.2 with ⟨q, q2⟩ | ⟨g, cap, cur, q, _, q3, _⟩
  · have hl0 : L = [] := by
      have : (L.map f).length = 0 := q2
      rw [List.length_map] at this
      exact List.length_eq_zero_iff.1 this
    subst hl0
    exact ⟨none, 0, by rw [q]; rfl, fun h => absurd h (by simp)⟩
  · rw [List.length_map] at q
    have hcell := h.row.cells (g := g) (by rw [q]; rfl)
    have hg := (World.ownsRow.lt h.row g (by rw [q]; rfl)).2
    refine ⟨some ⟨g, 0, none⟩, cap, by rw [List.length_map]; exact q, fun _ => ⟨g, 0, rfl, hg, fun i p hp => ?_⟩⟩
    rw [List.getElem?_map] at hp
    obtain ⟨k, hk, rfl⟩ := Option.map_eq_some_iff.1 hp
    have hkl := hL k (List.mem_of_getElem? hk)
    obtain ⟨_, d, r, c, v, g2, k2, k3⟩ := hc.2 k _ (pAt_at hkl)
    refine ⟨f k, d, r, c, v, g2, fun j u hj => ?_, k2, k3.later hb⟩
    rw [Nat.zero_add]
    have h9 := hcell _ _ (flat_at (L.map f) i hlen (by rw [List.getElem?_map, hk]; rfl) hj)
    rw [Addr.add_mid, Nat.zero_add] at h9
    exact h9
/-- ONE MORE. -/
theorem map_snoc {f : Nat → List Value} {L : List Nat} (i : Nat) : (L ++ [i]).map f = L.map f ++ [f i] := by rw [List.map_append]; rfl
/-- THE PLACES WHOSE FLAGS ARE SET. -/
def flP (n : Nat) (fl : List Bool) : List Nat := (List.range n).filter fun i => fl.getD i false
theorem flP_succ (n : Nat) (fl : List Bool) : flP (n + 1) fl = flP n fl ++ (if fl.getD n false then [n] else []) := by
  unfold flP
  rw [List.range_succ, List.filter_append]
  rw [List.filter_cons, List.filter_nil]
/-- FLAGS AS THEY LIE. -/
def Bfl (w : World) (v : Value) (fl : List Bool) : Prop := ∃ a c, v = .slice a fl.length c ∧ (0 < fl.length → ∃ b o, a = some ⟨b, o, none⟩ ∧ b < w.heap.size ∧ ∀ (i : Nat) (x : Bool), fl[i]? = some x → w.cell? ⟨b, o + i, none⟩ = some (.bool x))
end Go.Proofs.YtjnbnndocinicaaGreatDoor
namespace Go.Proofs.YtjnbnndocinicaaGreatDoor
open Go.RowKit Go.Maps

theorem flP_len (n : Nat) (fl : List Bool) : (flP n fl).length ≤ n := by
  unfold flP
  refine Nat.le_trans (List.length_filter_le _ _) ?_
  rw [List.length_range]; exact Nat.le_refl _
theorem flP_lt {n : Nat} {fl : List Bool} {i : Nat} (h : i ∈ flP n fl) : i < n := List.mem_range.1 (List.mem_filter.1 h).1
set_option maxRecDepth 100000 in
set_option maxHeartbeats 4000000 in
theorem some_any {w : World} {v u : Value} {ps : List Pk} {fl : List Bool} (sm : SmP ps) (hfl : fl.length ≤ 1048576) (pk : Pkl w v ps) (hb : Bfl w u fl) :
    Calls Tryz.prog 6 #[v, u] w fun e w' => ∃ r, e = .returned r ∧ Pkl w' r ((flP ps.length fl).map (pAt ps)) ∧ RowKit.Below w.heap.size w w' := by
  obtain ⟨va, vc, rfl⟩ : ∃ a c, v = .slice a ps.length c := let ⟨a, c, e, _⟩ := pk; ⟨a, c, e⟩
  obtain ⟨ua, uc, rfl⟩ : ∃ a c, u = .slice a fl.length c := let ⟨a, c, e, _⟩ := hb; ⟨a, c, e⟩
  obtain ⟨zc, hi3, hzl⟩ := infoP3
  obtain ⟨i0, hi, hz0, hz1, hz2⟩ := info_parts2 hi3
  have hl := sm.l
  obtain ⟨N, hN⟩ : ∃ N, ps.length = N := ⟨_, rfl⟩
  have HN := hide hN
  have HP := hide (show Pkl w (.slice va N vc) ps from by rw [← hN]; exact pk)
  rw [hN] at hl ⊢
  clear sm pk hN
  obtain ⟨M, hM⟩ : ∃ M, fl.length = M := ⟨_, rfl⟩
  have HM := hide hM
  have HU := hide (show ∀ X, RowKit.Below w.heap.size w X → ∀ (i : Nat) (x : Bool), fl[i]? = some x → ∃ b o, ua = some ⟨b, o, none⟩ ∧ X.cell? ⟨b, o + i, none⟩ = some (.bool x) from fun X hX i x hx => by
    obtain ⟨a, c, e, h2⟩ := hb
    injection e with e1
    subst e1
    obtain ⟨b, o, e2, h3, h4⟩ := h2 (by have := (List.getElem?_eq_some_iff.1 hx).1; omega)
    exact ⟨b, o, e2, (hX.cell (p := ⟨b, o + i, none⟩) h3).trans (h4 i x hx)⟩)
  rw [hM] at hfl ⊢
  clear hb hM
  obtain ⟨f, HF0⟩ : ∃ f : Nat → List Value, Hid ((0 < N → ∃ b o, va = some ⟨b, o, none⟩ ∧ Cf w b o ps f)) := by
    by_cases h0 : 0 < N
    · obtain ⟨b, o, f, e, cf⟩ := (unhide HP).cf (by have := unhide HN; omega)
      exact ⟨f, hide fun _ => ⟨b, o, e, cf⟩⟩
    · exact ⟨fun _ => [], hide fun h => absurd h h0⟩
  have HST := hide (Pw.start w)
  go_enter Tryz.func6, Tryz.ntmps6
  go_wp2_with fail
  go_loopg [5, 6] N (fun gq sv iv wr => ∃ i : Nat, iv = .int .i64 i ∧ i ≤ N ∧ N - i ≤ gq ∧ Hid (Pw w wr sv ((flP i fl).map f)))
  case atStart => exact ⟨0, by go_num, by omega, by omega, HST⟩
  case round =>
    clear HST
    obtain ⟨i, rfl, hj, hgj, HW⟩ := hrel
    by_cases hlt : i < N
    · have hin : (i : Int) < (N : Int) := by omega
      obtain ⟨b, o, rfl, cf⟩ := unhide HF0 (by omega)
      obtain ⟨k1, d, r, c, v, g, k2, k3⟩ := cf.2 i _ (pAt_at (by have := unhide HN; omega))
      have HI2 := hide (show (Tryz.prog.info? 38).map (·.size) = some (f i).length by rw [k2.len]; exact info43)
      have HRW := hide (range_bel k1 cf.1 (unhide HW).bw)
      have H1 := hide (And.intro k2.len k2.one)
      have HMS := hide (flP_succ i fl)
      have HQU := hide (unhide HU wr (unhide HW).bw i)
      have hln : ((flP i fl).map f).length ≤ i := by rw [List.length_map]; exact flP_len i fl
      have hmf : ∀ b : Bool, fl.getD i false = b → Hid ((flP (i + 1) fl).map f = (flP i fl).map f ++ (if b then [f i] else [])) := fun b hb => hide (by rw [unhide HMS, hb, List.map_append]; cases b <;> rfl)
      clear k1 k2 k3 cf HMS
      generalize (flP i fl).map f = css at *
      generalize f i = cs at *
      by_cases hiM : i < M
      · have hiM2 : (i : Int) < (M : Int) := by omega
        obtain ⟨x, hx⟩ : ∃ x, fl[i]? = some x := ⟨_, List.getElem?_eq_getElem (by have := unhide HM; omega)⟩
        obtain ⟨ub, uo, rfl, u0⟩ := unhide HQU x hx
        have HE := hmf x (by rw [List.getD_eq_getElem?_getD, hx]; rfl)
        clear hx hmf HQU
        cases x with
        | true =>
          go_wp2_with (first
            | ((with_reducible refine wpList_load_p (op := { dst := some 27, op := Op.load 38 (Operand.tmp 26), type := 38, pos := "whole.go:95", after := #[{ on := 3, ground := Ground.data }], guard := none }) ?sxa 38 (.tmp 26) ?sxb b (o + i * 43) ?sxc cs _ (unhide HRW) Tryz.underlying38 ?sxd (unhide HI2) ?sxe); (case sxa => rfl); (case sxb => rfl); (case sxc => rfl); (case sxd => rfl))
            | (refine p_sl1 _ rfl rfl cs rfl (unhide H1).1 ?_; intro w5 r5 k5 z5; have HW5 := hide ((unhide HW).later k5); have HR5 := hide r5; have hz5 := k5.size; clear r5 k5)
            | (at_builtin; go_must (refine wpList_append_own _ rfl _ _ 22 rfl w.heap.size 38 i0 (.agg zc.toArray) 43 232 Tryz.underlying22 hi hz0 hz1 hz2 (by simp [Value.cells, hzl]) (by decide) _ _ _ rfl (unhide HW5).row ⟨wr.heap.size, 0, none⟩ 1 1 cs rfl (by rw [(unhide H1).1]) (fun k u hk => by have := unhide HR5 k u hk; rw [Addr.add_mid]; exact this) (unhide H1).2 (by unfold maxLen; omega) (by omega) (unhide HW5).bw.size ?_); intro v' w9 hown hgrow _; have HF9 := hide ((unhide HW5).grow hown hgrow); clear hown hgrow))
          go_roundg (N - (i + 1))
          case measure => omega
          case rel => exact ⟨i + 1, by go_num, by omega, by omega, by rw [unhide HE]; exact HF9⟩
        | false =>
          go_wp2_with fail
          go_roundg (N - (i + 1))
          case measure => omega
          case rel => exact ⟨i + 1, by go_num, by omega, by omega, by rw [unhide HE]; simpa using HW⟩
      · have hiM2 : ¬ (i : Int) < (M : Int) := by omega
        have HE := hmf false (by rw [List.getD_eq_getElem?_getD, List.getElem?_eq_none (by have := unhide HM; omega)]; rfl)
        clear hmf HQU
        go_wp2_with fail
        go_roundg (N - (i + 1))
        case measure => omega
        case rel => exact ⟨i + 1, by go_num, by omega, by omega, by rw [unhide HE]; simpa using HW⟩
    · obtain rfl : i = N := by omega
      go_wp2_with fail
      go_ret
      have hw := unhide HW
      refine ⟨_, rfl, ?_, hw.bw⟩
      by_cases h0 : 0 < i
      · obtain ⟨b, o, _, cf⟩ := unhide HF0 h0
        exact hw.pkl cf hw.bw fun k hk => by have := flP_lt hk; have := unhide HN; omega
      · obtain rfl : i = 0 := by omega
        have hr := hw.row.2
        rcases hr with ⟨q, _⟩ | ⟨g, cap, cur, q, _⟩
        · exact ⟨none, 0, by rw [q]; rfl, fun h => absurd h (by simp [flP])⟩
        · exact ⟨some ⟨g, 0, none⟩, cap, by rw [q]; rfl, fun h => absurd h (by simp [flP])⟩
end Go.Proofs.YtjnbnndocinicaaGreatDoor
namespace Go.Proofs.YtjnbnndocinicaaGreatDoor
open Go.RowKit Go.Maps

/-- PLACES WHILE THEY ARE GATHERED. -/
structure Pi (W wr : World) (s : Value) (l : List Nat) : Prop where
  row : wr.ownsRow W.heap.size 3 1 s l.length (ints l)
  bw : RowKit.Below W.heap.size W wr
theorem Pi.start (W : World) : Pi W W (.slice none 0 0) [] := ⟨⟨rfl, .inl ⟨rfl, rfl⟩⟩, Below.refl _ _⟩
theorem Pi.grow {W wr w9 : World} {s v' : Value} {l : List Nat} {p : Nat} {o : Obj} (h : Pi W wr s l) (hown : w9.ownsRow W.heap.size 3 1 v' (l.length + 1) (ints l ++ [.int .i64 (p : Int)])) (hg : (wr.alloc o).grownBy w9 s.ownBlock) : Pi W w9 v' (l ++ [p]) := by
  refine ⟨?_, (h.bw.alloc h.bw.size o).grown hg ?_ fun j e => (World.ownsRow.lt h.row j e).1⟩
  · rw [List.length_append, show ints (l ++ [p]) = ints l ++ [.int .i64 (p : Int)] from by simp [ints]]
    exact hown
  · have := h.bw.size
    rw [World.size_alloc]
    omega
theorem infoI8 : (Tryz.prog.info? 3).map (fun i => (i.zero, i.size, i.bytes)) = some (some (.int .i64 0), 1, 8) := by kernel_rfl
def plL (f : Nat → Bool) (n : Nat) : List Nat := (List.range n).filter f
theorem plL_succ (f : Nat → Bool) (n : Nat) : plL f (n + 1) = plL f n ++ (if f n then [n] else []) := by
  unfold plL
  rw [List.range_succ, List.filter_append, List.filter_cons, List.filter_nil]
theorem plL_len (f : Nat → Bool) (n : Nat) : (plL f n).length ≤ n := by
  unfold plL
  refine Nat.le_trans (List.length_filter_le _ _) ?_
  rw [List.length_range]; exact Nat.le_refl _
set_option maxRecDepth 100000 in
set_option maxHeartbeats 4000000 in
theorem places_any {w : World} {v : Value} {f : Nat → Bool} {n : Nat} (hn : n ≤ 1048576) (h : Bls w v f n) :
    Calls Tryz.prog 15 #[v] w fun e w' => ∃ r, e = .returned r ∧ w'.ownsRow w.heap.size 3 1 r (plL f n).length (ints (plL f n)) ∧ RowKit.Below w.heap.size w w' := by
  obtain ⟨i0, hi, hz0, hz1, hz2⟩ := info_parts2 infoI8
  obtain ⟨va, vc, rfl, h2⟩ := h
  have HV := hide h2
  have HST := hide (Pi.start w)
  clear h2
  go_enter Tryz.func15, Tryz.ntmps15
  go_wp2_with fail
  go_loopg [3, 4, 5, 8] n (fun gq sv _ _ iv wr => ∃ i : Nat, iv = .int .i64 i ∧ i ≤ n ∧ n - i ≤ gq ∧ Hid (Pi w wr sv (plL f i)))
  case atStart => exact ⟨0, by go_num, by omega, by omega, HST⟩
  case round =>
    clear HST
    obtain ⟨i, rfl, hj, hgj, HW⟩ := hrel
    by_cases hlt : i < n
    · have hin : (i : Int) < (n : Int) := by omega
      obtain ⟨b, rfl, hb, hc⟩ := unhide HV (by omega)
      have c0 := ((unhide HW).bw.cell (p := ⟨b, i, none⟩) hb).trans (hc i hlt)
      have HMS := hide (plL_succ f i)
      have hln := plL_len f i
      have hzw := (unhide HW).bw.size
      clear hc
      generalize plL f i = l at *
      cases hf : f i with
      | true =>
        rw [hf] at c0 HMS
        clear hf
        go_wp2_with (at_builtin; go_must (refine wpList_append_own _ rfl _ _ 24 rfl w.heap.size 3 i0 (.int .i64 0) 1 8 Tryz.underlying24 hi hz0 hz1 hz2 rfl (by decide) _ _ _ rfl (own_same (unhide HW).row fun b e => Below.heap_alloc _ _ _ (World.ownsRow.lt (unhide HW).row b e).2) ⟨wr.heap.size, 0, none⟩ 1 1 [.int .i64 (i : Int)] rfl rfl (fun k u hk => by rw [Addr.add_mid, Nat.zero_add, World.cell?_alloc_new]; simpa using hk) (fun u hu => by simp at hu; subst hu; rfl) (by unfold maxLen; omega) (by omega) (by rw [World.size_alloc]; omega) ?_); intro v' w9 hown hgrow _; have HF9 := hide ((unhide HW).grow hown hgrow); clear hown hgrow)
        go_roundg (n - (i + 1))
        case measure => omega
        case rel => exact ⟨i + 1, by go_num, by omega, by omega, by rw [unhide HMS]; exact HF9⟩
      | false =>
        rw [hf] at c0 HMS
        clear hf
        go_wp2_with fail
        go_roundg (n - (i + 1))
        case measure => omega
        case rel => exact ⟨i + 1, by go_num, by omega, by omega, by rw [unhide HMS]; simpa using HW⟩
    · obtain rfl : i = n := by omega
      go_wp2_with fail
      go_ret
      exact ⟨_, rfl, (unhide HW).row, (unhide HW).bw⟩
end Go.Proofs.YtjnbnndocinicaaGreatDoor
namespace Go.Proofs.YtjnbnndocinicaaGreatDoor
open Go.RowKit Go.Maps Go.Shelf
attribute [local go_sem] Oper.semAt_some
attribute [local simp] wide_fn
attribute [local go_sem] wide_fn

/-- THE BLOCKS OF isWhole. -/
structure Iz (w wr : World) (s : Array Value) (av : Value) (r : Bool) : Prop where
  b0 : wr.heap[w.heap.size]? = some (.cells s 44 (0, 0))
  b1 : wr.heap[w.heap.size + 1]? = some (.cells #[av] 47 (0, 0))
  b2 : wr.heap[w.heap.size + 2]? = some (.cells #[.bool r] 4 (0, 0))
  bw : RowKit.Below w.heap.size w wr
theorem Iz.lt {w wr : World} {s : Array Value} {av : Value} {r : Bool} (h : Iz w wr s av r) : w.heap.size + 3 ≤ wr.heap.size := blk_lt h.b2
theorem Iz.turn {w X Y : World} {s : Array Value} {av : Value} {r : Bool} {C : Nat} {row : Option Nat} (h : Iz w X s av r) (hg : X.grownBy Y row) (hr : ∀ k, row = some k → C ≤ k) (hC : w.heap.size + 3 ≤ C) : Iz w Y s av r := by
  have ne : ∀ j, j < C → some j ≠ row := fun j hj e => by have := hr j e.symm; omega
  have k : ∀ j o, j < C → X.heap[j]? = some o → Y.heap[j]? = some o := fun j o hj e => (hg.block j (blk_lt e) (ne j hj)).trans e
  refine ⟨k _ _ (by omega) h.b0, k _ _ (by omega) h.b1, k _ _ (by omega) h.b2, hg.os.trans h.bw.os, hg.tape.trans h.bw.tape, hg.output.trans h.bw.output, Nat.le_trans h.bw.size hg.size, fun j hj => ?_⟩
  have := h.bw.size
  exact (hg.block j (by omega) (ne j (by omega))).trans (h.bw.block j hj)
theorem Iz.later {w X Y : World} {s : Array Value} {av : Value} {r : Bool} (h : Iz w X s av r) (hb : RowKit.Below X.heap.size X Y) : Iz w Y s av r := h.turn (C := X.heap.size) (grown_below hb) (fun k e => by cases e) h.lt
theorem Iz.set {w X : World} {s : Array Value} {av : Value} {r : Bool} (h : Iz w X s av r) (q : Bool) : Iz w (X.setCell ⟨w.heap.size + 2, 0, none⟩ (.bool q)) s av q := by
  have k : ∀ j o, j ≠ w.heap.size + 2 → X.heap[j]? = some o → (X.setCell ⟨w.heap.size + 2, 0, none⟩ (.bool q)).heap[j]? = some o := fun j o hj e => (set_other X _ 0 (.bool q) j hj).trans e
  exact ⟨k _ _ (by omega) h.b0, k _ _ (by omega) h.b1, set_blk h.b2 0 (.bool q), h.bw.setCell (p := ⟨w.heap.size + 2, 0, none⟩) (by show w.heap.size ≤ w.heap.size + 2; omega) _⟩
theorem iz_new (w : World) (s : Array Value) (av : Value) : Iz w (((w.alloc (.cells s 44)).alloc (.cells #[av] 47)).alloc (.cells #[.bool false] 4)) s av false := by
  obtain ⟨A, hA⟩ : ∃ x, x = w.alloc (.cells s 44) := ⟨_, rfl⟩
  obtain ⟨B, hB⟩ : ∃ x, x = A.alloc (.cells #[av] 47) := ⟨_, rfl⟩
  rw [← hA, ← hB]
  have zA : A.heap.size = w.heap.size + 1 := by rw [hA]; exact World.size_alloc _ _
  have zB : B.heap.size = w.heap.size + 2 := by rw [hB, World.size_alloc]; omega
  have bA : RowKit.Below w.heap.size w A := by rw [hA]; exact (Below.refl _ w).alloc (Nat.le_refl _) _
  have bB : RowKit.Below A.heap.size A B := by rw [hB]; exact (Below.refl _ A).alloc (Nat.le_refl _) _
  have bD : RowKit.Below B.heap.size B (B.alloc (.cells #[.bool false] 4)) := (Below.refl _ B).alloc (Nat.le_refl _) _
  have h0 : A.heap[w.heap.size]? = some (.cells s 44 (0, 0)) := by rw [hA]; exact heap_alloc_new _ _
  have h1 : B.heap[w.heap.size + 1]? = some (.cells #[av] 47 (0, 0)) := by rw [← zA, hB]; exact heap_alloc_new _ _
  have h2 : (B.alloc (.cells #[.bool false] 4)).heap[w.heap.size + 2]? = some (.cells #[.bool false] 4 (0, 0)) := by rw [← zB]; exact heap_alloc_new _ _
  exact ⟨(bD.block _ (by omega)).trans ((bB.block _ (by omega)).trans h0), (bD.block _ (by omega)).trans h1, h2, bl_t (bl_t bA bB) bD⟩
/-- ARE ALL CLAUSES OF ONE MET IN A PART? -/
def Wh (ps : List Pk) (inn : Nat → Bool) (p : Nat) (q : Pk) : Prop := (∀ al ∈ q.dp, imP ps inn (-1) al = true) ∧ (∀ al ∈ q.pr, imP ps inn (p : Int) al = true)
theorem wh_all (ps : List Pk) (inn : Nat → Bool) (p : Nat) (q : Pk) (f g : Nat → Hd) : (∀ x ∈ nvL p q.dp q.pr f g, imP ps inn x.bt x.al = true) ↔ Wh ps inn p q := by
  unfold Wh nvL
  constructor
  · intro h
    refine ⟨fun al hal => ?_, fun al hal => ?_⟩
    · obtain ⟨i, hi, rfl⟩ := List.getElem_of_mem hal
      have := h (nvD q.dp f i) (List.mem_append.2 (.inl (List.mem_map.2 ⟨i, List.mem_range.2 hi, rfl⟩)))
      unfold nvD at this
      rwa [List.getD_eq_getElem?_getD, List.getElem?_eq_getElem hi] at this
    · obtain ⟨i, hi, rfl⟩ := List.getElem_of_mem hal
      have := h (nvR p q.pr g i) (List.mem_append.2 (.inr (List.mem_map.2 ⟨i, List.mem_range.2 hi, rfl⟩)))
      unfold nvR at this
      rwa [List.getD_eq_getElem?_getD, List.getElem?_eq_getElem hi] at this
  · rintro ⟨h1, h2⟩ x hx
    rcases List.mem_append.1 hx with hx | hx
    · obtain ⟨i, hi, rfl⟩ := List.mem_map.1 hx
      exact h1 _ (getD_mem (List.mem_range.1 hi))
    · obtain ⟨i, hi, rfl⟩ := List.mem_map.1 hx
      exact h2 _ (getD_mem (List.mem_range.1 hi))
set_option maxRecDepth 100000 in
set_option maxHeartbeats 8000000 in
theorem isWhole_any {w : World} {b1 b2 : Nat} {v av : Value} {xs : List Pd} {ps : List Pk} {base : Nat} {H1 H2 : Nm → Option Hd} {k1 k2 p : Nat} {q : Pk} (inn : Nat → Bool) (m1 : Mi w base (.map (some b1)) H1 (nmP xs xs.length) k1) (m2 : Mi w base (.map (some b2)) H2 (pvP xs xs.length) k2) (pks : Pks w v xs) (hs : Sim xs ps) (sm : SmP ps) (pk : Pkl w v ps) (hin : Bls w av inn ps.length) (hq : ps[p]? = some q) :
    Calls Tryz.prog 28 #[.agg #[v, .map (some b1), .map (some b2)], .int .i64 (p : Int), av] w fun e w' => ∃ b : Bool, e = .returned (.bool b) ∧ (b = true ↔ Wh ps inn p q) ∧ RowKit.Below w.heap.size w w' := by
  have hpl := (List.getElem?_eq_some_iff.1 hq).1
  have hpn : (p : Int) < (ps.length : Int) := by omega
  have hmem := List.mem_of_getElem? hq
  have hdl : q.dp.length ≤ 1048576 := Nat.le_trans (le_sum (fun p : Pk => p.dp.length) hmem) sm.sd
  have hrl : q.pr.length ≤ 1048576 := Nat.le_trans (le_sum (fun p : Pk => p.pr.length) hmem) sm.sr
  obtain ⟨vb, vo, vc, cs, dd, rr, cc, pv, ff, rfl, hvb, hr, hpc, hll⟩ := pk.at2 hq
  obtain ⟨da, dc, f, rfl, hcd⟩ := cv_of hll.dl
  obtain ⟨ra, rc, g, rfl, hcr⟩ := cv_of hll.rl
  have hc3 : w.cell? ⟨vb, vo + p * 43 + 3, none⟩ = some (.slice da q.dp.length dc) := hr 3 _ hpc.c3
  have hc4 : w.cell? ⟨vb, vo + p * 43 + 4, none⟩ = some (.slice ra q.pr.length rc) := hr 4 _ hpc.c4
  obtain ⟨ia, ic, rfl⟩ : ∃ a c, av = .slice a ps.length c := let ⟨a, c, e, _⟩ := hin; ⟨a, c, e⟩
  have HNA := hide (show ∀ (X : World) (B : Nat), RowKit.Below w.heap.size w X → X.heap[B]? = some (.cells #[.slice (some ⟨vb, vo, none⟩) ps.length vc, .map (some b1), .map (some b2)] 44 (0, 0)) → X.heap[B + 1]? = some (.cells #[.int .i64 (p : Int)] 3 (0, 0)) → SeqB Fence.wide 8 Tryz.prog 50 #[.pointer (some ⟨B, 0, none⟩), .pointer (some ⟨B + 1, 0, none⟩)] encN (Kb w.heap.size B (B + 1)) (fun l => l = nvL p q.dp q.pr f g) (fun pre => pre <+: nvL p q.dp q.pr f g) ((nvL p q.dp q.pr f g).length + 1) X from fun X B hX h1 h2 =>
    need_b 8 ⟨⟨hX, h1, h2⟩, ⟨vb, vo, ps.length, vc, rfl, hvb, hpn, hc3, hc4⟩, hcd, hcr⟩ (by omega) (by omega))
  have HME := hide (show ∀ x ∈ nvL p q.dp q.pr f g, ∀ X, RowKit.Below w.heap.size w X → Calls Tryz.prog 38 #[.agg #[.slice (some ⟨vb, vo, none⟩) ps.length vc, .map (some b1), .map (some b2)], .agg #[.int .i64 x.kd, .int .i64 (x.ix : Int), .slice x.cv.a x.cv.n x.cv.c, .int .i64 x.bt], .slice ia ps.length ic] X fun e w' => e = .returned (.bool (imP ps inn x.bt x.al)) ∧ RowKit.Below X.heap.size X w' from fun x hx X hX => by
    unfold nvL at hx
    rcases List.mem_append.1 hx with hx | hx
    · obtain ⟨i, hi, rfl⟩ := List.mem_map.1 hx
      rw [List.mem_range] at hi
      obtain ⟨_, _, _, _, _, ha⟩ := (hcd.later hX).at_ i hi
      have hb := sm.d q hmem _ (getD_mem hi)
      exact isMet_any 2 i (-1) (q.dp.getD i []) inn (m1.later hX) (m2.later hX) (pks.later hX) hs sm ha (by omega) hb.2 (hin.later hX)
    · obtain ⟨i, hi, rfl⟩ := List.mem_map.1 hx
      rw [List.mem_range] at hi
      obtain ⟨_, _, _, _, _, ha⟩ := (hcr.later hX).at_ i hi
      have hb := sm.r q hmem _ (getD_mem hi)
      exact isMet_any 3 i p (q.pr.getD i []) inn (m1.later hX) (m2.later hX) (pks.later hX) hs sm ha (by omega) hb.2 (hin.later hX))
  have HUN := hide (iz_new w #[.slice (some ⟨vb, vo, none⟩) ps.length vc, .map (some b1), .map (some b2)] (.slice ia ps.length ic))
  have HWH := hide (wh_all ps inn p q f g)
  generalize nvL p q.dp q.pr f g = L at *
  clear m1 m2 pks hs sm pk hin hq hr hpc hll hcd hcr hc3 hc4 hmem hdl hrl hpl hvb
  obtain ⟨W3, hW3⟩ : ∃ x, x = (((w.alloc (.cells #[.slice (some ⟨vb, vo, none⟩) ps.length vc, .map (some b1), .map (some b2)] 44)).alloc (.cells #[.slice ia ps.length ic] 47)).alloc (.cells #[.bool false] 4)) := ⟨_, rfl⟩
  rw [← hW3] at HUN
  refine (callsIn_wide (n := 9)).1 ?_
  refine callsIn_of_wp_marks Tryz.func28 rfl trivial ?_ rfl
  simp only [Tryz.ntmps28, List.size_toArray, List.length_cons, List.length_nil, Nat.reduceAdd, Nat.reduceSub, Array.replicate_succ, Array.replicate_zero, List.push_toArray, List.append_toArray, List.nil_append, List.cons_append]
  gi_wp2_with (gi_at_call 37; rw [← hW3]; refine (callsIn_wide.2 (needs_any (.slice (some ⟨vb, vo, none⟩) ps.length vc) (.map (some b1)) (.map (some b2)) (p : Int) W3)).mono ?_; rintro e w5 ⟨rfl, hs5, ha5, hb5⟩; have HS5 := hide (And.intro hs5 (And.intro ha5 hb5)); clear hs5 ha5 hb5 hW3)
  obtain ⟨s1, s2, hb5⟩ := unhide HS5
  have un5 := (unhide HUN).later hb5
  have hW3z := (unhide HUN).lt
  have hzs := blk_lt s1
  have hza := blk_lt s2
  have iw5 : Iw w W3.heap.size (W3.heap.size + 1) (.cells #[.slice (some ⟨vb, vo, none⟩) ps.length vc, .map (some b1), .map (some b2)] 44 (0, 0)) (.cells #[.int .i64 (p : Int)] 3 (0, 0)) w5 := ⟨un5.bw, s1, s2⟩
  have hsq := unhide HNA w5 W3.heap.size un5.bw s1 s2
  have hlt5 := un5.lt
  clear HS5 s1 s2 hb5 HNA HUN
  refine rangeFunc_2h rfl (by decide) (gf := 50) (lb := #[.pointer (some ⟨W3.heap.size, 0, none⟩), .pointer (some ⟨W3.heap.size + 1, 0, none⟩)]) rfl trivial (enters_of Tryz.func50 (by kernel_rfl) rfl)
    hsq Kb.trans (Kb.put un5.bw.size hzs hza) (fun W o h => Kb.alloc W o (Nat.le_trans un5.bw.size h) (by omega) (by omega)) (Below.refl _ _) (fun _ => rfl) (fun pre Z => (Iz w Z #[.slice (some ⟨vb, vo, none⟩) ps.length vc, .map (some b1), .map (some b2)] (.slice ia ps.length ic) false ∧ Iw w W3.heap.size (W3.heap.size + 1) (.cells #[.slice (some ⟨vb, vo, none⟩) ps.length vc, .map (some b1), .map (some b2)] 44 (0, 0)) (.cells #[.int .i64 (p : Int)] 3 (0, 0)) Z) ∧ ∀ x ∈ pre, imP ps inn x.bt x.al = true) (fun c pre Z => c = .ret ∧ Iz w Z #[.slice (some ⟨vb, vo, none⟩) ps.length vc, .map (some b1), .map (some b2)] (.slice ia ps.length ic) false ∧ ∃ x ∈ pre, imP ps inn x.bt x.al = false) (fun s X Y row ⟨⟨h, hi⟩, h2⟩ hg hr => ⟨⟨h.turn hg (fun k e => (hr k e).1) hlt5, hi.turn hg (fun r e => (hr r e).1) un5.bw.size hzs hza⟩, h2⟩) (fun c s X Y row h hg hr => ⟨h.1, h.2.1.turn hg (fun k e => (hr k e).1) hlt5, h.2.2⟩) ⟨⟨un5, iw5⟩, fun x h => by cases h⟩ (fun x => .cells #[.int .i64 x.kd, .int .i64 (x.ix : Int), .slice x.cv.a x.cv.n x.cv.c, .int .i64 x.bt] 90) (fun (x : Nv) (g : Nat) => { tmps := #[.agg #[.slice (some ⟨vb, vo, none⟩) ps.length vc, .map (some b1), .map (some b2)], .int .i64 (p : Int), .slice ia ps.length ic, .pointer (some ⟨w.heap.size, 0, none⟩), undef, .pointer (some ⟨w.heap.size + 1, 0, none⟩), .pointer (some ⟨w.heap.size + 1 + 1, 0, none⟩), .pointer (some ⟨g, 0, none⟩), .agg #[.slice (some ⟨vb, vo, none⟩) ps.length vc, .map (some b1), .map (some b2)], .int .i64 (p : Int), .func (.func 50) #[] #[.pointer (some ⟨W3.heap.size, 0, none⟩), .pointer (some ⟨W3.heap.size + 1, 0, none⟩)], .agg #[.int .i64 x.kd, .int .i64 (x.ix : Int), .slice x.cv.a x.cv.n x.cv.c, .int .i64 x.bt], undef, undef, undef, undef, undef], defers := [] }) ?as0 ?bo0 ?do0 ?st0
  case as0 =>
    intro l x W K hK
    gi_wp2
    exact hK
  case st0 =>
    intro D c pre Z hD hS hI hK
    obtain ⟨rfl, iz, x, hx, hf⟩ := hI
    have HNO := hide (show ¬ Wh ps inn p q from fun h => by rw [(unhide HWH).2 h x (hS.subset hx)] at hf; cases hf)
    have HM := hide (show Mks Z (w.heap.size + 3) [D] from ⟨by simp, fun E he => by simp at he; subst he; exact ⟨by rw [hD]; exact hlt5, hK⟩⟩)
    have HIZ := hide iz
    clear hD hS iz hx hf hK hsq un5 iw5
    gi_wp2
    have iz := unhide HIZ
    refine leaves_marks (lo := w.heap.size + 3) [D] Z (unhide HM) fun W2 hsh => ?_
    have c7 := (cell_blk (hsh.cel _ _ _ _ iz.b2) 0).1.trans (show #[Value.bool false][0]? = some (.bool false) from rfl)
    exact ⟨_, results_u1 (show Tryz.f28.results = #[.cell 6 4] from Tryz.results28) _ _ _ ⟨w.heap.size + 1 + 1, 0, none⟩ (.bool false) rfl (by simp [loadVar, go_sem, c7]), false, rfl, ⟨fun h => (by cases h), fun h => absurd h (unhide HNO)⟩, iz.bw.trans (hsh.bel.mono (by omega))⟩
  case do0 =>
    intro D L2 Z hD hS hI hK
    obtain ⟨⟨iz, _⟩, hall⟩ := hI
    have HYES := hide (show Wh ps inn p q from (unhide HWH).1 (by rw [← hS]; exact hall))
    have r0 := (cell_blk iz.b2 0).1.trans (show #[Value.bool false][0]? = some (.bool false) from rfl)
    have f0 := (cell_blk iz.b2 0).2
    have HM := hide (show Mks (Z.setCell ⟨w.heap.size + 2, 0, none⟩ (.bool true)) (w.heap.size + 3) [D] from ⟨by simp, fun E he => by simp at he; subst he; exact ⟨by rw [hD]; exact hlt5, (set_other Z _ 0 (.bool true) _ (by rw [hD]; omega)).trans hK⟩⟩)
    have HIZ := hide (iz.set true)
    clear hD hS iz hall hK hsq un5 iw5
    gi_wp2
    have iz := unhide HIZ
    refine leaves_marks (lo := w.heap.size + 3) [D] _ (unhide HM) fun W2 hsh => ?_
    have c7 := (cell_blk (hsh.cel _ _ _ _ iz.b2) 0).1.trans (show #[Value.bool true][0]? = some (.bool true) from rfl)
    exact ⟨_, results_u1 (show Tryz.f28.results = #[.cell 6 4] from Tryz.results28) _ _ _ ⟨w.heap.size + 1 + 1, 0, none⟩ (.bool true) rfl (by simp [loadVar, go_sem, c7]), true, rfl, ⟨fun _ => unhide HYES, fun _ => rfl⟩, iz.bw.trans (hsh.bel.mono (by omega))⟩
  case bo0 =>
    intro l pre x g W hg hgx hD hLp hI hlen hpre
    obtain ⟨⟨iz, iw⟩, hall⟩ := hI
    obtain ⟨lr, hLr⟩ := hLp
    have hxL : x ∈ L := hpre.subset (by simp)
    have hW5 : w5.heap.size ≤ W.heap.size := by have := blk_lt hD; omega
    have c0 := (cell_blk iz.b0 0).1.trans (show #[Value.slice (some ⟨vb, vo, none⟩) ps.length vc, .map (some b1), .map (some b2)][0]? = some (.slice (some ⟨vb, vo, none⟩) ps.length vc) from rfl)
    have c1 := (cell_blk iz.b0 1).1.trans (show #[Value.slice (some ⟨vb, vo, none⟩) ps.length vc, .map (some b1), .map (some b2)][1]? = some (.map (some b1)) from rfl)
    have c2 := (cell_blk iz.b0 2).1.trans (show #[Value.slice (some ⟨vb, vo, none⟩) ps.length vc, .map (some b1), .map (some b2)][2]? = some (.map (some b2)) from rfl)
    have i0 := (cell_blk iz.b1 0).1.trans (show #[Value.slice ia ps.length ic][0]? = some (.slice ia ps.length ic) from rfl)
    obtain ⟨n0, n1, n2, n3⟩ := four hgx
    have C := hide (unhide HME x hxL W iz.bw)
    have HDD := hide (And.intro hD hLr)
    have HIZ := hide iz
    have HIW := hide iw
    have HALL := hide hall
    clear hgx hD hLr hlen hpre iz iw hall hsq HME un5 iw5
    cases hb : imP ps inn x.bt x.al with
    | true =>
      rw [hb] at C
      gi_wp2_with fail
      refine (CallsIn.inRound l (callsIn_wide.2 (unhide C))).mono ?_
      rintro e w6 ⟨rfl, hb6⟩
      have HP := hide (show post2 w5.heap.size (Kb w.heap.size W3.heap.size (W3.heap.size + 1)) (fun pre Z => (Iz w Z #[.slice (some ⟨vb, vo, none⟩) ps.length vc, .map (some b1), .map (some b2)] (.slice ia ps.length ic) false ∧ Iw w W3.heap.size (W3.heap.size + 1) (.cells #[.slice (some ⟨vb, vo, none⟩) ps.length vc, .map (some b1), .map (some b2)] 44 (0, 0)) (.cells #[.int .i64 (p : Int)] 3 (0, 0)) Z) ∧ ∀ x ∈ pre, imP ps inn x.bt x.al = true) (fun c pre Z => c = .ret ∧ Iz w Z #[.slice (some ⟨vb, vo, none⟩) ps.length vc, .map (some b1), .map (some b2)] (.slice ia ps.length ic) false ∧ ∃ x ∈ pre, imP ps inn x.bt x.al = false) (pre ++ [x]) W .normal ⟨#[], []⟩ w6 from ⟨⟨hb6.block _ (blk_lt (unhide HDD).1), hb6.block _ (blk_lt (unhide HDD).2)⟩, Kb.of hb6 (unhide HIZ).bw.size (by omega) (by omega), ⟨(unhide HIZ).later hb6, (unhide HIW).later hb6⟩, fun y hy => by
        rcases List.mem_append.1 hy with hy | hy
        · exact unhide HALL y hy
        · rw [List.mem_singleton] at hy; rw [hy]; exact hb⟩)
      clear hb6 c0 c1 c2 i0 n0 n1 n2 n3 C
      gi_wp2_with fail
      exact unhide HP
    | false =>
      rw [hb] at C
      gi_wp2_with fail
      refine (CallsIn.inRound l (callsIn_wide.2 (unhide C))).mono ?_
      rintro e w6 ⟨rfl, hb6⟩
      have iz6 := (unhide HIZ).later hb6
      have r0 := (cell_blk iz6.b2 0).1.trans (show #[Value.bool false][0]? = some (.bool false) from rfl)
      have f0 := (cell_blk iz6.b2 0).2
      have hd6 := (hb6.block _ (blk_lt (unhide HDD).1)).trans (unhide HDD).1
      have hl6 := (hb6.block _ (blk_lt (unhide HDD).2)).trans (unhide HDD).2
      have H6 := hide (And.intro hb6 (And.intro iz6 (And.intro hd6 hl6)))
      clear hb6 iz6 hd6 hl6 c0 c1 c2 i0 n0 n1 n2 n3 C
      gi_wp2_with fail
      obtain ⟨hb6, iz6, hd6, hl6⟩ := unhide H6
      exact ⟨⟨(set_other w6 _ 0 (.bool false) _ (by omega)).trans (hb6.block _ (blk_lt (unhide HDD).1)), (set_other w6 _ 0 (.bool false) _ (by omega)).trans (hb6.block _ (blk_lt (unhide HDD).2))⟩, rfl, iz6.set false, x, by simp, hb⟩
end Go.Proofs.YtjnbnndocinicaaGreatDoor
namespace Go.Proofs.YtjnbnndocinicaaGreatDoor
open Go.RowKit Go.Maps

set_option maxRecDepth 100000 in
set_option maxHeartbeats 4000000 in
theorem drop_none {w : World} {b1 b2 : Nat} {v av r : Value} {xs : List Pd} {ps : List Pk} {base lo : Nat} {H1 H2 : Nm → Option Hd} {k1 k2 : Nat} {L : List Nat} (inn : Nat → Bool) (m1 : Mi w base (.map (some b1)) H1 (nmP xs xs.length) k1) (m2 : Mi w base (.map (some b2)) H2 (pvP xs xs.length) k2) (pks : Pks w v xs) (hs : Sim xs ps) (sm : SmP ps) (pk : Pkl w v ps) (hin : Bls w av inn ps.length) (hr : w.ownsRow lo 3 1 r L.length (ints L)) (hlen : L.length ≤ 1048576) (hL : ∀ p ∈ L, ∃ q, ps[p]? = some q ∧ inn p = true ∧ Wh ps inn p q) :
    Calls Tryz.prog 16 #[.agg #[v, .map (some b1), .map (some b2)], av, r] w fun e w' => e = .returned (.slice none 0 0) ∧ RowKit.Below w.heap.size w w' := by
  obtain ⟨va, vc, rfl⟩ : ∃ a c, v = .slice a ps.length c := let ⟨a, c, e, _⟩ := pk; ⟨a, c, e⟩
  obtain ⟨ia, ic, rfl⟩ : ∃ a c, av = .slice a ps.length c := let ⟨a, c, e, _⟩ := hin; ⟨a, c, e⟩
  obtain ⟨⟨ra, rn, rk⟩, rfl, hrn⟩ := slice_hd hr
  simp only at hrn
  subst hrn
  have HR := hide (show ∀ X, RowKit.Below w.heap.size w X → ∀ j (hj : j < L.length), ∃ g, ra = some ⟨g, 0, none⟩ ∧ X.cell? ⟨g, j, none⟩ = some (.int .i64 (L[j] : Int)) from fun X hX j hj => row_at (a := ra) (n := L.length) (c := rk) hr hX hj)
  have HIN := hide (show ∀ X, RowKit.Below w.heap.size w X → ∀ p, p < ps.length → ∃ b, ia = some ⟨b, 0, none⟩ ∧ X.cell? ⟨b, p, none⟩ = some (.bool (inn p)) from fun X hX p hp => by
    obtain ⟨a, c, e, q⟩ := hin.later hX
    injection e with e _ _
    obtain ⟨b, q1, q2, q3⟩ := q (by omega)
    exact ⟨b, e.trans q1, q3 p hp⟩)
  have HW := hide (show ∀ X, RowKit.Below w.heap.size w X → ∀ p ∈ L, p < ps.length ∧ inn p = true ∧ Calls Tryz.prog 28 #[.agg #[.slice va ps.length vc, .map (some b1), .map (some b2)], .int .i64 (p : Int), .slice ia ps.length ic] X fun e w' => e = .returned (.bool true) ∧ RowKit.Below X.heap.size X w' from fun X hX p hp => by
    obtain ⟨q, hq, hi, hw⟩ := hL p hp
    refine ⟨(List.getElem?_eq_some_iff.1 hq).1, hi, (isWhole_any inn (m1.later hX) (m2.later hX) (pks.later hX) hs sm (pk.later hX) (hin.later hX) hq).mono ?_⟩
    rintro e w' ⟨b, rfl, hb, hB⟩
    rw [hb.2 hw]
    exact ⟨rfl, hB⟩)
  obtain ⟨W1, hW1⟩ : ∃ W, W = w.alloc (.cells #[.slice va ps.length vc, .map (some b1), .map (some b2)] 44) := ⟨_, rfl⟩
  have HB1 := hide (show RowKit.Below w.heap.size w W1 ∧ W1.heap[w.heap.size]? = some (.cells #[.slice va ps.length vc, .map (some b1), .map (some b2)] 44 (0, 0)) from by rw [hW1]; exact ⟨(Below.refl _ w).alloc (Nat.le_refl _) _, World.alloc_heap_new w _⟩)
  have HLN := hide (rfl : L.length = L.length)
  obtain ⟨N, hN⟩ : ∃ N, N = L.length := ⟨_, rfl⟩
  have HN := hide hN
  rw [← hN] at hlen
  unfold hv
  simp only
  rw [← hN]
  clear m1 m2 pks hs sm pk hin hr hL hN HLN
  go_enter Tryz.func16, Tryz.ntmps16
  go_wp2_with fail
  rw [← hW1]
  clear hW1
  go_loopg [7, 9, 12] N (fun gq sv _ iv wr => ∃ j : Nat, sv = .slice none 0 0 ∧ iv = .int .i64 j ∧ j ≤ N ∧ N - j ≤ gq ∧ Hid (RowKit.Below W1.heap.size W1 wr))
  case atStart => exact ⟨0, rfl, by go_num, by omega, by omega, hide (Below.refl _ _)⟩
  case round =>
    obtain ⟨j, rfl, rfl, hj, hgj, HB⟩ := hrel
    by_cases hlt : j < N
    · have hjn : (j : Int) < (N : Int) := by omega
      have hjl : j < L.length := by have := unhide HN; omega
      have bX := bl_t (unhide HB1).1 (unhide HB)
      obtain ⟨g, rfl, c0⟩ := unhide HR wr bX j hjl
      obtain ⟨hp, hi, hw⟩ := unhide HW wr bX L[j] (List.getElem_mem hjl)
      obtain ⟨ib, rfl, i0⟩ := unhide HIN wr bX L[j] hp
      rw [hi] at i0
      have hpn : (L[j] : Int) < (ps.length : Int) := by omega
      have e1 := ((unhide HB).block _ (blk_lt (unhide HB1).2)).trans (unhide HB1).2
      have s0 := (cell_blk e1 0).1.trans (show #[Value.slice va ps.length vc, .map (some b1), .map (some b2)][0]? = some (.slice va ps.length vc) from rfl)
      have s1 := (cell_blk e1 1).1.trans (show #[Value.slice va ps.length vc, .map (some b1), .map (some b2)][1]? = some (.map (some b1)) from rfl)
      have s2 := (cell_blk e1 2).1.trans (show #[Value.slice va ps.length vc, .map (some b1), .map (some b2)][2]? = some (.map (some b2)) from rfl)
      have C := hide hw
      clear hw hi hp e1 bX
      generalize L[j] = p at *
      go_wp2_with (go_at_call 28; refine (unhide C).mono ?_; rintro e w5 ⟨rfl, hb5⟩; have HB5 := hide (bl_t (unhide HB) hb5); clear hb5 C c0 i0 s0 s1 s2)
      go_roundg (N - (j + 1))
      case measure => omega
      case rel => exact ⟨j + 1, rfl, by go_num, by omega, by omega, HB5⟩
    · obtain rfl : j = N := by omega
      go_wp2_with fail
      go_ret
      exact ⟨rfl, bl_t (unhide HB1).1 (unhide HB)⟩
end Go.Proofs.YtjnbnndocinicaaGreatDoor
namespace Go.Proofs.YtjnbnndocinicaaGreatDoor
open Go.RowKit Go.Maps

theorem three {W : World} {g : Nat} {v0 v1 v2 : Value} {t : TypeId} (h : W.heap[g]? = some (.cells #[v0, v1, v2] t (0, 0))) : W.cell? ⟨g, 0, none⟩ = some v0 ∧ W.cell? ⟨g, 1, none⟩ = some v1 ∧ W.cell? ⟨g, 2, none⟩ = some v2 ∧ W.frozen? ⟨g, 0, none⟩ = false ∧ W.frozen? ⟨g, 1, none⟩ = false ∧ W.frozen? ⟨g, 2, none⟩ = false :=
  ⟨(cell_blk h 0).1, (cell_blk h 1).1, (cell_blk h 2).1, (cell_blk h 0).2, (cell_blk h 1).2, (cell_blk h 2).2⟩
theorem plL_true (n : Nat) : plL (fun _ => true) n = List.range n := by
  unfold plL
  exact List.filter_eq_self.2 fun _ _ => rfl
theorem Mi.not_cells {X : World} {base : Nat} {d : Value} {H : Nm → Option Hd} {F : Nm → List Nat} {k : Nat} (m : Mi X base d H F k) {g : Nat} {cs : Array Value} {t : TypeId} (hg : X.heap[g]? = some (.cells cs t (0, 0))) (ht : t ≠ 3) : (∀ b, mb d = some b → b ≠ g) ∧ ∀ x h b, H x = some h → bk h = some b → b ≠ g := by
  refine ⟨fun b e q => ?_, fun x h b e eb q => ?_⟩
  · subst q
    rcases m.dm with ⟨rfl, _⟩ | ⟨b2, D, rfl, ho, _⟩
    · cases e
    · cases e
      obtain ⟨es, clock, h1, _⟩ := ho
      rw [hg] at h1
      cases h1
  · subst q
    refine row_not (m.con x h e) hg (fun cs2 e2 => ?_) (by rw [bk_own]; exact eb)
    injection e2 with _ e3 _
    exact ht e3
/-- BOTH MAPS OF A SET. -/
def M2 (F1 F2 : Nm → List Nat) (X : World) (b1 b2 : Nat) : Prop := ∃ base H1 k1 H2 k2, Mi X base (.map (some b1)) H1 F1 k1 ∧ Mi X base (.map (some b2)) H2 F2 k2
theorem M2.mono {F1 F2 : Nm → List Nat} {X Y : World} {b1 b2 : Nat} (h : M2 F1 F2 X b1 b2) (hb : ∀ j, j < X.heap.size → Y.heap[j]? = X.heap[j]?) : M2 F1 F2 Y b1 b2 := by
  obtain ⟨base, H1, k1, H2, k2, m1, m2⟩ := h
  exact ⟨base, H1, k1, H2, k2, m1.same (fun b e => hb b (m1.dm.lt e)) fun _ _ b e eb => hb b (m1.lt e eb).2, m2.same (fun b e => hb b (m2.dm.lt e)) fun _ _ b e eb => hb b (m2.lt e eb).2⟩
theorem M2.put {F1 F2 : Nm → List Nat} {X Y : World} {b1 b2 g : Nat} {cs : Array Value} (h : M2 F1 F2 X b1 b2) (hg : X.heap[g]? = some (.cells cs 44 (0, 0))) (hb : ∀ j, j ≠ g → Y.heap[j]? = X.heap[j]?) : M2 F1 F2 Y b1 b2 := by
  obtain ⟨base, H1, k1, H2, k2, m1, m2⟩ := h
  obtain ⟨p1, p2⟩ := m1.not_cells hg (by decide)
  obtain ⟨p3, p4⟩ := m2.not_cells hg (by decide)
  exact ⟨base, H1, k1, H2, k2, m1.same (fun b e => hb b (p1 b e)) fun x h b e eb => hb b (p2 x h b e eb), m2.same (fun b e => hb b (p3 b e)) fun x h b e eb => hb b (p4 x h b e eb)⟩
set_option maxRecDepth 100000 in
set_option maxHeartbeats 4000000 in
/-- CLOSED, WHERE ALL CLAUSES ARE MET: all places (given that askingOf ends). -/
theorem Closed_all {w : World} {v : Value} {ps : List Pk} (sm : SmP ps) (pk : Pkl w v ps) (hc : Cld ps) (hA : ∀ X, RowKit.Below w.heap.size w X → Calls Tryz.prog 13 #[v] X fun e w' => ∃ b, e = .returned (.map (some b)) ∧ RowKit.Below X.heap.size X w') :
    Calls Tryz.prog 5 #[v] w fun e w' => ∃ r, e = .returned r ∧ w'.ownsRow w.heap.size 3 1 r ps.length (ints (List.range ps.length)) ∧ RowKit.Below w.heap.size w w' := by
  obtain ⟨xs, hxs, hsim⟩ := sim_of pk (fun p hp => (sm.z p hp).2.1)
  obtain ⟨va, vc, rfl⟩ : ∃ a c, v = .slice a ps.length c := let ⟨a, c, e, _⟩ := pk; ⟨a, c, e⟩
  have hl := sm.l
  have ht := sm.tot hsim
  have C1 := hide (show ∀ X, RowKit.Below w.heap.size w X → Calls Tryz.prog 12 #[.slice va ps.length vc] X fun e w' => ∃ b1 b2, e = .returned (.agg #[.slice va ps.length vc, .map (some b1), .map (some b2)]) ∧ M2 (nmP xs xs.length) (pvP xs xs.length) w' b1 b2 ∧ RowKit.Below X.heap.size X w' from fun X hX => (setOf_any xs (.slice va ps.length vc) X (by rw [hsim.1]; omega) (by omega) (sm.sz hsim) (hxs.later hX)).mono fun e w' ⟨H1, k1, H2, k2, he, m1, m2, hb⟩ => ⟨_, _, he, ⟨_, H1, k1, H2, k2, m1, m2⟩, hb⟩)
  have HALL := hide (show ∀ X, RowKit.Below w.heap.size w X → Calls Tryz.prog 14 #[.slice va ps.length vc] X fun e w' => ∃ r, e = .returned r ∧ Bls w' r (fun _ => true) ps.length ∧ RowKit.Below X.heap.size X w' from fun X hX => allOf_any sm (pk.later hX))
  have HPL := hide (show ∀ X r, Bls X r (fun _ => true) ps.length → Calls Tryz.prog 15 #[r] X fun e w' => ∃ u, e = .returned u ∧ w'.ownsRow X.heap.size 3 1 u ps.length (ints (List.range ps.length)) ∧ RowKit.Below X.heap.size X w' from fun X r hr => by
    have := places_any (by omega) hr
    rw [plL_true, List.length_range] at this
    exact this)
  have HDR := hide (show ∀ Y b1 b2 r u lo, RowKit.Below w.heap.size w Y → M2 (nmP xs xs.length) (pvP xs xs.length) Y b1 b2 → Bls Y r (fun _ => true) ps.length → Y.ownsRow lo 3 1 u ps.length (ints (List.range ps.length)) → Calls Tryz.prog 16 #[.agg #[.slice va ps.length vc, .map (some b1), .map (some b2)], r, u] Y fun e w' => e = .returned (.slice none 0 0) ∧ RowKit.Below Y.heap.size Y w' from fun Y b1 b2 r u lo hY hM hB hu => by
    obtain ⟨base, H1, k1, H2, k2, m1, m2⟩ := hM
    exact drop_none (L := List.range ps.length) (fun _ => true) m1 m2 (hxs.later hY) hsim sm (pk.later hY) hB (by rw [List.length_range]; exact hu) (by rw [List.length_range]; omega) (fun p hp => by
      have hp2 := List.mem_range.1 hp
      exact ⟨_, List.getElem?_eq_getElem hp2, rfl, hc p _ (List.getElem?_eq_getElem hp2)⟩))
  have HAS := hide hA
  clear sm pk hc hA hxs hsim hl ht
  generalize nmP xs xs.length = F1 at *
  generalize pvP xs xs.length = F2 at *
  generalize ps.length = N at *
  go_enter Tryz.func5, Tryz.ntmps5
  go_wp2_with fail
  go_step3
  go_wp2_with (first
    | (go_at_call 12; refine (unhide C1 _ (Below.refl _ _)).mono ?_; rintro e w1 ⟨b1, b2, rfl, hM, hb1⟩; have HM := hide (And.intro hM hb1); clear hM hb1 C1)
    | (go_at_call 13; refine (unhide HAS _ (unhide HM).2).mono ?_; rintro e w2 ⟨ba, rfl, hb2⟩; obtain ⟨X, hX⟩ : ∃ W, W = w2.alloc (.cells #[.slice va N vc, .map (some b1), .map (some b2)] 44) := ⟨_, rfl⟩; have HX := hide (show M2 F1 F2 X b1 b2 ∧ X.heap[w2.heap.size]? = some (.cells #[.slice va N vc, .map (some b1), .map (some b2)] 44 (0, 0)) ∧ RowKit.Below w.heap.size w X from (by have h3 := bl_t hb2 ((Below.refl _ w2).alloc (Nat.le_refl _) (.cells #[.slice va N vc, .map (some b1), .map (some b2)] 44)); rw [← hX] at h3; exact ⟨(unhide HM).1.mono fun j hj => h3.block j hj, by rw [hX]; exact World.alloc_heap_new w2 _, bl_t (unhide HM).2 h3⟩)); clear hb2 HAS)
    | (go_at_call 14; rw [← hX]; clear hX; refine (unhide HALL _ (unhide HX).2.2).mono ?_; rintro e w4 ⟨r4, rfl, hbl, hb4⟩; have H4 := hide (And.intro hbl hb4); clear hbl hb4)
    | (go_at_call 15; refine (unhide HPL _ _ (unhide H4).1).mono ?_; rintro e w5 ⟨u5, rfl, hu5, hb5⟩; have H5 := hide (And.intro hu5 hb5); clear hu5 hb5))
  go_step3
  go_wp2_with fail
  go_loopg [6, 7] 1 (fun gq uv _ wr => uv = u5 ∧ wr = w5 ∧ 1 ≤ gq)
  case atStart => exact ⟨rfl, rfl, Nat.le_refl _⟩
  case round =>
    obtain ⟨rfl, rfl, hgq⟩ := hrel
    have b45 := (unhide H5).2
    have bX5 := bl_t (unhide H4).2 b45
    have hblk := (bX5.block _ (blk_lt (unhide HX).2.1)).trans (unhide HX).2.1
    obtain ⟨s0, s1, s2, _, _, _⟩ := three hblk
    have CD := hide (unhide HDR _ b1 b2 r4 _ _ (bl_t (unhide HX).2.2 bX5) ((unhide HX).1.mono fun j hj => bX5.block j hj) ((unhide H4).1.later b45) (unhide H5).1)
    have HB5 := hide (And.intro (bl_t (unhide HX).2.2 bX5) ((unhide H4).1.later b45))
    clear b45 bX5 hblk
    go_wp2_with (first
      | (go_at_call 16; refine (unhide CD).mono ?_; rintro e w6 ⟨rfl, hb6⟩; have HB6 := hide (And.intro (bl_t (unhide HB5).1 hb6) ((unhide HB5).2.later hb6)); clear hb6 CD s0 s1 s2)
      | (go_at_call 15; refine (unhide HPL _ _ (unhide HB6).2).mono ?_; rintro e w7 ⟨u7, rfl, hu7, hb7⟩; have H7 := hide (And.intro hu7 (bl_t (unhide HB6).1 hb7)); clear hu7 hb7))
    rw [Exit.noGoto_ret]
    go_ret
    exact ⟨_, rfl, row_lo2 (unhide H7).1 (unhide HB6).1.size, (unhide H7).2⟩
end Go.Proofs.YtjnbnndocinicaaGreatDoor
namespace Go.Proofs.YtjnbnndocinicaaGreatDoor
open Go.RowKit Go.Maps

/-- SIZES OF A PART AND OF THE LIST TURNED. -/
theorem SmP.of_sub {ps qs : List Pk} (sm : SmP ps) (hl : qs.length ≤ ps.length) (hs : ∀ g : Pk → Nat, (qs.map g).sum ≤ (ps.map g).sum) (hm : ∀ q ∈ qs, q ∈ ps) : SmP qs :=
  ⟨Nat.le_trans hl sm.l, Nat.le_trans (hs _) sm.t, Nat.le_trans (hs _) sm.sd, Nat.le_trans (hs _) sm.sr, Nat.le_trans (hs _) sm.sc, Nat.le_trans (hs _) sm.sf, fun q hq => sm.z q (hm q hq), fun q hq => sm.d q (hm q hq), fun q hq => sm.r q (hm q hq), fun q hq => sm.c q (hm q hq), fun q hq => sm.f q (hm q hq)⟩
theorem sum_sub {a b : List Pk} (h : a.Sublist b) (g : Pk → Nat) : (a.map g).sum ≤ (b.map g).sum := by
  induction h with
  | slnil => exact Nat.le_refl _
  | cons x _ ih => rw [List.map_cons, List.sum_cons]; omega
  | cons_cons x _ ih => rw [List.map_cons, List.map_cons, List.sum_cons, List.sum_cons]; omega
theorem all_at (ps : List Pk) : (List.range ps.length).map (pAt ps) = ps := by
  refine List.ext_getElem? fun i => ?_
  by_cases h : i < ps.length
  · rw [List.getElem?_map, List.getElem?_range h]
    exact (pAt_at h).symm
  · rw [List.getElem?_eq_none (by simp; omega), List.getElem?_eq_none (by omega)]
theorem part_sub (ps : List Pk) (fl : List Bool) : ((flP ps.length fl).map (pAt ps)).Sublist ps := by
  have h : (flP ps.length fl).Sublist (List.range ps.length) := List.filter_sublist
  have := h.map (pAt ps)
  rwa [all_at] at this
theorem SmP.part {ps : List Pk} (sm : SmP ps) (fl : List Bool) : SmP ((flP ps.length fl).map (pAt ps)) :=
  sm.of_sub (part_sub ps fl).length_le (sum_sub (part_sub ps fl)) fun _ hq => (part_sub ps fl).subset hq
theorem rev_all (ps : List Pk) : ((List.range ps.length).map fun j => pAt ps (ps.length - 1 - j)) = ps.reverse := by
  refine List.ext_getElem? fun i => ?_
  by_cases h : i < ps.length
  · rw [List.getElem?_map, List.getElem?_range h, List.getElem?_reverse h]
    exact (pAt_at (by omega)).symm
  · rw [List.getElem?_eq_none (by simp; omega), List.getElem?_eq_none (by simp; omega)]
theorem SmP.rev {ps : List Pk} (sm : SmP ps) : SmP ps.reverse :=
  sm.of_sub (by simp) (fun g => by rw [List.map_reverse, List.sum_reverse]; exact Nat.le_refl _) fun q hq => by simpa using hq
/-- THE PART LIES IN THE WHOLE. -/
theorem part_in (ps : List Pk) (fl : List Bool) : ∃ f, SubP ((flP ps.length fl).map (pAt ps)) ps f := by
  obtain ⟨L, hL⟩ : ∃ L, L = flP ps.length fl := ⟨_, rfl⟩
  have hs : L.Pairwise (· < ·) := by rw [hL]; exact List.Pairwise.filter _ List.pairwise_lt_range
  have hl : ∀ i ∈ L, i < ps.length := fun i hi => flP_lt (by rw [← hL]; exact hi)
  rw [← hL]
  refine ⟨fun i => if h : i < L.length then L[i] else ps.length + i, fun i j hij => ?_, fun i q hq => ?_⟩
  · simp only
    by_cases hj : j < L.length
    · rw [dif_pos (show i < L.length by omega), dif_pos hj]
      exact List.pairwise_iff_getElem.1 hs i j (by omega) hj hij
    · by_cases hi : i < L.length
      · rw [dif_pos hi, dif_neg hj]
        have := hl _ (List.getElem_mem hi)
        omega
      · rw [dif_neg hi, dif_neg hj]; omega
  · rw [List.getElem?_map] at hq
    obtain ⟨k, hk, rfl⟩ := Option.map_eq_some_iff.1 hq
    obtain ⟨hi, rfl⟩ := List.getElem?_eq_some_iff.1 hk
    simp only
    rw [dif_pos hi]
    exact pAt_at (hl _ (List.getElem_mem hi))
end Go.Proofs.YtjnbnndocinicaaGreatDoor
namespace Go.Proofs.YtjnbnndocinicaaGreatDoor
open Go.RowKit Go.Maps

/-- A PLACE BEHIND EACH OF SOME NAMES. -/
def fo (F : Nm → List Nat) (p : Nat) (l : List Nm) : Nm → List Nat := l.foldl (fun F x => upF F x (F x ++ [p])) F
theorem fo_app (F : Nm → List Nat) (p : Nat) (l m : List Nm) : fo F p (l ++ m) = fo (fo F p l) p m := List.foldl_append
theorem fo_snoc (F : Nm → List Nat) (p : Nat) (l : List Nm) (x : Nm) : fo F p (l ++ [x]) = upF (fo F p l) x (fo F p l x ++ [p]) := by rw [fo_app]; rfl
/-- THE NAMES IN CLAUSES, AND THOSE THAT A PACKAGE ASKS FOR. -/
def clN (cl : List (List At)) : List Nm := (cl.map fun al => al.map (·.n)).flatten
def akN (q : Pk) : List Nm := clN q.dp ++ clN q.pr
def akP (ps : List Pk) : Nat → Nm → List Nat
  | 0 => fun _ => []
  | i + 1 => match ps[i]? with | some q => fo (akP ps i) i (akN q) | none => akP ps i
def akK (ps : List Pk) (i : Nat) : Nat := ((ps.take i).map fun q => (akN q).length).sum
theorem akK_succ {ps : List Pk} {i : Nat} {q : Pk} (h : ps[i]? = some q) : akK ps (i + 1) = akK ps i + (akN q).length := by
  unfold akK
  rw [List.take_add_one, h, List.map_append, List.sum_append]
  simp
theorem akK_all {ps : List Pk} (n : Nat) (h : akK ps ps.length ≤ n) : ∀ i, akK ps i ≤ n := fun i => by
  refine Nat.le_trans ?_ h
  unfold akK
  rw [List.take_length, ← List.take_append_drop i ps, List.map_append, List.sum_append, List.take_append_drop]
  exact Nat.le_add_right _ _
theorem clN_snoc (cl : List (List At)) (i : Nat) (al : List At) (h : cl[i]? = some al) : clN (cl.take (i + 1)) = clN (cl.take i) ++ al.map (·.n) := by
  unfold clN
  rw [List.take_add_one, h, List.map_append, List.flatten_append]
  simp
theorem clN_len (cl : List (List At)) (i : Nat) : (clN (cl.take i)).length ≤ (clN cl).length := by
  conv => rhs; rw [← List.take_append_drop i cl]
  unfold clN
  rw [List.map_append, List.flatten_append, List.length_append]
  exact Nat.le_add_right _ _
/-- THE MAP OF THOSE WHO ASK, WHILE IT IS MADE. -/
structure As (w wr : World) (F : Nm → List Nat) (k : Nat) : Prop where
  mi : ∃ H, Mi wr (w.heap.size + 1) (.map (some w.heap.size)) H F k
  bw : RowKit.Below w.heap.size w wr
  sz : w.heap.size + 1 ≤ wr.heap.size
  ln : ∀ x, (F x).length ≤ k
theorem As.later {w wr w2 : World} {F : Nm → List Nat} {k : Nat} (h : As w wr F k) (b : RowKit.Below wr.heap.size wr w2) : As w w2 F k := by
  obtain ⟨⟨H, m⟩, h2, h3, h4⟩ := h
  exact ⟨⟨H, m.later b⟩, bl_t h2 b, Nat.le_trans h3 b.size, h4⟩
theorem as_start (w : World) : As w (w.alloc (.map #[] 0)) (fun _ => []) 0 := by
  have o := World.ownsMap_made w Tryz.prog 9 raw
  exact ⟨⟨fun _ => none, .inr ⟨_, _, rfl, o, Rep.start⟩, fun _ _ => rfl, fun x h e => (by cases e), fun x y h g c e => (by cases e)⟩, (Below.refl _ w).alloc (Nat.le_refl _) _, by rw [World.size_alloc]; omega, fun _ => Nat.le_refl _⟩
theorem As.add {w X : World} {F : Nm → List Nat} {k : Nat} (h : As w X F k) (hk : k ≤ 1048576) {x : Nm} (hx : x.size ≤ maxLen) (p : Nat) (ty : TypeId) {g : Nat} {cs : Array Value} (hg : X.heap[g]? = some (.cells cs 55 (0, 0))) :
    ∃ (f0 h' : Hd) (W2 W3 : World), (Instr.lookup 42 (.map (some w.heap.size)) (.string x) false).run Tryz.prog X = .ok (.slice f0.a f0.n f0.c) X ∧ (Instr.lookup 42 (.map (some w.heap.size)) (.string x) false).run Tryz.prog (X.alloc (.cells #[.int .i64 (p : Int)] 3)) = .ok (.slice f0.a f0.n f0.c) (X.alloc (.cells #[.int .i64 (p : Int)] 3)) ∧
      (Builtin.append_ #[24, 24] ty #[.slice f0.a f0.n f0.c, .slice (some ⟨X.heap.size, 0, none⟩) 1 1]).run Tryz.prog (X.alloc (.cells #[.int .i64 (p : Int)] 3)) = .ok (.slice h'.a h'.n h'.c) W2 ∧ (Instr.mapUpdate 42 (.map (some w.heap.size)) (.string x) (.slice h'.a h'.n h'.c)).run Tryz.prog W2 = .ok () W3 ∧ As w W3 (upF F x (F x ++ [p])) (k + 1) ∧ W2.heap[g]? = X.heap[g]? ∧ W3.heap[g]? = X.heap[g]? := by
  obtain ⟨⟨H, m⟩, hb, hz, hl⟩ := h
  obtain ⟨h', W2, W3, r1, r2, m3, kp, kb, src, bb⟩ := m.add (Nat.lt_of_le_of_lt hk (by decide)) hz hx p (Nat.le_trans (Nat.le_trans (hl x) hk) (by decide)) ty
  obtain ⟨p1, p2⟩ := m.not_cells hg (by decide)
  have kg := kp g (blk_lt hg) (fun e => p1 _ rfl e.symm) (fun f e1 e2 => p2 x f g e1 e2 rfl)
  have lkX := look1 m.dm hx
  have lkA := look1 ((m.later ((Below.refl _ X).alloc (Nat.le_refl _) (.cells #[.int .i64 (p : Int)] 3))).dm) hx
  obtain ⟨f0, e0⟩ : ∃ f : Hd, hv0 (H x) = .slice f.a f.n f.c := by
    cases H x with
    | none => exact ⟨⟨none, 0, 0⟩, rfl⟩
    | some f => exact ⟨f, rfl⟩
  rw [e0] at lkX lkA r1
  refine ⟨f0, h', W2, W3, lkX, lkA, r1, r2, ⟨⟨_, m3⟩, ?_, Nat.le_trans hz bb.size, upF_len hl x p⟩, kg.2, kg.1⟩
  refine hb.trans ⟨bb.os, bb.tape, bb.output, bb.size, fun c hc => (kp c (by omega) (by omega) fun f e1 e2 => ?_).1⟩
  have := (m.lt e1 e2).1
  omega
theorem box3 (w : World) (v0 v1 v2 : Value) (t : TypeId) : (w.alloc (.cells #[v0, v1, v2] t)).heap[w.heap.size]? = some (.cells #[v0, v1, v2] t (0, 0)) := heap_alloc_new _ _
theorem pick2 (a b : Value) {m : Nat} (hm : m < 2) (w : World) (ha : ∃ x n c, a = .slice x n c) (hb : ∃ x n c, b = .slice x n c) : (Instr.index 71 (.agg #[a, b]) (.int .i64 (m : Int))).run Tryz.prog w = .ok (if m = 0 then a else b) w := by
  obtain ⟨_, _, _, rfl⟩ := ha
  obtain ⟨_, _, _, rfl⟩ := hb
  rcases (show m = 0 ∨ m = 1 by omega) with rfl | rfl
  · simp [go_sem, Instr.index]
  · simp [go_sem, Instr.index]
/-- THE NAMES BEFORE A ROUND OF THE TWO. -/
def pf (q : Pk) (m : Nat) : List Nm := if m = 0 then [] else if m = 1 then clN q.dp else akN q
theorem pf_succ (q : Pk) {m : Nat} (hm : m < 2) : pf q (m + 1) = pf q m ++ clN (if m = 0 then q.dp else q.pr) := by
  rcases (show m = 0 ∨ m = 1 by omega) with rfl | rfl <;> simp [pf, akN]
theorem pf_len (q : Pk) (m : Nat) : (pf q m).length ≤ (akN q).length := by
  unfold pf akN
  split
  · simp
  · split
    · simp
    · simp
set_option maxRecDepth 100000 in
set_option maxHeartbeats 16000000 in
theorem askingOf_any {w : World} {v : Value} {ps : List Pk} (sm : SmP ps) (pk : Pkl w v ps) (ht : akK ps ps.length ≤ 1048576) :
    Calls Tryz.prog 13 #[v] w fun e w' => ∃ H k, e = .returned (.map (some w.heap.size)) ∧ Mi w' (w.heap.size + 1) (.map (some w.heap.size)) H (akP ps ps.length) k ∧ RowKit.Below w.heap.size w w' := by
  obtain ⟨N, hN⟩ : ∃ N, N = ps.length := ⟨_, rfl⟩
  obtain ⟨va, vc, rfl⟩ : ∃ a c, v = .slice a ps.length c := let ⟨a, c, e, _⟩ := pk; ⟨a, c, e⟩
  have HK := hide (akK_all (ps := ps) 1048576 ht)
  have HPK := hide pk
  have HSM := hide sm
  have HST := hide (as_start w)
  have hl := sm.l
  clear sm pk ht
  rw [← hN] at HPK hl ⊢
  have HN := hide hN
  clear hN
  have hmm := @run_makeMap Tryz.prog
  go_enter Tryz.func13, Tryz.ntmps13
  go_wp2_with fail
  clear hmm
  go_loopg [4, 6, 8, 10, 14] N (fun g1 _ _ _ _ vi wr => ∃ i : Nat, vi = .int .i64 i ∧ i ≤ N ∧ N - i ≤ g1 ∧ Hid (As w wr (akP ps i) (akK ps i)))
  case atStart => exact ⟨0, by go_num, by omega, by omega, HST⟩
  case round =>
    clear HST
    obtain ⟨i, rfl, hile, hg, HAS⟩ := hrel
    by_cases hlt : i < N
    · have hlt2 : (i : Int) < (N : Int) := by omega
      obtain ⟨q, hq⟩ : ∃ q, ps[i]? = some q := ⟨_, List.getElem?_eq_getElem (by have := unhide HN; omega)⟩
      have pk2 := unhide HPK
      rw [unhide HN] at pk2
      obtain ⟨vb, vo, vc2, cs, dd, rr, cc, pv, ff, e, hvb, hr, hpc, hll⟩ := pk2.at2 hq
      injection e with e1 _ e3
      subst e1 e3
      have hmem := List.mem_of_getElem? hq
      have hkk : akK ps i + (akN q).length ≤ 1048576 := by rw [← akK_succ hq]; exact unhide HK (i + 1)
      have HPS := hide (show akP ps (i + 1) = fo (akP ps i) i (akN q) ∧ akK ps (i + 1) = akK ps i + (akN q).length from ⟨by rw [akP, hq], akK_succ hq⟩)
      have hdz := (unhide HSM).d q hmem
      have hrz := (unhide HSM).r q hmem
      have hdl : q.dp.length ≤ 1048576 := Nat.le_trans (le_sum (fun p : Pk => p.dp.length) hmem) (unhide HSM).sd
      have hrl : q.pr.length ≤ 1048576 := Nat.le_trans (le_sum (fun p : Pk => p.pr.length) hmem) (unhide HSM).sr
      obtain ⟨da, dc, df, rfl, hcd⟩ := cv_of hll.dl
      obtain ⟨ra, rc, rf, rfl, hcr⟩ := cv_of hll.rl
      have hc3 : wr.cell? ⟨vb, vo + i * 43 + 3, none⟩ = some (.slice da q.dp.length dc) := ((unhide HAS).bw.cell (p := ⟨vb, vo + i * 43 + 3, none⟩) hvb).trans (hr 3 _ hpc.c3)
      have hc4 : wr.cell? ⟨vb, vo + i * 43 + 4, none⟩ = some (.slice ra q.pr.length rc) := ((unhide HAS).bw.cell (p := ⟨vb, vo + i * 43 + 4, none⟩) hvb).trans (hr 4 _ hpc.c4)
      have HAQ := hide (show ∀ n, As w (wr.drewN n) (fo (akP ps i) i (pf q 0)) (akK ps i + (pf q 0).length) from fun n => (unhide HAS).later (bl_drewN wr n))
      have HIX := hide (fun (m : Nat) (hm : m < 2) (W : World) => pick2 (.slice da q.dp.length dc) (.slice ra q.pr.length rc) hm W ⟨_, _, _, rfl⟩ ⟨_, _, _, rfl⟩)
      have HCV := hide (show ∀ m : Nat, ∃ (ca : Option Addr) (cn ck : Nat) (f : Nat → Hd), (if m = 0 then Value.slice da q.dp.length dc else .slice ra q.pr.length rc) = .slice ca cn ck ∧ cn = (if m = 0 then q.dp else q.pr).length ∧ cn ≤ 1048576 ∧ Cv w ca (if m = 0 then q.dp else q.pr) f ∧ ∀ al ∈ (if m = 0 then q.dp else q.pr), al.length ≤ 1048576 ∧ ∀ a ∈ al, a.n.size ≤ maxLen ∧ a.v.size ≤ maxLen from fun m => by
        by_cases h : m = 0
        · subst h; exact ⟨_, _, _, df, rfl, rfl, hdl, hcd, hdz⟩
        · rw [if_neg h, if_neg h]; exact ⟨_, _, _, rf, rfl, rfl, hrl, hcr, hrz⟩)
      clear hr hpc hll hmem hq hdz hrz hdl hrl hcd hcr HAS pk2
      have hvbl := hide hvb
      clear hvb
      go_wp2_with fail
      go_quiet (fail)
      clear hc3 hc4
      go_wp2_with fail
      go_loopg [6, 8, 10, 28] 2 (fun g2 _ _ _ vm wx => ∃ m : Nat, vm = .int .i64 m ∧ m ≤ 2 ∧ 2 - m ≤ g2 ∧ Hid (As w wx (fo (akP ps i) i (pf q m)) (akK ps i + (pf q m).length)))
      case atStart => exact ⟨0, by go_num, by omega, by omega, hide (unhide HAQ _)⟩
      case round =>
        clear HAQ
        obtain ⟨m, rfl, hmle, hg2, HAM⟩ := hrel
        by_cases hmt : m < 2
        · have hmt2 : (m : Int) < 2 := by omega
          obtain ⟨ca, cn, ck, cf, ecv, hcn, hcnb, hcv, hsz⟩ := unhide HCV m
          have hix := unhide HIX m hmt
          rw [ecv] at hix
          have hpl : (pf q (m + 1)).length ≤ (akN q).length := pf_len q (m + 1)
          have hps := pf_succ q hmt
          rw [hps, List.length_append] at hpl
          have HPP := hide hps
          generalize (if m = 0 then q.dp else q.pr) = cl at *
          have HCL := hide (And.intro hcv (And.intro hsz hcn))
          have HM0 := hide (show As w wr (fo (akP ps i) i (pf q m ++ clN (cl.take 0))) (akK ps i + (pf q m ++ clN (cl.take 0)).length) from by
            have e : pf q m ++ clN (cl.take 0) = pf q m := by simp [clN]
            rw [e]; exact unhide HAM)
          clear ecv hcv hsz hcn hps HAM
          go_wp2_with fail
          clear hix
          go_loopg [8, 10, 33] cn (fun g3 _ _ vj wx => ∃ j : Nat, vj = .int .i64 j ∧ j ≤ cn ∧ cn - j ≤ g3 ∧ Hid (As w wx (fo (akP ps i) i (pf q m ++ clN (cl.take j))) (akK ps i + (pf q m ++ clN (cl.take j)).length)))
          case atStart => exact ⟨0, by go_num, by omega, by omega, HM0⟩
          case round =>
            clear HM0
            obtain ⟨j, rfl, hjle, hg3, HAJ⟩ := hrel
            by_cases hjt : j < cn
            · have hjt2 : (j : Int) < (cn : Int) := by omega
              obtain ⟨hcv, hsz, hcn⟩ := unhide HCL
              obtain ⟨cb, co, rfl, hcb, hcc, hats⟩ := hcv.at_ j (by omega)
              have hal : cl[j]? = some (cl.getD j []) := by rw [List.getD_eq_getElem?_getD, List.getElem?_eq_getElem (by omega)]; rfl
              have hz2 := hsz _ (List.mem_of_getElem? hal)
              have hcl := clN_snoc cl j _ hal
              have hln := clN_len cl (j + 1)
              generalize cl.getD j [] = al at *
              obtain ⟨la, lc, e4, _, hat⟩ := hats
              have hj1 : wr.cell? ⟨cb, co + j, none⟩ = some (.slice la al.length lc) := by
                rw [← e4]; exact ((unhide HAJ).bw.cell (p := ⟨cb, co + j, none⟩) hcb).trans hcc
              have hl2 : (pf q m).length + (clN (cl.take j)).length + al.length ≤ (akN q).length := by
                rw [hcl, List.length_append, List.length_map] at hln; omega
              have HJ0 := hide (show As w wr (fo (akP ps i) i (pf q m ++ clN (cl.take j) ++ (al.take 0).map (·.n))) (akK ps i + (pf q m ++ clN (cl.take j) ++ (al.take 0).map (·.n)).length) from by
                have e : pf q m ++ clN (cl.take j) ++ (al.take 0).map (·.n) = pf q m ++ clN (cl.take j) := by simp
                rw [e]; exact unhide HAJ)
              have HCJ := hide hcl
              obtain ⟨L, hL⟩ : ∃ L, L = al.length := ⟨_, rfl⟩
              have hz3 := hz2.1
              have HAT := hide (And.intro hat hz2.2)
              rw [← hL] at hj1 hz3 hl2
              have HL := hide hL
              clear hcv hsz hcn hcc e4 hal hcl hln hat hz2 hL HAJ
              have hcbb := hide hcb
              clear hcb
              go_wp2_with fail
              clear hj1
              go_loopg [10, 39] L (fun g4 _ vt wx => ∃ t : Nat, vt = .int .i64 t ∧ t ≤ L ∧ L - t ≤ g4 ∧ Hid (As w wx (fo (akP ps i) i (pf q m ++ clN (cl.take j) ++ (al.take t).map (·.n))) (akK ps i + (pf q m ++ clN (cl.take j) ++ (al.take t).map (·.n)).length)))
              case atStart => exact ⟨0, by go_num, by omega, by omega, HJ0⟩
              case round =>
                clear HJ0
                obtain ⟨t, rfl, htle, hg4, HAT4⟩ := hrel
                by_cases htt : t < L
                · have htt2 : (t : Int) < (L : Int) := by omega
                  have htl : t < al.length := by have := unhide HL; omega
                  obtain ⟨ab, ao, rfl, hab, a0, a1, a2⟩ := (unhide HAT).1 t htl
                  have hxs := ((unhide HAT).2 al[t] (List.getElem_mem htl)).1
                  have bw := (unhide HAT4).bw
                  have k0 := (bw.cell (p := ⟨ab, ao + t * 3, none⟩) hab).trans a0
                  have k1 := (bw.cell (p := ⟨ab, ao + t * 3 + 1, none⟩) hab).trans a1
                  have k2 := (bw.cell (p := ⟨ab, ao + t * 3 + 2, none⟩) hab).trans a2
                  have ets : (al.take (t + 1)).map (·.n) = (al.take t).map (·.n) ++ [al[t].n] := by
                    rw [List.take_add_one, List.getElem?_eq_getElem htl, List.map_append]; rfl
                  have hlt4 : ((al.take t).map (·.n)).length ≤ t := by rw [List.length_map, List.length_take]; omega
                  generalize al[t] = x at *
                  obtain ⟨xn, xo, xv⟩ := x
                  simp only at hxs k0 k1 k2 ets a0 a1 a2
                  have HETS := hide (show pf q m ++ clN (cl.take j) ++ (al.take (t + 1)).map (·.n) = (pf q m ++ clN (cl.take j) ++ (al.take t).map (·.n)) ++ [xn] from by rw [ets, ← List.append_assoc])
                  have hkb : akK ps i + (pf q m ++ clN (cl.take j) ++ (al.take t).map (·.n)).length ≤ 1048576 := by
                    rw [List.length_append, List.length_append]; omega
                  generalize pf q m ++ clN (cl.take j) ++ (al.take t).map (·.n) = lx at *
                  obtain ⟨Y, hY⟩ : ∃ Y, Y = wr.alloc (.cells #[.string xn, .int .i64 xo, .string xv] 55) := ⟨_, rfl⟩
                  have bX : RowKit.Below wr.heap.size wr Y.drew := by rw [hY]; exact ((Below.refl _ wr).alloc (Nat.le_refl _) _).drew
                  have gX : Y.drew.heap[wr.heap.size]? = some (.cells #[.string xn, .int .i64 xo, .string xv] 55 (0, 0)) := by rw [hY]; exact box3 _ _ _ _ _
                  obtain ⟨f0, h', W2, W3, lk1, lk2, r1, r2, as3, kg2, kg3⟩ := ((unhide HAT4).later bX).add hkb hxs i 24 gX
                  have cb : ∀ Z : World, Z.heap[wr.heap.size]? = Y.drew.heap[wr.heap.size]? → Z.cell? ⟨wr.heap.size, 0, none⟩ = some (.string xn) := fun Z e => (cell_blk (e.trans gX) 0).1.trans rfl
                  have HSX := hide (cb Y.drew rfl)
                  have HSA := hide (cb (Y.drew.alloc (.cells #[.int .i64 (i : Int)] 3)) (((Below.refl _ Y.drew).alloc (Nat.le_refl _) (.cells #[.int .i64 (i : Int)] 3)).block _ (blk_lt gX)))
                  have HS2 := hide (cb W2 kg2)
                  have HS3 := hide (cb W3 kg3)
                  have HLX := hide lk1
                  have HLA := hide lk2
                  have R1 := hide r1
                  have R2 := hide r2
                  rw [← fo_snoc, ← unhide HETS] at as3
                  have HSE3 := hide (show As w W3 (fo (akP ps i) i (pf q m ++ clN (cl.take j) ++ (al.take (t + 1)).map (·.n))) (akK ps i + (pf q m ++ clN (cl.take j) ++ (al.take (t + 1)).map (·.n)).length) from by
                    have e := unhide HETS
                    rw [e] at as3 ⊢
                    rw [List.length_append]
                    exact as3)
                  clear bw a0 a1 a2 ets hlt4 HETS hkb bX gX lk1 lk2 r1 r2 as3 kg2 kg3 cb HAT4
                  have HY := hide hY
                  clear hY
                  go_upto_region 14 with fail
                  rw [← unhide HY]
                  clear HY k0 k1 k2
                  refine merge (T := ?T14) ?h14 ?k14
                  case h14 =>
                    intro KEY
                    refine wp_region_held_drew (S := fun w' => w'.cell? ⟨wr.heap.size, 0, none⟩ = some (.string xn)) (by kernel_rfl) ?_ (fun hHeld => ?_)
                    · exact unhide HSX
                    refine wpAnyH_take (i := 0) (oi := { dst := some 43, op := Op.move (Operand.tmp 3), type := 42, pos := "part.go:60", after := #[], guard := none }) (v := ?_) rfl (by kernel_rfl) (by kernel_rfl) (by kernel_rfl) (fun _ _ _ h => h) (Or.inl ⟨by rfl, ?_⟩) (by assumption) ?_
                    rotate_left
                    · intro w hSw; (try dsimp only at hSw); go_simp; (try with_reducible rfl)
                    try simp only [Act.put, List.setIfInBounds_toArray, List.set_cons_zero, List.set_cons_succ]
                    refine wpAnyH_take (i := 1) (oi := { dst := some 44, op := Op.fieldAddr 55 (Operand.tmp 10) 0, type := 0, pos := "part.go:60", after := #[], guard := none }) (v := ?_) rfl (by kernel_rfl) (by kernel_rfl) (by kernel_rfl) (fun _ _ _ h => h) (Or.inl ⟨by rfl, ?_⟩) (by assumption) ?_
                    rotate_left
                    · intro w hSw; (try dsimp only at hSw); go_simp; (try with_reducible rfl)
                    try simp only [Act.put, List.setIfInBounds_toArray, List.set_cons_zero, List.set_cons_succ]
                    refine wpAnyH_take (i := 2) (oi := { dst := some 45, op := Op.load 9 (Operand.tmp 44), type := 9, pos := "part.go:60", after := #[{ on := 1, ground := Ground.data }], guard := none }) (v := ?_) rfl (by kernel_rfl) (by kernel_rfl) (by kernel_rfl) (fun _ _ _ h => h) (Or.inl ⟨by rfl, ?_⟩) (by assumption) ?_
                    rotate_left
                    · intro w hSw; (try dsimp only at hSw); go_simp; (try with_reducible rfl)
                    try simp only [Act.put, List.setIfInBounds_toArray, List.set_cons_zero, List.set_cons_succ]
                    refine wpAnyH_take (i := 3) (oi := { dst := some 46, op := Op.move (Operand.tmp 3), type := 42, pos := "part.go:60", after := #[], guard := none }) (v := ?_) rfl (by kernel_rfl) (by kernel_rfl) (by kernel_rfl) (fun _ _ _ h => h) (Or.inl ⟨by rfl, ?_⟩) (by assumption) ?_
                    rotate_left
                    · intro w hSw; (try dsimp only at hSw); go_simp; (try with_reducible rfl)
                    try simp only [Act.put, List.setIfInBounds_toArray, List.set_cons_zero, List.set_cons_succ]
                    refine wpAnyH_take (i := 4) (oi := { dst := some 47, op := Op.fieldAddr 55 (Operand.tmp 10) 0, type := 0, pos := "part.go:60", after := #[], guard := none }) (v := ?_) rfl (by kernel_rfl) (by kernel_rfl) (by kernel_rfl) (fun _ _ _ h => h) (Or.inl ⟨by rfl, ?_⟩) (by assumption) ?_
                    rotate_left
                    · intro w hSw; (try dsimp only at hSw); go_simp; (try with_reducible rfl)
                    try simp only [Act.put, List.setIfInBounds_toArray, List.set_cons_zero, List.set_cons_succ]
                    refine wpAnyH_take (i := 5) (oi := { dst := some 48, op := Op.load 9 (Operand.tmp 47), type := 9, pos := "part.go:60", after := #[{ on := 4, ground := Ground.data }], guard := none }) (v := ?_) rfl (by kernel_rfl) (by kernel_rfl) (by kernel_rfl) (fun _ _ _ h => h) (Or.inl ⟨by rfl, ?_⟩) (by assumption) ?_
                    rotate_left
                    · intro w hSw; (try dsimp only at hSw); go_simp; (try with_reducible rfl)
                    try simp only [Act.put, List.setIfInBounds_toArray, List.set_cons_zero, List.set_cons_succ]
                    refine wpAnyH_take (i := 7) (oi := { dst := some 50, op := Op.move (Operand.tmp 4), type := 3, pos := "part.go:60", after := #[], guard := none }) (v := ?_) rfl (by kernel_rfl) (by kernel_rfl) (by kernel_rfl) (fun _ _ _ h => h) (Or.inl ⟨by rfl, ?_⟩) (by assumption) ?_
                    rotate_left
                    · intro w hSw; (try dsimp only at hSw); go_simp; (try with_reducible rfl)
                    try simp only [Act.put, List.setIfInBounds_toArray, List.set_cons_zero, List.set_cons_succ]
                    refine wpAnyH_ready (rs := [6, 8]) (by kernel_rfl) (by simp) ?_
                    refine AllReadyH.cons (o := { dst := some 49, op := Op.lookup 42 (Operand.tmp 46) (Operand.tmp 48) false, type := 24, pos := "part.go:60", after := #[{ on := 3, ground := Ground.data }, { on := 5, ground := Ground.data }], guard := none }) rfl (fun K hK => ?_) (AllReadyH.cons (o := { dst := some 51, op := Op.buildSlice 24 1 #[(0, Operand.tmp 50)], type := 24, pos := "part.go:60", after := #[{ on := 7, ground := Ground.data }], guard := none }) rfl (fun K hK => ?_) AllReadyH.nil)
                    · refine wp_look_run _ _ 42 rfl _ _ rfl rfl (unhide HLX) ?_
                      refine hK.out _ _ ?_ (fun hHeld => ?_)
                      · exact unhide HSX
                      clear hK K
                      try simp only [Act.put, List.setIfInBounds_toArray, List.set_cons_zero, List.set_cons_succ]
                      refine wpAnyH_ready (rs := [8]) (by kernel_rfl) (by simp) ?_
                      refine AllReadyH.cons (o := { dst := some 51, op := Op.buildSlice 24 1 #[(0, Operand.tmp 50)], type := 24, pos := "part.go:60", after := #[{ on := 7, ground := Ground.data }], guard := none }) rfl (fun K hK => ?_) AllReadyH.nil
                      go_simp
                      refine hK.out _ _ ?_ (fun hHeld => ?_)
                      · exact unhide HSA
                      clear hK K
                      try simp only [Act.put, List.setIfInBounds_toArray, List.set_cons_zero, List.set_cons_succ]
                      refine wpAnyH_ready (rs := [9]) (by kernel_rfl) (by simp) ?_
                      refine AllReadyH.cons (o := { dst := some 52, op := Op.call { callee := Callee.builtin Builtin.append, args := #[Operand.tmp 49, Operand.tmp 51], argTypes := #[24, 24] }, type := 24, pos := "part.go:60", after := #[{ on := 6, ground := Ground.data }, { on := 8, ground := Ground.data }], guard := none }) rfl (fun K hK => ?_) AllReadyH.nil
                      refine wp_append_run _ _ 24 rfl _ _ rfl rfl (unhide R1) ?_
                      refine hK.out _ _ ?_ (fun hHeld => ?_)
                      · exact unhide HS2
                      clear hK K
                      try simp only [Act.put, List.setIfInBounds_toArray, List.set_cons_zero, List.set_cons_succ]
                      refine wpAnyH_ready (rs := [10]) (by kernel_rfl) (by simp) ?_
                      refine AllReadyH.cons (o := { dst := none, op := Op.mapUpdate 42 (Operand.tmp 43) (Operand.tmp 45) (Operand.tmp 52), type := 0, pos := "part.go:60", after := #[{ on := 0, ground := Ground.data }, { on := 2, ground := Ground.data }, { on := 9, ground := Ground.data }, { on := 9, ground := Ground.chain }, { on := 0, ground := Ground.phase }, { on := 1, ground := Ground.phase }, { on := 2, ground := Ground.phase }, { on := 3, ground := Ground.phase }, { on := 4, ground := Ground.phase }, { on := 5, ground := Ground.phase }, { on := 6, ground := Ground.phase }, { on := 7, ground := Ground.phase }, { on := 8, ground := Ground.phase }, { on := 9, ground := Ground.phase }], guard := none }) rfl (fun K hK => ?_) AllReadyH.nil
                      refine wp_upd_run _ _ _ 42 rfl _ _ _ rfl rfl rfl (unhide R2) ?_
                      refine hK.out _ _ ?_ (fun hHeld => ?_)
                      · exact unhide HS3
                      clear hK K
                      try simp only [Act.put]
                      refine wpAnyH_done (by kernel_rfl) ?_ _
                      exact KEY.out
                    · go_simp
                      refine hK.out _ _ ?_ (fun hHeld => ?_)
                      · exact unhide HSA
                      clear hK K
                      try simp only [Act.put, List.setIfInBounds_toArray, List.set_cons_zero, List.set_cons_succ]
                      refine wpAnyH_ready (rs := [6]) (by kernel_rfl) (by simp) ?_
                      refine AllReadyH.cons (o := { dst := some 49, op := Op.lookup 42 (Operand.tmp 46) (Operand.tmp 48) false, type := 24, pos := "part.go:60", after := #[{ on := 3, ground := Ground.data }, { on := 5, ground := Ground.data }], guard := none }) rfl (fun K hK => ?_) AllReadyH.nil
                      refine wp_look_run _ _ 42 rfl _ _ rfl rfl (unhide HLA) ?_
                      refine hK.out _ _ ?_ (fun hHeld => ?_)
                      · exact unhide HSA
                      clear hK K
                      try simp only [Act.put, List.setIfInBounds_toArray, List.set_cons_zero, List.set_cons_succ]
                      refine wpAnyH_ready (rs := [9]) (by kernel_rfl) (by simp) ?_
                      refine AllReadyH.cons (o := { dst := some 52, op := Op.call { callee := Callee.builtin Builtin.append, args := #[Operand.tmp 49, Operand.tmp 51], argTypes := #[24, 24] }, type := 24, pos := "part.go:60", after := #[{ on := 6, ground := Ground.data }, { on := 8, ground := Ground.data }], guard := none }) rfl (fun K hK => ?_) AllReadyH.nil
                      refine wp_append_run _ _ 24 rfl _ _ rfl rfl (unhide R1) ?_
                      refine hK.out _ _ ?_ (fun hHeld => ?_)
                      · exact unhide HS2
                      clear hK K
                      try simp only [Act.put, List.setIfInBounds_toArray, List.set_cons_zero, List.set_cons_succ]
                      refine wpAnyH_ready (rs := [10]) (by kernel_rfl) (by simp) ?_
                      refine AllReadyH.cons (o := { dst := none, op := Op.mapUpdate 42 (Operand.tmp 43) (Operand.tmp 45) (Operand.tmp 52), type := 0, pos := "part.go:60", after := #[{ on := 0, ground := Ground.data }, { on := 2, ground := Ground.data }, { on := 9, ground := Ground.data }, { on := 9, ground := Ground.chain }, { on := 0, ground := Ground.phase }, { on := 1, ground := Ground.phase }, { on := 2, ground := Ground.phase }, { on := 3, ground := Ground.phase }, { on := 4, ground := Ground.phase }, { on := 5, ground := Ground.phase }, { on := 6, ground := Ground.phase }, { on := 7, ground := Ground.phase }, { on := 8, ground := Ground.phase }, { on := 9, ground := Ground.phase }], guard := none }) rfl (fun K hK => ?_) AllReadyH.nil
                      refine wp_upd_run _ _ _ 42 rfl _ _ _ rfl rfl rfl (unhide R2) ?_
                      refine hK.out _ _ ?_ (fun hHeld => ?_)
                      · exact unhide HS3
                      clear hK K
                      try simp only [Act.put]
                      refine wpAnyH_done (by kernel_rfl) ?_ _
                      exact KEY.out
                  case k14 =>
                    clear HLX HLA R1 R2 HSX HSA HS2 HS3
                    go_wp2_with fail
                    go_roundg (L - (t + 1))
                    case measure => omega
                    case rel => exact ⟨t + 1, by go_num, by omega, by omega, HSE3⟩
                · obtain rfl : t = L := by omega
                  have HF := hide (show As w wr (fo (akP ps i) i (pf q m ++ clN (cl.take (j + 1)))) (akK ps i + (pf q m ++ clN (cl.take (j + 1))).length) from by
                    rw [unhide HCJ, ← List.append_assoc]
                    have e : al.take t = al := by rw [unhide HL]; exact List.take_length
                    have := unhide HAT4
                    rw [e] at this
                    exact this)
                  go_wp2_with fail
                  go_roundg (cn - (j + 1))
                  case measure => omega
                  case rel => exact ⟨j + 1, by go_num, by omega, by omega, HF⟩
            · obtain rfl : j = cn := by omega
              have HF := hide (show As w wr (fo (akP ps i) i (pf q (m + 1))) (akK ps i + (pf q (m + 1)).length) from by
                rw [unhide HPP]
                have e : cl.take j = cl := by rw [(unhide HCL).2.2]; exact List.take_length
                have := unhide HAJ
                rw [e] at this
                exact this)
              go_wp2_with fail
              go_roundg (2 - (m + 1))
              case measure => omega
              case rel => exact ⟨m + 1, by go_num, by omega, by omega, HF⟩
        · obtain rfl : m = 2 := by omega
          have HF := hide (show As w wr (akP ps (i + 1)) (akK ps (i + 1)) from by
            rw [(unhide HPS).1, (unhide HPS).2]; exact unhide HAM)
          go_wp2_with fail
          go_roundg (N - (i + 1))
          case measure => omega
          case rel => exact ⟨i + 1, by go_num, by omega, by omega, HF⟩
    · obtain rfl : i = N := by omega
      go_wp2_with fail
      go_ret
      obtain ⟨⟨H, hm⟩, hb, _, _⟩ := unhide HAS
      exact ⟨H, _, rfl, hm, hb⟩
end Go.Proofs.YtjnbnndocinicaaGreatDoor
namespace Go.Proofs.YtjnbnndocinicaaGreatDoor
open Go.RowKit Go.Maps

/-- A CLAUSE MET IN A PART. -/
theorem imP_iff2 {ps : List Pk} {inn : Nat → Bool} {but : Int} {al : List At} : imP ps inn but al = true ↔ ∃ a ∈ al, ∃ p, mP ps a p = true ∧ inn p = true ∧ (p : Int) ≠ but := by
  constructor
  · intro h
    unfold imP at h
    rw [List.any_eq_true] at h
    obtain ⟨a, ha, h⟩ := h
    rw [List.any_eq_true] at h
    obtain ⟨p, _, h⟩ := h
    rw [Bool.and_eq_true] at h
    obtain ⟨h1, h2⟩ := h
    unfold hitP at h2
    rw [Bool.and_eq_true] at h2
    exact ⟨a, ha, p, h1, h2.1, by simpa using h2.2⟩
  · rintro ⟨a, ha, p, hm, hi, hp⟩
    exact imP_yes ha hm (by unfold hitP; rw [hi, decide_eq_false hp]; rfl)
theorem imP_mono {ps : List Pk} {inn inn2 : Nat → Bool} (h : ∀ p, inn p = true → inn2 p = true) {but : Int} {al : List At} (hm : imP ps inn but al = true) : imP ps inn2 but al = true := by
  obtain ⟨a, ha, p, h1, h2, h3⟩ := imP_iff2.1 hm
  exact imP_iff2.2 ⟨a, ha, p, h1, h p h2, h3⟩
theorem Wh.mono {ps : List Pk} {inn inn2 : Nat → Bool} {p : Nat} {q : Pk} (hw : Wh ps inn p q) (h : ∀ p, inn p = true → inn2 p = true) : Wh ps inn2 p q :=
  ⟨fun al ha => imP_mono h (hw.1 al ha), fun al ha => imP_mono h (hw.2 al ha)⟩
/-- A PART THAT IS CLOSED. -/
def Clo (ps : List Pk) (inn : Nat → Bool) : Prop := ∀ (p : Nat) (q : Pk), ps[p]? = some q → inn p = true → Wh ps inn p q
/-- WHO MEETS AN ATOM HAS ITS NAME, OR PROVIDES IT. -/
theorem mP_nm {ps : List Pk} {a : At} {p : Nat} (h : mP ps a p = true) : ∃ q, ps[p]? = some q ∧ (a.n = q.nm ∨ a.n ∈ q.pv) := by
  unfold mP at h
  cases e : ps[p]? with
  | none => rw [e] at h; cases h
  | some q =>
    rw [e] at h
    simp only at h
    unfold meetsA at h
    rw [Bool.or_eq_true, Bool.and_eq_true, Bool.and_eq_true] at h
    refine ⟨q, rfl, ?_⟩
    rcases h with ⟨h1, _⟩ | ⟨_, h2⟩
    · exact .inl (toList_eq.1 h1).symm
    · exact .inr ((Lib.containsS_iff _ _).1 h2)
/-- WHO ASKS FOR A NAME. -/
theorem fo_mem (F : Nm → List Nat) (i : Nat) (l : List Nm) (x : Nm) (p : Nat) : p ∈ fo F i l x ↔ p ∈ F x ∨ (p = i ∧ x ∈ l) := by
  induction l generalizing F with
  | nil => simp [fo]
  | cons y l ih =>
    show p ∈ fo (upF F y (F y ++ [i])) i l x ↔ _
    rw [ih]
    by_cases e : x = y
    · subst e
      rw [upF_same]
      rw [List.mem_append, List.mem_singleton]
      constructor
      · rintro ((h | h) | ⟨h, _⟩)
        · exact .inl h
        · exact .inr ⟨h, List.mem_cons_self⟩
        · exact .inr ⟨h, List.mem_cons_self⟩
      · rintro (h | ⟨h, _⟩)
        · exact .inl (.inl h)
        · exact .inl (.inr h)
    · rw [upF_other _ _ e]
      simp only [List.mem_cons]
      constructor
      · rintro (h | ⟨h1, h2⟩)
        · exact .inl h
        · exact .inr ⟨h1, .inr h2⟩
      · rintro (h | ⟨h1, h2 | h2⟩)
        · exact .inl h
        · exact absurd h2 e
        · exact .inr ⟨h1, h2⟩
theorem akP_mem (ps : List Pk) (x : Nm) (p : Nat) : ∀ n, p ∈ akP ps n x ↔ p < n ∧ ∃ q, ps[p]? = some q ∧ x ∈ akN q
  | 0 => by simp [akP]
  | n + 1 => by
    have ih := akP_mem ps x p n
    cases e : ps[n]? with
    | none =>
      have e2 : akP ps (n + 1) = akP ps n := by rw [akP, e]
      rw [e2, ih]
      constructor
      · rintro ⟨h1, h2⟩; exact ⟨by omega, h2⟩
      · rintro ⟨h1, q, h2, h3⟩
        refine ⟨?_, q, h2, h3⟩
        by_cases h : p = n
        · subst h; rw [e] at h2; cases h2
        · omega
    | some q =>
      have e2 : akP ps (n + 1) = fo (akP ps n) n (akN q) := by rw [akP, e]
      rw [e2, fo_mem, ih]
      constructor
      · rintro (⟨h1, h2⟩ | ⟨rfl, h2⟩)
        · exact ⟨by omega, h2⟩
        · exact ⟨by omega, q, e, h2⟩
      · rintro ⟨h1, q2, h2, h3⟩
        by_cases h : p = n
        · subst h; rw [e] at h2; cases h2; exact .inr ⟨rfl, h3⟩
        · exact .inl ⟨by omega, q2, h2, h3⟩
theorem akN_mem {q : Pk} {al : List At} {a : At} (ha : a ∈ al) (h : al ∈ q.dp ∨ al ∈ q.pr) : a.n ∈ akN q := by
  unfold akN clN
  rw [List.mem_append]
  have : ∀ cl : List (List At), al ∈ cl → a.n ∈ (cl.map fun al => al.map (·.n)).flatten := fun cl hc => List.mem_flatten.2 ⟨al.map (·.n), List.mem_map.2 ⟨al, hc, rfl⟩, List.mem_map.2 ⟨a, ha, rfl⟩⟩
  rcases h with h | h
  · exact .inl (this _ h)
  · exact .inr (this _ h)
/-- WHAT FALLS OUT OF A PART. -/
structure Dp (ps : List Pk) (inn : Nat → Bool) (D : List Nat) (inn' : Nat → Bool) (L : List Nat) : Prop where
  sub : ∀ p, inn' p = true → inn p = true
  fal : ∀ p ∈ L, p ∈ D ∧ inn p = true ∧ inn' p = false
  new : ∀ p, inn p = true → inn' p = false → p ∈ L
  grt : ∀ G, Clo ps G → (∀ p, G p = true → inn p = true) → ∀ p, G p = true → inn' p = true
  chk : ∀ p ∈ D, inn' p = true → ∃ it : Nat → Bool, (∀ p, inn' p = true → it p = true) ∧ (∀ p, it p = true → inn p = true) ∧ ∀ q, ps[p]? = some q → Wh ps it p q
  len : L.length ≤ D.length
theorem Dp.start (ps : List Pk) (inn : Nat → Bool) : Dp ps inn [] inn [] :=
  ⟨fun _ h => h, fun p h => (by cases h), fun p h1 h2 => (by rw [h1] at h2; cases h2), fun G _ h => h, fun p h => (by cases h), Nat.le_refl _⟩
theorem Dp.out {ps : List Pk} {inn inn' : Nat → Bool} {D L : List Nat} {p : Nat} (h : Dp ps inn D inn' L) (hp : inn' p = false) : Dp ps inn (D ++ [p]) inn' L :=
  ⟨h.sub, fun x hx => ⟨List.mem_append.2 (.inl (h.fal x hx).1), (h.fal x hx).2⟩, h.new, h.grt, fun x hx hi => (by
    rcases List.mem_append.1 hx with hx | hx
    · exact h.chk x hx hi
    · rw [List.mem_singleton] at hx; subst hx; rw [hp] at hi; cases hi), by rw [List.length_append]; exact Nat.le_add_right_of_le h.len⟩
theorem Dp.keep {ps : List Pk} {inn inn' : Nat → Bool} {D L : List Nat} {p : Nat} (h : Dp ps inn D inn' L) (hw : ∀ q, ps[p]? = some q → Wh ps inn' p q) : Dp ps inn (D ++ [p]) inn' L :=
  ⟨h.sub, fun x hx => ⟨List.mem_append.2 (.inl (h.fal x hx).1), (h.fal x hx).2⟩, h.new, h.grt, fun x hx hi => (by
    rcases List.mem_append.1 hx with hx | hx
    · exact h.chk x hx hi
    · rw [List.mem_singleton] at hx; subst hx; exact ⟨inn', fun _ h => h, h.sub, hw⟩), by rw [List.length_append]; exact Nat.le_add_right_of_le h.len⟩
theorem Dp.drop {ps : List Pk} {inn inn' : Nat → Bool} {D L : List Nat} {p : Nat} {q : Pk} (h : Dp ps inn D inn' L) (hp : inn' p = true) (hq : ps[p]? = some q) (hw : ¬ Wh ps inn' p q) : Dp ps inn (D ++ [p]) (fun i => if i = p then false else inn' i) (L ++ [p]) := by
  have hs : ∀ x, (if x = p then false else inn' x) = true → inn' x = true := fun x hx => by
    by_cases e : x = p
    · rw [if_pos e] at hx; cases hx
    · rwa [if_neg e] at hx
  refine ⟨fun x hx => h.sub x (hs x hx), fun x hx => ?_, fun x h1 h2 => ?_, fun G hG hs2 x hx => ?_, fun x hx hi => ?_, ?_⟩
  · rcases List.mem_append.1 hx with hx | hx
    · refine ⟨List.mem_append.2 (.inl (h.fal x hx).1), (h.fal x hx).2.1, ?_⟩
      show (if x = p then false else inn' x) = false
      by_cases e : x = p
      · rw [if_pos e]
      · rw [if_neg e]; exact (h.fal x hx).2.2
    · rw [List.mem_singleton] at hx
      subst hx
      exact ⟨by simp, h.sub x hp, if_pos rfl⟩
  · by_cases e : x = p
    · subst e; simp
    · simp only [if_neg e] at h2
      exact List.mem_append.2 (.inl (h.new x h1 h2))
  · have hg := h.grt G hG hs2
    show (if x = p then false else inn' x) = true
    by_cases e : x = p
    · subst e
      exact absurd ((hG x q hq hx).mono hg) hw
    · rw [if_neg e]; exact hg x hx
  · rcases List.mem_append.1 hx with hx | hx
    · obtain ⟨it, h1, h2, h3⟩ := h.chk x hx (hs x hi)
      exact ⟨it, fun y hy => h1 y (hs y hy), h2, h3⟩
    · rw [List.mem_singleton] at hx
      subst hx
      simp at hi
  · have := h.len
    rw [List.length_append, List.length_append, List.length_singleton]
    omega
/-- WHO LEANS ON WHAT FELL. -/
def Ln (ps : List Pk) (L : List Nat) (p : Nat) : Prop := ∃ f ∈ L, ∃ q, ps[f]? = some q ∧ ∃ x, (x = q.nm ∨ x ∈ q.pv) ∧ p ∈ akP ps ps.length x
/-- BETWEEN THE ROUNDS. -/
structure Cr (ps : List Pk) (inn : Nat → Bool) (D : List Nat) : Prop where
  grt : ∀ G, Clo ps G → ∀ p, p < ps.length → G p = true → inn p = true
  dou : ∀ p q, ps[p]? = some q → inn p = true → ¬ Wh ps inn p q → p ∈ D
  lt : ∀ p ∈ D, p < ps.length
  inl : ∀ p, inn p = true → p < ps.length
theorem Cr.start (ps : List Pk) : Cr ps (fun i => decide (i < ps.length)) (List.range ps.length) :=
  ⟨fun _ _ _ hp _ => decide_eq_true hp, fun _ _ hq _ _ => List.mem_range.2 (List.getElem?_eq_some_iff.1 hq).1, fun _ hp => List.mem_range.1 hp, fun _ h => of_decide_eq_true h⟩
/-- A CLOSED PART, LOOKED AT WITHIN THE LIST ALONE. -/
theorem Clo.cut {ps : List Pk} {G : Nat → Bool} (h : Clo ps G) : Clo ps (fun i => G i && decide (i < ps.length)) := fun p q hq hp => by
  rw [Bool.and_eq_true] at hp
  have hw := h p q hq hp.1
  have : ∀ (but : Int) (al : List At), imP ps G but al = true → imP ps (fun i => G i && decide (i < ps.length)) but al = true := fun but al hm => by
    obtain ⟨a, ha, x, h1, h2, h3⟩ := imP_iff2.1 hm
    exact imP_iff2.2 ⟨a, ha, x, h1, by rw [h2, decide_eq_true (mP_lt h1)]; rfl, h3⟩
  exact ⟨fun al ha => this _ al (hw.1 al ha), fun al ha => this _ al (hw.2 al ha)⟩
theorem Cr.next {ps : List Pk} {inn inn' : Nat → Bool} {D L D' : List Nat} (h : Cr ps inn D) (d : Dp ps inn D inn' L) (hD : ∀ p, p ∈ D' ↔ Ln ps L p) : Cr ps inn' D' := by
  refine ⟨fun G hG p hp hg => ?_, fun p q hq hi hw => ?_, fun p hp => ?_, fun p hp => h.inl p (d.sub p hp)⟩
  · refine d.grt _ hG.cut (fun x hx => ?_) p (by rw [hg, decide_eq_true hp]; rfl)
    rw [Bool.and_eq_true] at hx
    exact h.grt G hG x (of_decide_eq_true hx.2) hx.1
  · obtain ⟨it, h1, h2, h3⟩ : ∃ it : Nat → Bool, (∀ p, inn' p = true → it p = true) ∧ (∀ p, it p = true → inn p = true) ∧ Wh ps it p q := by
      by_cases hm : p ∈ D
      · obtain ⟨it, k1, k2, k3⟩ := d.chk p hm hi
        exact ⟨it, k1, k2, k3 q hq⟩
      · refine ⟨inn, d.sub, fun _ h => h, Classical.byContradiction fun hn => hm (h.dou p q hq (d.sub p hi) hn)⟩
    rw [hD]
    obtain ⟨al, but, hal, hm1, hm2⟩ : ∃ (al : List At) (but : Int), (al ∈ q.dp ∨ al ∈ q.pr) ∧ imP ps it but al = true ∧ imP ps inn' but al ≠ true := by
      refine Classical.byContradiction fun hn => hw ⟨fun al ha => ?_, fun al ha => ?_⟩
      · exact Classical.byContradiction fun hx => hn ⟨al, _, .inl ha, h3.1 al ha, hx⟩
      · exact Classical.byContradiction fun hx => hn ⟨al, _, .inr ha, h3.2 al ha, hx⟩
    obtain ⟨a, ha, f, k1, k2, k3⟩ := imP_iff2.1 hm1
    have hf : inn' f = false := by
      cases e : inn' f with
      | false => rfl
      | true => exact absurd (imP_iff2.2 ⟨a, ha, f, k1, e, k3⟩) hm2
    obtain ⟨qf, hqf, hn⟩ := mP_nm k1
    exact ⟨f, d.new f (h2 f k2) hf, qf, hqf, a.n, hn, (akP_mem ps _ _ _).2 ⟨(List.getElem?_eq_some_iff.1 hq).1, q, hq, akN_mem ha hal⟩⟩
  · obtain ⟨f, _, q, _, x, _, hx⟩ := (hD p).1 hp
    exact ((akP_mem ps _ _ _).1 hx).1
theorem Cr.stop {ps : List Pk} {inn inn' : Nat → Bool} {D : List Nat} (h : Cr ps inn D) (d : Dp ps inn D inn' []) : Clo ps inn' ∧ (∀ G, Clo ps G → ∀ p, p < ps.length → G p = true → inn' p = true) ∧ ∀ p, inn' p = true → p < ps.length := by
  have hb : ∀ p, inn p = true → inn' p = true := fun p hp => by
    cases e : inn' p with
    | true => rfl
    | false => exact absurd (d.new p hp e) (by simp)
  refine ⟨fun p q hq hi => ?_, fun G hG p hp hg => hb p (h.grt G hG p hp hg), fun p hp => h.inl p (d.sub p hp)⟩
  by_cases hm : p ∈ D
  · obtain ⟨it, k1, k2, k3⟩ := d.chk p hm hi
    exact (k3 q hq).mono fun x hx => hb x (k2 x hx)
  · exact (Classical.byContradiction fun hn => hm (h.dou p q hq (d.sub p hi) hn) : Wh ps inn p q).mono hb
/-- EACH ROUND SOMETHING FALLS. -/
theorem plL_less {n : Nat} {inn inn' : Nat → Bool} (hs : ∀ p, inn' p = true → inn p = true) {f : Nat} (hf : f < n) (h1 : inn f = true) (h2 : inn' f = false) : (plL inn' n).length < (plL inn n).length := by
  induction n with
  | zero => omega
  | succ n ih =>
    rw [plL_succ, plL_succ, List.length_append, List.length_append]
    have hle : (plL inn' n).length ≤ (plL inn n).length := by
      clear ih
      unfold plL
      induction n with
      | zero => exact Nat.le_refl _
      | succ n ih =>
        rw [List.range_succ, List.filter_append, List.filter_append, List.length_append, List.length_append]
        by_cases hfn : f = n + 1
        · have := ih
          have hq : ((List.range n).filter inn').length ≤ ((List.range n).filter inn).length := List.Sublist.length_le (by
            have : (List.range n).filter inn' = ((List.range n).filter inn).filter inn' := by
              rw [List.filter_filter]
              refine List.filter_congr fun x _ => ?_
              cases e : inn' x with
              | false => rfl
              | true => rw [hs x e]; rfl
            rw [this]
            exact List.filter_sublist)
          have h9 : ([n].filter inn').length ≤ ([n].filter inn).length := by
            rw [List.filter_cons, List.filter_cons]
            cases e : inn' n with
            | false => simp
            | true => rw [hs n e]; simp
          omega
        · have hq : ((List.range n).filter inn').length ≤ ((List.range n).filter inn).length := List.Sublist.length_le (by
            have : (List.range n).filter inn' = ((List.range n).filter inn).filter inn' := by
              rw [List.filter_filter]
              refine List.filter_congr fun x _ => ?_
              cases e : inn' x with
              | false => rfl
              | true => rw [hs x e]; rfl
            rw [this]
            exact List.filter_sublist)
          have h9 : ([n].filter inn').length ≤ ([n].filter inn).length := by
            rw [List.filter_cons, List.filter_cons]
            cases e : inn' n with
            | false => simp
            | true => rw [hs n e]; simp
          omega
    by_cases e : f = n
    · subst e
      rw [h1, h2]
      simp
      omega
    · have := ih (by omega)
      cases e1 : inn' n with
      | false => simp; omega
      | true => rw [hs n e1]; simp; omega
/-- THE PART AS A LIST OF ITS OWN IS CLOSED JUST IF THE PART IS. -/
theorem cld_part (ps : List Pk) (fl : List Bool) : Cld ((flP ps.length fl).map (pAt ps)) ↔ Clo ps (fun i => fl.getD i false) := by
  obtain ⟨L, hL⟩ : ∃ L, L = flP ps.length fl := ⟨_, rfl⟩
  have hs : L.Pairwise (· < ·) := by rw [hL]; exact List.Pairwise.filter _ List.pairwise_lt_range
  have hmem : ∀ p, p ∈ L ↔ p < ps.length ∧ fl.getD p false = true := fun p => by rw [hL]; unfold flP; rw [List.mem_filter, List.mem_range]
  rw [← hL]
  have hat : ∀ i p, L[i]? = some p → (L.map (pAt ps))[i]? = some (pAt ps p) := fun i p h => by rw [List.getElem?_map, h]; rfl
  have hmp : ∀ (a : At) i p, L[i]? = some p → mP (L.map (pAt ps)) a i = mP ps a p := fun a i p h => by
    rw [mP_at (hat i p h), mP_at (pAt_at ((hmem p).1 (List.mem_of_getElem? h)).1)]
  have inj : ∀ i j p, L[i]? = some p → L[j]? = some p → i = j := fun i j p hi hj => by
    obtain ⟨h1, e1⟩ := List.getElem?_eq_some_iff.1 hi
    obtain ⟨h2, e2⟩ := List.getElem?_eq_some_iff.1 hj
    rcases Nat.lt_trichotomy i j with h | h | h
    · have := List.pairwise_iff_getElem.1 hs i j h1 h2 h; omega
    · exact h
    · have := List.pairwise_iff_getElem.1 hs j i h2 h1 h; omega
  have tr : ∀ (al : List At) (b1 b2 : Int), (∀ i p : Nat, L[i]? = some p → ((i : Int) ≠ b1 ↔ (p : Int) ≠ b2)) → (imP (L.map (pAt ps)) (fun _ => true) b1 al = true ↔ imP ps (fun i => fl.getD i false) b2 al = true) := fun al b1 b2 hb => by
    rw [imP_iff, imP_iff2]
    constructor
    · rintro ⟨a, ha, i, hm, hi⟩
      obtain ⟨p, hp⟩ : ∃ p, L[i]? = some p := ⟨_, List.getElem?_eq_getElem (by have := mP_lt hm; rwa [List.length_map] at this)⟩
      exact ⟨a, ha, p, by rw [← hmp a i p hp]; exact hm, ((hmem p).1 (List.mem_of_getElem? hp)).2, (hb i p hp).1 hi⟩
    · rintro ⟨a, ha, p, hm, hf, hp⟩
      obtain ⟨i, hi⟩ := List.getElem?_of_mem ((hmem p).2 ⟨mP_lt hm, hf⟩)
      exact ⟨a, ha, i, by rw [hmp a i p hi]; exact hm, (hb i p hi).2 hp⟩
  constructor
  · intro h p q hq hf
    have hp := (List.getElem?_eq_some_iff.1 hq).1
    obtain ⟨i, hi⟩ := List.getElem?_of_mem ((hmem p).2 ⟨hp, hf⟩)
    have e : pAt ps p = q := by have := pAt_at hp; rw [hq] at this; exact (Option.some.inj this).symm
    have h1 := h i _ (hat i p hi)
    rw [e] at h1
    refine ⟨fun al ha => (tr al _ _ fun i p _ => ⟨fun _ => by omega, fun _ => by omega⟩).1 (h1.1 al ha), fun al ha => (tr al _ _ fun j x hj => ⟨fun hne hx => hne ?_, fun hne hx => hne ?_⟩).1 (h1.2 al ha)⟩
    · have : x = p := by omega
      subst this
      rw [inj j i x hj hi]
    · have : j = i := by omega
      subst this
      rw [hi] at hj; cases hj; rfl
  · intro h i q hq
    rw [List.getElem?_map] at hq
    obtain ⟨p, hi, rfl⟩ := Option.map_eq_some_iff.1 hq
    obtain ⟨hp, hf⟩ := (hmem p).1 (List.mem_of_getElem? hi)
    have h1 := h p _ (pAt_at hp) hf
    refine ⟨fun al ha => (tr al _ _ fun i p _ => ⟨fun _ => by omega, fun _ => by omega⟩).2 (h1.1 al ha), fun al ha => (tr al _ _ fun j x hj => ⟨fun hne hx => hne ?_, fun hne hx => hne ?_⟩).2 (h1.2 al ha)⟩
    · have : x = p := by omega
      subst this
      rw [inj j i x hj hi]
    · have : j = i := by omega
      subst this
      rw [hi] at hj; cases hj; rfl
end Go.Proofs.YtjnbnndocinicaaGreatDoor
