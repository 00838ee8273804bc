import Derived.Test.YtboajcpfoejfeaaTzS
namespace Go.Proofs.Ytboajcpfoejfeaa
open Go.RowKit Go.Maps

section
variable {ops : Array Oper} {rest : List Oper} {o : Oper} {a : Act} {w : World} {Q : Exit → Act → World → Prop}
theorem c_build2 (x y : Operand) (ho : o.op = .build 36 #[(0, x), (1, y)]) (hg : o.guard = none) (u v : Value) (hx : a.eval x = u) (hy : a.eval y = v) (cs : List Value) (hb : Try.prog.built 36 [(0, u), (1, v)] = some cs.toArray)
    (h : wpList Try.prog ops Q rest (a.put o.dst (.agg cs.toArray)) w) : wpList Try.prog ops Q (o :: rest) a w :=
  c_build _ ho hg cs (by simpa [hx, hy] using hb) h
end
theorem inj_nd {E : List En} : Inj E ↔ E.Pairwise fun x y => ∀ g, x.1.ownBlock = some g → y.1.ownBlock ≠ some g := by
  rw [List.pairwise_iff_getElem]
  constructor
  · intro h i j hi hj hij g h1 h2
    have := h i j g _ _ (List.getElem?_eq_getElem hi) (List.getElem?_eq_getElem hj) h1 h2
    omega
  · intro h i j g x y hx hy h1 h2
    obtain ⟨hi, rfl⟩ := List.getElem?_eq_some_iff.1 hx
    obtain ⟨hj, rfl⟩ := List.getElem?_eq_some_iff.1 hy
    rcases Nat.lt_trichotomy i j with q | q | q
    · exact absurd h2 (h i j hi hj q g h1)
    · exact q
    · exact absurd h1 (h j i hj hi q g h2)
theorem inj_perm {E F : List En} (h : Inj E) (p : F.Perm E) : Inj F := inj_nd.2 ((p.pairwise_iff fun {_ _} q g h1 h2 => q g h2 h1).2 (inj_nd.1 h))
theorem grp_ne {l : List Fi} {x : List Nm} (h : x ∈ grp l) : 0 < x.length := by
  unfold grp at h
  obtain ⟨k, hk, rfl⟩ := List.mem_map.1 h
  obtain ⟨f, hf, e⟩ := (hds_mem l k).1 hk
  refine List.length_pos_of_mem (a := f.p) ?_
  unfold pth
  exact List.mem_map.2 ⟨f, List.mem_filter.2 ⟨hf, decide_eq_true e⟩, rfl⟩
theorem gal_take {L : List (List Nm)} {t : Nat} {x : List Nm} (h : L[t]? = some x) : gal (L.take (t + 1)) = gal (L.take t) ++ (if 1 < (rs x).length then [rs x] else []) := by
  rw [List.take_add_one, h]
  exact gal_snoc _ _
theorem gal_len (L : List (List Nm)) : (gal L).length ≤ L.length := by
  unfold gal
  refine Nat.le_trans (List.length_filter_le _ _) ?_
  rw [List.length_map]
  exact Nat.le_refl _
theorem hds_idx {l : List Fi} {k : Ky} (h : k ∈ hds l) : (hds l)[(hds l).idxOf k]? = some k := by
  have hi := List.idxOf_lt_length_iff.2 h
  rw [List.getElem?_eq_getElem hi, List.getElem_idxOf hi]
set_option maxRecDepth 100000 in
set_option maxHeartbeats 16000000 in
theorem Twins_any {w : World} {v : Value} {fs : List Fi} (hl : fs.length ≤ 2513169434843) (h : Fis w v fs) :
    Calls Try.prog 5 #[v] w fun e w' => ∃ r E, e = .returned r ∧ Ga w w' r E ∧ Inj E ∧ Tws fs (E.map (·.2)) := by
  obtain ⟨a, c, rfl⟩ := h.form
  obtain ⟨k0, hk0, hx0, hx1, hx2⟩ := info_parts2 infoSL
  have HP := hide (show ∀ (i : Nat) (f : Fi), fs[i]? = some f → f.ok ∧ ∃ b o : Nat, a = some ⟨b, o, none⟩ ∧ b < w.heap.size ∧ ∀ (X : World), Below w.heap.size w X → X.rangeAt b (o + i * 34) f.cs from fun i f hf => by
    obtain ⟨a2, c2, e, ok, hr⟩ := h
    cases e
    obtain ⟨b, o, rfl, hbl, hc⟩ := hr (by have := (List.getElem?_eq_some_iff.1 hf).1; omega)
    exact ⟨ok f (List.mem_of_getElem? hf), b, o, rfl, hbl, fun X hX j u hj => (hX.cell (p := ⟨b, _, none⟩) hbl).trans (hc i f hf j u hj)⟩)
  have HST := hide (Tg.start (Below.refl w.heap.size w))
  obtain ⟨N, hN⟩ : ∃ N, N = fs.length := ⟨_, rfl⟩
  have HN := hide hN
  rw [← hN] at hl ⊢
  clear h hN
  have hmm := @run_makeMap Try.prog
  go_enter Try.func5, Try.ntmps5
  go_wp2_with fail
  clear hmm
  go_loopg [3, 6, 7, 8, 9, 16] N (fun gq gv _ _ _ _ iv wr => ∃ (i k : Nat) (E : List En), iv = .int .i64 i ∧ i ≤ N ∧ N - i ≤ gq ∧ k ≤ i ∧ Hid (Tg w wr gv w.heap.size (fs.take i) E k))
  case atStart => exact ⟨0, 0, [], by go_num, by omega, by omega, Nat.le_refl _, HST⟩
  case round =>
    clear HST
    obtain ⟨i, k, E, rfl, hi, hg, hki, HT⟩ := hrel
    by_cases hlt : i < N
    · have hin : (i : Int) < (N : Int) := by omega
      have hil : i < fs.length := by have := unhide HN; omega
      obtain ⟨f, hf⟩ : ∃ f, fs[i]? = some f := ⟨_, List.getElem?_eq_getElem hil⟩
      obtain ⟨hok, b, o, rfl, hbl, hX⟩ := unhide HP i f hf
      have HTK := hide (show fs.take (i + 1) = fs.take i ++ [f] by rw [List.take_add_one, hf]; rfl)
      have HOK := hide hok
      have hlen : E.length = (hds (fs.take i)).length := by have := congrArg List.length (unhide HT).eq; rw [List.length_map, grp_len] at this; exact this
      have hEl : E.length ≤ i := by have h1 := hds_len (fs.take i); rw [List.length_take] at h1; omega
      have HLEN := hide hlen
      clear hlen
      have HRF := hide (hX wr (unhide HT).ga.bw)
      have HIF := hide (show (Try.prog.info? 32).map (·.size) = some f.cs.length by rw [hok.len]; exact infoF)
      have HFL := hide hok.len
      have HC00 := hide (show f.cs[0]? = some (.string f.p) from rfl)
      have HF1 := hide f.one
      have HIU := hide (show (Try.prog.info? 30).map (·.size) = some (sC f.s).length by rw [sC_len, hok.sl]; exact infoU)
      have hcl : (cC f.k).length = 33 := by show (sC f.s).length + 1 = 33; rw [sC_len, hok.sl]
      have HIC := hide (show (Try.prog.info? 36).map (·.size) = some (cC f.k).length by rw [hcl]; exact infoC)
      have HCL := hide hcl
      have HC1 := hide (show ∀ u ∈ cC f.k, u.oneCell' = true from fun u hu => by
        rcases List.mem_cons.1 hu with rfl | hu
        · rfl
        · exact sC_one _ u hu)
      have HBC := hide (show Try.prog.built 36 [(0, .int .i64 f.z), (1, .agg (sC f.s).toArray)] = some (cC f.k).toArray from buildC f.z f.s hok.sl)
      have HC3 := hide (show ∀ (X : World), Bk 32 34 X wr.heap.size f.cs → X.cell? ⟨wr.heap.size, 1, none⟩ = some (.int .i64 f.z) ∧ X.rangeAt wr.heap.size 2 (sC f.s) from fun X hb => ⟨hb.cell (j := 1) rfl, fun j u hj => by rw [Nat.add_comm 2 j]; exact hb.cell (j := j + 2) hj⟩)
      have HC5 := hide (show ∀ (X Y : World), Below wr.heap.size wr X → Bk 32 34 X wr.heap.size f.cs → Below X.heap.size X Y → Bk 36 33 Y X.heap.size (cC f.k) → Below wr.heap.size wr Y ∧ (Instr.lookup 34 (.map (some w.heap.size)) (.agg (cC f.k).toArray) true).run Try.prog Y = .ok (.tuple #[.int .i64 (if f.k ∈ hds (fs.take i) then (((hds (fs.take i)).idxOf f.k : Nat) : Int) else 0), .bool (decide (f.k ∈ hds (fs.take i)))]) Y ∧ Y.cell? ⟨wr.heap.size, 0, none⟩ = some (.string f.p) ∧ Y.rangeAt X.heap.size 0 (cC f.k) ∧ Bk 32 34 Y wr.heap.size f.cs ∧ Bk 36 33 Y X.heap.size (cC f.k) from fun X Y h1 h2 h3 h4 => by
        have h5 := bl_t h1 h3
        exact ⟨h5, ((unhide HT).mp.later h5).look (unhide HOK).kok, (h2.later h3).cell (j := 0) rfl, fun j u hj => by rw [Nat.zero_add]; exact h4.cell hj, h2.later h3, h4⟩)
      have HZ := hide (show f.k = (f.z, f.s) from rfl)
      by_cases hk : f.k ∈ hds (fs.take i)
      · have HK := hide hk
        have HIDX := hide (hds_idx hk)
        rw [if_pos hk, decide_eq_true hk] at HC5
        obtain ⟨q, hq⟩ : ∃ q, q = (hds (fs.take i)).idxOf f.k := ⟨_, rfl⟩
        rw [← hq] at HC5 HIDX
        have hq2 : q < E.length := by have := (List.getElem?_eq_some_iff.1 (unhide HIDX)).1; have := unhide HLEN; omega
        obtain ⟨gb, gc, rfl, hgb⟩ : ∃ gb gc, u3 = .slice (some ⟨gb, 0, none⟩) E.length gc ∧ gb < wr.heap.size := by
          rcases (unhide HT).ga.row.2 with ⟨_, q0⟩ | ⟨g2, c2, cur2, e2, _, h2, _⟩
          · omega
          · exact ⟨g2, c2, e2, blk_lt h2⟩
        have KGB := hide hgb
        obtain ⟨⟨hv, ll⟩, hx⟩ : ∃ x, E[q]? = some x := ⟨_, List.getElem?_eq_getElem hq2⟩
        have hll : ll = pth (fs.take i) f.k := by
          have h1 : (E.map (·.2))[q]? = some ll := by rw [List.getElem?_map, hx]; rfl
          rw [(unhide HT).eq] at h1
          unfold grp at h1
          rw [List.getElem?_map, unhide HIDX] at h1
          exact (Option.some.inj h1).symm
        have hllen : ll.length ≤ 2513169434843 := by have h1 := pth_len (fs.take i) f.k; rw [← hll, List.length_take] at h1; omega
        have hrow : wr.ownsRow w.heap.size 9 1 hv ll.length (sv ll) := (unhide HT).ga.own (hv, ll) (List.mem_of_getElem? hx)
        obtain ⟨ya, yc, rfl⟩ := owns_form hrow
        obtain ⟨yn, hyn⟩ : ∃ yn, yn = ll.length := ⟨_, rfl⟩
        rw [← hyn] at hx
        have HLL := hide hll
        have HYN := hide hyn
        clear hq hk hok hX hf hcl hrow hll hgb
        generalize cC f.k = cc at *
        generalize sC f.s = ss at *
        generalize hfc : f.cs = fc at *
        clear hfc
        go_wp2_with (first
          | ((with_reducible refine wpList_load_p (o := { dst := some 19, op := Op.load 32 (Operand.tmp 18), type := 32, pos := "tree.go:55", after := #[{ on := 0, ground := Ground.data }], guard := none }) ?mpa 32 (.tmp 18) ?mpb (b) (o + i * 34) ?mpc (fc) _ (unhide HRF) Try.underlying32 ?mpd (unhide HIF) ?mpe); (case mpa => rfl); (case mpb => rfl); (case mpc => rfl); (case mpd => rfl))
          | (with_reducible refine b_alloc infoF2 rfl rfl ?_; intro w2 zc2 bk2 k2 z2)
          | ((with_reducible refine b_store infoF _ _ rfl rfl wr.heap.size rfl fc rfl (unhide HFL) (unhide HF1) zc2 bk2 ?_); intro w3 bk3 k3; have hbel := fnew k2 k3; have HB3 := hide hbel; have HK3 := hide bk3; obtain ⟨hz3, hs3⟩ := unhide HC3 w3 bk3; have HS3 := hide hs3; clear k2 k3 bk2 bk3 z2 hbel hs3)
          | ((with_reducible refine wpList_load_p (o := { dst := some 23, op := Op.load 30 (Operand.tmp 22), type := 30, pos := "tree.go:56", after := #[{ on := 2, ground := Ground.data }], guard := none }) ?mua 30 (.tmp 22) ?mub (wr.heap.size) (2) ?muc (ss) _ (unhide HS3) Try.underlying30 ?mud (unhide HIU) ?mue); (case mua => rfl); (case mub => rfl); (case muc => rfl); (case mud => rfl))
          | ((with_reducible refine c_build2 (.tmp 21) (.tmp 23) ?mba ?mbb (.int .i64 f.z) (.agg ss.toArray) ?mbc ?mbd cc (unhide HBC) ?mbe); (case mba => rfl); (case mbb => rfl); (case mbc => rfl); (case mbd => rfl))
          | (with_reducible refine b_alloc infoC2 rfl rfl ?_; intro w4 zc4 bk4 k4 z4)
          | ((with_reducible refine b_store infoC _ _ rfl rfl w3.heap.size rfl cc rfl (unhide HCL) (unhide HC1) zc4 bk4 ?_); intro w5 bk5 k5; have hbel := fnew k4 k5; obtain ⟨hb5, hlk, hp5, hrc5, hc5⟩ := unhide HC5 w3 w5 (unhide HB3) (unhide HK3) hbel bk5; have HB5 := hide hb5; have HR5 := hide hrc5; have HQ5 := hide hc5; clear k4 k5 bk4 bk5 z4 hbel hb5 hrc5 hc5 HB3 HK3)
          | ((with_reducible refine wpList_load_p (o := { dst := some 27, op := Op.load 36 (Operand.tmp 7), type := 36, pos := "tree.go:57", after := #[], guard := none }) ?mca 36 (.tmp 7) ?mcb (w3.heap.size) (0) ?mcc (cc) _ (unhide HR5) Try.underlying36 ?mcd (unhide HIC) ?mce); (case mca => rfl); (case mcb => rfl); (case mcc => rfl); (case mcd => rfl)))
        have KT := hide ((unhide HT).tm.later (unhide HB5))
        refine reg12 (unhide KT) hx hllen (unhide HQ5).1.at_ (unhide HC00) (fun _ _ _ _ h => h) ?_
        intro s41 s42 s43 s44 s45 s46 s47 s48 s49 s50 s51 h' w9 ktn
        have HN2 := hide (show Tg w w9 _ w.heap.size (fs.take (i + 1)) _ k from by rw [unhide HTK]; exact ktn.old (unhide HT).eq (unhide HIDX) (unhide HLL))
        clear ktn KT
        go_wp2_with fail
        go_roundg (N - (i + 1))
        case measure => omega
        case rel => exact ⟨i + 1, k, _, by go_num, by omega, by omega, by omega, HN2⟩
      · have HK := hide hk
        rw [if_neg hk, decide_eq_false hk] at HC5
        obtain ⟨ga, gc0, rfl⟩ := owns_form (unhide HT).ga.row
        have hkm : k < maxLen := by unfold maxLen; omega
        have HPUT := hide (show ∀ (Y : World), Below wr.heap.size wr Y → ∃ W2, (Instr.mapUpdate 34 (.map (some w.heap.size)) (.agg (cC f.k).toArray) (.int .i64 (E.length : Int))).run Try.prog Y = .ok () W2 ∧ Ga w W2 (.slice ga E.length gc0) E ∧ Dc W2 w.heap.size (hds (fs.take i) ++ [f.k]) (k + 1) ∧ Fx (fun c => c = w.heap.size) Y W2 from fun Y hY => ((unhide HT).later hY).putm hkm (unhide HOK) hk)
        have HMB := hide (unhide HT).mp.lt
        clear hk hok hX hf hcl
        generalize cC f.k = cc at *
        generalize sC f.s = ss at *
        generalize hfc : f.cs = fc at *
        clear hfc
        go_wp2_with (first
          | ((with_reducible refine wpList_load_p (o := { dst := some 19, op := Op.load 32 (Operand.tmp 18), type := 32, pos := "tree.go:55", after := #[{ on := 0, ground := Ground.data }], guard := none }) ?npa 32 (.tmp 18) ?npb (b) (o + i * 34) ?npc (fc) _ (unhide HRF) Try.underlying32 ?npd (unhide HIF) ?npe); (case npa => rfl); (case npb => rfl); (case npc => rfl); (case npd => rfl))
          | (with_reducible refine b_alloc infoF2 rfl rfl ?_; intro w2 zc2 bk2 k2 z2)
          | ((with_reducible refine b_store infoF _ _ rfl rfl wr.heap.size rfl fc rfl (unhide HFL) (unhide HF1) zc2 bk2 ?_); intro w3 bk3 k3; have hbel := fnew k2 k3; have HB3 := hide hbel; have HK3 := hide bk3; obtain ⟨hz3, hs3⟩ := unhide HC3 w3 bk3; have HS3 := hide hs3; clear k2 k3 bk2 bk3 z2 hbel hs3)
          | ((with_reducible refine wpList_load_p (o := { dst := some 23, op := Op.load 30 (Operand.tmp 22), type := 30, pos := "tree.go:56", after := #[{ on := 2, ground := Ground.data }], guard := none }) ?nua 30 (.tmp 22) ?nub (wr.heap.size) (2) ?nuc (ss) _ (unhide HS3) Try.underlying30 ?nud (unhide HIU) ?nue); (case nua => rfl); (case nub => rfl); (case nuc => rfl); (case nud => rfl))
          | ((with_reducible refine c_build2 (.tmp 21) (.tmp 23) ?nba ?nbb (.int .i64 f.z) (.agg ss.toArray) ?nbc ?nbd cc (unhide HBC) ?nbe); (case nba => rfl); (case nbb => rfl); (case nbc => rfl); (case nbd => rfl))
          | (with_reducible refine b_alloc infoC2 rfl rfl ?_; intro w4 zc4 bk4 k4 z4)
          | ((with_reducible refine b_store infoC _ _ rfl rfl w3.heap.size rfl cc rfl (unhide HCL) (unhide HC1) zc4 bk4 ?_); intro w5 bk5 k5; have hbel := fnew k4 k5; obtain ⟨hb5, hlk, hp5, hrc5, hc5⟩ := unhide HC5 w3 w5 (unhide HB3) (unhide HK3) hbel bk5; have HB5 := hide hb5; have HR5 := hide hrc5; have HQ5 := hide hc5; clear k4 k5 bk4 bk5 z4 hbel hb5 hrc5 hc5 HB3 HK3; obtain ⟨W6, hmu, hg6, hd6, hf6⟩ := unhide HPUT w5 (unhide HB5); have HX6 := hide (And.intro hg6 (And.intro hd6 hf6)); clear hg6 hd6 hf6)
          | ((with_reducible refine wpList_load_p (o := { dst := some 27, op := Op.load 36 (Operand.tmp 7), type := 36, pos := "tree.go:57", after := #[], guard := none }) ?nca 36 (.tmp 7) ?ncb (w3.heap.size) (0) ?ncc (cc) _ (unhide HR5) Try.underlying36 ?ncd (unhide HIC) ?nce); (case nca => rfl); (case ncb => rfl); (case ncc => rfl); (case ncd => rfl))
          | ((with_reducible refine wpList_load_p (o := { dst := some 36, op := Op.load 36 (Operand.tmp 7), type := 36, pos := "tree.go:60", after := #[], guard := none }) ?nda 36 (.tmp 7) ?ndb (w3.heap.size) (0) ?ndc (cc) _ (unhide HR5) Try.underlying36 ?ndd (unhide HIC) ?nde); (case nda => rfl); (case ndb => rfl); (case ndc => rfl); (case ndd => rfl))
          | (at_builtin; go_must (refine wpList_append_own _ rfl _ _ 24 rfl w.heap.size 28 k0 (.slice none 0 0) 1 24 Try.underlying24 hk0 hx0 hx1 hx2 rfl (by decide) _ _ _ rfl (own_low (unhide HX6).1.row ((Below.refl _ _).alloc (Nat.le_refl _) _)) ⟨W6.heap.size, 0, none⟩ 1 1 [.slice none 0 0] rfl rfl (fun k u hk => by rw [Addr.add_mid, Nat.zero_add, World.cell?_alloc_new]; simpa using hk) (fun u hu => by rw [List.mem_singleton] at hu; subst hu; rfl) (by unfold maxLen; omega) (by omega) (by have := (unhide HX6).1.bw.size; rw [World.size_alloc]; omega) ?_); intro v8 w8 hown hgrow _; have HX8 := hide (And.intro hown hgrow); clear hown hgrow))
        have KT6 : Tm w W6 (.slice ga E.length gc0) w.heap.size E (hds (fs.take i) ++ [f.k]) (k + 1) := ⟨(unhide HX6).1, (unhide HT).inj, (unhide HX6).2.1, Nat.le_refl _⟩
        have KT8 := KT6.more (unhide HX8).1 (unhide HX8).2
        have KBX : w8.heap[wr.heap.size]? = some (Obj.cells fc.toArray 32 (0, 0)) := by
          have h5 := (unhide HQ5).1.at_
          have h6 : W6.heap[wr.heap.size]? = w5.heap[wr.heap.size]? := (unhide HX6).2.2.blk _ (blk_lt h5) (by have := unhide HMB; omega)
          have hlt6 : wr.heap.size < W6.heap.size := Nat.lt_of_lt_of_le (blk_lt h5) (unhide HX6).2.2.size
          have hba : Below W6.heap.size W6 (W6.alloc (.cells #[.slice none 0 0] 28)) := (Below.refl _ W6).alloc (Nat.le_refl _) _
          rw [(unhide HX8).2.block _ (Nat.lt_of_lt_of_le hlt6 hba.size) (fun e => by have := (World.ownsRow.lt (unhide HT).ga.row _ e.symm).2; omega), hba.block _ hlt6, h6]
          exact h5
        obtain ⟨gb, gc, rfl⟩ : ∃ gb gc, v8 = .slice (some ⟨gb, 0, none⟩) (E.length + 1) gc := by
          rcases (unhide HX8).1.2 with ⟨_, q0⟩ | ⟨g2, c2, cur2, e2, _⟩
          · omega
          · exact ⟨g2, c2, e2⟩
        obtain ⟨E2, hE2⟩ : ∃ E2, E2 = E ++ [((.slice none 0 0, []) : En)] := ⟨_, rfl⟩
        have hE2l : E.length + 1 = E2.length := by rw [hE2, List.length_append]; rfl
        have hE2a : E2[E.length]? = some (.slice none 0 0, []) := by rw [hE2, List.getElem?_append_right (Nat.le_refl _), Nat.sub_self]; rfl
        rw [← hE2, hE2l] at KT8
        rw [hE2l]
        refine reg12 KT8 hE2a (Nat.zero_le _) KBX (unhide HC00) (fun _ _ _ _ h => h) ?_
        intro s41 s42 s43 s44 s45 s46 s47 s48 s49 s50 s51 h' w9 ktn
        have HN2 := hide (show Tg w w9 _ w.heap.size (fs.take (i + 1)) _ (k + 1) from by rw [hE2] at ktn; rw [unhide HTK]; exact ktn.new (unhide HT).eq (unhide HK))
        clear ktn KT8 KT6 KBX HX8 HX6
        go_wp2_with fail
        go_roundg (N - (i + 1))
        case measure => omega
        case rel => exact ⟨i + 1, k + 1, _, by go_num, by omega, by omega, by omega, by rw [hE2]; exact HN2⟩
    · obtain rfl : i = N := by omega
      obtain ⟨ga, gc, rfl⟩ := owns_form (unhide HT).ga.row
      have HEQ := hide (show E.map (·.2) = grp fs from by have h1 := (unhide HT).eq; rw [unhide HN, List.take_length] at h1; exact h1)
      have HINJ := hide (unhide HT).inj
      have HST2 := hide (T2.start (unhide HT).ga)
      have HQ0 := hide (show ([] : List En).map (·.2) = gal ((grp fs).take 0) from rfl)
      have hKl : E.length ≤ 2513169434843 := by
        have h1 := congrArg List.length (unhide HEQ)
        rw [List.length_map, grp_len] at h1
        have h2 := hds_len fs
        have := unhide HN
        omega
      have HRL := hide (show ∀ x ∈ grp fs, x.length ≤ 2513169434843 from fun x hx => by
        unfold grp at hx
        obtain ⟨k, _, rfl⟩ := List.mem_map.1 hx
        have h1 := pth_len fs k
        have := unhide HN
        omega)
      obtain ⟨K, hK⟩ : ∃ K, K = E.length := ⟨_, rfl⟩
      have HK := hide hK
      rw [← hK] at hKl HST2 ⊢
      clear hK HT HP
      go_wp2_with fail
      go_loopg [10, 12, 55] K (fun gq tv _ iv wr => ∃ (t : Nat) (T : List En), iv = .int .i64 t ∧ t ≤ K ∧ K - t ≤ gq ∧ Hid (T2 w wr (.slice ga K gc) tv E T t) ∧ Hid (T.map (·.2) = gal ((grp fs).take t)))
      case atStart => exact ⟨0, [], by go_num, by omega, by omega, HST2, HQ0⟩
      case round =>
        clear HST2 HQ0
        obtain ⟨t, T, rfl, ht, hgt, HT2, HTQ⟩ := hrel
        have hTl : T.length ≤ K := by
          have h1 := congrArg List.length (unhide HTQ)
          have h2 := gal_len ((grp fs).take t)
          rw [List.length_map] at h1
          rw [List.length_take] at h2
          have h3 := congrArg List.length (unhide HEQ)
          rw [List.length_map] at h3
          have := unhide HK
          omega
        by_cases htl : t < K
        · have htn : (t : Int) < (K : Int) := by omega
          have htE : t < E.length := by have := unhide HK; omega
          obtain ⟨⟨hv, ll⟩, hx⟩ : ∃ x, E[t]? = some x := ⟨_, List.getElem?_eq_getElem htE⟩
          have hgrp : (grp fs)[t]? = some ll := by rw [← unhide HEQ, List.getElem?_map, hx]; rfl
          have hll := List.mem_of_getElem? hgrp
          have hllen := unhide HRL ll hll
          have hpos := grp_ne hll
          have hrow : wr.ownsRow w.heap.size 9 1 hv ll.length (sv ll) := (unhide HT2).rest t (hv, ll) (Nat.le_refl _) hx
          obtain ⟨gb, rfl, hgc⟩ : ∃ gb, ga = some ⟨gb, 0, none⟩ ∧ wr.cell? ⟨gb, t, none⟩ = some hv := by
            rcases (unhide HT2).row.2 with ⟨_, q0⟩ | ⟨g2, c2, cur2, e2, _⟩
            · omega
            · cases e2
              exact ⟨g2, rfl, owns_at (unhide HT2).row t _ (by rw [List.getElem?_map, hx]; rfl)⟩
          obtain ⟨g, cap, rfl⟩ : ∃ g cap, hv = .slice (some ⟨g, 0, none⟩) ll.length cap := by
            rcases hrow.2 with ⟨_, q0⟩ | ⟨g2, c2, cur2, e2, _⟩
            · omega
            · exact ⟨g2, c2, e2⟩
          have hlo := (World.ownsRow.lt hrow g rfl).1
          have CS := hide (sort_own hllen hrow)
          have HGT := hide (gal_take hgrp)
          have CC := hide (show ∀ (X : World) (l2 : List Nm), l2.length = ll.length → X.ownsRow w.heap.size 9 1 (.slice (some ⟨g, 0, none⟩) ll.length cap) ll.length (sv l2) → wr.grownBy X (some g) → (∀ x, x ∈ l2 ↔ x ∈ ll) → Nf l2 → Calls Try.prog 10 #[.slice (some ⟨g, 0, none⟩) ll.length cap] X fun e w' => e = .returned (.slice (some ⟨g, 0, none⟩) (rs ll).length cap) ∧ w'.ownsRow w.heap.size 9 1 (.slice (some ⟨g, 0, none⟩) (rs ll).length cap) (rs ll).length (sv (rs ll)) ∧ T2 w w' (.slice (some ⟨gb, 0, none⟩) K gc) u10 E T (t + 1) ∧ (∀ e ∈ T, e.1.ownBlock ≠ some g) ∧ (∀ (j : Nat) (x : En), t + 1 ≤ j → E[j]? = some x → x.1.ownBlock ≠ some g) from fun X l2 q1 q2 q3 q4 q5 => by
            obtain ⟨z1, z2, z3, z4, z5⟩ := (unhide HT2).turn (unhide HINJ) hx (g := g) rfl q3
            rw [← q1] at q2 ⊢
            refine Calls.mono (compact_own (by omega) q5 q2) ?_
            rintro e w' ⟨m, rfl, y1, y2, y3⟩
            have hm : m = rs ll := rs_of (y3.keep fun x => (q4 x).symm)
            subst hm
            exact ⟨rfl, y1, z1.again z2 z3 z4 z5 hlo y2, z2, z3⟩)
          obtain ⟨M, hM⟩ : ∃ M, M = (rs ll).length := ⟨_, rfl⟩
          have HM := hide hM
          rw [← hM] at CC
          obtain ⟨n, hn⟩ : ∃ n, n = ll.length := ⟨_, rfl⟩
          rw [← hn] at hgc CS CC
          by_cases h2 : 1 < M
          · have h2i : (1 : Int) < (M : Int) := by omega
            have HG1 := hide (show gal ((grp fs).take (t + 1)) = gal ((grp fs).take t) ++ [rs ll] by rw [unhide HGT, if_pos (by rw [← unhide HM]; exact h2)])
            clear hrow hgrp hll hM hn HGT hpos
            go_wp2_with (first
              | (go_at_call 9; refine (unhide CS).mono ?_; rintro e w3 ⟨rfl, l2, p1, p2, p3, p4, p5⟩; have CD := hide (unhide CC w3 l2 p1 p2 p3 p4 p5); clear p1 p2 p3 p4 p5 CS CC)
              | (go_at_call 10; refine (unhide CD).mono ?_; rintro e w4 ⟨rfl, y1, y2, y3, y4⟩; have HY := hide (And.intro y1 (And.intro y2 (And.intro y3 y4))); clear y1 y2 y3 y4 CD)
              | (at_builtin; go_must (refine wpList_append_own_at _ rfl _ _ 24 rfl w.heap.size 28 k0 (.slice none 0 0) 1 24 Try.underlying24 hk0 hx0 hx1 hx2 rfl (by decide) _ _ _ rfl (own_low (unhide HY).2.1.tw.row ((Below.refl _ _).alloc (Nat.le_refl _) _)) ⟨w4.heap.size, 0, none⟩ 1 1 [.slice (some ⟨g, 0, none⟩) M cap] rfl rfl (fun k u hk => by rw [Addr.add_mid, Nat.zero_add, World.cell?_alloc_new]; simpa using hk) (fun u hu => by rw [List.mem_singleton] at hu; subst hu; rfl) (by unfold maxLen; omega) (by omega) (by have := (unhide HY).2.1.tw.bw.size; rw [World.size_alloc]; omega) ?_); intro v9 w9 hown hgrow _ hvv; have HN2 := hide ((unhide HY).2.1.app (x := (.slice (some ⟨g, 0, none⟩) M cap, rs ll)) (unhide HY).2.2.1 (unhide HY).2.2.2 (by have h9 := (unhide HY).1; rw [unhide HM] at h9 ⊢; exact h9) rfl hown hgrow hvv); clear hown hgrow hvv))
            have HTQ2 := hide (show (T ++ [((.slice (some ⟨g, 0, none⟩) M cap, rs ll) : En)]).map (·.2) = gal ((grp fs).take (t + 1)) by rw [List.map_append, unhide HTQ, unhide HG1]; rfl)
            go_roundg (K - (t + 1))
            case measure => omega
            case rel => exact ⟨t + 1, _, by go_num, by omega, by omega, HN2, HTQ2⟩
          · have h2i : ¬ (1 : Int) < (M : Int) := by omega
            have HTQ2 := hide (show T.map (·.2) = gal ((grp fs).take (t + 1)) by rw [unhide HGT, if_neg (by rw [← unhide HM]; exact h2), List.append_nil]; exact unhide HTQ)
            clear hrow hgrp hll hM hn HGT hpos
            go_wp2_with (first
              | (go_at_call 9; refine (unhide CS).mono ?_; rintro e w3 ⟨rfl, l2, p1, p2, p3, p4, p5⟩; have CD := hide (unhide CC w3 l2 p1 p2 p3 p4 p5); clear p1 p2 p3 p4 p5 CS CC)
              | (go_at_call 10; refine (unhide CD).mono ?_; rintro e w4 ⟨rfl, y1, y2, y3, y4⟩; have HY := hide y2; clear y1 y2 y3 y4 CD))
            go_roundg (K - (t + 1))
            case measure => omega
            case rel => exact ⟨t + 1, _, by go_num, by omega, by omega, HY, HTQ2⟩
        · obtain rfl : t = K := by omega
          have HALL := hide (show T.map (·.2) = gal (grp fs) from by
            have h1 := unhide HTQ
            have h3 := congrArg List.length (unhide HEQ)
            rw [List.length_map, ← unhide HK] at h3
            rw [h3, List.take_length] at h1
            exact h1)
          have CG := hide (sortG (unhide HT2).tw (by omega) (fun e he => by
            have h1 : e.2 ∈ gal (grp fs) := by rw [← unhide HALL]; exact List.mem_map.2 ⟨e, he, rfl⟩
            unfold gal at h1
            obtain ⟨m, hm, q⟩ := List.mem_map.1 (List.mem_filter.1 h1).1
            rw [← q]
            exact Nat.le_trans (rs_ris m).len (unhide HRL m hm)))
          have HIT := hide (unhide HT2).inj
          clear HT2 HTQ
          go_wp2_with (go_at_call 11; refine (unhide CG).mono ?_; rintro e w5 ⟨rfl, T', p1, p2, p3⟩; have HF := hide (And.intro p1 (And.intro p2 p3)); clear p1 p2 p3 CG)
          go_ret
          exact ⟨_, T', rfl, (unhide HF).2.2, inj_perm (unhide HIT) (unhide HF).1, ⟨(unhide HF).2.1, by rw [← unhide HALL]; exact (unhide HF).1.map (·.2)⟩⟩
end Go.Proofs.Ytboajcpfoejfeaa
