import Derived.Test.YtokgegbodbnimaaBlA
namespace Go.Proofs.Ytokgegbodbnimaa
open Go.RowKit Go.Maps Go.Sort

set_option maxRecDepth 100000 in
set_option maxHeartbeats 1000000 in
theorem blobs_any {W : World} {B o k : Nat} {cur : Array Value} {d : Value} {H : Nm → Option Hd} {m : Cn} (hB : W.heap[B]? = some (.cells cur 75 (0, 0))) (hd : cur[o]? = some d) (s : Sd W d H m k) (hk : cnt m ≤ 1000000000000) (hz : ∀ x bs, m x = some bs → bs.length ≤ 70368744177664) :
    Calls Try.prog 46 #[.pointer (some ⟨B, o, none⟩)] W fun e w' => ∃ v, ∃ L : List (List UInt8 × Hd), e = .returned v ∧ L.map Prod.fst = nmS m ⟨#[]⟩ ∧ w'.ownsRow W.heap.size 50 2 v L.length (L.flatMap fun q => blc q.1 q.2) ∧
      (∀ q ∈ L, ∃ bs, m (nmOf q.1) = some bs ∧ Bt w' q.2 bs ∧ ∀ g, bk q.2 = some g → W.heap.size ≤ g ∧ v.ownBlock ≠ some g) ∧ RowKit.Below W.heap.size W w' := by
  obtain ⟨i0, hi, hz0, hz1, hz2⟩ := info_parts info50
  have hc := fnames_any (p := ⟨#[]⟩) hB hd s (by omega)
  go_enter Try.func46, Try.ntmps46
  obtain ⟨ss, hss⟩ : ∃ l, l = nmS m ⟨#[]⟩ := ⟨_, rfl⟩
  rw [← hss] at hc
  have HSS := hide hss
  clear hss
  go_wp2_with (first
    | (go_at_call 47; refine hc.mono ?_; rintro e w1 ⟨v, rfl, hr, hn, hb⟩; obtain ⟨xa, xc, rfl, hx0, hx1⟩ := row_form hr; have HX0 := hide hx0; have HX1 := hide hx1; have HN := hide hn; have HR := hide hr; clear hx0 hx1 hn hr)
    | go_in)
  go_loopw [3, 9] (fun v3 v9 wr => ∃ (L : List (List UInt8 × Hd)), v9 = .int .i64 L.length ∧ L.length ≤ ss.length ∧ L.map Prod.fst = ss.take L.length ∧ wr.ownsRow w1.heap.size 50 2 v3 L.length (L.flatMap fun q => blc q.1 q.2) ∧
      (∀ q ∈ L, ∃ bs, m (nmOf q.1) = some bs ∧ Bt wr q.2 bs ∧ ∀ g, bk q.2 = some g → w1.heap.size ≤ g ∧ v3.ownBlock ≠ some g) ∧ RowKit.Below w1.heap.size w1 wr)
    (fun v3 v9 wr => match v9 with | .int _ z => ss.length - z.toNat | _ => 0)
  case atStart =>
    exact ⟨[], rfl, Nat.zero_le _, rfl, World.ownsRow_nil _ _ _ _, fun q hq => (by cases hq), Below.refl _ _⟩
  case round =>
    obtain ⟨L, rfl, hL, hLf, hrow, hQ, hbw⟩ := hrel
    by_cases hlt : L.length < ss.length
    · have HLT := hide hlt
      have hlti : (L.length : Int) < (ss.length : Int) := by omega
      obtain ⟨xg, rfl, hg1, hg2⟩ : ∃ g, xa = some ⟨g, 0, none⟩ ∧ W.heap.size ≤ g ∧ g < w1.heap.size := by
        cases hxa : xa with
        | none => have := unhide HX0 hxa; omega
        | some g =>
          obtain ⟨b, e1, e2, e3⟩ := unhide HX1 g hxa
          exact ⟨b, by rw [e1], e2, e3⟩
      obtain ⟨x, hx⟩ : ∃ x, x = ss[L.length] := ⟨_, rfl⟩
      have hxm : x ∈ ss := by rw [hx]; exact List.getElem_mem hlt
      have hce : wr.cell? ⟨xg, L.length, none⟩ = some (.string (nmOf x)) := by
        have h1 := (unhide HR).cells (g := xg) rfl L.length (encStr x) (by rw [List.getElem?_map, List.getElem?_eq_getElem hlt, hx]; rfl)
        have h2 := hbw.cell (p := ⟨xg, L.length, none⟩) hg2
        rw [h2]
        rw [Addr.add_mid, Nat.zero_add] at h1
        exact h1
      have hmx : m (nmOf x) ≠ none := by
        have := unhide HSS
        rw [this] at hxm
        exact (nmS_mem s hxm).1
      obtain ⟨f, hf⟩ : ∃ f, H (nmOf x) = some f := by
        cases h : H (nmOf x) with
        | none => exact absurd (s.sc.non _ h) hmx
        | some f => exact ⟨f, rfl⟩
      obtain ⟨bs, hm1, hbt⟩ := s.sc.con _ f hf
      have hbr : RowKit.Below W.heap.size W wr := hb.trans (hbw.mono hb.size)
      have s2 := s.later hbr
      have hbt2 := hbt.later hbr
      have hB2 := (hbr.block B (blk_lt hB)).trans hB
      have cd := (cell_blk hB2 o).1.trans hd
      have lk := look1 s2.dm (x := nmOf x) (Nat.le_trans (s.dm.lim _ (by rw [hf]; simp)) (by decide))
      simp only [hf, hv0, hv] at lk
      have hln : bs.length = f.n := hbt.len
      have HQ := hide hQ
      have HROW := hide hrow
      have HS := hide s
      have HLF := hide hLf
      have HS2 := hide s2
      have HB2 := hide hB2
      have HBT := hide hbt2
      have HLN := hide hln
      have HM1 := hide hm1
      have lk2 : (Instr.lookup 70 d (.string (nmOf x)) false).run Try.prog wr = .ok (.slice f.a bs.length f.c) wr := by rw [hln]; exact lk
      have h0 : f.a = none → bs = [] := fun h => by
        rcases hbt2.form with ⟨_, e⟩ | ⟨g, cur, e, _⟩
        · exact e
        · rw [e] at h; cases h
      have hcl := clone_any (W := wr) f.c hbt2.rb h0 (hz _ _ hm1)
      have HZ := hide hz
      have hcn : ss.length ≤ 1000000000000 := by rw [unhide HSS]; exact Nat.le_trans (nmS_cnt s _) hk
      have HXX := hide ((List.getElem?_eq_getElem hlt).trans (congrArg some hx.symm))
      clear hQ hrow s hLf s2 hB2 hbt2 hbt hB hd hlt hx hmx hf hm1 hln hxm lk h0 hz hc
      go_upto_region 5 with fail
      go_wp2_with (first
        | (go_at_call 41; refine hcl.mono ?_; rintro e w2 ⟨f2, rfl, hf2, hfn, hb2⟩; have HF2 := hide hf2; have HFN := hide hfn; have HB3 := hide hb2; clear hf2 hfn hb2; obtain ⟨fa, fn, fc⟩ := f2; simp only [hv])
        | (at_builtin; go_must (refine wpList_append_own_at _ rfl _ _ 45 rfl w1.heap.size 50 i0 (.agg #[.string ⟨#[]⟩, .slice none 0 0]) 2 40 Try.underlying45 hi hz0 hz1 hz2 rfl (by decide) u3 L.length (L.flatMap fun q => blc q.1 q.2) rfl ((row_later (unhide HROW) (unhide HB3)).alloc _) ⟨w2.heap.size, 0, none⟩ 1 1 (blc x ⟨fa, fn, fc⟩) rfl rfl (fun j u hj => by rw [Addr.add_mid, Nat.zero_add, World.cell?_alloc_new]; simpa [blc, hv] using hj) (fun u hu => by rcases List.mem_cons.1 hu with rfl | hu; exact rfl; rcases List.mem_cons.1 hu with rfl | hu; exact rfl; cases hu) (by unfold maxLen; omega) (by omega) (by have := hbw.size; have := (unhide HB3).size; rw [World.size_alloc]; omega) ?_); intro v' w3 hown' hg3 hnil3 hat3; have HOWN := hide hown'; have HG3 := hide hg3; have HAT := hide hat3; clear hown' hg3 hnil3 hat3; go_frame)
        | go_in)
      go_roundw
      case rel =>
        have hlw := unhide HLT
        have b2 := unhide HB3
        have g3 := unhide HG3
        have b3 : RowKit.Below w2.heap.size w2 (w2.alloc (.cells #[.string (nmOf x), .slice fa fn fc] 50)) := (Below.refl _ _).alloc (Nat.le_refl _) _
        have hu3 : ∀ g, u3.ownBlock = some g → w1.heap.size ≤ g ∧ g < wr.heap.size := fun g hg => World.ownsRow.lt (unhide HROW) g hg
        have KP : ∀ (f' : Hd) (bs' : List Int), Bt w2 f' bs' → (∀ g, bk f' = some g → u3.ownBlock ≠ some g) → Bt w3 f' bs' := fun f' bs' q1 q2 => by
          have q3 := q1.later b3
          exact q3.same fun g hg => g3.block g (q3.lt hg) (q2 g hg).symm
        have VB : ∀ (f' : Hd) (bs' : List Int) g, Bt w2 f' bs' → bk f' = some g → u3.ownBlock ≠ some g → v'.ownBlock ≠ some g := fun f' bs' g q1 q2 q3 => by
          rcases unhide HAT with h | h
          · rw [h]; exact q3
          · rw [h]
            intro e
            have h4 := q1.lt q2
            injection e with e
            rw [World.size_alloc] at e
            omega
        refine ⟨L ++ [(x, ⟨fa, fn, fc⟩)], by simp, by simp; omega, ?_, by simpa using unhide HOWN, fun q hq => ?_, ?_⟩
        · rw [List.map_append, unhide HLF, List.length_append, List.length_singleton, List.take_add_one, unhide HXX]
          rfl
        · rcases List.mem_append.1 hq with hq | hq
          · obtain ⟨bs2, q1, q2, q3⟩ := unhide HQ q hq
            have q4 := q2.later b2
            exact ⟨bs2, q1, KP _ _ q4 fun g hg => (q3 g hg).2, fun g hg => ⟨(q3 g hg).1, VB _ _ g q4 hg (q3 g hg).2⟩⟩
          · obtain rfl := List.mem_singleton.1 hq
            have q4 := unhide HF2
            have q5 : ∀ g, bk ⟨fa, fn, fc⟩ = some g → u3.ownBlock ≠ some g := fun g hg e => by
              have := unhide HFN g hg
              have := (hu3 g e).2
              omega
            exact ⟨bs, unhide HM1, KP _ _ q4 q5, fun g hg => ⟨Nat.le_trans hbw.size (unhide HFN g hg), VB _ _ g q4 hg (q5 g hg)⟩⟩
        · exact ((hbw.trans (b2.mono hbw.size)).trans (b3.mono (Nat.le_trans hbw.size b2.size))).grown g3 (Nat.le_trans hbw.size (Nat.le_trans b2.size b3.size)) (fun j hj => (hu3 j hj).1)
      case measure =>
        have := unhide HLT
        simp
        omega
    · have hlti : ¬ (L.length : Int) < (ss.length : Int) := by omega
      go_wp2
      go_ret
      have hle : L.length = ss.length := by omega
      refine ⟨u3, rfl, L, ?_, row_low hrow hb.size, fun qa qb hq => ?_, hb.trans (hbw.mono hb.size)⟩
      · rw [hLf, hle, List.take_length]
        exact unhide HSS
      · obtain ⟨bs, q1, q2, q3⟩ := hQ (qa, qb) hq
        exact ⟨bs, q1, q2, fun g hg => ⟨Nat.le_trans hb.size (q3 g hg).1, (q3 g hg).2⟩⟩
end Go.Proofs.Ytokgegbodbnimaa
