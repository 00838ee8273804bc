import Derived.Test.YtmjdpddpphfpiaaOrF
import Derived.Deep.CutRange
namespace Go.Proofs.Ytmjdpddpphfpiaa
open Go.RowKit Go.Maps Go.Sort Go.Shelf

/-- NAMES THAT ARE LAID BEHIND ONE ANOTHER. -/
structure Ou (w wr : World) (s : Value) (l L : List Nm) : Prop where
  row : wr.ownsRow w.heap.size 9 1 s l.length (sv l)
  bw : Below w.heap.size w wr
  ris : Ris l L
theorem Ou.later {w wr w2 : World} {s : Value} {l L : List Nm} (h : Ou w wr s l L) (hb : Below wr.heap.size wr w2) : Ou w w2 s l L := ⟨own_low h.row hb, bl_t h.bw hb, h.ris⟩
theorem infoS : (Try.prog.info? 9).map (fun i => (i.zero, i.size, i.bytes)) = some (some (.string ⟨#[]⟩), 1, 16) := by kernel_rfl
theorem info_parts2 {e : TypeId} {z : Value} {s b : Nat} (h : (Try.prog.info? e).map (fun i => (i.zero, i.size, i.bytes)) = some (some z, s, b)) : ∃ i, Try.prog.info? e = some i ∧ i.zero = some z ∧ i.size = s ∧ i.bytes = b := by
  obtain ⟨i, hi, e⟩ := Option.map_eq_some_iff.1 h
  injection e with e1 e2
  injection e2 with e2 e3
  exact ⟨i, hi, e1, e2, e3⟩
/-- A NAME BEHIND THE OTHERS. -/
theorem row_app {w wr : World} {lo : Nat} {s : Value} {l : List Nm} (h : wr.ownsRow lo 9 1 s l.length (sv l)) (hb : Below lo w wr) (hlo : lo ≤ wr.heap.size) (hl : l.length ≤ 586406201563) (x : Nm) (ty : TypeId) :
    ∃ g cap w9, (Builtin.append_ #[23, 23] ty #[s, .slice (some ⟨wr.heap.size, 0, none⟩) 1 1]).run Try.prog (wr.alloc (.cells #[.string x] 9)) = .ok (.slice (some ⟨g, 0, none⟩) (l.length + 1) cap) w9 ∧
      w9.ownsRow lo 9 1 (.slice (some ⟨g, 0, none⟩) (l.length + 1) cap) (l.length + 1) (sv (l ++ [x])) ∧ Below lo w w9 ∧ (wr.alloc (.cells #[.string x] 9)).grownBy w9 s.ownBlock ∧ (s.ownBlock = some g ∨ g = (wr.alloc (.cells #[.string x] 9)).heap.size) := by
  obtain ⟨i0, hi0, hz0, hz1, hz2⟩ := info_parts2 infoS
  have hb2 : Below wr.heap.size wr (wr.alloc (.cells #[.string x] 9)) := (Below.refl _ wr).alloc (Nat.le_refl _) _
  obtain ⟨g, cap, w9, hr, ho, hg, hgg, _⟩ := run_append_lies (P := Try.prog) (wr.alloc (.cells #[.string x] 9)) 23 ty lo 9 i0 (.string ⟨#[]⟩) 1 16 Try.underlying23 hi0 hz0 hz1 hz2 rfl (by decide) s l.length (sv l) (own_low h hb2) ⟨wr.heap.size, 0, none⟩ 1 1 [.string x] rfl
    (fun j u hj => by rw [Addr.add_mid, Nat.zero_add, World.cell?_alloc_new]; simpa using hj) (fun u hu => by rw [List.mem_singleton] at hu; subst hu; rfl) (by decide) (by unfold maxLen; omega) (by omega) (Nat.le_trans hlo hb2.size) _ rfl
  refine ⟨g, cap, w9, hr, by unfold sv at ho ⊢; rw [List.map_append]; exact ho, ?_, hg, hgg⟩
  exact (hb.trans (hb2.mono hlo)).grown hg (Nat.le_trans hlo hb2.size) fun k e => (World.ownsRow.lt h k e).1
set_option maxRecDepth 100000 in
set_option maxHeartbeats 4000000 in
theorem rRoots_any {w : World} {v u : Value} {hs : List Hx} {L : List Nm} (hh : hs.length ≤ 586406201463) (hL : L.length ≤ 8796093022208) (h : Hls w v hs) (k : Sl w u L) :
    Calls Try.prog 5 #[v, u] w fun e w' => ∃ r l, e = .returned r ∧ Ris l (pick hs L) ∧ w'.ownsRow w.heap.size 9 1 r l.length (sv l) ∧ Below w.heap.size w w' := by
  obtain ⟨a, c, rfl⟩ := h.form
  obtain ⟨a2, cd, rfl⟩ := k.form
  have HH := hide h
  have HK := hide k
  have HHL := hide hL
  obtain ⟨N, hN⟩ : ∃ N, N = hs.length := ⟨_, rfl⟩
  obtain ⟨M, hM⟩ : ∃ M, M = L.length := ⟨_, rfl⟩
  have HN := hide hN
  have HM := hide hM
  rw [← hN] at hh ⊢
  rw [← hM] at HHL HK ⊢
  have HST := hide (show Ou w w (.slice none 0 0) [] (pick (hs.take 0) L) from ⟨⟨rfl, .inl ⟨rfl, rfl⟩⟩, Below.refl _ _, ⟨List.Pairwise.nil, fun x => by simp [pick]⟩⟩)
  clear h k hN hM hL
  obtain ⟨i0, hi0, hz0, hz1, hz2⟩ := info_parts2 infoS
  go_enter Try.func5, Try.ntmps5
  go_wp2_with fail
  go_loopg [5, 6, 7, 8] N (fun gq sv iv _ _ wr => ∃ j l, iv = .int .i64 (j : Nat) ∧ j ≤ N ∧ N - j ≤ gq ∧ Hid (Ou w wr sv l (pick (hs.take j) L)))
  case atStart => exact ⟨0, [], by go_num, by omega, by omega, HST⟩
  case round =>
    clear HST
    obtain ⟨j, l, rfl, hj, hgj, HU⟩ := hrel
    have hu := unhide HU
    have hll : l.length ≤ j := Nat.le_trans hu.ris.len (Nat.le_trans (pick_len _ _) (by rw [List.length_take]; exact Nat.min_le_left _ _))
    by_cases hlt : j < N
    · have hjn : (j : Int) < (N : Int) := by omega
      have hjl : j < hs.length := by have := unhide HN; omega
      obtain ⟨hb, ho, rfl, hbl, hok, hr⟩ := ((unhide HH).later hu.bw).at hjl
      have HPS := hide (pick_snoc hjl L)
      generalize hs[j] = x at *
      have HR := hide hr
      have HXL := hide hok.len
      have HXO := hide hok.one
      have HIF := hide (show (Try.prog.info? 31).map (·.size) = some x.cs.length from by rw [hok.len]; exact sizeH)
      obtain ⟨sa, sc, hsf⟩ := owns_form hu.row
      have HAT := hide (show ∀ X, BkH X wr.heap.size x.cs → Below wr.heap.size wr X → X.cell? ⟨wr.heap.size, 0, none⟩ = some (.string x.nm) ∧ X.cell? ⟨wr.heap.size, 2, none⟩ = some (.bool x.es) ∧ X.cell? ⟨wr.heap.size, 43, none⟩ = some (.int .i64 x.mr) ∧ wr.heap.size < X.heap.size ∧ Hid (Ou w X u5 l (pick (hs.take j) L)) ∧ Hid (Calls Try.prog 9 #[.slice a2 M cd, .string x.nm] X fun e w' => e = .returned (.bool (hasN L x.nm)) ∧ w' = X) ∧ Hid (Calls Try.prog 9 #[u5, .string x.nm] X fun e w' => e = .returned (.bool (hasN l x.nm)) ∧ w' = X) from fun X hX hb => by
        have hu3 := hu.later hb
        exact ⟨hX.cell hok.c0, hX.cell hok.c2, hX.cell hok.c43, blk_lt hX.at_, hide hu3, hide (has_any x.nm (by rw [← unhide HM]; exact unhide HHL) ((unhide HK).later hu3.bw)), hide (has_any x.nm (by omega) (own_sl hu3.row))⟩)
      have HKP := hide (show keepH L x = (hasN L x.nm || x.mr == 0 || x.es) from rfl)
      have HLN := hide hll
      clear hok hr hu HU hbl hsf
      go_upto_region 6 with (first | ((with_reducible refine wpList_load_p (op := { dst := some 18, op := Op.load 31 (Operand.tmp 17), type := 31, pos := "ref.go:41", after := #[{ on := 2, ground := Ground.data }], guard := none }) ?fxa 31 (.tmp 17) ?fxb hb (ho + j * 44) ?fxc x.cs _ (unhide HR) Try.underlying31 ?fxd (unhide HIF) ?fxe); (case fxa => rfl); (case fxb => rfl); (case fxc => rfl); (case fxd => rfl)) | (with_reducible refine f_alloc rfl rfl ?_; intro w2 zc bk2 k2 z2) | ((with_reducible refine f_store _ _ rfl rfl wr.heap.size rfl x.cs rfl (unhide HXL) (unhide HXO) zc bk2 ?_); intro w3 bk3 k3; have hbel := fnew k2 k3; obtain ⟨c0, c2, c43, hgz, HU2, cA, cB⟩ := unhide HAT w3 bk3 hbel; clear k2 k3 bk2 bk3 z2 hbel))
      simp only [Act.put, List.setIfInBounds_toArray, List.set_cons_zero, List.set_cons_succ]
      go_cut [42] from 19 to 42 (fun c wc => c = .bool (!(hasN L x.nm || x.mr == 0 || x.es) || hasN l x.nm) ∧ wc = w3)
      case first =>
        generalize hasN L x.nm = bh at *
        generalize hasN l x.nm = bo at *
        clear HKP HPS
        by_cases hm : x.mr = 0
        · have hm2 : (x.mr == 0) = true := by rw [hm]; rfl
          have hm3 : (x.mr != 0) = false := by rw [bne, hm2]; rfl
          clear hm
          go_wp2_with (go_at_call 9; refine (unhide cB).mono ?_; rintro e w' ⟨rfl, rfl⟩)
          go_meet
          case rel => exact ⟨by rw [hm2]; cases bh <;> simp, rfl⟩
        · have hm2 : (x.mr == 0) = false := beq_eq_false_iff_ne.2 hm
          have hm3 : (x.mr != 0) = true := by rw [bne, hm2]; rfl
          clear hm
          cases hes : x.es with
          | true =>
            rw [hes] at c2
            go_wp2_with (go_at_call 9; refine (unhide cB).mono ?_; rintro e w' ⟨rfl, rfl⟩)
            go_meet
            case rel => exact ⟨by rw [hes]; cases bh <;> simp [hm2], rfl⟩
          | false =>
            rw [hes] at c2
            cases bh with
            | true =>
              go_wp2_with (first | (go_at_call_of 9 (Value.slice a2 M cd); refine (unhide cA).mono ?_; rintro e w' ⟨rfl, rfl⟩) | (go_at_call_of 9 u5; refine (unhide cB).mono ?_; rintro e w' ⟨rfl, rfl⟩))
              go_meet
              case rel => exact ⟨by simp [hm2], rfl⟩
            | false =>
              go_wp2_with (go_at_call 9; refine (unhide cA).mono ?_; rintro e w' ⟨rfl, rfl⟩)
              go_meet
              case rel => exact ⟨by rw [hes]; simp [hm2], rfl⟩
      case rest =>
        obtain ⟨hc1, rfl⟩ := hcut
        have hris := (unhide HU2).ris
        rw [← unhide HKP] at hc1
        clear cA cB HKP HAT HR HXL HXO HIF
        by_cases hkp : keepH L x = true
        · have HE : pick (hs.take (j + 1)) L = pick (hs.take j) L ++ [x.nm] := by rw [unhide HPS, if_pos hkp]
          by_cases hin : x.nm ∈ l
          · have hbb : (!keepH L x || hasN l x.nm) = true := by rw [hasN_iff.2 hin]; simp
            rw [hbb] at hc1
            subst hc1
            have HU3 := hide (show Ou w wc u5 l (pick (hs.take (j + 1)) L) from ⟨(unhide HU2).row, (unhide HU2).bw, hris.keep fun y => by
              rw [HE, List.mem_append, List.mem_singleton]
              exact ⟨fun q => q.elim id fun e => by rw [e]; exact (hris.mem _).1 hin, .inl⟩⟩)
            clear hris HE hbb hin hkp
            go_wp2_with fail
            go_roundg (N - (j + 1))
            case measure => omega
            case rel => exact ⟨j + 1, l, by go_num, by omega, by omega, HU3⟩
          · have hbb : (!keepH L x || hasN l x.nm) = false := by rw [hasN_no.2 hin, hkp]; rfl
            rw [hbb] at hc1
            subst hc1
            have hlL : l.length ≤ 586406201563 := by have := unhide HLN; omega
            obtain ⟨g, cap, w9, hap, ho9, hb9, _, _⟩ := row_app (unhide HU2).row (unhide HU2).bw (unhide HU2).bw.size hlL x.nm 23
            have HI := hide (And.intro ho9 hb9)
            have HNX := hide (show x.nm ∉ pick (hs.take j) L from fun q => hin ((hris.mem _).2 q))
            have HEE := hide HE
            have HRS := hide hris
            clear ho9 hb9 HE hbb hin hkp hris HPS
            generalize hnn : l.length = n at *
            have HNN := hide hnn
            clear hnn
            go_wp2_with (at_builtin; refine wpList_append_run rfl _ _ 23 rfl _ _ rfl rfl hap ?_)
            clear hap
            go_loopg [8] n (fun gq kv wq => ∃ (k : Nat) (m : List Nm), kv = .int .i64 k ∧ k ≤ gq ∧ Hid (Ins l x.nm k m ∧ wq.ownsRow w.heap.size 9 1 (.slice (some ⟨g, 0, none⟩) (n + 1) cap) (n + 1) (sv m) ∧ Below w.heap.size w wq))
            case atStart => exact ⟨n, _, by go_num, Nat.le_refl _, hide ⟨by rw [← unhide HNN]; exact Ins.start l x.nm, (unhide HI).1, (unhide HI).2⟩⟩
            case round =>
              obtain ⟨k, m, rfl, hgk, HQ⟩ := hrel
              obtain ⟨hins, hrow, hbw⟩ := unhide HQ
              have hkn : k ≤ n := by rw [← unhide HNN]; exact hins.le
              have hk1 : (k : Int) < (n : Int) + 1 := by omega
              have c1 : wr.cell? ⟨g, k, none⟩ = some (.string x.nm) := owns_at hrow k _ (by rw [sv_at, hins.at]; rfl)
              have f1 : wr.frozen? ⟨g, k, none⟩ = false := owns_fro hrow k
              by_cases hk0 : k = 0
              · subst hk0
                have HO := hide (show Ou w wr (.slice (some ⟨g, 0, none⟩) (n + 1) cap) m (pick (hs.take (j + 1)) L) from ⟨by rw [hins.len, unhide HNN]; exact hrow, hbw, by rw [unhide HEE]; exact hins.done (unhide HRS) (unhide HNX) fun i y e => by omega⟩)
                clear hins hrow hbw HQ HRS HEE HNX HU2 HI
                go_wp2_with fail
                go_quiet (fail)
                go_wp2_with fail
                go_roundg (N - (j + 1))
                case measure => omega
                case rel => exact ⟨j + 1, m, by go_num, by omega, by omega, hide ((unhide HO).later (bl_drewN _ _))⟩
              · obtain ⟨p, rfl⟩ : ∃ p, k = p + 1 := ⟨k - 1, by omega⟩
                have hpl : p < l.length := by rw [unhide HNN]; omega
                have hkz : (0 : Int) < ((p : Int) + 1) := by omega
                have hp1 : (p : Int) < (n : Int) + 1 := by omega
                have hy : l[p]? = some l[p] := List.getElem?_eq_getElem hpl
                generalize l[p] = y at *
                have c2 : wr.cell? ⟨g, p, none⟩ = some (.string y) := owns_at hrow p _ (by rw [sv_at, hins.prev (by omega), hy]; rfl)
                have f2 : wr.frozen? ⟨g, p, none⟩ = false := owns_fro hrow p
                by_cases hlx : lt x.nm y
                · have hl0 : Op.bytesLess (ByteArray.toList x.nm) (ByteArray.toList y) = true := by rw [lt_iff]; exact decide_eq_true hlx
                  have HS := hide (hins.step hy hlx)
                  have HW := hide (show ∀ X, Below wr.heap.size wr X → X.ownsRow w.heap.size 9 1 (.slice (some ⟨g, 0, none⟩) (n + 1) cap) (n + 1) (sv m) ∧ Below w.heap.size w X from fun X hX => ⟨own_low hrow hX, bl_t hbw hX⟩)
                  have HML := hide (show m.length = n + 1 from by rw [hins.len, unhide HNN])
                  clear hins hrow hbw HQ hlx hy
                  push_cast at hk1
                  go_wp2_with fail
                  go_quiet (fail)
                  obtain ⟨hrz, hbz⟩ := unhide HW (wr.drewN nq) (bl_drewN _ _)
                  obtain ⟨wz, hwz⟩ : ∃ z, z = wr.drewN nq := ⟨_, rfl⟩
                  have d1 : wz.cell? ⟨g, p + 1, none⟩ = some (.string x.nm) := by rw [hwz]; exact c1
                  have d2 : wz.cell? ⟨g, p, none⟩ = some (.string y) := by rw [hwz]; exact c2
                  have e1 : wz.frozen? ⟨g, p + 1, none⟩ = false := by rw [hwz]; exact f1
                  have e2 : wz.frozen? ⟨g, p, none⟩ = false := by rw [hwz]; exact f2
                  rw [← hwz] at hrz hbz ⊢
                  have q1 := own_set hrz (p + 1) (.string y)
                  have q2 := own_set q1 p (.string x.nm)
                  obtain ⟨z3, d3⟩ : ∃ u, (wz.setCell ⟨g, p + 1, none⟩ (.string y)).cell? ⟨g, p, none⟩ = some u := ⟨_, owns_at q1 p _ (List.getElem?_eq_getElem (by rw [List.length_set, sv_len, unhide HML]; omega))⟩
                  have hgb : w.heap.size ≤ g := (World.ownsRow.lt hrz g rfl).1
                  have b2 : Below w.heap.size w ((wz.setCell ⟨g, p + 1, none⟩ (.string y)).setCell ⟨g, p, none⟩ (.string x.nm)) := (hbz.setCell (p := ⟨g, p + 1, none⟩) hgb _).setCell (p := ⟨g, p, none⟩) hgb _
                  have HZ := hide (And.intro q2 b2)
                  clear hrz hbz hwz c1 c2 f1 f2 q1 q2 b2 HW
                  go_upto_region 11 with fail
                  go_big_region
                  have HZ2 := hide (show (((wz.setCell ⟨g, p + 1, none⟩ (.string y)).setCell ⟨g, p, none⟩ (.string x.nm)).drew).ownsRow w.heap.size 9 1 (.slice (some ⟨g, 0, none⟩) (n + 1) cap) (n + 1) (sv ((m.set (p + 1) y).set p x.nm)) ∧ Below w.heap.size w ((wz.setCell ⟨g, p + 1, none⟩ (.string y)).setCell ⟨g, p, none⟩ (.string x.nm)).drew from by
                    refine ⟨own_low ?_ (Below.refl _ _).drew, bl_t (unhide HZ).2 (Below.refl _ _).drew⟩
                    have h := (unhide HZ).1
                    unfold sv at h ⊢
                    rw [List.map_set, List.map_set]
                    exact h)
                  go_wp2_with fail
                  go_roundg p
                  case measure => omega
                  case rel => exact ⟨p, _, by go_num, Nat.le_refl _, hide ⟨unhide HS, (unhide HZ2).1, (unhide HZ2).2⟩⟩
                · have hl0 : Op.bytesLess (ByteArray.toList x.nm) (ByteArray.toList y) = false := by rw [lt_iff]; exact decide_eq_false hlx
                  have hdn : Ris m (pick (hs.take j) L ++ [x.nm]) := by
                    refine hins.done (unhide HRS) (unhide HNX) fun i z e hz => ?_
                    obtain rfl : i = p := by omega
                    rw [hy] at hz
                    cases hz
                    exact hlx
                  have HO := hide (show Ou w wr (.slice (some ⟨g, 0, none⟩) (n + 1) cap) m (pick (hs.take (j + 1)) L) from ⟨by rw [hins.len, unhide HNN]; exact hrow, hbw, by rw [unhide HEE]; exact hdn⟩)
                  clear hdn
                  clear hins hrow hbw HQ HRS HEE HNX HU2 HI hlx hy
                  push_cast at hk1
                  go_wp2_with fail
                  go_quiet (fail)
                  go_wp2_with fail
                  go_roundg (N - (j + 1))
                  case measure => omega
                  case rel => exact ⟨j + 1, m, by go_num, by omega, by omega, hide ((unhide HO).later (bl_drewN _ _))⟩
        · have hkf : keepH L x = false := by simpa using hkp
          have HE : pick (hs.take (j + 1)) L = pick (hs.take j) L := by rw [unhide HPS, if_neg hkp, List.append_nil]
          have hbb : (!keepH L x || hasN l x.nm) = true := by rw [hkf]; simp
          rw [hbb] at hc1
          subst hc1
          have HU3 := hide (show Ou w wc u5 l (pick (hs.take (j + 1)) L) from by rw [HE]; exact unhide HU2)
          clear hris HE hkf hkp hbb
          go_wp2_with fail
          go_roundg (N - (j + 1))
          case measure => omega
          case rel => exact ⟨j + 1, l, by go_num, by omega, by omega, HU3⟩
    · obtain rfl : j = N := by omega
      have HP := hide (show hs.take j = hs from by rw [unhide HN]; exact List.take_length)
      rw [unhide HP] at hu
      go_wp2_with fail
      go_ret
      exact ⟨_, l, rfl, hu.ris, hu.row, hu.bw⟩
end Go.Proofs.Ytmjdpddpphfpiaa
