import Derived.Test.YtkpkpebljkcmkaaDoorMfX
import Derived.Test.YtkpkpebljkcmkaaDoorMfW
namespace Go.Proofs.YtkpkpebljkcmkaaDoor
open Go.RowKit

def mkW : List Value := mkF ⟨#[119]⟩
def mkV : List Value := mkF ⟨#[118]⟩
theorem mkF_one (p : Nm) : ∀ u ∈ mkF p, u.oneCell' = true := fun u hu => by
  rcases List.mem_cons.1 hu with rfl | hu
  · rfl
  · rcases List.mem_cons.1 hu with rfl | hu
    · rfl
    · obtain rfl := (List.mem_replicate.1 hu).2
      rfl
theorem zeroP1 : ∃ zc : List Value, (Tryd.prog.info? 42).map (fun i => (i.zero, i.size)) = some (some (.agg zc.toArray), 3) ∧ zc.length = 3 ∧ zc.all (·.oneCell') = true :=
  ⟨[.int .i64 0, .string ⟨#[]⟩, .string ⟨#[]⟩], by kernel_rfl, by kernel_rfl, by kernel_rfl⟩
theorem builtP (n : Int) : Tryd.prog.built 42 [(0, .int .i64 n)] = some (stp n ⟨#[]⟩ ⟨#[]⟩).toArray := by kernel_rfl
set_option maxRecDepth 100000 in
set_option maxHeartbeats 32000000 in
theorem manifest_walk {w : World} {ov iv : Value} {os ps : List Pk} {seq : Int} (h : Pks w ov os) (k : Pks w iv ps) (hl : os.length ≤ 1048576) (kl : ps.length ≤ 1048576) (hs : (allF os).length ≤ 1048576) (ks : (allF ps).length ≤ 1048576) (hz : ∀ r ∈ allF ps, (pth r).size ≤ 1048576) (hg : Glob w) :
    Calls Tryd.prog 3 #[.int .i64 seq, ov, iv] w fun e w' => e = .returned (.bool true) ∧ Below w.heap.size w w' := by
  have OKP := hide k.ok
  have L34 := hide (And.intro ks hs)
  have HZ := hide hz
  have HG := hide hg
  have C1 := hide (lent_any h hl hs)
  have C2 := hide (fun (X : World) (hX : Below w.heap.size w X) => lent_any (k.later hX) kl ks)
  have KI := hide (show ∀ X, Below w.heap.size w X → Pks X iv ps from fun X hX => k.later hX)
  have KO := hide (show ∀ X, Below w.heap.size w X → Pks X ov os from fun X hX => h.later hX)
  have KG := hide (show ∀ X, Below w.heap.size w X → Glob X from fun X hX => hg.later hX)
  have CR := hide (show ∀ X, Below w.heap.size w X → Calls Tryd.prog 6 #[iv] X fun e w' => MnA X (allF ps) e w' from fun X hX => rManifest_any (unhide KI X hX) kl ks)
  have CT := hide (show ∀ X, Below w.heap.size w X → Calls Tryd.prog 8 #[.int .i64 seq, ov, iv] X fun e w' => StA X seq (allF ps) (allF os) e w' from fun X hX => rsteps_any (unhide KO X hX) (unhide KI X hX) hl kl hs ks)
  have CM := hide (show ∀ X v, Below w.heap.size w X → Pks X v ps → Calls Tryd.prog 5 #[v] X fun e w' => MnA X (allF ps) e w' from fun X v hX hv => manifest_any hv kl ks (unhide KG X hX))
  have CS := hide (show ∀ X u v, Below w.heap.size w X → Pks X u os → Pks X v ps → Calls Tryd.prog 7 #[.int .i64 seq, u, v] X fun e w' => StA X seq (allF ps) (allF os) e w' from fun X u v hX hu hv => steps_any hu hv hl kl hs ks (unhide KG X hX))
  have HL1 := hide (And.intro hl kl)
  clear h k hl kl hs ks hz hg
  generalize hNO : os.length = NO at *
  generalize hNP : ps.length = NP at *
  have EO := hide hNO
  have EP := hide hNP
  clear hNO hNP
  go_enter Tryd.func3, Tryd.ntmps3
  go_upto_region 9 with (first
    | (go_at_call 4; refine (unhide C1).mono ?_; rintro e w1 ⟨rfl, l1⟩; have K1 := hide l1; have G1 := hide l1.bw; clear l1 C1)
    | (go_at_call 4; refine (unhide C2 w1 (unhide G1)).mono ?_; rintro e w2 ⟨rfl, l1⟩; have K2 := hide l1; have K3 := hide ((unhide K1).later l1.bw); have G2 := hide (bl_t (unhide G1) l1.bw); clear l1 C2 K1; have PB := hide (show ∀ X, Below w2.heap.size w2 X → Pks X (.slice (some ⟨w1.heap.size, 0, none⟩) NP (NP + 1)) ps from fun X hX => by have := (unhide K2).pks (NP + 1); rw [unhide EP] at this; exact this.later hX); have PA := hide (show ∀ X, Below w2.heap.size w2 X → Pks X (.slice (some ⟨w.heap.size, 0, none⟩) NO (NO + 1)) os from fun X hX => by have := (unhide K3).pks (NO + 1); rw [unhide EO] at this; exact this.later hX); have M5 := hide (unhide CM w2 _ (unhide G2) (unhide PB w2 (Below.refl _ _))))
    | (go_at_call 5; refine (unhide M5).mono ?_; rintro e w3 ⟨er, M, lv, m1, rfl, o1, b1⟩; have MN := hide m1; have O3 := hide o1; have B3 := hide b1; have D3 := hide b1; clear m1 o1 b1 M5; have M6 := hide (unhide CM w3 _ (bl_t (unhide G2) (unhide B3)) (unhide PB w3 (unhide B3))))
    | (go_at_call 5; refine (unhide M6).mono ?_; rintro e w4 ⟨er2, M2, mv, m1, rfl, o1, b1⟩; obtain ⟨rfl, rfl⟩ := (unhide MN).uniq m1; have O4 := hide o1; have D4 := hide b1; have B4 := hide (bl_t (unhide B3) b1); clear m1 o1 b1 M6; have M7 := hide (unhide CR w4 (bl_t (unhide G2) (unhide B4))))
    | (go_at_call 6; refine (unhide M7).mono ?_; rintro e w5 ⟨er3, M3, kv, m1, rfl, o1, b1⟩; obtain ⟨rfl, rfl⟩ := (unhide MN).uniq m1; have O5 := hide o1; have D5 := hide b1; have B5 := hide (bl_t (unhide B4) b1); clear m1 o1 b1 M7; have M8 := hide (unhide CS w5 _ _ (bl_t (unhide G2) (unhide B5)) (unhide PA w5 (unhide B5)) (unhide PB w5 (unhide B5))))
    | (go_at_call 7; refine (unhide M8).mono ?_; rintro e w6 ⟨sr, S, sv, m1, rfl, o1, b1⟩; have SN := hide m1; have O6 := hide o1; have D6 := hide b1; have B6 := hide (bl_t (unhide B5) b1); clear m1 o1 b1 M8; have M9 := hide (unhide CS w6 _ _ (bl_t (unhide G2) (unhide B6)) (unhide PA w6 (unhide B6)) (unhide PB w6 (unhide B6))))
    | (go_at_call 7; refine (unhide M9).mono ?_; rintro e w7 ⟨sr2, S2, tv, m1, rfl, o1, b1⟩; obtain ⟨rfl, rfl⟩ := (unhide SN).uniq m1; have O7 := hide o1; have D7 := hide b1; have B7 := hide (bl_t (unhide B6) b1); clear m1 o1 b1 M9; have M10 := hide (unhide CT w7 (bl_t (unhide G2) (unhide B7))))
    | (go_at_call 8; refine (unhide M10).mono ?_; rintro e w8 ⟨sr3, S3, uv, m1, rfl, o1, b1⟩; obtain ⟨rfl, rfl⟩ := (unhide SN).uniq m1; have O8 := hide o1; have D8 := hide b1; have B8 := hide (bl_t (unhide B7) b1); clear m1 o1 b1 M10))
  clear CM CS CR CT
  have OKM := hide ((unhide MN).ok (unhide OKP))
  have OKS := hide ((unhide SN).ok (unhide L34).1)
  have LM := hide (show M.length ≤ 1048576 by have := (unhide MN).len; have := (unhide L34).1; omega)
  have LS := hide (show S.length ≤ 2097152 by have := (unhide SN).len; have := (unhide L34).1; have := (unhide L34).2; omega)
  -- what has stood since
  have E7 := hide (unhide D8)
  have E6 := hide (bl_t (unhide D7) (unhide E7))
  have E5 := hide (bl_t (unhide D6) (unhide E6))
  have E4 := hide (bl_t (unhide D5) (unhide E5))
  have E3 := hide (bl_t (unhide D4) (unhide E4))
  have C9 := hide (show ∀ n, Calls Tryd.prog 9 #[lv, kv] (w8.drewN n) fun e w' => e = .returned (.bool true) ∧ ∃ q, w' = (w8.drewN n).drewN q from fun n => sameFiles_yes (by have := unhide LM; omega) ((own_rws2 (unhide OKM) (unhide O3)).later (bl_t (unhide E3) (bl_drewN _ _))) ((own_rws2 (unhide OKM) (unhide O5)).later (bl_t (unhide E5) (bl_drewN _ _))))
  have C11 := hide (show ∀ n, Calls Tryd.prog 11 #[sv, uv] (w8.drewN n) fun e w' => e = .returned (.bool true) ∧ ∃ q, w' = (w8.drewN n).drewN q from fun n => sameSteps_yes (by have := unhide LS; omega) ((own_rws2 (unhide OKS) (unhide O6)).later (bl_t (unhide E6) (bl_drewN _ _))) ((own_rws2 (unhide OKS) (unhide O8)).later (bl_drewN _ _)))
  have C9a := hide (show Calls Tryd.prog 9 #[lv, kv] w8 fun e w' => e = .returned (.bool true) ∧ ∃ q, w' = w8.drewN q from unhide C9 0)
  have BF := hide (bl_t (unhide G2) (unhide B8))
  -- what must stay
  have X0 := hide (show X2 (fun b => lv.ownBlock = some b ∨ sv.ownBlock = some b) w2.heap.size w8 w8 40 34 lv M.length 42 3 sv S.length from
    ⟨⟨_, own_low (unhide O3) (unhide E3)⟩, ⟨_, own_base (own_low (unhide O6) (unhide E6)) (unhide B5).size⟩, fun g e => .inl (.inl e), fun g e => .inl (.inr e), fun g e q => by
      have h1 := (World.ownsRow.lt (unhide O3) g e).2
      have h2 := (World.ownsRow.lt (unhide O6) g q).1
      have h3 := (bl_t (unhide D4) (unhide D5)).size
      omega, ⟨Below.refl _ _, fun _ _ _ => rfl⟩⟩)
  have FIN := hide (show ∀ X, Fx (fun b => lv.ownBlock = some b ∨ sv.ownBlock = some b) w8 X → Rws 40 34 X mv M ∧ Rws 40 34 X kv M ∧ Rws 42 3 X tv S ∧ Rws 42 3 X uv S ∧ Below w2.heap.size w2 X from fun X hX => by
    have t3 := (unhide B3).size
    have t4 := (unhide D4).size
    have t5 := (unhide D5).size
    have t6 := (unhide D6).size
    have t7 := (unhide D7).size
    have t8 := (unhide D8).size
    have stay : ∀ {t k n lo : Nat} {v : Value} {xs : List Value}, w8.ownsRow lo t k v n xs → (∀ g, v.ownBlock = some g → lv.ownBlock ≠ some g ∧ sv.ownBlock ≠ some g) → X.ownsRow lo t k v n xs := fun {t k n lo v xs} ho hn => own_same ho fun g e => hX.blk g (World.ownsRow.lt ho g e).2 fun q => by
      rcases q with q | q
      · exact (hn g e).1 q
      · exact (hn g e).2 q
    have rl : ∀ g, lv.ownBlock = some g → w2.heap.size ≤ g ∧ g < w3.heap.size := fun g e => World.ownsRow.lt (unhide O3) g e
    have rs : ∀ g, sv.ownBlock = some g → w5.heap.size ≤ g ∧ g < w6.heap.size := fun g e => World.ownsRow.lt (unhide O6) g e
    refine ⟨own_rws2 (unhide OKM) (stay (own_low (unhide O4) (unhide E4)) fun g e => ?_), own_rws2 (unhide OKM) (stay (own_low (unhide O5) (unhide E5)) fun g e => ?_), own_rws2 (unhide OKS) (stay (own_low (unhide O7) (unhide E7)) fun g e => ?_), own_rws2 (unhide OKS) (stay (unhide O8) fun g e => ?_), ?_⟩
    · have := World.ownsRow.lt (unhide O4) g e
      exact ⟨fun q => by have := rl g q; omega, fun q => by have := rs g q; omega⟩
    · have := World.ownsRow.lt (unhide O5) g e
      exact ⟨fun q => by have := rl g q; omega, fun q => by have := rs g q; omega⟩
    · have := World.ownsRow.lt (unhide O7) g e
      exact ⟨fun q => by have := rl g q; omega, fun q => by have := rs g q; omega⟩
    · have := World.ownsRow.lt (unhide O8) g e
      exact ⟨fun q => by have := rl g q; omega, fun q => by have := rs g q; omega⟩
    · refine (unhide B8).trans (hX.below (unhide B8).size fun b hb q => ?_)
      rcases q with q | q
      · have := rl b q; omega
      · have := rs b q; omega)
  clear E3 E4 E5 E6 E7 O3 O4 O5 O6 O7 O8 D3 D4 D5 D6 D7 D8 B3 B4 B5 B6 B7 MN SN OKM OKS PB OKP BF
  obtain ⟨TFz, TF0⟩ := tyF
  have TF := hide TF0
  clear TF0
  obtain ⟨al, cl, rfl⟩ := (unhide X0).form
  obtain ⟨bl, dl, rfl⟩ := (unhide X0).swap.form
  have hLM := unhide LM
  have hLS := unhide LS
  generalize hNM : M.length = NM at *
  generalize hNS : S.length = NS at *
  have HNM := hide hNM
  have HNS := hide hNS
  clear LM LS hNM hNS
  obtain ⟨P, hP⟩ : ∃ P : Nat → Prop, (fun b => (Value.slice al NM cl).ownBlock = some b ∨ (Value.slice bl NS dl).ownBlock = some b) = P := ⟨_, rfl⟩
  rw [hP] at X0 FIN
  clear hP
  have BW8 := hide (show w2.heap.size ≤ w8.heap.size from (unhide B8).size)
  go_wp2_with (first
    | (go_at_call 9; refine (unhide C9a).mono ?_; rintro e w9 ⟨rfl, n9, rfl⟩; clear C9a; have C11a := hide (unhide C11 n9))
    | (go_at_call 10; refine (num_any er _).mono ?_; rintro e wN ⟨rfl, rfl⟩)
    | (go_at_call 11; refine (unhide C11a).mono ?_; rintro e wA ⟨rfl, nA, rfl⟩; clear C11a C11 C9; have X1 := hide ((unhide X0).later (bl_drewN w8 (n9 + nA))))
    | (go_at_call 10; refine (num_any sr _).mono ?_; rintro e wM ⟨rfl, rfl⟩))
  clear X0
  go_loopg [21] NM (fun gq iv wr => ∃ i : Nat, iv = .int .i64 i ∧ i ≤ NM ∧ NM - i ≤ gq ∧ Hid (X2 P w2.heap.size w8 wr 40 34 (.slice al NM cl) NM 42 3 (.slice bl NS dl) NS))
  case atStart => exact ⟨0, by go_num, by omega, by omega, X1⟩
  case round =>
    clear X1
    obtain ⟨i, rfl, hi, hgq, HX⟩ := hrel
    by_cases hlt : i < NM
    · have hin : (i : Int) < (NM : Int) := by omega
      obtain ⟨g, c, e⟩ := (unhide HX).at_ (by omega)
      cases e
      have HTH := hide ((unhide HX).there hlt)
      have HX2 := hide (fun cs => (unhide HX).put (i * 34) cs)
      clear HX FIN
      go_wp2_with ((with_reducible refine m_store (t := 40) (k := 34) infoF _ _ rfl rfl g (i * 34) rfl _ rfl ?se ?sf (unhide HTH) ?_); (case se => rfl); (case sf => exact List.all_eq_true.1 rfl))
      go_roundg (NM - (i + 1))
      case measure => omega
      case rel => exact ⟨i + 1, by go_num, by omega, by omega, unhide HX2 _⟩
    · obtain rfl : i = NM := by omega
      have hge : ¬ (i : Int) < (i : Int) := by omega
      go_wp2_with fail
      go_loopg [22] NS (fun gq iv wr => ∃ j : Nat, iv = .int .i64 j ∧ j ≤ NS ∧ NS - j ≤ gq ∧ Hid (X2 P w2.heap.size w8 wr 40 34 (.slice al i cl) i 42 3 (.slice bl NS dl) NS))
      case atStart => exact ⟨0, by go_num, by omega, by omega, HX⟩
      case round =>
        clear HX
        obtain ⟨j, rfl, hj, hgj, HX⟩ := hrel
        by_cases hlt : j < NS
        · have hjn : (j : Int) < (NS : Int) := by omega
          obtain ⟨g, c, e⟩ := (unhide HX).swap.at_ (by omega)
          cases e
          have HTH := hide ((unhide HX).swap.there hlt)
          have HX2 := hide (fun cs => ((unhide HX).swap.put (j * 3) cs).swap)
          clear HX FIN
          go_wp2_with ((with_reducible refine m_store (t := 42) (k := 3) infoP _ _ rfl rfl g (j * 3) rfl _ rfl ?sg ?sh (unhide HTH) ?_); (case sg => rfl); (case sh => exact List.all_eq_true.1 rfl))
          go_roundg (NS - (j + 1))
          case measure => omega
          case rel => exact ⟨j + 1, by go_num, by omega, by omega, unhide HX2 _⟩
        · obtain rfl : j = NS := by omega
          have hjge : ¬ (j : Int) < (j : Int) := by omega
          have HLO := hide (show ∀ X, Fx P w8 X → w2.heap.size ≤ X.heap.size from fun X hX => Nat.le_trans (unhide BW8) hX.size)
          obtain ⟨xv, wc, hrc, hxc⟩ := (unhide HX).app (unhide TF) (unhide HLO _ (unhide HX).fx) (wx := wr.alloc (.cells (mkF ⟨#[118]⟩).toArray 40)) (mkF ⟨#[118]⟩) (mkF_len _) (fun j u hj => by rw [World.cell?_alloc_new]; simpa using hj) ((Below.refl _ _).alloc (Nat.le_refl _) _) (mkF_one _) (by unfold maxLen; omega) (by omega) 24
          obtain ⟨yv, wd, hrd, hxd⟩ := hxc.swap.app tyQ (unhide HLO _ hxc.fx) (wx := wc.alloc (.cells (stp 78 ⟨#[]⟩ ⟨#[]⟩).toArray 42)) (stp 78 ⟨#[]⟩ ⟨#[]⟩) rfl (fun j u hj => by rw [World.cell?_alloc_new]; simpa using hj) ((Below.refl _ _).alloc (Nat.le_refl _) _) (stp_one _ _ _) (by unfold maxLen; omega) (by omega) 30
          have HD := hide hxd.swap
          clear hxc hxd HX
          go_wp2_with (first
            | (at_builtin; refine wpList_append_run rfl _ _ 24 rfl _ _ rfl rfl hrc ?_; clear hrc)
            | (at_builtin; refine wpList_append_run rfl _ _ 30 rfl _ _ rfl rfl hrd ?_; clear hrd))
          go_loopg [23, 24, 25] 99 (fun gq xv yv iv wr => ∃ q : Nat, iv = .int .i64 q ∧ q ≤ 99 ∧ 99 - q ≤ gq ∧ Hid (X2 P w2.heap.size w8 wr 40 34 xv (i + 1 + q) 42 3 yv (j + 1 + q)))
          case atStart => exact ⟨0, by go_num, by omega, by omega, HD⟩
          case round =>
            clear HD
            obtain ⟨q, rfl, hq, hgq2, HX⟩ := hrel
            by_cases hlq : q < 99
            · have hqn : (q : Int) < 99 := by omega
              obtain ⟨xv, wc, hrc, hxc⟩ := (unhide HX).app (unhide TF) (unhide HLO _ (unhide HX).fx) (wx := wr.alloc (.cells (mkF ⟨#[118]⟩).toArray 40)) (mkF ⟨#[118]⟩) (mkF_len _) (fun j u hj => by rw [World.cell?_alloc_new]; simpa using hj) ((Below.refl _ _).alloc (Nat.le_refl _) _) (mkF_one _) (by unfold maxLen; omega) (by omega) 24
              obtain ⟨yv, wd, hrd, hxd⟩ := hxc.swap.app tyQ (unhide HLO _ hxc.fx) (wx := wc.alloc (.cells (stp 78 ⟨#[]⟩ ⟨#[]⟩).toArray 42)) (stp 78 ⟨#[]⟩ ⟨#[]⟩) rfl (fun j u hj => by rw [World.cell?_alloc_new]; simpa using hj) ((Below.refl _ _).alloc (Nat.le_refl _) _) (stp_one _ _ _) (by unfold maxLen; omega) (by omega) 30
              have HD := hide hxd.swap
              clear hxc hxd HX FIN
              go_wp2_with (first
                | (at_builtin; refine wpList_append_run rfl _ _ 24 rfl _ _ rfl rfl hrc ?_; clear hrc)
                | (at_builtin; refine wpList_append_run rfl _ _ 30 rfl _ _ rfl rfl hrd ?_; clear hrd))
              go_roundg (99 - (q + 1))
              case measure => omega
              case rel => exact ⟨q + 1, by go_num, by omega, by omega, HD⟩
            · obtain rfl : q = 99 := by omega
              have hX := unhide HX
              obtain ⟨xa, xc, rfl⟩ := hX.form
              obtain ⟨ya, yc, rfl⟩ := hX.swap.form
              obtain ⟨r1, r2, r3, r4, bX⟩ := unhide FIN _ hX.fx
              have D1 := hide (sameFiles_yes (by have := unhide HNM; omega) r1 r2)
              have R34 := hide (And.intro r3 r4)
              have HA := hide (show ∀ Y, Below wr.heap.size wr Y → Calls Tryd.prog 12 #[.slice (some ⟨w.heap.size, 0, none⟩) NO (NO + 1), ov] Y (fun e w' => e = .returned (.bool true) ∧ ∃ n, w' = Y.drewN n) from fun Y hY => by
                have q := still_yes ((unhide K3).later (bl_t bX hY)) (unhide KO Y (bl_t (unhide G2) (bl_t bX hY))) (by have := unhide EO; have := (unhide HL1).1; omega) (unhide L34).2
                rw [unhide EO] at q
                exact q)
              have HB := hide (show ∀ Y, Below wr.heap.size wr Y → Calls Tryd.prog 12 #[.slice (some ⟨w1.heap.size, 0, none⟩) NP (NP + 1), iv] Y (fun e w' => e = .returned (.bool true) ∧ ∃ n, w' = Y.drewN n) from fun Y hY => by
                have q := still_yes ((unhide K2).later (bl_t bX hY)) (unhide KI Y (bl_t (unhide G2) (bl_t bX hY))) (by have := unhide EP; have := (unhide HL1).2; omega) (unhide L34).1
                rw [unhide EP] at q
                exact q)
              have HT := hide (show ∀ Y, Below wr.heap.size wr Y → Calls Tryd.prog 13 #[.int .i64 seq, .slice (some ⟨w.heap.size, 0, none⟩) NO (NO + 1), .slice (some ⟨w1.heap.size, 0, none⟩) NP (NP + 1)] Y (fun e w' => e = .returned (.bool true) ∧ Below w1.heap.size Y w') from fun Y hY => by
                have q := turned_any (seq := seq) ((unhide K2).later (bl_t bX hY)) (unhide PA Y (bl_t bX hY)) (by have := unhide EP; have := (unhide HL1).2; omega) (by have := unhide EO; have := (unhide HL1).1; omega) (unhide L34).1 (unhide L34).2 (unhide HZ) (unhide KG Y (bl_t (unhide G2) (bl_t bX hY))) (Nat.lt_of_lt_of_le (unhide HG).big (unhide G1).size)
                rw [unhide EP] at q
                exact q)
              have BX := hide (bl_t (unhide G2) bX)
              have hw1 : IntKind.i64.wrap ((i : Int) + 100) = (i : Int) + 100 := IntWalk.i64_in _ (by omega)
              have hw2 : IntKind.i64.wrap ((j : Int) + 100) = (j : Int) + 100 := IntWalk.i64_in _ (by omega)
              obtain ⟨L1, hL1⟩ : ∃ L1, i + 1 + 99 = L1 := ⟨_, rfl⟩
              obtain ⟨L2, hL2⟩ : ∃ L2, j + 1 + 99 = L2 := ⟨_, rfl⟩
              rw [hL1, hL2] at HX
              rw [hL1]
              rw [hL2]
              have hL1' : (L1 : Int) = (i : Int) + 100 := by omega
              have hL2' : (L2 : Int) = (j : Int) + 100 := by omega
              have hqn : ¬ (99 : Int) < 99 := by omega
              clear r1 r2 r3 r4 bX hX FIN HX hL1 hL2
              go_wp2_with (first
                | (go_at_call 9; refine (unhide D1).mono ?_; rintro e y1 ⟨rfl, n1, rfl⟩; clear D1; have D2 := hide (sameSteps_yes (by have := unhide HNS; omega) ((unhide R34).1.later (bl_drewN wr n1)) ((unhide R34).2.later (bl_drewN wr n1))))
                | (go_at_call 11; refine (unhide D2).mono ?_; rintro e y2 ⟨rfl, n2, rfl⟩; clear D2; have Z2 := hide (bl_drewN wr (n1 + n2)); have D3 := hide (unhide HA _ (unhide Z2)))
                | (go_at_call 12; refine (unhide D3).mono ?_; rintro e y3 ⟨rfl, n3, rfl⟩; clear D3; have Z3 := hide (bl_drewN wr (n1 + n2 + n3)); have D4 := hide (unhide HB _ (unhide Z3)))
                | (go_at_call 12; refine (unhide D4).mono ?_; rintro e y4 ⟨rfl, n4, rfl⟩; clear D4; have Z4 := hide (bl_drewN wr (n1 + n2 + n3 + n4)); have D5 := hide (unhide HT _ (unhide Z4)))
                | (go_at_call 13; refine (unhide D5).mono ?_; rintro e y5 ⟨rfl, b5⟩; have B5 := hide b5; clear b5 D5))
              go_ret
              exact ⟨rfl, (bl_t (unhide BX) (unhide Z4)).trans ((unhide B5).mono (unhide G1).size)⟩
end Go.Proofs.YtkpkpebljkcmkaaDoor
