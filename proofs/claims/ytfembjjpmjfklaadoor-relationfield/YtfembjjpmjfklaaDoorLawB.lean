import Derived.Test.YtfembjjpmjfklaaDoorLawS
namespace Go.Proofs.YtfembjjpmjfklaaDoor
open Go.RowKit

theorem numA_any (n : Int) (w : World) :
    Calls Tryd.prog 9 #[.int .i64 n] w fun x w' => x = .returned (.int .i64 n) ∧ w' = w := by
  go_enter Tryd.func9, Tryd.ntmps9
  go_wp2
  go_ret
  exact ⟨rfl, rfl⟩

def mk1 (n : Int) : Am := ⟨⟨#[77, 65, 82, 75]⟩, n, ⟨#[]⟩⟩
set_option maxHeartbeats 1000000 in
theorem markA_any (n : Int) (w : World) :
    Calls Tryd.prog 22 #[.int .i64 n] w fun e w' => e = .returned (.agg #[.string ⟨#[77, 65, 82, 75]⟩, .int .i64 n, .string ⟨#[]⟩]) ∧ Below w.heap.size w w' := by
  go_enter Tryd.func22, Tryd.ntmps22
  go_wp2
  exact bodyPost_ret (v := .agg #[.string ⟨#[77, 65, 82, 75]⟩, .int .i64 n, .string ⟨#[]⟩]) (by simp [results, Tryd.results22, go_sem]) rfl ⟨rfl, (Below.refl _ _).alloc (Nat.le_refl _) _⟩
theorem OwnA.cells {base : Nat} {W : World} {g n cap : Nat} {al : List Am} (h : OwnA base W (.slice (some ⟨g, 0, none⟩) n cap) al) (i : Nat) (hi : i < al.length) : W.cell? ⟨g, i * 3, none⟩ = some (.string al[i].n) ∧ W.cell? ⟨g, i * 3 + 1, none⟩ = some (.int .i64 al[i].op) ∧ W.cell? ⟨g, i * 3 + 2, none⟩ = some (.string al[i].v) := by
  have hn : al.length = n := by rcases h.2 with ⟨e, _⟩ | ⟨_, _, _, e, _⟩ <;> cases e; rfl
  subst hn
  refine ⟨?_, ?_, ?_⟩
  · have := World.ownsRow.cells (g := g) h rfl (i * 3 + 0) _ ((flat_at 3 amCells (fun _ => rfl) al i 0 hi (by omega)).trans rfl)
    rw [Go.WideShapes.add_plain] at this
    simpa using this
  · have := World.ownsRow.cells (g := g) h rfl (i * 3 + 1) _ ((flat_at 3 amCells (fun _ => rfl) al i 1 hi (by omega)).trans rfl)
    rw [Go.WideShapes.add_plain] at this
    simpa [Nat.add_assoc] using this
  · have := World.ownsRow.cells (g := g) h rfl (i * 3 + 2) _ ((flat_at 3 amCells (fun _ => rfl) al i 2 hi (by omega)).trans rfl)
    rw [Go.WideShapes.add_plain] at this
    simpa [Nat.add_assoc] using this

theorem LB.mark {w W W' : World} {va : Option Addr} {n c : Nat} {v' vd vk vm vy vz : Value} {al al' : List Am} {nl nl' : List ByteArray} {o : Obj} {x : Am} (h : LB w W (.slice va n c) vd vk vm vy vz al al' nl nl') (hn : al'.length = n)
    (hown : W'.ownsRow w.heap.size 34 3 v' (n + 1) (al'.flatMap amCells ++ amCells x)) (hg : (W.alloc o).grownBy W' (Value.slice va n c).ownBlock) (hat : v'.ownBlock = (Value.slice va n c).ownBlock ∨ v'.ownBlock = some (W.alloc o).heap.size) :
    LB w W' v' vd vk vm vy vz al (al' ++ [x]) nl nl' ∧ (al' ++ [x]).length = n + 1 := by
  have hl : (al' ++ [x]).length = n + 1 := by simp [hn]
  refine ⟨(h.later ((Below.refl _ W).alloc (Nat.le_refl _) o)).growC ?_ hg hat, hl⟩
  unfold OwnA
  rw [hl, List.flatMap_append]
  simpa using hown
theorem LB.more {w W W' : World} {va : Option Addr} {n c : Nat} {v' vc vk vm vy vz : Value} {al al' : List Am} {nl nl' : List ByteArray} {o : Obj} {x : ByteArray} (h : LB w W vc (.slice va n c) vk vm vy vz al al' nl nl') (hn : nl'.length = n)
    (hown : W'.ownsRow w.heap.size 9 1 v' (n + 1) (nl'.map Value.string ++ [.string x])) (hg : (W.alloc o).grownBy W' (Value.slice va n c).ownBlock) (hat : v'.ownBlock = (Value.slice va n c).ownBlock ∨ v'.ownBlock = some (W.alloc o).heap.size) :
    LB w W' vc v' vk vm vy vz al al' nl (nl' ++ [x]) ∧ (nl' ++ [x]).length = n + 1 := by
  have hl : (nl' ++ [x]).length = n + 1 := by simp [hn]
  refine ⟨(h.later ((Below.refl _ W).alloc (Nat.le_refl _) o)).growD ?_ hg hat, hl⟩
  unfold OwnS
  rw [hl, List.map_append]
  simpa using hown
theorem LB.rowC {w W : World} {va : Option Addr} {n c : Nat} {vd vk vm vy vz : Value} {al al' : List Am} {nl nl' : List ByteArray} (h : LB w W (.slice va n c) vd vk vm vy vz al al' nl nl') (hn : al'.length = n) : W.ownsRow w.heap.size 34 3 (.slice va n c) n (al'.flatMap amCells) := by
  have h := h.c
  unfold OwnA at h
  rw [hn] at h
  exact h
theorem LB.rowD {w W : World} {va : Option Addr} {n c : Nat} {vc vk vm vy vz : Value} {al al' : List Am} {nl nl' : List ByteArray} (h : LB w W vc (.slice va n c) vk vm vy vz al al' nl nl') (hn : nl'.length = n) : W.ownsRow w.heap.size 9 1 (.slice va n c) n (nl'.map Value.string) := by
  have h := h.d
  unfold OwnS at h
  rw [hn] at h
  exact h

set_option maxRecDepth 100000 in
set_option maxHeartbeats 8000000 in
theorem relationAtom_walk (s : ByteArray) (w : World) (hs : s.size ≤ 9223372036854775807) (hg : Glob w) :
    Calls Tryd.prog 4 #[.string s] w fun e w' => e = .returned (.bool true) ∧ Below w.heap.size w w' := by
  have HG := hide hg
  have c1 := hide (fun w hg => ParseAtom_any s w hs trivial hg)
  have c2 := hide (fun w => rParseAtom_any s w (by unfold maxLen; omega))
  have c3 := hide (fun w hg => ParseAtoms_u s w hs trivial hg)
  have c4 := hide (fun w => rParseAtoms_u s w hs)
  have c5 := hide (fun w hg => ParseNames_u s w hs trivial hg)
  have c6 := hide (fun w => rParseNames_u s w hs)
  have hal := aL_len s
  have hnl := nL_len s
  generalize aL s = al at *
  generalize nL s = nl at *
  generalize afE s = ea at *
  generalize nfE s = en at *
  rcases hp : parseA s with ⟨⟨an, ao, av⟩, e0⟩
  rw [hp] at c1 c2
  simp only [amV] at c1 c2
  clear hp hg hs
  go_enter Tryd.func4, Tryd.ntmps4
  go_wp2_with fail
  refine (unhide c1 _ (unhide HG)).mono ?_
  rintro e w1 ⟨rfl, hb1⟩
  have HB1 := hide (hb1.alloc hb1.size (.cells #[.string an, .int .i64 ao, .string av] 34))
  clear hb1
  go_wp2_with fail
  refine (unhide c2 _).mono ?_
  rintro e w2 ⟨rfl, hb2⟩
  have HB2 := hide (bl_t (unhide HB1) hb2)
  have HA1 := hide hb2
  clear hb2
  have HCA := hide (show ∀ j u, [Value.string an, .int .i64 ao, .string av][j]? = some u → (w2.alloc (.cells #[.string an, .int .i64 ao, .string av] 34)).cell? ⟨w1.heap.size, j, none⟩ = some u from fun j u h => by
    have h1 : (w1.alloc (.cells #[.string an, .int .i64 ao, .string av] 34)).cell? ⟨w1.heap.size, j, none⟩ = some u := by
      rw [World.cell?_alloc_at _ _ _ _ rfl]; simpa using h
    have h2 := ((unhide HA1).cell (p := ⟨w1.heap.size, j, none⟩) (by simp)).trans h1
    have hlt : w1.heap.size < w2.heap.size := by have := (unhide HA1).size; simp at this; omega
    exact (((Below.refl _ w2).alloc (Nat.le_refl _) _).cell (p := ⟨w1.heap.size, j, none⟩) hlt).trans h2)
  have HCB := hide (show ∀ j u, [Value.string an, .int .i64 ao, .string av][j]? = some u → (w2.alloc (.cells #[.string an, .int .i64 ao, .string av] 34)).cell? ⟨w2.heap.size, j, none⟩ = some u from fun j u h => by
    rw [World.cell?_alloc_at _ _ _ _ rfl]; simpa using h)
  have HP := hide (show w1.heap.size < (w2.alloc (.cells #[.string an, .int .i64 ao, .string av] 34)).heap.size ∧ w2.heap.size < (w2.alloc (.cells #[.string an, .int .i64 ao, .string av] 34)).heap.size by have := (unhide HA1).size; simp at this ⊢; omega)
  have HB2' := hide ((unhide HB2).alloc (unhide HB2).size (.cells #[.string an, .int .i64 ao, .string av] 34))
  go_wp2_with fail
  clear HB1 HB2 HA1
  obtain ⟨W2, hW2⟩ : ∃ W2, w2.alloc (.cells #[.string an, .int .i64 ao, .string av] 34) = W2 := ⟨_, rfl⟩
  obtain ⟨P1, hP1⟩ : ∃ P, w1.heap.size = P := ⟨_, rfl⟩
  obtain ⟨P2, hP2⟩ : ∃ P, w2.heap.size = P := ⟨_, rfl⟩
  rw [hW2] at HCA HCB HP HB2' ⊢
  rw [hP1] at HCA HP ⊢
  rw [hP2] at HCB HP ⊢
  clear hW2 hP1 hP2
  refine (unhide c3 _ ((unhide HG).later (unhide HB2'))).mono ?_
  rintro e w3 ⟨⟨vl, rfl, hl⟩, hb3⟩
  have HL := hide hl
  have HB3 := hide hb3
  clear hl hb3
  go_wp2_with fail
  refine (unhide c3 _ ((unhide HG).later (bl_t (unhide HB2') (unhide HB3)))).mono ?_
  rintro e w4 ⟨⟨vk, rfl, hl⟩, hb⟩
  have HK := hide hl
  have HB4 := hide hb
  clear hl hb
  go_wp2_with fail
  refine (unhide c4 _).mono ?_
  rintro e w5 ⟨⟨vm, rfl, hl, hl2⟩, hb⟩
  have HM := hide (And.intro hl hl2)
  have HB5 := hide hb
  clear hl hl2 hb
  go_wp2_with fail
  have HB25 := hide (bl_t (bl_t (unhide HB3) (unhide HB4)) (unhide HB5))
  refine (unhide c5 _ ((unhide HG).later (bl_t (unhide HB2') (unhide HB25)))).mono ?_
  rintro e w6 ⟨⟨vx, rfl, hl⟩, hb⟩
  have HX := hide hl
  have HB6 := hide hb
  clear hl hb
  go_wp2_with fail
  refine (unhide c5 _ ((unhide HG).later (bl_t (bl_t (unhide HB2') (unhide HB25)) (unhide HB6)))).mono ?_
  rintro e w7 ⟨⟨vy, rfl, hl⟩, hb⟩
  have HY := hide hl
  have HB7 := hide hb
  clear hl hb
  go_wp2_with fail
  refine (unhide c6 _).mono ?_
  rintro e w8 ⟨⟨vz, rfl, hl, hl2⟩, hb⟩
  have HZ := hide (And.intro hl hl2)
  have HB8 := hide hb
  clear hl hl2 hb
  have HB28 := hide (bl_t (bl_t (bl_t (unhide HB25) (unhide HB6)) (unhide HB7)) (unhide HB8))
  have HL8 := hide ((unhide HL).later (bl_t (bl_t (bl_t (bl_t (unhide HB4) (unhide HB5)) (unhide HB6)) (unhide HB7)) (unhide HB8)))
  have HM8 := hide ((unhide HM).1.later (bl_t (bl_t (unhide HB6) (unhide HB7)) (unhide HB8)))
  have HX8 := hide ((unhide HX).later (bl_t (unhide HB7) (unhide HB8)))
  have hp1 := Nat.lt_of_lt_of_le (unhide HP).1 (unhide HB28).size
  have hp2 := Nat.lt_of_lt_of_le (unhide HP).2 (unhide HB28).size
  have a0 := ((unhide HB28).cell (p := ⟨P1, 0, none⟩) (unhide HP).1).trans (unhide HCA 0 _ rfl)
  have a1 := ((unhide HB28).cell (p := ⟨P1, 1, none⟩) (unhide HP).1).trans (unhide HCA 1 _ rfl)
  have a2 := ((unhide HB28).cell (p := ⟨P1, 2, none⟩) (unhide HP).1).trans (unhide HCA 2 _ rfl)
  have b0 := ((unhide HB28).cell (p := ⟨P2, 0, none⟩) (unhide HP).2).trans (unhide HCB 0 _ rfl)
  have b1 := ((unhide HB28).cell (p := ⟨P2, 1, none⟩) (unhide HP).2).trans (unhide HCB 1 _ rfl)
  have b2 := ((unhide HB28).cell (p := ⟨P2, 2, none⟩) (unhide HP).2).trans (unhide HCB 2 _ rfl)
  have d1 := hide (sameAtomsB al vl vm w8 ((unhide HL8).ams (by omega)) (unhide HM8))
  have d2 := hide (fun w' (hb : Below w8.heap.size w8 w') => sameNamesB nl vx vz w' (((unhide HX8).later hb).sts (by omega)) ((unhide HZ).1.later hb))
  go_wp2_with fail
  refine (numA_any _ _).mono ?_
  rintro e w' ⟨rfl, rfl⟩
  go_wp2_with fail
  refine (unhide d1).mono ?_
  rintro e w9 ⟨rfl, hb9⟩
  have HB9 := hide hb9
  clear hb9
  go_wp2_with fail
  refine (numA_any _ _).mono ?_
  rintro e w' ⟨rfl, rfl⟩
  go_wp2_with fail
  refine (unhide d2 _ (unhide HB9)).mono ?_
  rintro e w10 ⟨rfl, hb10⟩
  have HB10 := hide hb10
  clear hb10
  go_wp2_with fail
  refine (numA_any _ _).mono ?_
  rintro e w' ⟨rfl, rfl⟩
  go_wp2_with fail
  have s34 := (unhide HB4).size
  have s45 := (unhide HB5).size
  have s56 := (unhide HB6).size
  have s67 := (unhide HB7).size
  have HLB := hide (show LB w w' vl vx vk vm vy vz al al nl nl from
    { bel := bl_t (bl_t (bl_t (unhide HB2') (unhide HB28)) (unhide HB9)) (unhide HB10)
      c := ((unhide HL8).later (bl_t (unhide HB9) (unhide HB10))).mono (unhide HB2').size
      d := ((unhide HX8).later (bl_t (unhide HB9) (unhide HB10))).mono (Nat.le_trans (unhide HB2').size (unhide HB25).size)
      k := ((unhide HK).later (bl_t (bl_t (bl_t (bl_t (bl_t (bl_t (unhide HB5) (unhide HB6)) (unhide HB7)) (unhide HB8)) (unhide HB9)) (unhide HB10)) (Below.refl _ _))).ams (by omega)
      m := (unhide HM8).later (bl_t (unhide HB9) (unhide HB10))
      y := ((unhide HY).later (bl_t (bl_t (unhide HB8) (unhide HB9)) (unhide HB10))).sts (by omega)
      z := (unhide HZ).1.later (bl_t (unhide HB9) (unhide HB10))
      cd := fun g e1 e2 => by have := ((unhide HL).lt g e1).2; have := ((unhide HX).lt g e2).1; omega
      kc := fun _ g e1 e2 => by have := ((unhide HK).lt g e1).1; have := ((unhide HL).lt g e2).2; omega
      kd := fun _ g e1 e2 => by have := ((unhide HK).lt g e1).2; have := ((unhide HX).lt g e2).1; omega
      mc := fun _ g e1 e2 => by have := (unhide HM).2 g e1; have := ((unhide HL).lt g e2).2; omega
      md := fun hn g e1 e2 => by have := (unhide HM).1.blk0 hn e1; have := ((unhide HX).lt g e2).1; omega
      yc := fun _ g e1 e2 => by have := ((unhide HY).lt g e1).1; have := ((unhide HL).lt g e2).2; omega
      yd := fun _ g e1 e2 => by have := ((unhide HY).lt g e1).1; have := ((unhide HX).lt g e2).2; omega
      zc := fun _ g e1 e2 => by have := (unhide HZ).2 g e1; have := ((unhide HL).lt g e2).2; omega
      zd := fun _ g e1 e2 => by have := (unhide HZ).2 g e1; have := ((unhide HX).lt g e2).2; omega })
  obtain ⟨la, lc, rfl⟩ := ownRow_shape (unhide HLB).c
  obtain ⟨xa, xc, rfl⟩ := ownRow_shape (unhide HLB).d
  clear s34 s45 s56 s67 HL HK HM HX HY HZ HL8 HM8 HX8 HB3 HB4 HB5 HB6 HB7 HB8 HB9 HB10 HB25 HB28 HB2' HCA HCB HP d1 d2 a0 a1 a2 b0 b1 b2 c1 c2 c3 c4 c5 c6
  obtain ⟨N, hN⟩ : ∃ N, al.length = N := ⟨_, rfl⟩
  obtain ⟨M, hM⟩ : ∃ M, nl.length = M := ⟨_, rfl⟩
  rw [hN, hM] at HLB ⊢
  go_loopw [19] (fun i wr => ∃ (k : Nat) (al' : List Am), k ≤ N ∧ i = .int .i64 k ∧ Hid (al'.length = N ∧ LB w wr (.slice la N lc) (.slice xa M xc) vk vm vy vz al al' nl nl)) (fun i _ => N - (intOf i).toNat)
  case atStart => exact ⟨0, al, Nat.zero_le _, rfl, hide ⟨hN, unhide HLB⟩⟩
  case round =>
    obtain ⟨k, al', hk, rfl, HR⟩ := hrel
    by_cases hlt : k < N
    · obtain ⟨g, cap, hge⟩ : ∃ g cap, Value.slice la N lc = .slice (some ⟨g, 0, none⟩) N cap := by
        rcases (unhide HR).2.c.2 with ⟨e, h⟩ | ⟨g, cap, cur, e, _⟩
        · rw [(unhide HR).1] at h; omega
        · rw [(unhide HR).1] at e; exact ⟨g, cap, e⟩
      cases hge
      go_wp2_with fail
      refine (markA_any _ _).mono ?_
      rintro e w11 ⟨rfl, hb11⟩
      have HR11 := hide (And.intro (unhide HR).1 ((unhide HR).2.later hb11))
      clear hb11
      have hgl := ((unhide HR11).2.c.lt g rfl).2
      obtain ⟨q0, q1, q2⟩ := (unhide HR11).2.c.cells k (by rw [(unhide HR11).1]; exact hlt)
      have f0 := ownsRow_free (n := N) (by have h := (unhide HR11).2.c; unfold OwnA at h; rw [(unhide HR11).1] at h; exact h) (k * 3)
      have f1 := ownsRow_free (n := N) (by have h := (unhide HR11).2.c; unfold OwnA at h; rw [(unhide HR11).1] at h; exact h) (k * 3 + 1)
      have f2 := ownsRow_free (n := N) (by have h := (unhide HR11).2.c; unfold OwnA at h; rw [(unhide HR11).1] at h; exact h) (k * 3 + 2)
      have HS := hide (And.intro (show (al'.set k (mk1 1)).length = N by rw [List.length_set]; exact (unhide HR11).1) ((unhide HR11).2.setC (unhide HR11).1 k hlt (mk1 1)))
      go_wp2_with fail
      go_roundw
      case rel => exact ⟨k + 1, al'.set k (mk1 1), by omega, by go_num, HS⟩
      case measure => simp [intOf]; omega
    · go_wp2_with fail
      have HL1 := hide (show ∃ al1 : List Am, al1.length = N ∧ LB w wr (.slice la N lc) (.slice xa M xc) vk vm vy vz al al1 nl nl from ⟨al', unhide HR⟩)
      clear HR HLB
      go_loopw [20] (fun i wr => ∃ (k : Nat) (al1 : List Am) (nl' : List ByteArray), k ≤ M ∧ i = .int .i64 k ∧ Hid (al1.length = N ∧ nl'.length = M ∧ LB w wr (.slice la N lc) (.slice xa M xc) vk vm vy vz al al1 nl nl')) (fun i _ => M - (intOf i).toNat)
      case atStart =>
        obtain ⟨al1, h1, h2⟩ := unhide HL1
        exact ⟨0, al1, nl, Nat.zero_le _, rfl, hide ⟨h1, hM, h2⟩⟩
      case round =>
        obtain ⟨k2, al1, nl', hk2, rfl, HR⟩ := hrel
        clear HL1
        by_cases hlt2 : k2 < M
        · obtain ⟨g, cap, hge⟩ : ∃ g cap, Value.slice xa M xc = .slice (some ⟨g, 0, none⟩) M cap := by
            rcases (unhide HR).2.2.d.2 with ⟨e, h⟩ | ⟨g, cap, cur, e, _⟩
            · rw [(unhide HR).2.1] at h; omega
            · rw [(unhide HR).2.1] at e; exact ⟨g, cap, e⟩
          cases hge
          have hgl := ((unhide HR).2.2.d.lt g rfl).2
          have HD := hide (show World.ownsRow _ w.heap.size 9 1 (.slice (some ⟨g, 0, none⟩) M xc) M (nl'.map Value.string) by have h := (unhide HR).2.2.d; unfold OwnS at h; rw [(unhide HR).2.1] at h; exact h)
          have q0 := (unhide HD).cells (g := g) rfl k2 (.string (nl'[k2]'(by rw [(unhide HR).2.1]; exact hlt2))) (by rw [List.getElem?_map, List.getElem?_eq_getElem (by rw [(unhide HR).2.1]; exact hlt2)]; rfl)
          rw [Go.WideShapes.add_plain] at q0
          simp only [Nat.zero_add] at q0
          have f0 := ownsRow_free (unhide HD) k2
          have HS := hide (show al1.length = N ∧ (nl'.set k2 ⟨#[77, 65, 82, 75]⟩).length = M ∧ _ from ⟨(unhide HR).1, by rw [List.length_set]; exact (unhide HR).2.1, (unhide HR).2.2.setD (unhide HR).2.1 k2 hlt2 ⟨#[77, 65, 82, 75]⟩⟩)
          clear HD
          go_wp2_with fail
          go_roundw
          case rel => exact ⟨k2 + 1, al1, _, by omega, by go_num, HS⟩
          case measure => simp [intOf]; omega
        · obtain ⟨i0, hi, hz0, hz1, hz2⟩ := info_parts infoA
          obtain ⟨j0, hj, hy0, hy1, hy2⟩ := info_parts info9c
          have HR2 := hide (show ∃ (al2 : List Am) (nl2 : List ByteArray), al2.length = N ∧ nl2.length = M ∧ LB w wr (.slice la N lc) (.slice xa M xc) vk vm vy vz al al2 nl nl2 from ⟨al1, nl', unhide HR⟩)
          clear HR
          obtain ⟨al2, nl2, hr1, hr2, hr3⟩ := unhide HR2
          clear HR2
          have HA2 := hide hr1
          have HN2 := hide hr2
          have HL2 := hide hr3
          clear hr1 hr2 hr3
          go_wp2_with fail
          refine (markA_any _ _).mono ?_
          rintro e w12 ⟨rfl, hb12⟩
          have HL3 := hide ((unhide HL2).later hb12)
          have hq3 := (unhide HL3).bel.size
          clear hb12 HL2
          have HO3 := hide (show World.ownsRow w12 w.heap.size 34 3 (.slice la N lc) N (al2.flatMap amCells) by have h := (unhide HL3).c; unfold OwnA at h; rw [unhide HA2] at h; exact h)
          go_wp2_with (first | (at_builtin; refine wpList_append_own_at _ rfl _ _ 39 rfl w.heap.size 34 i0 (.agg #[.string ⟨#[]⟩, .int .i64 0, .string ⟨#[]⟩]) 3 40 Tryd.underlying39 hi hz0 hz1 hz2 rfl (by decide) _ _ _ rfl ((unhide HO3).alloc _) _ 1 1 [.string ⟨#[77, 65, 82, 75]⟩, .int .i64 2, .string ⟨#[]⟩] rfl rfl (by simpa using cells3_new w12 _ _ _ _) (by simp [Value.oneCell']) (by unfold maxLen; omega) (by omega) (by simp; omega) ?_; intro v5 w5 hown5 hgrow5 _ hat5; have HM5 := hide ((unhide HL3).mark (x := mk1 2) (unhide HA2) hown5 hgrow5 hat5); have HD5 := hide ((unhide HM5).1.rowD (unhide HN2)); have hq5 := (unhide HM5).1.bel.size; clear hown5 hgrow5 hat5) | (at_builtin; refine wpList_append_own_at _ rfl _ _ 44 rfl w.heap.size 9 j0 (.string ⟨#[]⟩) 1 16 Tryd.underlying44 hj hy0 hy1 hy2 rfl (by decide) _ _ _ rfl ((unhide HD5).alloc _) _ 1 1 [.string ⟨#[77, 79, 82, 69]⟩] rfl rfl (by simpa using cells1_new w5 _ _) (by simp [Value.oneCell']) (by unfold maxLen; omega) (by omega) (by simp; omega) ?_; intro v6 w6 hown6 hgrow6 _ hat6; have HM6 := hide ((unhide HM5).1.more (x := ⟨#[77, 79, 82, 69]⟩) (unhide HN2) hown6 hgrow6 hat6); clear hown6 hgrow6 hat6))
          have HI := hide (show ∃ (cl : List Am) (dl : List ByteArray), cl.length = N + 1 + 0 ∧ dl.length = M + 1 + 0 ∧ LB w w6 v5 v6 vk vm vy vz al cl nl dl from ⟨_, _, (unhide HM5).2, (unhide HM6).2, (unhide HM6).1⟩)
          clear HM5 HM6 HD5 HO3 HL3 HA2 HN2 hq3 hq5
          go_loopw [21, 22, 23] (fun vc vd i wr => ∃ k : Nat, k ≤ 99 ∧ i = .int .i64 k ∧ Hid (∃ (cl : List Am) (dl : List ByteArray), cl.length = N + 1 + k ∧ dl.length = M + 1 + k ∧ LB w wr vc vd vk vm vy vz al cl nl dl)) (fun _ _ i _ => 99 - (intOf i).toNat)
          case atStart => exact ⟨0, by omega, rfl, HI⟩
          case round =>
            obtain ⟨k3, hk3, rfl, HR3⟩ := hrel
            clear HI
            obtain ⟨cl, dl, hr1, hr2, hr3⟩ := unhide HR3
            obtain ⟨ca, cc, rfl⟩ := ownRow_shape hr3.c
            obtain ⟨da, dc, rfl⟩ := ownRow_shape hr3.d
            rw [hr1, hr2] at hr3 HR3 ⊢
            have HA2 := hide hr1
            have HN2 := hide hr2
            have HL2 := hide hr3
            clear hr1 hr2 hr3 HR3
            by_cases hlt3 : k3 < 99
            · go_wp2_with fail
              refine (markA_any _ _).mono ?_
              rintro e w12 ⟨rfl, hb12⟩
              have HL3 := hide ((unhide HL2).later hb12)
              have hq3 := (unhide HL3).bel.size
              clear hb12 HL2
              have HO3 := hide ((unhide HL3).rowC (unhide HA2))
              go_wp2_with (first | (at_builtin; refine wpList_append_own_at _ rfl _ _ 39 rfl w.heap.size 34 i0 (.agg #[.string ⟨#[]⟩, .int .i64 0, .string ⟨#[]⟩]) 3 40 Tryd.underlying39 hi hz0 hz1 hz2 rfl (by decide) _ _ _ rfl ((unhide HO3).alloc _) _ 1 1 [.string ⟨#[77, 65, 82, 75]⟩, .int .i64 2, .string ⟨#[]⟩] rfl rfl (by simpa using cells3_new w12 _ _ _ _) (by simp [Value.oneCell']) (by unfold maxLen; omega) (by omega) (by simp; omega) ?_; intro v5 w5 hown5 hgrow5 _ hat5; have HM5 := hide ((unhide HL3).mark (x := mk1 2) (unhide HA2) hown5 hgrow5 hat5); have HD5 := hide ((unhide HM5).1.rowD (unhide HN2)); have hq5 := (unhide HM5).1.bel.size; clear hown5 hgrow5 hat5) | (at_builtin; refine wpList_append_own_at _ rfl _ _ 44 rfl w.heap.size 9 j0 (.string ⟨#[]⟩) 1 16 Tryd.underlying44 hj hy0 hy1 hy2 rfl (by decide) _ _ _ rfl ((unhide HD5).alloc _) _ 1 1 [.string ⟨#[77, 79, 82, 69]⟩] rfl rfl (by simpa using cells1_new w5 _ _) (by simp [Value.oneCell']) (by unfold maxLen; omega) (by omega) (by simp; omega) ?_; intro v6 w6 hown6 hgrow6 _ hat6; have HM6 := hide ((unhide HM5).1.more (x := ⟨#[77, 79, 82, 69]⟩) (unhide HN2) hown6 hgrow6 hat6); clear hown6 hgrow6 hat6))
              have HI := hide (show ∃ (cl : List Am) (dl : List ByteArray), cl.length = N + 1 + (k3 + 1) ∧ dl.length = M + 1 + (k3 + 1) ∧ LB w w6 v5 v6 vk vm vy vz al cl nl dl from ⟨_, _, (unhide HM5).2, (unhide HM6).2, (unhide HM6).1⟩)
              clear HM5 HM6 HD5 HO3 HL3 HA2 HN2 hq3 hq5
              go_wp2_with fail
              go_roundw
              case rel => exact ⟨k3 + 1, by omega, by go_num, HI⟩
              case measure => simp [intOf]; omega
            · have hk9 : k3 = 99 := by omega
              have hN1 : N + 1 + k3 = N + 100 := by omega
              have hM1 : M + 1 + k3 = M + 100 := by omega
              rw [hN1, hM1]
              have d1 := hide (sameAtomsB al vk vm wr (unhide HL2).k (unhide HL2).m)
              have d2 := hide (fun w' (hb : Below wr.heap.size wr w') => sameNamesB nl vy vz w' ((unhide HL2).y.later hb) ((unhide HL2).z.later hb))
              have HBW := hide (unhide HL2).bel
              have hNl : N ≤ 1024 := by omega
              have hMl : M ≤ 1024 := by omega
              clear hk9 hN1 hM1 HL2 HA2 HN2 hN hM
              go_wp2_with fail
              refine (unhide d1).mono ?_
              rintro e w13 ⟨rfl, hb13⟩
              have HB13 := hide hb13
              clear hb13
              go_wp2_with fail
              refine (unhide d2 _ (unhide HB13)).mono ?_
              rintro e w14 ⟨rfl, hb14⟩
              have HB14 := hide (bl_t (bl_t (unhide HBW) (unhide HB13)) hb14)
              clear hb14
              go_wp2_with fail
              go_ret
              exact ⟨rfl, unhide HB14⟩

end Go.Proofs.YtfembjjpmjfklaaDoor
