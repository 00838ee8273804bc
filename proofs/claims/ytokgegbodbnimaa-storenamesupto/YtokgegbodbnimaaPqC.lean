import Derived.Test.YtokgegbodbnimaaPqB
namespace Go.Proofs.Ytokgegbodbnimaa
open Go.RowKit Go.Maps Go.Sort

/-- Behind a call that was refused. -/
theorem room_bad {O : Nat → Prop} {B : Nat} {M : Mm} {m0 m1 : Cn} {K : Nat} {W0 W4 : World} (h : Sto O B M m0 m1 K W4) (hK : K ≤ 1000000000000) {lo hi : Nat} {was : Value} {L : List (List UInt8 × Hd)} (im : Im W4 lo hi m0 was L) (bw : RowKit.Below W0.heap.size W0 W4) : ∀ W5, RowKit.Below W4.heap.size W4 W5 →
    Calls Try.prog 21 #[.pointer (some ⟨B, 0, none⟩)] W5 fun v W6 => ∃ x, v = .returned x ∧ Calls Try.prog 29 #[x, was] W6 fun y W7 => y = .returned (.bool true) ∧ Calls Try.prog 26 #[.pointer (some ⟨B, 0, none⟩)] W7 fun z W8 => z = .returned (.int .i64 (M.ps.length : Int)) ∧ RowKit.Below W0.heap.size W0 W8 := by
  intro W5 b5
  have hz : ∀ x bs, m0 x = some bs → bs.length ≤ 140737488355328 := fun x bs e => Nat.le_trans (h.l0 x bs e) (by omega)
  refine (Image_any (h.later b5) hK).mono fun v W6 ⟨x, e, ⟨L2, im2⟩, b6⟩ => ⟨x, e, ?_⟩
  refine (sameFiles_yes im2 ((im.later b5).later b6) hz).mono fun y W7 ⟨e7, t, e8⟩ => ⟨e7, ?_⟩
  subst e8
  refine (Pending_any (((h.later b5).later b6).later (bl_drewN _ t))).mono fun z W8 ⟨e9, e10⟩ => ⟨e9, ?_⟩
  subst e10
  exact bl_t bw (bl_t (bl_t b5 b6) (bl_drewN _ t))
/-- Behind one that was done. -/
theorem room_good {O : Nat → Prop} {B : Nat} {M : Mm} {m0 m1 : Cn} {K : Nat} {W0 W4 : World} (hO : ∀ b, O b → W0.heap.size ≤ b) (bw : RowKit.Below W0.heap.size W0 W4) {o : Ope} : ∀ W5, Did O B M m0 m1 K o W4 W5 →
    Calls Try.prog 26 #[.pointer (some ⟨B, 0, none⟩)] W5 fun z W8 => z = .returned (.int .i64 ((M.ps.length : Int) + 1)) ∧ RowKit.Below W0.heap.size W0 W8 := by
  intro W5 ⟨M2, q1, q2, _, _, q5⟩
  refine (Pending_any q1).mono fun z W8 ⟨e9, e10⟩ => ⟨?_, ?_⟩
  · have := congrArg List.length q2
    simp at this
    rw [e9, this]
    rfl
  · subst e10
    refine bw.trans (q5.below (by have := bw.size; omega) fun b hb q => ?_)
    rcases q with q | q
    · have := hO b q; omega
    · have := bw.size; omega
/-- Behind a Sync. -/
theorem room_sync {O : Nat → Prop} {B : Nat} {M : Mm} {m0 m1 : Cn} {K : Nat} {W0 W4 : World} (h : Sto O B M m0 m1 K W4) (hK : K ≤ 1000000000000) {lo hi : Nat} {was : Value} {L : List (List UInt8 × Hd)} (im : Im W4 lo hi m0 was L) (hh : hi ≤ W4.heap.size) (hO : ∀ b, O b → W0.heap.size ≤ b ∧ b < lo) (bw : RowKit.Below W0.heap.size W0 W4) :
    Calls Try.prog 13 #[.pointer (some ⟨B, 0, none⟩)] W4 fun v W5 => v = .returned (.int .i64 0) ∧
      Calls Try.prog 21 #[.pointer (some ⟨B, 0, none⟩)] W5 fun v W6 => ∃ x, v = .returned x ∧ Calls Try.prog 29 #[x, was] W6 fun y W7 => y = .returned (.bool true) ∧
        Calls Try.prog 22 #[.pointer (some ⟨B, 0, none⟩)] W7 fun v W8 => ∃ x, v = .returned x ∧ Calls Try.prog 29 #[x, was] W8 fun y W9 => y = .returned (.bool true) ∧ RowKit.Below W0.heap.size W0 W9 := by
  have hz : ∀ x bs, m0 x = some bs → bs.length ≤ 140737488355328 := fun x bs e => Nat.le_trans (h.l0 x bs e) (by omega)
  refine (Sync_any h).mono fun v W5 ⟨q0, M2, q1, q2, q3, q4, q5⟩ => ⟨q0, ?_⟩
  have im5 := im.fx q5 fun b h1 h2 q => by
    rcases q with q | q
    · have := (hO b q).2; omega
    · omega
  have bw5 : RowKit.Below W0.heap.size W0 W5 := by
    refine bw.trans (q5.below (by have := bw.size; omega) fun b hb q => ?_)
    rcases q with q | q
    · have := (hO b q).1; omega
    · have := bw.size; omega
  refine (Image_any q1 hK).mono fun v W6 ⟨x, e, ⟨L2, im2⟩, b6⟩ => ⟨x, e, ?_⟩
  refine (sameFiles_yes im2 (im5.later b6) hz).mono fun y W7 ⟨e7, t, e8⟩ => ⟨e7, ?_⟩
  subst e8
  have b7 := bl_t b6 (bl_drewN W6 t)
  refine (Durable_any (q1.later b7) hK).mono fun v W8 ⟨x2, e2, ⟨L3, im3⟩, b8⟩ => ⟨x2, e2, ?_⟩
  refine (sameFiles_yes im3 ((im5.later b7).later b8) hz).mono fun y W9 ⟨e9, t2, e10⟩ => ⟨e9, ?_⟩
  subst e10
  exact bl_t bw5 (bl_t b7 (bl_t b8 (bl_drewN _ t2)))
theorem rooms {O : Nat → Prop} {B : Nat} {M : Mm} {m0 m1 : Cn} {K : Nat} {W4 : World} {o : Ope} {r : Int} {g : Nat} {av : Array Value} (h : Calls Try.prog g av W4 fun v W' => v = .returned (.int .i64 r) ∧ Left O B M m0 m1 K o r W4 W') (hr : r = 0) : Calls Try.prog g av W4 fun v W' => v = .returned (.int .i64 0) ∧ Did O B M m0 m1 K o W4 W' :=
  h.mono fun v W' ⟨q0, q⟩ => by
    subst hr
    rcases q with ⟨_, q⟩ | ⟨q, _⟩
    · exact ⟨q0, q⟩
    · exact absurd rfl q
theorem roomr {O : Nat → Prop} {B : Nat} {M : Mm} {m0 m1 : Cn} {K : Nat} {W4 : World} {o : Ope} {r : Int} {g : Nat} {av : Array Value} (h : Calls Try.prog g av W4 fun v W' => v = .returned (.int .i64 r) ∧ Left O B M m0 m1 K o r W4 W') (hr : r ≠ 0) : Calls Try.prog g av W4 fun v W' => v = .returned (.int .i64 r) ∧ RowKit.Below W4.heap.size W4 W' :=
  h.mono fun v W' ⟨q0, q⟩ => by
    rcases q with ⟨q, _⟩ | ⟨_, q⟩
    · exact absurd q hr
    · exact ⟨q0, q⟩
theorem tr_142 (m : Cn) (x : Nm) (n : Int) : trR m x n ≠ 142 := by
  unfold trR
  split
  · split
    · decide
    · split <;> decide
  · decide
theorem rn_142 (m : Cn) (x y : Nm) : rnR m x y ≠ 142 := by
  unfold rnR
  split
  · split
    · split
      · decide
      · split <;> decide
    · decide
  · decide
theorem rm_142 (m : Cn) (x : Nm) : rmR m x ≠ 142 := by
  unfold rmR
  split
  · split <;> decide
  · decide
/-- THE STORE BEHIND A SCRIPT, IN A WINDOW OF ITS OWN. -/
def Wn (lo hi : Nat) : Nat → Prop := fun b => lo ≤ b ∧ b < hi
theorem St.wn {B : Nat} {s : Pst} {K : Nat} {W : World} (h : St B (B + 1) s K W) : ∃ M : Mm, Sto (Wn B W.heap.size) B M s.m0 s.m1 K W ∧ M.ps.map Opn.e = s.pe := by
  obtain ⟨M, h1, h2, _⟩ := h
  exact ⟨M, h1.mono (fun b hb q => by rcases q with q | q; exact ⟨by omega, hb⟩; exact ⟨by omega, hb⟩) (Nat.le_refl _) h1.hK, h2⟩
/-- What is there when the last call comes. -/
structure Rm4 (W0 W4 : World) (B : Nat) (was : Value) (n : Int) : Prop where
  out : ∃ (O : Nat → Prop) (M : Mm) (m0 m1 : Cn) (K lo hi : Nat) (L : List (List UInt8 × Hd)), Sto O B M m0 m1 K W4 ∧ K ≤ 1000000000 ∧ Im W4 lo hi m0 was L ∧ hi ≤ W4.heap.size ∧ (∀ b, O b → W0.heap.size ≤ b ∧ b < lo) ∧ RowKit.Below W0.heap.size W0 W4 ∧ n = (M.ps.length : Int)
/-- What is told behind the last call. -/
def Aft (W0 W4 W5 : World) (B : Nat) (was : Value) (n r : Int) : Prop :=
  (r = 0 → Calls Try.prog 26 #[.pointer (some ⟨B, 0, none⟩)] W5 fun z W8 => z = .returned (.int .i64 (n + 1)) ∧ RowKit.Below W0.heap.size W0 W8) ∧
  (r ≠ 0 → RowKit.Below W4.heap.size W4 W5 ∧ Calls Try.prog 21 #[.pointer (some ⟨B, 0, none⟩)] W5 fun v W6 => ∃ x, v = .returned x ∧ Calls Try.prog 29 #[x, was] W6 fun y W7 => y = .returned (.bool true) ∧ Calls Try.prog 26 #[.pointer (some ⟨B, 0, none⟩)] W7 fun z W8 => z = .returned (.int .i64 n) ∧ RowKit.Below W0.heap.size W0 W8)
theorem Rm4.any {W0 W4 : World} {B : Nat} {was : Value} {n : Int} (rm : Rm4 W0 W4 B was n) : ∃ (O : Nat → Prop) (M : Mm) (m0 m1 : Cn) (K : Nat), Sto O B M m0 m1 K W4 ∧ K ≤ 1000000000 ∧ (0 ≤ n ∧ n ≤ 1000000000) ∧ ∀ (g : Nat) (av : Array Value) (o : Ope) (r : Int), Calls Try.prog g av W4 (fun v W' => v = .returned (.int .i64 r) ∧ Left O B M m0 m1 K o r W4 W') → Calls Try.prog g av W4 fun v W5 => v = .returned (.int .i64 r) ∧ Aft W0 W4 W5 B was n r := by
  obtain ⟨O, M, m0, m1, K, lo, hi, L, h, hK, im, hh, hO, bw, rfl⟩ := rm.out
  refine ⟨O, M, m0, m1, K, h, hK, ⟨by omega, by have := h.lp; omega⟩, fun g av o r C => C.mono fun v W5 ⟨q0, q⟩ => ⟨q0, fun hr => ?_, fun hr => ?_⟩⟩
  · rcases q with ⟨_, q⟩ | ⟨q, _⟩
    · exact room_good (fun b z => (hO b z).1) bw W5 q
    · exact absurd hr q
  · rcases q with ⟨q, _⟩ | ⟨_, q⟩
    · exact absurd q hr
    · exact ⟨q, room_bad h (by omega) im bw W5 q⟩
theorem Rm4.sync {W0 W4 : World} {B : Nat} {was : Value} {n : Int} (rm : Rm4 W0 W4 B was n) :
    Calls Try.prog 13 #[.pointer (some ⟨B, 0, none⟩)] W4 fun v W5 => v = .returned (.int .i64 0) ∧
      Calls Try.prog 21 #[.pointer (some ⟨B, 0, none⟩)] W5 fun v W6 => ∃ x, v = .returned x ∧ Calls Try.prog 29 #[x, was] W6 fun y W7 => y = .returned (.bool true) ∧
        Calls Try.prog 22 #[.pointer (some ⟨B, 0, none⟩)] W7 fun v W8 => ∃ x, v = .returned x ∧ Calls Try.prog 29 #[x, was] W8 fun y W9 => y = .returned (.bool true) ∧ RowKit.Below W0.heap.size W0 W9 := by
  obtain ⟨O, M, m0, m1, K, lo, hi, L, h, hK, im, hh, hO, bw, _⟩ := rm.out
  exact room_sync h (by omega) im hh hO bw
theorem Rs.later {W W2 : World} {pa : Option Addr} {sc : List Sp} (h : Rs W pa sc) (b : RowKit.Below W.heap.size W W2) : Rs W2 pa sc := by
  rcases h with h | ⟨g, o, h1, h2, h3⟩
  · exact .inl h
  · refine .inr ⟨g, o, h1, Nat.lt_of_lt_of_le h2 b.size, fun i hi => ?_⟩
    obtain ⟨q1, q2, q3, q4, q5⟩ := h3 i hi
    exact ⟨fun j u hj => (b.cell (p := ⟨g, o + i * 6 + j, none⟩) h2).trans (q1 j u hj), q2.later b, q3, q4, q5⟩
theorem room_start {W : World} {pa : Option Addr} {sc : List Sp} (pc : Nat) (hs : Rs W pa sc) (hK : Ks sc sc.length ≤ 1000000000) (hl : sc.length ≤ 1099511627776) (c : Int) : ∀ W1, RowKit.Below W.heap.size W W1 →
    Calls Try.prog 18 #[.slice pa sc.length pc] W1 fun v W2 => v = .returned (.tuple #[.pointer (some ⟨W1.heap.size, 0, none⟩), .bool true]) ∧
      Calls Try.prog 25 #[.pointer (some ⟨W1.heap.size, 0, none⟩), .int .i64 c] W2 fun v W3 => v = .returned (.int .i64 (if 0 ≤ c ∧ c ≤ 1073741824 then 0 else 1)) ∧
        Calls Try.prog 21 #[.pointer (some ⟨W1.heap.size, 0, none⟩)] W3 fun v W4 => ∃ was, v = .returned was ∧ ∃ n, Calls Try.prog 26 #[.pointer (some ⟨W1.heap.size, 0, none⟩)] W4 (fun z W5 => z = .returned (.int .i64 n) ∧ W5 = W4) ∧ RowKit.Below W1.heap.size W1 W4 ∧ Rm4 W W4 W1.heap.size was n := by
  intro W1 b1
  refine (played_any pc (hs.later b1) (Nat.le_trans hK (by omega)) hl).mono fun v W2 ⟨q0, st, b2⟩ => ⟨q0, ?_⟩
  obtain ⟨M, h1, _⟩ := st.wn
  refine (SetCapacity_any h1 c).mono fun v W3 ⟨r0, ⟨M3, h3, e3, _⟩, f3⟩ => ⟨r0, ?_⟩
  have b3 : RowKit.Below W1.heap.size W1 W3 := b2.trans (f3.below b2.size fun b hb q => by have := q.1; omega)
  refine (Image_any h3 (by omega)).mono fun v W4 ⟨x, e, ⟨L, im⟩, b4⟩ => ⟨x, e, M3.ps.length, Pending_any (h3.later b4), b3.trans (b4.mono b3.size), ⟨_, M3, _, _, _, _, _, L, h3.later b4, by omega, im, Nat.le_refl _, fun b q => ⟨?_, ?_⟩, ?_, rfl⟩⟩
  · exact Nat.le_trans b1.size q.1
  · exact Nat.lt_of_lt_of_le q.2 f3.size
  · exact bl_t b1 (b3.trans (b4.mono b3.size))
set_option maxRecDepth 100000 in
set_option maxHeartbeats 16000000 in
theorem room_walk {W : World} {pa : Option Addr} {sc : List Sp} (pc : Nat) (hs : Rs W pa sc) (hK : Ks sc sc.length ≤ 1000000000) (hl : sc.length ≤ 1099511627776) (c : Int) (p : Sp) (hd : Rb W p.da p.ds) (h0 : p.da = none → p.ds = []) (hx : p.nm.size ≤ maxLen) (hy : p.to.size ≤ maxLen) (hz : p.ds.length ≤ 1000000000) :
    Calls Try.prog 6 #[.slice pa sc.length pc, .int .i64 c, .agg #[.int .i64 p.kd, .string p.nm, .string p.to, .slice p.da p.ds.length p.dc, .int .i64 p.n, .slice p.ka p.kn p.kc]] W fun v W' => v = .returned (.bool true) ∧ RowKit.Below W.heap.size W W' := by
  obtain ⟨N, hN⟩ : ∃ n, n = sc.length := ⟨_, rfl⟩
  have HC0 := hide (room_start pc hs hK hl c)
  rw [← hN] at HC0 ⊢
  obtain ⟨W1, hW1⟩ : ∃ w, w = W.alloc (.cells #[.int .i64 p.kd, .string p.nm, .string p.to, .slice p.da p.ds.length p.dc, .int .i64 p.n, .slice p.ka p.kn p.kc] 57) := ⟨_, rfl⟩
  have b1 : RowKit.Below W.heap.size W W1 := by rw [hW1]; exact (Below.refl _ W).alloc (Nat.le_refl _) _
  have hlt : W.heap.size < W1.heap.size := by rw [hW1, World.size_alloc]; omega
  have D0 : W1.cell? ⟨W.heap.size, 0, none⟩ = some (.int .i64 p.kd) := by rw [hW1]; go_simp
  have D1 : W1.cell? ⟨W.heap.size, 1, none⟩ = some (.string p.nm) := by rw [hW1]; go_simp
  have D2 : W1.cell? ⟨W.heap.size, 2, none⟩ = some (.string p.to) := by rw [hW1]; go_simp
  have D3 : W1.cell? ⟨W.heap.size, 3, none⟩ = some (.slice p.da p.ds.length p.dc) := by rw [hW1]; go_simp
  have D4 : W1.cell? ⟨W.heap.size, 4, none⟩ = some (.int .i64 p.n) := by rw [hW1]; go_simp
  have HB := hide b1
  have HC := hide (unhide HC0 W1 b1)
  have HD := hide (fun W4 (b4 : RowKit.Below W1.heap.size W1 W4) => And.intro ((b4.cell (p := ⟨W.heap.size, 0, none⟩) hlt).trans D0) (And.intro ((b4.cell (p := ⟨W.heap.size, 1, none⟩) hlt).trans D1) (And.intro ((b4.cell (p := ⟨W.heap.size, 2, none⟩) hlt).trans D2) (And.intro ((b4.cell (p := ⟨W.heap.size, 3, none⟩) hlt).trans D3) ((b4.cell (p := ⟨W.heap.size, 4, none⟩) hlt).trans D4)))))
  have HRB := hide hd
  have H0 := hide h0
  have HX := hide hx
  have HY := hide hy
  have HZ := hide hz
  clear D0 D1 D2 D3 D4 hs hK hl hN HC0 b1 hd h0 hx hy hz hlt
  go_enter Try.func6, Try.ntmps6
  go_upto_region 1 with fail
  rw [← hW1]
  clear hW1
  obtain ⟨nc, hnc⟩ : ∃ nc : Int, nc = if 0 ≤ c ∧ c ≤ 1073741824 then 0 else 1 := ⟨_, rfl⟩
  rw [← hnc] at HC
  have C := unhide HC
  clear HC
  go_upto_region 5 with (first
    | (go_at_call 18; refine C.mono ?_; rintro x1 w1 ⟨rfl, C1⟩; clear C; have C := C1; clear C1)
    | (go_at_call 25; refine C.mono ?_; rintro x1 w2 ⟨rfl, C1⟩; clear C; have C := C1; clear C1)
    | (go_at_call 11; refine (num_any _ _).mono ?_; rintro x8 w8 ⟨rfl, rfl⟩))
  have HNC := hide hnc
  have hcc : (c < 0 ∧ nc = 1) ∨ (1073741824 < c ∧ nc = 1) ∨ (0 ≤ c ∧ c ≤ 1073741824 ∧ nc = 0) := by
    rw [hnc]
    by_cases q1 : c < 0
    · exact .inl ⟨q1, if_neg (by omega)⟩
    · by_cases q2 : 1073741824 < c
      · exact .inr (.inl ⟨q2, if_neg (by omega)⟩)
      · exact .inr (.inr ⟨by omega, by omega, if_pos ⟨by omega, by omega⟩⟩)
  clear HNC hnc
  rcases hcc with ⟨hc1, rfl⟩ | ⟨hc1, rfl⟩ | ⟨hc1, hc2, rfl⟩
  · have hc3 : ¬ (c ≥ 0) := by omega
    go_upto_region 10 with (first | (go_at_call 21; refine C.mono ?_; rintro x1 w4 ⟨was, rfl, n, C1, bb, rm4⟩; clear C; have C := C1; clear C1; have HBB := hide bb; have HR4 := hide rm4; clear bb rm4) | (go_at_call 26; refine C.mono ?_; rintro x1 w5 ⟨rfl, rfl⟩; clear C))
    have bb := unhide HBB
    have bw4 := bl_t (unhide HB) bb
    obtain ⟨d0, d1, d2, d3, d4⟩ := unhide HD _ bb
    have bt4 : ∀ {W5 : World}, RowKit.Below w5.heap.size w5 W5 → RowKit.Below W1.heap.size W1 W5 := fun q => bl_t bb q
    clear bb HBB
    by_cases hk1 : p.kd = 1
    · skip
      have hx := unhide HX
      have hy := unhide HY
      have hz := unhide HZ
      have hd := unhide HRB
      have h0 := unhide H0
      obtain ⟨O, M, m0, m1, K, hS, hKK, hn, X⟩ := (unhide HR4).any
      have C0 := X _ _ (.wr p.nm p.ds) _ (Write_any hS hx p.dc (hd.later bw4) h0 (by omega))
      generalize wrR m0 M.u0 M.cap p.nm p.ds.length = r at *
      have C := C0
      clear C0 X hS hKK hx hy hz hd h0 bw4 HX HY HZ HRB H0 HR4 HB
      by_cases hr0 : r = 0
      · subst hr0
        have C2 := C.mono fun v W5 (q : v = .returned (.int .i64 0) ∧ Aft W w5 W5 W1.heap.size was n 0) => And.intro q.1 (q.2.1 rfl)
        clear C
        have C := C2
        clear C2
        go_wp2_with (first | (go_at_call 12; refine C.mono ?_; rintro x9 w9 ⟨rfl, C1⟩; clear C; have C := C1; clear C1) | (go_at_call 11; refine (num_any _ _).mono ?_; rintro x8 w8 ⟨rfl, rfl⟩) | (go_at_call 26; refine C.mono ?_; rintro x9 w9 ⟨rfl, HF⟩; have HF := hide HF; clear C))
        go_ret
        exact ⟨rfl, unhide HF⟩
      · have C2 := C.mono fun v W5 (q : v = .returned (.int .i64 r) ∧ Aft W w5 W5 W1.heap.size was n r) => And.intro q.1 (q.2.2 hr0)
        clear C
        have C := C2
        clear C2
        by_cases h142 : r = 142
        · subst h142
          go_wp2_with (first | (go_at_call 12; refine C.mono ?_; rintro x9 w9 ⟨rfl, BB, C1⟩; clear C; have C := C1; clear C1; have d0 := (unhide HD _ (bt4 BB)).1; clear BB) | (go_at_call 11; refine (num_any _ _).mono ?_; rintro x8 w8 ⟨rfl, rfl⟩) | (go_at_call 21; refine C.mono ?_; rintro x9 w9 ⟨vx, rfl, C1⟩; clear C; have C := C1; clear C1) | (go_at_call 29; refine C.mono ?_; rintro x9 w9 ⟨rfl, C1⟩; clear C; have C := C1; clear C1) | (go_at_call 26; refine C.mono ?_; rintro x9 w9 ⟨rfl, HF⟩; have HF := hide HF; clear C))
          go_ret
          exact ⟨rfl, unhide HF⟩
        · skip
          go_wp2_with (first | (go_at_call 12; refine C.mono ?_; rintro x9 w9 ⟨rfl, BB, C1⟩; clear C; have C := C1; clear C1; have d0 := (unhide HD _ (bt4 BB)).1; clear BB) | (go_at_call 11; refine (num_any _ _).mono ?_; rintro x8 w8 ⟨rfl, rfl⟩) | (go_at_call 21; refine C.mono ?_; rintro x9 w9 ⟨vx, rfl, C1⟩; clear C; have C := C1; clear C1) | (go_at_call 29; refine C.mono ?_; rintro x9 w9 ⟨rfl, C1⟩; clear C; have C := C1; clear C1) | (go_at_call 26; refine C.mono ?_; rintro x9 w9 ⟨rfl, HF⟩; have HF := hide HF; clear C))
          go_ret
          exact ⟨rfl, unhide HF⟩
    · skip
      by_cases hk2 : p.kd = 2
      · skip
        have hx := unhide HX
        have hy := unhide HY
        have hz := unhide HZ
        have hd := unhide HRB
        have h0 := unhide H0
        obtain ⟨O, M, m0, m1, K, hS, hKK, hn, X⟩ := (unhide HR4).any
        have C0 := X _ _ (.ap p.nm p.ds) _ (Append_any hS hx p.dc (hd.later bw4) h0 (by omega))
        generalize apR m0 M.u0 M.cap p.nm p.ds.length = r at *
        have C := C0
        clear C0 X hS hKK hx hy hz hd h0 bw4 HX HY HZ HRB H0 HR4 HB
        by_cases hr0 : r = 0
        · subst hr0
          have C2 := C.mono fun v W5 (q : v = .returned (.int .i64 0) ∧ Aft W w5 W5 W1.heap.size was n 0) => And.intro q.1 (q.2.1 rfl)
          clear C
          have C := C2
          clear C2
          go_wp2_with (first | (go_at_call 15; refine C.mono ?_; rintro x9 w9 ⟨rfl, C1⟩; clear C; have C := C1; clear C1) | (go_at_call 11; refine (num_any _ _).mono ?_; rintro x8 w8 ⟨rfl, rfl⟩) | (go_at_call 26; refine C.mono ?_; rintro x9 w9 ⟨rfl, HF⟩; have HF := hide HF; clear C))
          go_ret
          exact ⟨rfl, unhide HF⟩
        · have C2 := C.mono fun v W5 (q : v = .returned (.int .i64 r) ∧ Aft W w5 W5 W1.heap.size was n r) => And.intro q.1 (q.2.2 hr0)
          clear C
          have C := C2
          clear C2
          by_cases h142 : r = 142
          · subst h142
            go_wp2_with (first | (go_at_call 15; refine C.mono ?_; rintro x9 w9 ⟨rfl, BB, C1⟩; clear C; have C := C1; clear C1; have d0 := (unhide HD _ (bt4 BB)).1; clear BB) | (go_at_call 11; refine (num_any _ _).mono ?_; rintro x8 w8 ⟨rfl, rfl⟩) | (go_at_call 21; refine C.mono ?_; rintro x9 w9 ⟨vx, rfl, C1⟩; clear C; have C := C1; clear C1) | (go_at_call 29; refine C.mono ?_; rintro x9 w9 ⟨rfl, C1⟩; clear C; have C := C1; clear C1) | (go_at_call 26; refine C.mono ?_; rintro x9 w9 ⟨rfl, HF⟩; have HF := hide HF; clear C))
            go_ret
            exact ⟨rfl, unhide HF⟩
          · skip
            go_wp2_with (first | (go_at_call 15; refine C.mono ?_; rintro x9 w9 ⟨rfl, BB, C1⟩; clear C; have C := C1; clear C1; have d0 := (unhide HD _ (bt4 BB)).1; clear BB) | (go_at_call 11; refine (num_any _ _).mono ?_; rintro x8 w8 ⟨rfl, rfl⟩) | (go_at_call 21; refine C.mono ?_; rintro x9 w9 ⟨vx, rfl, C1⟩; clear C; have C := C1; clear C1) | (go_at_call 29; refine C.mono ?_; rintro x9 w9 ⟨rfl, C1⟩; clear C; have C := C1; clear C1) | (go_at_call 26; refine C.mono ?_; rintro x9 w9 ⟨rfl, HF⟩; have HF := hide HF; clear C))
            go_ret
            exact ⟨rfl, unhide HF⟩
      · skip
        by_cases hk3 : p.kd = 3
        · skip
          have hx := unhide HX
          have hy := unhide HY
          have hz := unhide HZ
          have hd := unhide HRB
          have h0 := unhide H0
          obtain ⟨O, M, m0, m1, K, hS, hKK, hn, X⟩ := (unhide HR4).any
          have C0 := X _ _ (.tr p.nm p.n) _ (Truncate_any hS hx p.n (by omega))
          have h142 := tr_142 m0 p.nm p.n
          generalize trR m0 p.nm p.n = r at *
          have C := C0
          clear C0 X hS hKK hx hy hz hd h0 bw4 HX HY HZ HRB H0 HR4 HB
          by_cases hr0 : r = 0
          · subst hr0
            have C2 := C.mono fun v W5 (q : v = .returned (.int .i64 0) ∧ Aft W w5 W5 W1.heap.size was n 0) => And.intro q.1 (q.2.1 rfl)
            clear C
            have C := C2
            clear C2 h142
            go_wp2_with (first | (go_at_call 27; refine C.mono ?_; rintro x9 w9 ⟨rfl, C1⟩; clear C; have C := C1; clear C1) | (go_at_call 11; refine (num_any _ _).mono ?_; rintro x8 w8 ⟨rfl, rfl⟩) | (go_at_call 26; refine C.mono ?_; rintro x9 w9 ⟨rfl, HF⟩; have HF := hide HF; clear C))
            go_ret
            exact ⟨rfl, unhide HF⟩
          · have C2 := C.mono fun v W5 (q : v = .returned (.int .i64 r) ∧ Aft W w5 W5 W1.heap.size was n r) => And.intro q.1 (q.2.2 hr0)
            clear C
            have C := C2
            clear C2
            go_wp2_with (first | (go_at_call 27; refine C.mono ?_; rintro x9 w9 ⟨rfl, BB, C1⟩; clear C; have C := C1; clear C1; have d0 := (unhide HD _ (bt4 BB)).1; clear BB) | (go_at_call 11; refine (num_any _ _).mono ?_; rintro x8 w8 ⟨rfl, rfl⟩) | (go_at_call 21; refine C.mono ?_; rintro x9 w9 ⟨vx, rfl, C1⟩; clear C; have C := C1; clear C1) | (go_at_call 29; refine C.mono ?_; rintro x9 w9 ⟨rfl, C1⟩; clear C; have C := C1; clear C1) | (go_at_call 26; refine C.mono ?_; rintro x9 w9 ⟨rfl, HF⟩; have HF := hide HF; clear C))
            go_ret
            exact ⟨rfl, unhide HF⟩
        · skip
          by_cases hk4 : p.kd = 4
          · skip
            have hx := unhide HX
            have hy := unhide HY
            have hz := unhide HZ
            have hd := unhide HRB
            have h0 := unhide H0
            obtain ⟨O, M, m0, m1, K, hS, hKK, hn, X⟩ := (unhide HR4).any
            have C0 := X _ _ (.rn p.nm p.to) _ (Rename_any hS hx hy (by omega))
            have h142 := rn_142 m0 p.nm p.to
            generalize rnR m0 p.nm p.to = r at *
            have C := C0
            clear C0 X hS hKK hx hy hz hd h0 bw4 HX HY HZ HRB H0 HR4 HB
            by_cases hr0 : r = 0
            · subst hr0
              have C2 := C.mono fun v W5 (q : v = .returned (.int .i64 0) ∧ Aft W w5 W5 W1.heap.size was n 0) => And.intro q.1 (q.2.1 rfl)
              clear C
              have C := C2
              clear C2 h142
              go_wp2_with (first | (go_at_call 28; refine C.mono ?_; rintro x9 w9 ⟨rfl, C1⟩; clear C; have C := C1; clear C1) | (go_at_call 11; refine (num_any _ _).mono ?_; rintro x8 w8 ⟨rfl, rfl⟩) | (go_at_call 26; refine C.mono ?_; rintro x9 w9 ⟨rfl, HF⟩; have HF := hide HF; clear C))
              go_ret
              exact ⟨rfl, unhide HF⟩
            · have C2 := C.mono fun v W5 (q : v = .returned (.int .i64 r) ∧ Aft W w5 W5 W1.heap.size was n r) => And.intro q.1 (q.2.2 hr0)
              clear C
              have C := C2
              clear C2
              go_wp2_with (first | (go_at_call 28; refine C.mono ?_; rintro x9 w9 ⟨rfl, BB, C1⟩; clear C; have C := C1; clear C1; have d0 := (unhide HD _ (bt4 BB)).1; clear BB) | (go_at_call 11; refine (num_any _ _).mono ?_; rintro x8 w8 ⟨rfl, rfl⟩) | (go_at_call 21; refine C.mono ?_; rintro x9 w9 ⟨vx, rfl, C1⟩; clear C; have C := C1; clear C1) | (go_at_call 29; refine C.mono ?_; rintro x9 w9 ⟨rfl, C1⟩; clear C; have C := C1; clear C1) | (go_at_call 26; refine C.mono ?_; rintro x9 w9 ⟨rfl, HF⟩; have HF := hide HF; clear C))
              go_ret
              exact ⟨rfl, unhide HF⟩
          · skip
            by_cases hk5 : p.kd = 5
            · skip
              have hx := unhide HX
              have hy := unhide HY
              have hz := unhide HZ
              have hd := unhide HRB
              have h0 := unhide H0
              obtain ⟨O, M, m0, m1, K, hS, hKK, hn, X⟩ := (unhide HR4).any
              have C0 := X _ _ (.rm p.nm) _ (Remove_any hS hx (by omega))
              have h142 := rm_142 m0 p.nm
              generalize rmR m0 p.nm = r at *
              have C := C0
              clear C0 X hS hKK hx hy hz hd h0 bw4 HX HY HZ HRB H0 HR4 HB
              by_cases hr0 : r = 0
              · subst hr0
                have C2 := C.mono fun v W5 (q : v = .returned (.int .i64 0) ∧ Aft W w5 W5 W1.heap.size was n 0) => And.intro q.1 (q.2.1 rfl)
                clear C
                have C := C2
                clear C2 h142
                go_wp2_with (first | (go_at_call 24; refine C.mono ?_; rintro x9 w9 ⟨rfl, C1⟩; clear C; have C := C1; clear C1) | (go_at_call 11; refine (num_any _ _).mono ?_; rintro x8 w8 ⟨rfl, rfl⟩) | (go_at_call 26; refine C.mono ?_; rintro x9 w9 ⟨rfl, HF⟩; have HF := hide HF; clear C))
                go_ret
                exact ⟨rfl, unhide HF⟩
              · have C2 := C.mono fun v W5 (q : v = .returned (.int .i64 r) ∧ Aft W w5 W5 W1.heap.size was n r) => And.intro q.1 (q.2.2 hr0)
                clear C
                have C := C2
                clear C2
                go_wp2_with (first | (go_at_call 24; refine C.mono ?_; rintro x9 w9 ⟨rfl, BB, C1⟩; clear C; have C := C1; clear C1; have d0 := (unhide HD _ (bt4 BB)).1; clear BB) | (go_at_call 11; refine (num_any _ _).mono ?_; rintro x8 w8 ⟨rfl, rfl⟩) | (go_at_call 21; refine C.mono ?_; rintro x9 w9 ⟨vx, rfl, C1⟩; clear C; have C := C1; clear C1) | (go_at_call 29; refine C.mono ?_; rintro x9 w9 ⟨rfl, C1⟩; clear C; have C := C1; clear C1) | (go_at_call 26; refine C.mono ?_; rintro x9 w9 ⟨rfl, HF⟩; have HF := hide HF; clear C))
                go_ret
                exact ⟨rfl, unhide HF⟩
            · skip
              have C := (unhide HR4).sync
              clear bw4 HX HY HZ HRB H0 HR4 HB bt4
              go_wp2_with (first | (go_at_call 13; refine C.mono ?_; rintro x9 w9 ⟨rfl, C1⟩; clear C; have C := C1; clear C1) | (go_at_call 11; refine (num_any _ _).mono ?_; rintro x8 w8 ⟨rfl, rfl⟩) | (go_at_call 21; refine C.mono ?_; rintro x9 w9 ⟨vx, rfl, C1⟩; clear C; have C := C1; clear C1) | (go_at_call 22; refine C.mono ?_; rintro x9 w9 ⟨vx, rfl, C1⟩; clear C; have G1 : Hid True := hide trivial; have C := C1; clear C1) | (go_at_call 29; have _u := G1; clear _u; refine C.mono ?_; rintro x9 w9 ⟨rfl, HF⟩; have HF := hide HF; clear C G1) | (go_at_call 29; refine C.mono ?_; rintro x9 w9 ⟨rfl, C1⟩; clear C; have C := C1; clear C1) | (go_at_call 9; refine (little_any _).mono ?_; rintro x9 w9 ⟨rfl, b9⟩; have HG := hide (bl_t (unhide HF) b9); clear b9))
              go_ret
              exact ⟨rfl, unhide HG⟩
  · have hc3 : c ≥ 0 := by omega
    have hc4 : ¬ (c ≤ 1073741824) := by omega
    go_upto_region 10 with (first | (go_at_call 21; refine C.mono ?_; rintro x1 w4 ⟨was, rfl, n, C1, bb, rm4⟩; clear C; have C := C1; clear C1; have HBB := hide bb; have HR4 := hide rm4; clear bb rm4) | (go_at_call 26; refine C.mono ?_; rintro x1 w5 ⟨rfl, rfl⟩; clear C))
    have bb := unhide HBB
    have bw4 := bl_t (unhide HB) bb
    obtain ⟨d0, d1, d2, d3, d4⟩ := unhide HD _ bb
    have bt4 : ∀ {W5 : World}, RowKit.Below w5.heap.size w5 W5 → RowKit.Below W1.heap.size W1 W5 := fun q => bl_t bb q
    clear bb HBB
    by_cases hk1 : p.kd = 1
    · skip
      have hx := unhide HX
      have hy := unhide HY
      have hz := unhide HZ
      have hd := unhide HRB
      have h0 := unhide H0
      obtain ⟨O, M, m0, m1, K, hS, hKK, hn, X⟩ := (unhide HR4).any
      have C0 := X _ _ (.wr p.nm p.ds) _ (Write_any hS hx p.dc (hd.later bw4) h0 (by omega))
      generalize wrR m0 M.u0 M.cap p.nm p.ds.length = r at *
      have C := C0
      clear C0 X hS hKK hx hy hz hd h0 bw4 HX HY HZ HRB H0 HR4 HB
      by_cases hr0 : r = 0
      · subst hr0
        have C2 := C.mono fun v W5 (q : v = .returned (.int .i64 0) ∧ Aft W w5 W5 W1.heap.size was n 0) => And.intro q.1 (q.2.1 rfl)
        clear C
        have C := C2
        clear C2
        go_wp2_with (first | (go_at_call 12; refine C.mono ?_; rintro x9 w9 ⟨rfl, C1⟩; clear C; have C := C1; clear C1) | (go_at_call 11; refine (num_any _ _).mono ?_; rintro x8 w8 ⟨rfl, rfl⟩) | (go_at_call 26; refine C.mono ?_; rintro x9 w9 ⟨rfl, HF⟩; have HF := hide HF; clear C))
        go_ret
        exact ⟨rfl, unhide HF⟩
      · have C2 := C.mono fun v W5 (q : v = .returned (.int .i64 r) ∧ Aft W w5 W5 W1.heap.size was n r) => And.intro q.1 (q.2.2 hr0)
        clear C
        have C := C2
        clear C2
        by_cases h142 : r = 142
        · subst h142
          go_wp2_with (first | (go_at_call 12; refine C.mono ?_; rintro x9 w9 ⟨rfl, BB, C1⟩; clear C; have C := C1; clear C1; have d0 := (unhide HD _ (bt4 BB)).1; clear BB) | (go_at_call 11; refine (num_any _ _).mono ?_; rintro x8 w8 ⟨rfl, rfl⟩) | (go_at_call 21; refine C.mono ?_; rintro x9 w9 ⟨vx, rfl, C1⟩; clear C; have C := C1; clear C1) | (go_at_call 29; refine C.mono ?_; rintro x9 w9 ⟨rfl, C1⟩; clear C; have C := C1; clear C1) | (go_at_call 26; refine C.mono ?_; rintro x9 w9 ⟨rfl, HF⟩; have HF := hide HF; clear C))
          go_ret
          exact ⟨rfl, unhide HF⟩
        · skip
          go_wp2_with (first | (go_at_call 12; refine C.mono ?_; rintro x9 w9 ⟨rfl, BB, C1⟩; clear C; have C := C1; clear C1; have d0 := (unhide HD _ (bt4 BB)).1; clear BB) | (go_at_call 11; refine (num_any _ _).mono ?_; rintro x8 w8 ⟨rfl, rfl⟩) | (go_at_call 21; refine C.mono ?_; rintro x9 w9 ⟨vx, rfl, C1⟩; clear C; have C := C1; clear C1) | (go_at_call 29; refine C.mono ?_; rintro x9 w9 ⟨rfl, C1⟩; clear C; have C := C1; clear C1) | (go_at_call 26; refine C.mono ?_; rintro x9 w9 ⟨rfl, HF⟩; have HF := hide HF; clear C))
          go_ret
          exact ⟨rfl, unhide HF⟩
    · skip
      by_cases hk2 : p.kd = 2
      · skip
        have hx := unhide HX
        have hy := unhide HY
        have hz := unhide HZ
        have hd := unhide HRB
        have h0 := unhide H0
        obtain ⟨O, M, m0, m1, K, hS, hKK, hn, X⟩ := (unhide HR4).any
        have C0 := X _ _ (.ap p.nm p.ds) _ (Append_any hS hx p.dc (hd.later bw4) h0 (by omega))
        generalize apR m0 M.u0 M.cap p.nm p.ds.length = r at *
        have C := C0
        clear C0 X hS hKK hx hy hz hd h0 bw4 HX HY HZ HRB H0 HR4 HB
        by_cases hr0 : r = 0
        · subst hr0
          have C2 := C.mono fun v W5 (q : v = .returned (.int .i64 0) ∧ Aft W w5 W5 W1.heap.size was n 0) => And.intro q.1 (q.2.1 rfl)
          clear C
          have C := C2
          clear C2
          go_wp2_with (first | (go_at_call 15; refine C.mono ?_; rintro x9 w9 ⟨rfl, C1⟩; clear C; have C := C1; clear C1) | (go_at_call 11; refine (num_any _ _).mono ?_; rintro x8 w8 ⟨rfl, rfl⟩) | (go_at_call 26; refine C.mono ?_; rintro x9 w9 ⟨rfl, HF⟩; have HF := hide HF; clear C))
          go_ret
          exact ⟨rfl, unhide HF⟩
        · have C2 := C.mono fun v W5 (q : v = .returned (.int .i64 r) ∧ Aft W w5 W5 W1.heap.size was n r) => And.intro q.1 (q.2.2 hr0)
          clear C
          have C := C2
          clear C2
          by_cases h142 : r = 142
          · subst h142
            go_wp2_with (first | (go_at_call 15; refine C.mono ?_; rintro x9 w9 ⟨rfl, BB, C1⟩; clear C; have C := C1; clear C1; have d0 := (unhide HD _ (bt4 BB)).1; clear BB) | (go_at_call 11; refine (num_any _ _).mono ?_; rintro x8 w8 ⟨rfl, rfl⟩) | (go_at_call 21; refine C.mono ?_; rintro x9 w9 ⟨vx, rfl, C1⟩; clear C; have C := C1; clear C1) | (go_at_call 29; refine C.mono ?_; rintro x9 w9 ⟨rfl, C1⟩; clear C; have C := C1; clear C1) | (go_at_call 26; refine C.mono ?_; rintro x9 w9 ⟨rfl, HF⟩; have HF := hide HF; clear C))
            go_ret
            exact ⟨rfl, unhide HF⟩
          · skip
            go_wp2_with (first | (go_at_call 15; refine C.mono ?_; rintro x9 w9 ⟨rfl, BB, C1⟩; clear C; have C := C1; clear C1; have d0 := (unhide HD _ (bt4 BB)).1; clear BB) | (go_at_call 11; refine (num_any _ _).mono ?_; rintro x8 w8 ⟨rfl, rfl⟩) | (go_at_call 21; refine C.mono ?_; rintro x9 w9 ⟨vx, rfl, C1⟩; clear C; have C := C1; clear C1) | (go_at_call 29; refine C.mono ?_; rintro x9 w9 ⟨rfl, C1⟩; clear C; have C := C1; clear C1) | (go_at_call 26; refine C.mono ?_; rintro x9 w9 ⟨rfl, HF⟩; have HF := hide HF; clear C))
            go_ret
            exact ⟨rfl, unhide HF⟩
      · skip
        by_cases hk3 : p.kd = 3
        · skip
          have hx := unhide HX
          have hy := unhide HY
          have hz := unhide HZ
          have hd := unhide HRB
          have h0 := unhide H0
          obtain ⟨O, M, m0, m1, K, hS, hKK, hn, X⟩ := (unhide HR4).any
          have C0 := X _ _ (.tr p.nm p.n) _ (Truncate_any hS hx p.n (by omega))
          have h142 := tr_142 m0 p.nm p.n
          generalize trR m0 p.nm p.n = r at *
          have C := C0
          clear C0 X hS hKK hx hy hz hd h0 bw4 HX HY HZ HRB H0 HR4 HB
          by_cases hr0 : r = 0
          · subst hr0
            have C2 := C.mono fun v W5 (q : v = .returned (.int .i64 0) ∧ Aft W w5 W5 W1.heap.size was n 0) => And.intro q.1 (q.2.1 rfl)
            clear C
            have C := C2
            clear C2 h142
            go_wp2_with (first | (go_at_call 27; refine C.mono ?_; rintro x9 w9 ⟨rfl, C1⟩; clear C; have C := C1; clear C1) | (go_at_call 11; refine (num_any _ _).mono ?_; rintro x8 w8 ⟨rfl, rfl⟩) | (go_at_call 26; refine C.mono ?_; rintro x9 w9 ⟨rfl, HF⟩; have HF := hide HF; clear C))
            go_ret
            exact ⟨rfl, unhide HF⟩
          · have C2 := C.mono fun v W5 (q : v = .returned (.int .i64 r) ∧ Aft W w5 W5 W1.heap.size was n r) => And.intro q.1 (q.2.2 hr0)
            clear C
            have C := C2
            clear C2
            go_wp2_with (first | (go_at_call 27; refine C.mono ?_; rintro x9 w9 ⟨rfl, BB, C1⟩; clear C; have C := C1; clear C1; have d0 := (unhide HD _ (bt4 BB)).1; clear BB) | (go_at_call 11; refine (num_any _ _).mono ?_; rintro x8 w8 ⟨rfl, rfl⟩) | (go_at_call 21; refine C.mono ?_; rintro x9 w9 ⟨vx, rfl, C1⟩; clear C; have C := C1; clear C1) | (go_at_call 29; refine C.mono ?_; rintro x9 w9 ⟨rfl, C1⟩; clear C; have C := C1; clear C1) | (go_at_call 26; refine C.mono ?_; rintro x9 w9 ⟨rfl, HF⟩; have HF := hide HF; clear C))
            go_ret
            exact ⟨rfl, unhide HF⟩
        · skip
          by_cases hk4 : p.kd = 4
          · skip
            have hx := unhide HX
            have hy := unhide HY
            have hz := unhide HZ
            have hd := unhide HRB
            have h0 := unhide H0
            obtain ⟨O, M, m0, m1, K, hS, hKK, hn, X⟩ := (unhide HR4).any
            have C0 := X _ _ (.rn p.nm p.to) _ (Rename_any hS hx hy (by omega))
            have h142 := rn_142 m0 p.nm p.to
            generalize rnR m0 p.nm p.to = r at *
            have C := C0
            clear C0 X hS hKK hx hy hz hd h0 bw4 HX HY HZ HRB H0 HR4 HB
            by_cases hr0 : r = 0
            · subst hr0
              have C2 := C.mono fun v W5 (q : v = .returned (.int .i64 0) ∧ Aft W w5 W5 W1.heap.size was n 0) => And.intro q.1 (q.2.1 rfl)
              clear C
              have C := C2
              clear C2 h142
              go_wp2_with (first | (go_at_call 28; refine C.mono ?_; rintro x9 w9 ⟨rfl, C1⟩; clear C; have C := C1; clear C1) | (go_at_call 11; refine (num_any _ _).mono ?_; rintro x8 w8 ⟨rfl, rfl⟩) | (go_at_call 26; refine C.mono ?_; rintro x9 w9 ⟨rfl, HF⟩; have HF := hide HF; clear C))
              go_ret
              exact ⟨rfl, unhide HF⟩
            · have C2 := C.mono fun v W5 (q : v = .returned (.int .i64 r) ∧ Aft W w5 W5 W1.heap.size was n r) => And.intro q.1 (q.2.2 hr0)
              clear C
              have C := C2
              clear C2
              go_wp2_with (first | (go_at_call 28; refine C.mono ?_; rintro x9 w9 ⟨rfl, BB, C1⟩; clear C; have C := C1; clear C1; have d0 := (unhide HD _ (bt4 BB)).1; clear BB) | (go_at_call 11; refine (num_any _ _).mono ?_; rintro x8 w8 ⟨rfl, rfl⟩) | (go_at_call 21; refine C.mono ?_; rintro x9 w9 ⟨vx, rfl, C1⟩; clear C; have C := C1; clear C1) | (go_at_call 29; refine C.mono ?_; rintro x9 w9 ⟨rfl, C1⟩; clear C; have C := C1; clear C1) | (go_at_call 26; refine C.mono ?_; rintro x9 w9 ⟨rfl, HF⟩; have HF := hide HF; clear C))
              go_ret
              exact ⟨rfl, unhide HF⟩
          · skip
            by_cases hk5 : p.kd = 5
            · skip
              have hx := unhide HX
              have hy := unhide HY
              have hz := unhide HZ
              have hd := unhide HRB
              have h0 := unhide H0
              obtain ⟨O, M, m0, m1, K, hS, hKK, hn, X⟩ := (unhide HR4).any
              have C0 := X _ _ (.rm p.nm) _ (Remove_any hS hx (by omega))
              have h142 := rm_142 m0 p.nm
              generalize rmR m0 p.nm = r at *
              have C := C0
              clear C0 X hS hKK hx hy hz hd h0 bw4 HX HY HZ HRB H0 HR4 HB
              by_cases hr0 : r = 0
              · subst hr0
                have C2 := C.mono fun v W5 (q : v = .returned (.int .i64 0) ∧ Aft W w5 W5 W1.heap.size was n 0) => And.intro q.1 (q.2.1 rfl)
                clear C
                have C := C2
                clear C2 h142
                go_wp2_with (first | (go_at_call 24; refine C.mono ?_; rintro x9 w9 ⟨rfl, C1⟩; clear C; have C := C1; clear C1) | (go_at_call 11; refine (num_any _ _).mono ?_; rintro x8 w8 ⟨rfl, rfl⟩) | (go_at_call 26; refine C.mono ?_; rintro x9 w9 ⟨rfl, HF⟩; have HF := hide HF; clear C))
                go_ret
                exact ⟨rfl, unhide HF⟩
              · have C2 := C.mono fun v W5 (q : v = .returned (.int .i64 r) ∧ Aft W w5 W5 W1.heap.size was n r) => And.intro q.1 (q.2.2 hr0)
                clear C
                have C := C2
                clear C2
                go_wp2_with (first | (go_at_call 24; refine C.mono ?_; rintro x9 w9 ⟨rfl, BB, C1⟩; clear C; have C := C1; clear C1; have d0 := (unhide HD _ (bt4 BB)).1; clear BB) | (go_at_call 11; refine (num_any _ _).mono ?_; rintro x8 w8 ⟨rfl, rfl⟩) | (go_at_call 21; refine C.mono ?_; rintro x9 w9 ⟨vx, rfl, C1⟩; clear C; have C := C1; clear C1) | (go_at_call 29; refine C.mono ?_; rintro x9 w9 ⟨rfl, C1⟩; clear C; have C := C1; clear C1) | (go_at_call 26; refine C.mono ?_; rintro x9 w9 ⟨rfl, HF⟩; have HF := hide HF; clear C))
                go_ret
                exact ⟨rfl, unhide HF⟩
            · skip
              have C := (unhide HR4).sync
              clear bw4 HX HY HZ HRB H0 HR4 HB bt4
              go_wp2_with (first | (go_at_call 13; refine C.mono ?_; rintro x9 w9 ⟨rfl, C1⟩; clear C; have C := C1; clear C1) | (go_at_call 11; refine (num_any _ _).mono ?_; rintro x8 w8 ⟨rfl, rfl⟩) | (go_at_call 21; refine C.mono ?_; rintro x9 w9 ⟨vx, rfl, C1⟩; clear C; have C := C1; clear C1) | (go_at_call 22; refine C.mono ?_; rintro x9 w9 ⟨vx, rfl, C1⟩; clear C; have G1 : Hid True := hide trivial; have C := C1; clear C1) | (go_at_call 29; have _u := G1; clear _u; refine C.mono ?_; rintro x9 w9 ⟨rfl, HF⟩; have HF := hide HF; clear C G1) | (go_at_call 29; refine C.mono ?_; rintro x9 w9 ⟨rfl, C1⟩; clear C; have C := C1; clear C1) | (go_at_call 9; refine (little_any _).mono ?_; rintro x9 w9 ⟨rfl, b9⟩; have HG := hide (bl_t (unhide HF) b9); clear b9))
              go_ret
              exact ⟨rfl, unhide HG⟩
  · have hc3 : c ≥ 0 := by omega
    go_upto_region 10 with (first | (go_at_call 21; refine C.mono ?_; rintro x1 w4 ⟨was, rfl, n, C1, bb, rm4⟩; clear C; have C := C1; clear C1; have HBB := hide bb; have HR4 := hide rm4; clear bb rm4) | (go_at_call 26; refine C.mono ?_; rintro x1 w5 ⟨rfl, rfl⟩; clear C))
    have bb := unhide HBB
    have bw4 := bl_t (unhide HB) bb
    obtain ⟨d0, d1, d2, d3, d4⟩ := unhide HD _ bb
    have bt4 : ∀ {W5 : World}, RowKit.Below w5.heap.size w5 W5 → RowKit.Below W1.heap.size W1 W5 := fun q => bl_t bb q
    clear bb HBB
    by_cases hk1 : p.kd = 1
    · skip
      have hx := unhide HX
      have hy := unhide HY
      have hz := unhide HZ
      have hd := unhide HRB
      have h0 := unhide H0
      obtain ⟨O, M, m0, m1, K, hS, hKK, hn, X⟩ := (unhide HR4).any
      have C0 := X _ _ (.wr p.nm p.ds) _ (Write_any hS hx p.dc (hd.later bw4) h0 (by omega))
      generalize wrR m0 M.u0 M.cap p.nm p.ds.length = r at *
      have C := C0
      clear C0 X hS hKK hx hy hz hd h0 bw4 HX HY HZ HRB H0 HR4 HB
      by_cases hr0 : r = 0
      · subst hr0
        have C2 := C.mono fun v W5 (q : v = .returned (.int .i64 0) ∧ Aft W w5 W5 W1.heap.size was n 0) => And.intro q.1 (q.2.1 rfl)
        clear C
        have C := C2
        clear C2
        go_wp2_with (first | (go_at_call 12; refine C.mono ?_; rintro x9 w9 ⟨rfl, C1⟩; clear C; have C := C1; clear C1) | (go_at_call 11; refine (num_any _ _).mono ?_; rintro x8 w8 ⟨rfl, rfl⟩) | (go_at_call 26; refine C.mono ?_; rintro x9 w9 ⟨rfl, HF⟩; have HF := hide HF; clear C))
        go_ret
        exact ⟨rfl, unhide HF⟩
      · have C2 := C.mono fun v W5 (q : v = .returned (.int .i64 r) ∧ Aft W w5 W5 W1.heap.size was n r) => And.intro q.1 (q.2.2 hr0)
        clear C
        have C := C2
        clear C2
        by_cases h142 : r = 142
        · subst h142
          go_wp2_with (first | (go_at_call 12; refine C.mono ?_; rintro x9 w9 ⟨rfl, BB, C1⟩; clear C; have C := C1; clear C1; have d0 := (unhide HD _ (bt4 BB)).1; clear BB) | (go_at_call 11; refine (num_any _ _).mono ?_; rintro x8 w8 ⟨rfl, rfl⟩) | (go_at_call 21; refine C.mono ?_; rintro x9 w9 ⟨vx, rfl, C1⟩; clear C; have C := C1; clear C1) | (go_at_call 29; refine C.mono ?_; rintro x9 w9 ⟨rfl, C1⟩; clear C; have C := C1; clear C1) | (go_at_call 26; refine C.mono ?_; rintro x9 w9 ⟨rfl, HF⟩; have HF := hide HF; clear C))
          go_ret
          exact ⟨rfl, unhide HF⟩
        · skip
          go_wp2_with (first | (go_at_call 12; refine C.mono ?_; rintro x9 w9 ⟨rfl, BB, C1⟩; clear C; have C := C1; clear C1; have d0 := (unhide HD _ (bt4 BB)).1; clear BB) | (go_at_call 11; refine (num_any _ _).mono ?_; rintro x8 w8 ⟨rfl, rfl⟩) | (go_at_call 21; refine C.mono ?_; rintro x9 w9 ⟨vx, rfl, C1⟩; clear C; have C := C1; clear C1) | (go_at_call 29; refine C.mono ?_; rintro x9 w9 ⟨rfl, C1⟩; clear C; have C := C1; clear C1) | (go_at_call 26; refine C.mono ?_; rintro x9 w9 ⟨rfl, HF⟩; have HF := hide HF; clear C))
          go_ret
          exact ⟨rfl, unhide HF⟩
    · skip
      by_cases hk2 : p.kd = 2
      · skip
        have hx := unhide HX
        have hy := unhide HY
        have hz := unhide HZ
        have hd := unhide HRB
        have h0 := unhide H0
        obtain ⟨O, M, m0, m1, K, hS, hKK, hn, X⟩ := (unhide HR4).any
        have C0 := X _ _ (.ap p.nm p.ds) _ (Append_any hS hx p.dc (hd.later bw4) h0 (by omega))
        generalize apR m0 M.u0 M.cap p.nm p.ds.length = r at *
        have C := C0
        clear C0 X hS hKK hx hy hz hd h0 bw4 HX HY HZ HRB H0 HR4 HB
        by_cases hr0 : r = 0
        · subst hr0
          have C2 := C.mono fun v W5 (q : v = .returned (.int .i64 0) ∧ Aft W w5 W5 W1.heap.size was n 0) => And.intro q.1 (q.2.1 rfl)
          clear C
          have C := C2
          clear C2
          go_wp2_with (first | (go_at_call 15; refine C.mono ?_; rintro x9 w9 ⟨rfl, C1⟩; clear C; have C := C1; clear C1) | (go_at_call 11; refine (num_any _ _).mono ?_; rintro x8 w8 ⟨rfl, rfl⟩) | (go_at_call 26; refine C.mono ?_; rintro x9 w9 ⟨rfl, HF⟩; have HF := hide HF; clear C))
          go_ret
          exact ⟨rfl, unhide HF⟩
        · have C2 := C.mono fun v W5 (q : v = .returned (.int .i64 r) ∧ Aft W w5 W5 W1.heap.size was n r) => And.intro q.1 (q.2.2 hr0)
          clear C
          have C := C2
          clear C2
          by_cases h142 : r = 142
          · subst h142
            go_wp2_with (first | (go_at_call 15; refine C.mono ?_; rintro x9 w9 ⟨rfl, BB, C1⟩; clear C; have C := C1; clear C1; have d0 := (unhide HD _ (bt4 BB)).1; clear BB) | (go_at_call 11; refine (num_any _ _).mono ?_; rintro x8 w8 ⟨rfl, rfl⟩) | (go_at_call 21; refine C.mono ?_; rintro x9 w9 ⟨vx, rfl, C1⟩; clear C; have C := C1; clear C1) | (go_at_call 29; refine C.mono ?_; rintro x9 w9 ⟨rfl, C1⟩; clear C; have C := C1; clear C1) | (go_at_call 26; refine C.mono ?_; rintro x9 w9 ⟨rfl, HF⟩; have HF := hide HF; clear C))
            go_ret
            exact ⟨rfl, unhide HF⟩
          · skip
            go_wp2_with (first | (go_at_call 15; refine C.mono ?_; rintro x9 w9 ⟨rfl, BB, C1⟩; clear C; have C := C1; clear C1; have d0 := (unhide HD _ (bt4 BB)).1; clear BB) | (go_at_call 11; refine (num_any _ _).mono ?_; rintro x8 w8 ⟨rfl, rfl⟩) | (go_at_call 21; refine C.mono ?_; rintro x9 w9 ⟨vx, rfl, C1⟩; clear C; have C := C1; clear C1) | (go_at_call 29; refine C.mono ?_; rintro x9 w9 ⟨rfl, C1⟩; clear C; have C := C1; clear C1) | (go_at_call 26; refine C.mono ?_; rintro x9 w9 ⟨rfl, HF⟩; have HF := hide HF; clear C))
            go_ret
            exact ⟨rfl, unhide HF⟩
      · skip
        by_cases hk3 : p.kd = 3
        · skip
          have hx := unhide HX
          have hy := unhide HY
          have hz := unhide HZ
          have hd := unhide HRB
          have h0 := unhide H0
          obtain ⟨O, M, m0, m1, K, hS, hKK, hn, X⟩ := (unhide HR4).any
          have C0 := X _ _ (.tr p.nm p.n) _ (Truncate_any hS hx p.n (by omega))
          have h142 := tr_142 m0 p.nm p.n
          generalize trR m0 p.nm p.n = r at *
          have C := C0
          clear C0 X hS hKK hx hy hz hd h0 bw4 HX HY HZ HRB H0 HR4 HB
          by_cases hr0 : r = 0
          · subst hr0
            have C2 := C.mono fun v W5 (q : v = .returned (.int .i64 0) ∧ Aft W w5 W5 W1.heap.size was n 0) => And.intro q.1 (q.2.1 rfl)
            clear C
            have C := C2
            clear C2 h142
            go_wp2_with (first | (go_at_call 27; refine C.mono ?_; rintro x9 w9 ⟨rfl, C1⟩; clear C; have C := C1; clear C1) | (go_at_call 11; refine (num_any _ _).mono ?_; rintro x8 w8 ⟨rfl, rfl⟩) | (go_at_call 26; refine C.mono ?_; rintro x9 w9 ⟨rfl, HF⟩; have HF := hide HF; clear C))
            go_ret
            exact ⟨rfl, unhide HF⟩
          · have C2 := C.mono fun v W5 (q : v = .returned (.int .i64 r) ∧ Aft W w5 W5 W1.heap.size was n r) => And.intro q.1 (q.2.2 hr0)
            clear C
            have C := C2
            clear C2
            go_wp2_with (first | (go_at_call 27; refine C.mono ?_; rintro x9 w9 ⟨rfl, BB, C1⟩; clear C; have C := C1; clear C1; have d0 := (unhide HD _ (bt4 BB)).1; clear BB) | (go_at_call 11; refine (num_any _ _).mono ?_; rintro x8 w8 ⟨rfl, rfl⟩) | (go_at_call 21; refine C.mono ?_; rintro x9 w9 ⟨vx, rfl, C1⟩; clear C; have C := C1; clear C1) | (go_at_call 29; refine C.mono ?_; rintro x9 w9 ⟨rfl, C1⟩; clear C; have C := C1; clear C1) | (go_at_call 26; refine C.mono ?_; rintro x9 w9 ⟨rfl, HF⟩; have HF := hide HF; clear C))
            go_ret
            exact ⟨rfl, unhide HF⟩
        · skip
          by_cases hk4 : p.kd = 4
          · skip
            have hx := unhide HX
            have hy := unhide HY
            have hz := unhide HZ
            have hd := unhide HRB
            have h0 := unhide H0
            obtain ⟨O, M, m0, m1, K, hS, hKK, hn, X⟩ := (unhide HR4).any
            have C0 := X _ _ (.rn p.nm p.to) _ (Rename_any hS hx hy (by omega))
            have h142 := rn_142 m0 p.nm p.to
            generalize rnR m0 p.nm p.to = r at *
            have C := C0
            clear C0 X hS hKK hx hy hz hd h0 bw4 HX HY HZ HRB H0 HR4 HB
            by_cases hr0 : r = 0
            · subst hr0
              have C2 := C.mono fun v W5 (q : v = .returned (.int .i64 0) ∧ Aft W w5 W5 W1.heap.size was n 0) => And.intro q.1 (q.2.1 rfl)
              clear C
              have C := C2
              clear C2 h142
              go_wp2_with (first | (go_at_call 28; refine C.mono ?_; rintro x9 w9 ⟨rfl, C1⟩; clear C; have C := C1; clear C1) | (go_at_call 11; refine (num_any _ _).mono ?_; rintro x8 w8 ⟨rfl, rfl⟩) | (go_at_call 26; refine C.mono ?_; rintro x9 w9 ⟨rfl, HF⟩; have HF := hide HF; clear C))
              go_ret
              exact ⟨rfl, unhide HF⟩
            · have C2 := C.mono fun v W5 (q : v = .returned (.int .i64 r) ∧ Aft W w5 W5 W1.heap.size was n r) => And.intro q.1 (q.2.2 hr0)
              clear C
              have C := C2
              clear C2
              go_wp2_with (first | (go_at_call 28; refine C.mono ?_; rintro x9 w9 ⟨rfl, BB, C1⟩; clear C; have C := C1; clear C1; have d0 := (unhide HD _ (bt4 BB)).1; clear BB) | (go_at_call 11; refine (num_any _ _).mono ?_; rintro x8 w8 ⟨rfl, rfl⟩) | (go_at_call 21; refine C.mono ?_; rintro x9 w9 ⟨vx, rfl, C1⟩; clear C; have C := C1; clear C1) | (go_at_call 29; refine C.mono ?_; rintro x9 w9 ⟨rfl, C1⟩; clear C; have C := C1; clear C1) | (go_at_call 26; refine C.mono ?_; rintro x9 w9 ⟨rfl, HF⟩; have HF := hide HF; clear C))
              go_ret
              exact ⟨rfl, unhide HF⟩
          · skip
            by_cases hk5 : p.kd = 5
            · skip
              have hx := unhide HX
              have hy := unhide HY
              have hz := unhide HZ
              have hd := unhide HRB
              have h0 := unhide H0
              obtain ⟨O, M, m0, m1, K, hS, hKK, hn, X⟩ := (unhide HR4).any
              have C0 := X _ _ (.rm p.nm) _ (Remove_any hS hx (by omega))
              have h142 := rm_142 m0 p.nm
              generalize rmR m0 p.nm = r at *
              have C := C0
              clear C0 X hS hKK hx hy hz hd h0 bw4 HX HY HZ HRB H0 HR4 HB
              by_cases hr0 : r = 0
              · subst hr0
                have C2 := C.mono fun v W5 (q : v = .returned (.int .i64 0) ∧ Aft W w5 W5 W1.heap.size was n 0) => And.intro q.1 (q.2.1 rfl)
                clear C
                have C := C2
                clear C2 h142
                go_wp2_with (first | (go_at_call 24; refine C.mono ?_; rintro x9 w9 ⟨rfl, C1⟩; clear C; have C := C1; clear C1) | (go_at_call 11; refine (num_any _ _).mono ?_; rintro x8 w8 ⟨rfl, rfl⟩) | (go_at_call 26; refine C.mono ?_; rintro x9 w9 ⟨rfl, HF⟩; have HF := hide HF; clear C))
                go_ret
                exact ⟨rfl, unhide HF⟩
              · have C2 := C.mono fun v W5 (q : v = .returned (.int .i64 r) ∧ Aft W w5 W5 W1.heap.size was n r) => And.intro q.1 (q.2.2 hr0)
                clear C
                have C := C2
                clear C2
                go_wp2_with (first | (go_at_call 24; refine C.mono ?_; rintro x9 w9 ⟨rfl, BB, C1⟩; clear C; have C := C1; clear C1; have d0 := (unhide HD _ (bt4 BB)).1; clear BB) | (go_at_call 11; refine (num_any _ _).mono ?_; rintro x8 w8 ⟨rfl, rfl⟩) | (go_at_call 21; refine C.mono ?_; rintro x9 w9 ⟨vx, rfl, C1⟩; clear C; have C := C1; clear C1) | (go_at_call 29; refine C.mono ?_; rintro x9 w9 ⟨rfl, C1⟩; clear C; have C := C1; clear C1) | (go_at_call 26; refine C.mono ?_; rintro x9 w9 ⟨rfl, HF⟩; have HF := hide HF; clear C))
                go_ret
                exact ⟨rfl, unhide HF⟩
            · skip
              have C := (unhide HR4).sync
              clear bw4 HX HY HZ HRB H0 HR4 HB bt4
              go_wp2_with (first | (go_at_call 13; refine C.mono ?_; rintro x9 w9 ⟨rfl, C1⟩; clear C; have C := C1; clear C1) | (go_at_call 11; refine (num_any _ _).mono ?_; rintro x8 w8 ⟨rfl, rfl⟩) | (go_at_call 21; refine C.mono ?_; rintro x9 w9 ⟨vx, rfl, C1⟩; clear C; have C := C1; clear C1) | (go_at_call 22; refine C.mono ?_; rintro x9 w9 ⟨vx, rfl, C1⟩; clear C; have G1 : Hid True := hide trivial; have C := C1; clear C1) | (go_at_call 29; have _u := G1; clear _u; refine C.mono ?_; rintro x9 w9 ⟨rfl, HF⟩; have HF := hide HF; clear C G1) | (go_at_call 29; refine C.mono ?_; rintro x9 w9 ⟨rfl, C1⟩; clear C; have C := C1; clear C1) | (go_at_call 9; refine (little_any _).mono ?_; rintro x9 w9 ⟨rfl, b9⟩; have HG := hide (bl_t (unhide HF) b9); clear b9))
              go_ret
              exact ⟨rfl, unhide HG⟩
end Go.Proofs.Ytokgegbodbnimaa
