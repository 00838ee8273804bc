import Derived.Test.YtcebpdcijpgkjaaGreatDoorZc28
import Derived.Deep.LoopGhost
import Derived.Deep.RegionHeld3
import Derived.Deep.RegionLaw
import Derived.Sort.Grow
import Derived.Shelf.SlGeneric
import Derived.Shelf.SlSortCmp.WholeK
import Derived.Test.YtcebpdcijpgkjaaGreatDoorProg
namespace Go.Proofs.YtcebpdcijpgkjaaGreatDoor
open Go.RowKit Go.Maps

/-- IS A KEY AMONG SOME? -/
def mK (l : List (Nm × Nm)) (n v : Nm) : Bool := l.any fun y => decide (y.1 = n) && decide (y.2 = v)
theorem mK_iff {l : List (Nm × Nm)} {n v : Nm} : mK l n v = true ↔ (n, v) ∈ l := by
  unfold mK
  rw [List.any_eq_true]
  constructor
  · rintro ⟨⟨a, b⟩, hy, h⟩
    rw [Bool.and_eq_true] at h
    have h1 := of_decide_eq_true h.1
    have h2 := of_decide_eq_true h.2
    simp only at h1 h2
    subst h1 h2
    exact hy
  · intro h
    exact ⟨(n, v), h, by simp⟩
theorem mK_snoc_same (l : List (Nm × Nm)) (n v : Nm) : mK (l ++ [(n, v)]) n v = true := mK_iff.2 (by simp)
theorem mK_snoc_other (l : List (Nm × Nm)) {n v n2 v2 : Nm} (h : ¬ (n2 = n ∧ v2 = v)) : mK (l ++ [(n, v)]) n2 v2 = mK l n2 v2 := by
  rw [Bool.eq_iff_iff, mK_iff, mK_iff, List.mem_append, List.mem_singleton]
  constructor
  · rintro (h1 | h1)
    · exact h1
    · injection h1 with h1 h2; exact absurd ⟨h1, h2⟩ h
  · exact .inl
structure RepK (D : DataW Value) (l : List (Nm × Nm)) : Prop where
  has : ∀ n v : Nm, n.size ≤ maxLen → v.size ≤ maxLen → Maps.has D (klK n v) = mK l n v
  at_ : ∀ n v : Nm, n.size ≤ maxLen → v.size ≤ maxLen → D.atKey (klK n v) (.held (.agg #[])) = .held (.agg #[])
theorem RepK.start : RepK (.map []) [] := ⟨fun _ _ _ _ => rfl, fun _ _ _ _ => rfl⟩
theorem RepK.put {D : DataW Value} {l : List (Nm × Nm)} (r : RepK D l) (hD : IsMap D) {n v : Nm} (hn : n.size ≤ maxLen) (hv : v.size ≤ maxLen) : RepK (D.put (klK n v) (.held (.agg #[]))) (l ++ [(n, v)]) := by
  refine ⟨fun a b ha hb => ?_, fun a b ha hb => ?_⟩
  · by_cases e : a = n ∧ b = v
    · obtain ⟨rfl, rfl⟩ := e
      rw [has_put_same hD (show WideAt.IsKeyLit (klK a b) from trivial), mK_snoc_same]
    · rw [has_put_other (fun q => e (klK_inj ha hb hn hv q)), r.has a b ha hb, mK_snoc_other l e]
  · by_cases e : a = n ∧ b = v
    · obtain ⟨rfl, rfl⟩ := e
      rw [atKey_put_same hD (show WideAt.IsKeyLit (klK a b) from trivial)]
    · rw [atKey_put_other (fun q => e (klK_inj ha hb hn hv q)), r.at_ a b ha hb]
def Dk (W : World) (b : Nat) (l : List (Nm × Nm)) (k : Nat) : Prop := ∃ D, W.ownsMap Tryz.prog 29 raw b k D ∧ RepK D l
theorem Dk.lt {W : World} {b : Nat} {l : List (Nm × Nm)} {k : Nat} (h : Dk W b l k) : b < W.heap.size := let ⟨_, o, _⟩ := h; o.lt
theorem Dk.same {W W2 : World} {b : Nat} {l : List (Nm × Nm)} {k : Nat} (h : Dk W b l k) (hb : W2.heap[b]? = W.heap[b]?) : Dk W2 b l k := by
  obtain ⟨D, ⟨es, clock, h1, h2⟩, r⟩ := h
  exact ⟨D, ⟨es, clock, hb.trans h1, h2⟩, r⟩
theorem Dk.later {W W2 : World} {b : Nat} {l : List (Nm × Nm)} {k : Nat} (h : Dk W b l k) (hb : Below W.heap.size W W2) : Dk W2 b l k := h.same (hb.block b h.lt)
theorem Dk.make (W : World) : Dk (W.alloc (.map #[] 0)) W.heap.size [] 0 := ⟨_, World.ownsMap_made W Tryz.prog 29 raw, RepK.start⟩
theorem Dk.look {W : World} {b : Nat} {l : List (Nm × Nm)} {k : Nat} (h : Dk W b l k) {n v : Nm} (hn : n.size ≤ maxLen) (hv : v.size ≤ maxLen) : (Instr.lookup 110 (.map (some b)) (.agg #[.string n, .string v]) true).run Tryz.prog W = .ok (.tuple #[.agg #[], .bool (mK l n v)]) W := by
  obtain ⟨D, ho, r⟩ := h
  obtain ⟨x, ps, hr, hv2⟩ := ho.look_ok lawK Tryz.underlying110 (zeroE0 W) (zd := .held (.agg #[])) (zp := []) rfl (keyK hn hv)
  rw [hr, r.has n v hn hv]
  have e := raw_inv hv2
  rw [r.at_ n v hn hv] at e
  cases e
  rfl
theorem Dk.put {W : World} {b k : Nat} {l : List (Nm × Nm)} (h : Dk W b l k) (hk : k < maxLen) {n v : Nm} (hn : n.size ≤ maxLen) (hv : v.size ≤ maxLen) :
    ∃ W2, (Instr.mapUpdate 110 (.map (some b)) (.agg #[.string n, .string v]) (.agg #[])).run Tryz.prog W = .ok () W2 ∧ Dk W2 b (l ++ [(n, v)]) (k + 1) ∧ Fx (fun c => c = b) W W2 := by
  obtain ⟨D, ho, r⟩ := h
  obtain ⟨W2, hr, ho2, ht⟩ := ho.store lawK Tryz.underlying110 hk (keyK hn hv) (val := .agg #[]) (d := .held (.agg #[])) (ps := []) rfl
  have hg := ht.grown
  exact ⟨W2, hr, ⟨_, ho2, r.put ho.isMap hn hv⟩, ⟨hg.1, hg.2, hg.3, hg.size, fun _ h => absurd h (Nat.not_lt_zero _)⟩, fun c hc hn => hg.block c hc (by intro q; cases q; exact hn rfl)⟩
theorem makeMn (n : Nat) (u : World) : (Instr.makeMap 110 (some (.int .i64 (n : Int)))).run Tryz.prog u = .ok (.map (some u.heap.size)) (u.alloc (.map #[] 0)) := by
  simp [Instr.makeMap, go_sem]
/-- KEYS AS THEY LIE. -/
def Kyl (w : World) (u : Value) (ks : List (Nm × Nm)) : Prop := ∃ a c, u = .slice a ks.length c ∧ ∀ (i : Nat) (x : Nm × Nm), ks[i]? = some x → ∃ b o, a = some ⟨b, o, none⟩ ∧ b < w.heap.size ∧ w.cell? ⟨b, o + i * 2, none⟩ = some (.string x.1) ∧ w.cell? ⟨b, o + i * 2 + 1, none⟩ = some (.string x.2)
theorem Kyl.later {w w2 : World} {u : Value} {ks : List (Nm × Nm)} (h : Kyl w u ks) (hb : RowKit.Below w.heap.size w w2) : Kyl w2 u ks := by
  obtain ⟨a, c, h1, h2⟩ := h
  refine ⟨a, c, h1, fun i x hx => ?_⟩
  obtain ⟨b, o, q1, q2, q3, q4⟩ := h2 i x hx
  exact ⟨b, o, q1, Nat.lt_of_lt_of_le q2 hb.size, (hb.cell (p := ⟨b, o + i * 2, none⟩) q2).trans q3, (hb.cell (p := ⟨b, o + i * 2 + 1, none⟩) q2).trans q4⟩
def kyP (p : Pk) : Nm × Nm := (p.nm, p.vr)
/-- WHAT IS LEFT OF A SET. -/
def lef (ps : List Pk) (ks : List (Nm × Nm)) (i : Nat) : Bool := match ps[i]? with | some q => !mK ks q.nm q.vr | none => false
/-- THE PART WHILE IT IS MADE. -/
structure Wq (w wr : World) (g : Nat) (ps : List Pk) (ks : List (Nm × Nm)) (p : Nat) : Prop where
  m : Dk wr w.heap.size ks ks.length
  b : Bb wr g ps.length (fun i => decide (i < p) && lef ps ks i)
  bw : RowKit.Below w.heap.size w wr
  lo : w.heap.size < g
theorem Wq.later {w wr X : World} {g p : Nat} {ps : List Pk} {ks : List (Nm × Nm)} (h : Wq w wr g ps ks p) (hb : RowKit.Below wr.heap.size wr X) : Wq w X g ps ks p := ⟨h.m.later hb, h.b.later hb, bl_t h.bw hb, h.lo⟩
theorem Wq.set {w wr : World} {g p : Nat} {ps : List Pk} {ks : List (Nm × Nm)} (h : Wq w wr g ps ks p) {q : Pk} (hq : ps[p]? = some q) : Wq w (wr.setCell ⟨g, p, none⟩ (.bool (!mK ks q.nm q.vr))) g ps ks (p + 1) := by
  have hp := (List.getElem?_eq_some_iff.1 hq).1
  refine ⟨h.m.same (set_other wr g p _ _ (by have := h.lo; omega)), ?_, h.bw.setCell (p := ⟨g, p, none⟩) (Nat.le_of_lt h.lo) _, h.lo⟩
  have := h.b.set hp (!mK ks q.nm q.vr)
  rw [show (fun i => decide (i < p + 1) && lef ps ks i) = (fun i => if i = p then !mK ks q.nm q.vr else (decide (i < p) && lef ps ks i)) from by
    funext i
    by_cases e : i = p
    · subst e
      rw [if_pos rfl, decide_eq_true (by omega : i < i + 1), Bool.true_and]
      unfold lef
      rw [hq]
    · rw [if_neg e]
      congr 1
      exact decide_eq_decide.2 (by omega)]
  exact this
set_option maxRecDepth 100000 in
set_option maxHeartbeats 4000000 in
theorem without_any {w : World} {v u : Value} {ps : List Pk} {ks : List (Nm × Nm)} (sm : SmP ps) (pk : Pkl w v ps) (hk : Kyl w u ks) (hkl : ks.length ≤ 1048576) (hkz : ∀ x ∈ ks, x.1.size ≤ maxLen ∧ x.2.size ≤ maxLen) :
    Calls Tryz.prog 45 #[v, u] w fun e w' => ∃ gi, e = .returned (.slice (some ⟨gi, 0, none⟩) ps.length ps.length) ∧ w.heap.size ≤ gi ∧ Bb w' gi ps.length (fun i => decide (i < ps.length) && lef ps ks i) ∧ RowKit.Below w.heap.size w w' := by
  obtain ⟨va, vc, rfl⟩ : ∃ a c, v = .slice a ps.length c := let ⟨a, c, e, _⟩ := pk; ⟨a, c, e⟩
  obtain ⟨ua, uc, rfl⟩ : ∃ a c, u = .slice a ks.length c := let ⟨a, c, e, _⟩ := hk; ⟨a, c, e⟩
  have hl := sm.l
  have HPK := hide (show ∀ X, RowKit.Below w.heap.size w X → ∀ (p : Nat) (q : Pk), ps[p]? = some q → ∃ (vb vo : Nat) (cs : List Value), va = some ⟨vb, vo, none⟩ ∧ vb < X.heap.size ∧ X.rangeAt vb (vo + p * 43) cs ∧ (Tryz.prog.info? 46).map (·.size) = some cs.length ∧ (q.nm.size ≤ maxLen ∧ q.vr.size ≤ maxLen) ∧ ∀ Y, Calls Tryz.prog 47 #[.agg cs.toArray] Y fun e w' => e = .returned (.agg #[.string q.nm, .string q.vr]) ∧ Below Y.heap.size Y w' from fun X hX p q hq => by
    obtain ⟨vb, vo, vc2, cs, d, r, c, pv, f, e, hvb, hr, hpc, _⟩ := (pk.later hX).at2 hq
    injection e with e _ _
    have hz := sm.z q (List.mem_of_getElem? hq)
    exact ⟨vb, vo, cs, e, hvb, hr, by rw [hpc.len]; kernel_rfl, ⟨hz.1, hz.2.1⟩, fun Y => keyOf_any cs _ _ Y hpc.c0 hpc.c1⟩)
  have HKY := hide (show ∀ X, RowKit.Below w.heap.size w X → ∀ (i : Nat) (hi : i < ks.length), ∃ b o, ua = some ⟨b, o, none⟩ ∧ X.cell? ⟨b, o + i * 2, none⟩ = some (.string ks[i].1) ∧ X.cell? ⟨b, o + i * 2 + 1, none⟩ = some (.string ks[i].2) from fun X hX i hi => by
    obtain ⟨a, c, e, h2⟩ := hk.later hX
    injection e with e _ _
    obtain ⟨b, o, q1, _, q3, q4⟩ := h2 i ks[i] (List.getElem?_eq_getElem hi)
    exact ⟨b, o, e.trans q1, q3, q4⟩)
  have HKZ := hide hkz
  have hmm := makeMn ks.length
  have HST := hide (show Dk (w.alloc (.map #[] 0)) w.heap.size (ks.take 0) 0 ∧ RowKit.Below w.heap.size w (w.alloc (.map #[] 0)) from ⟨Dk.make w, (Below.refl _ w).alloc (Nat.le_refl _) _⟩)
  obtain ⟨K, hK⟩ : ∃ K, K = ks.length := ⟨_, rfl⟩
  have HK := hide hK
  rw [← hK] at hkl hmm ⊢
  clear pk sm hk hkz hK
  have hmk := makeBl ps.length hl
  go_enter Tryz.func45, Tryz.ntmps45
  go_wp2_with fail
  clear hmm
  go_loopg [7, 17] K (fun gq _ iv wr => ∃ i : Nat, iv = .int .i64 i ∧ i ≤ K ∧ K - i ≤ gq ∧ Hid (Dk wr w.heap.size (ks.take i) i ∧ RowKit.Below w.heap.size w wr))
  case atStart => exact ⟨0, by go_num, by omega, by omega, HST⟩
  case round =>
    clear HST
    obtain ⟨i, rfl, hi, hgi, HD⟩ := hrel
    by_cases hlt : i < K
    · have hin : (i : Int) < (K : Int) := by omega
      have hil : i < ks.length := by have := unhide HK; omega
      obtain ⟨b, o, rfl, k0, k1⟩ := unhide HKY wr (unhide HD).2 i hil
      have hz := unhide HKZ ks[i] (List.getElem_mem hil)
      have HT := hide (show ks.take (i + 1) = ks.take i ++ [(ks[i].1, ks[i].2)] from by rw [List.take_add_one, List.getElem?_eq_getElem hil]; rfl)
      generalize ks[i] = x at *
      obtain ⟨n, y⟩ := x
      simp only at k0 k1 hz HT
      obtain ⟨Y, hY⟩ : ∃ Y, Y = wr.alloc (.cells #[.string n, .string y] 29) := ⟨_, rfl⟩
      have bY : RowKit.Below wr.heap.size wr Y := by rw [hY]; exact (Below.refl _ wr).alloc (Nat.le_refl _) _
      have hdk := (unhide HD).1.later bY
      obtain ⟨W2, hup, d2, f2⟩ := hdk.put (Nat.lt_of_le_of_lt (show i ≤ 1048576 by omega) (by decide)) hz.1 hz.2
      have HF := hide (show Dk W2 w.heap.size (ks.take (i + 1)) (i + 1) ∧ RowKit.Below w.heap.size w W2 from by
        refine ⟨by rw [unhide HT]; exact d2, ?_⟩
        have h1 := bl_t (unhide HD).2 bY
        exact ⟨f2.bel.os.trans h1.os, f2.bel.tape.trans h1.tape, f2.bel.output.trans h1.output, Nat.le_trans h1.size f2.bel.size, fun c hc => (f2.blk c (Nat.lt_of_lt_of_le hc h1.size) (by omega)).trans (h1.block c hc)⟩)
      rw [hY] at hup
      clear hdk d2 f2 bY hY hz
      go_wp2_with fail
      go_roundg (K - (i + 1))
      case measure => omega
      case rel => exact ⟨i + 1, by go_num, by omega, by omega, HF⟩
    · obtain rfl : i = K := by omega
      rename World => Wm
      have hd := unhide HD
      rw [unhide HK, List.take_length] at hd
      have HW := hide (show Wq w (Wm.alloc (.cells (madeCells #[.bool false] ps.length) 4)) Wm.heap.size ps ks 0 from by
        have bA : RowKit.Below Wm.heap.size Wm (Wm.alloc (.cells (madeCells #[.bool false] ps.length) 4)) := (Below.refl _ Wm).alloc (Nat.le_refl _) _
        refine ⟨hd.1.later bA, ?_, bl_t hd.2 bA, hd.1.lt⟩
        have := bb_new Wm ps.length
        rw [show (fun j => decide (j < 0) && lef ps ks j) = (fun _ : Nat => false) from by funext j; simp]
        exact this)
      clear hd HD HKY HKZ HK
      go_wp2_with fail
      clear hmk
      go_loopg [9, 10, 11, 30] ps.length (fun gq _ _ _ iv wr => ∃ p : Nat, iv = .int .i64 p ∧ p ≤ ps.length ∧ ps.length - p ≤ gq ∧ Hid (Wq w wr Wm.heap.size ps ks p))
      case atStart => exact ⟨0, by go_num, by omega, by omega, HW⟩
      case round =>
        clear HW
        obtain ⟨p, rfl, hp, hgp, HU⟩ := hrel
        have hu := unhide HU
        by_cases hlt2 : p < ps.length
        · have hlt3 : (p : Int) < (ps.length : Int) := by omega
          obtain ⟨q, hq⟩ : ∃ q, ps[p]? = some q := ⟨_, List.getElem?_eq_getElem hlt2⟩
          obtain ⟨vb, vo, cs, rfl, hvb, hr, hinf, hz, hk⟩ := unhide HPK wr hu.bw p q hq
          have HR := hide hr
          have HI2 := hide hinf
          have HKO := hide (hk wr)
          have HQ := hide hq
          clear hr hinf hk hq
          go_wp2_with (first | ((with_reducible refine wpList_load_p (op := { dst := some 38, op := Op.load 46 (Operand.tmp 37), type := 46, pos := "part.go:24", after := #[{ on := 3, ground := Ground.data }], guard := none }) ?wxa 46 (.tmp 37) ?wxb vb (vo + p * 43) ?wxc cs _ (unhide HR) Tryz.underlying46 ?wxd (unhide HI2) ?wxe); (case wxa => rfl); (case wxb => rfl); (case wxc => rfl); (case wxd => rfl)) | (go_at_call 47; refine (unhide HKO).mono ?_; rintro e w5 ⟨rfl, hb5⟩; have HU5 := hide (hu.later hb5); have lk := (unhide HU5).m.look hz.1 hz.2; obtain ⟨c0, f0⟩ := (unhide HU5).b.cell hlt2; have hz5 := (unhide HU5).b.lt; clear hb5 HKO))
          have HU6 := hide (((unhide HU5).set (unhide HQ)).later ((Below.refl _ (w5.setCell ⟨Wm.heap.size, p, none⟩ (.bool (!mK ks q.nm q.vr)))).alloc (Nat.le_refl _) (.cells #[] 107)))
          go_roundg (ps.length - (p + 1))
          case measure => omega
          case rel => exact ⟨p + 1, by go_num, by omega, by omega, HU6⟩
        · obtain rfl : p = ps.length := by omega
          go_wp2_with fail
          go_ret
          exact ⟨Wm.heap.size, rfl, Nat.le_of_lt hu.lo, hu.b, hu.bw⟩
end Go.Proofs.YtcebpdcijpgkjaaGreatDoor

namespace Go.Proofs.YtcebpdcijpgkjaaGreatDoor
open Go.RowKit Go.Maps Go.Sort

def orI (a b : Int) : Int := if a = 0 then b else a
theorem or_any {W : World} {g : Nat} {a b : Int} (h0 : W.cell? ⟨g, 0, none⟩ = some (.int .i64 a)) (h1 : W.cell? ⟨g, 1, none⟩ = some (.int .i64 b)) :
    Calls Tryz.prog 74 #[.slice (some ⟨g, 0, none⟩) 2 2] W fun e w' => e = .returned (.int .i64 (orI a b)) ∧ w' = W := by
  go_enter Tryz.func74, Tryz.ntmps74
  by_cases ha : a = 0
  · subst ha
    by_cases hb : b = 0
    · subst hb
      go_wp2
      refine wp_loop_rounds 3 ?_
      rw [rounds_succ]
      go_wp2
      rw [rounds_succ]
      go_wp2
      rw [rounds_succ]
      go_wp2
      go_ret
      exact ⟨rfl, rfl⟩
    · have hb2 : (b != 0) = true := by simpa using hb
      go_wp2
      refine wp_loop_rounds 2 ?_
      rw [rounds_succ]
      go_wp2
      rw [rounds_succ]
      go_wp2
      go_ret
      exact ⟨by unfold orI; rw [if_pos rfl]; rfl, rfl⟩
  · have ha2 : (a != 0) = true := by simpa using ha
    go_wp2
    refine wp_loop_rounds 1 ?_
    rw [rounds_succ]
    go_wp2
    go_ret
    exact ⟨by unfold orI; rw [if_neg ha]; rfl, rfl⟩
/-- HOW TWO KEYS ARE COMPARED. -/
def cK (x y : Nm × Nm) : Int := orI (cs x.1 y.1) (cs x.2 y.2)
structure B2 (w wr : World) (x y : Nm × Nm) : Prop where
  b0 : wr.heap[w.heap.size]? = some (.cells #[.string x.1, .string x.2] 29 (0, 0))
  b1 : wr.heap[w.heap.size + 1]? = some (.cells #[.string y.1, .string y.2] 29 (0, 0))
theorem B2.cells {w wr : World} {x y : Nm × Nm} (h : B2 w wr x y) : wr.cell? ⟨w.heap.size, 0, none⟩ = some (.string x.1) ∧ wr.cell? ⟨w.heap.size, 1, none⟩ = some (.string x.2) ∧ wr.cell? ⟨w.heap.size + 1, 0, none⟩ = some (.string y.1) ∧ wr.cell? ⟨w.heap.size + 1, 1, none⟩ = some (.string y.2) :=
  ⟨(cell_blk h.b0 0).1, (cell_blk h.b0 1).1, (cell_blk h.b1 0).1, (cell_blk h.b1 1).1⟩
theorem b2_new (w : World) (x y : Nm × Nm) : B2 w ((w.alloc (.cells #[.string x.1, .string x.2] 29)).alloc (.cells #[.string y.1, .string y.2] 29)) x y := by
  have z1 : (w.alloc (.cells #[.string x.1, .string x.2] 29)).heap.size = w.heap.size + 1 := World.size_alloc _ _
  have b2 : RowKit.Below (w.alloc (.cells #[.string x.1, .string x.2] 29)).heap.size (w.alloc (.cells #[.string x.1, .string x.2] 29)) ((w.alloc (.cells #[.string x.1, .string x.2] 29)).alloc (.cells #[.string y.1, .string y.2] 29)) := (Below.refl _ _).alloc (Nat.le_refl _) _
  refine ⟨(b2.block _ (by omega)).trans (World.alloc_heap_new w _), ?_⟩
  have := World.alloc_heap_new (w.alloc (.cells #[.string x.1, .string x.2] 29)) (.cells #[.string y.1, .string y.2] 29)
  rw [z1] at this
  exact this
set_option maxRecDepth 100000 in
set_option maxHeartbeats 4000000 in
theorem compareKeys_any (x y : Nm × Nm) (w : World) :
    Calls Tryz.prog 49 #[.agg #[.string x.1, .string x.2], .agg #[.string y.1, .string y.2]] w fun e w' => e = .returned (.int .i64 (cK x y)) ∧ ∃ q os', w' = grow (w.drewN q) os' := by
  have HB := hide (b2_new w x y)
  obtain ⟨X, hX⟩ : ∃ X, X = (w.alloc (.cells #[.string x.1, .string x.2] 29)).alloc (.cells #[.string y.1, .string y.2] 29) := ⟨_, rfl⟩
  rw [← hX] at HB
  have HS := hide (show ∀ Z : World, RowKit.Below X.heap.size X Z → Z.cell? ⟨w.heap.size, 0, none⟩ = some (.string x.1) ∧ Z.cell? ⟨w.heap.size, 1, none⟩ = some (.string x.2) ∧ Z.cell? ⟨w.heap.size + 1, 0, none⟩ = some (.string y.1) ∧ Z.cell? ⟨w.heap.size + 1, 1, none⟩ = some (.string y.2) from fun Z hZ => B2.cells ⟨(hZ.block _ (blk_lt (unhide HB).b0)).trans (unhide HB).b0, (hZ.block _ (blk_lt (unhide HB).b1)).trans (unhide HB).b1⟩)
  have HC1 := hide (cmpStr_any x.1 y.1 X.drew)
  have HC2 := hide (cmpStr_any x.2 y.2 X.drew)
  have HO := hide (show Calls Tryz.prog 74 #[.slice (some ⟨X.drew.heap.size, 0, none⟩) 2 2] (X.drew.alloc (.cells #[.int .i64 (cs x.1 y.1), .int .i64 (cs x.2 y.2)] 3)) fun e w' => e = .returned (.int .i64 (cK x y)) ∧ w' = X.drew.alloc (.cells #[.int .i64 (cs x.1 y.1), .int .i64 (cs x.2 y.2)] 3) from by
    have h := World.alloc_heap_new X.drew (.cells #[.int .i64 (cs x.1 y.1), .int .i64 (cs x.2 y.2)] 3)
    exact or_any ((cell_blk h 0).1.trans rfl) ((cell_blk h 1).1.trans rfl))
  have HE := hide (show ∃ q os', X.drew.alloc (.cells #[.int .i64 (cs x.1 y.1), .int .i64 (cs x.2 y.2)] 3) = grow (w.drewN q) os' from by
    refine ⟨1, #[.cells #[.string x.1, .string x.2] 29, .cells #[.string y.1, .string y.2] 29, .cells #[.int .i64 (cs x.1 y.1), .int .i64 (cs x.2 y.2)] 3], ?_⟩
    rw [alloc_eq_grow, hX, alloc_eq_grow, alloc_eq_grow, grow_grow]
    show grow (grow (w.drewN 1) _) _ = _
    rw [grow_grow]
    rfl)
  clear HB
  go_enter Tryz.func49, Tryz.ntmps49
  go_upto_region 1 with fail
  rw [← hX]
  clear hX
  refine wp_region_held_drew (S := fun w' => w'.cell? ⟨w.heap.size, 0, none⟩ = some (.string x.1) ∧ w'.cell? ⟨w.heap.size, 1, none⟩ = some (.string x.2) ∧ w'.cell? ⟨w.heap.size + 1, 0, none⟩ = some (.string y.1) ∧ w'.cell? ⟨w.heap.size + 1, 1, none⟩ = some (.string y.2)) (by kernel_rfl) ?_ (fun hHeld => ?_)
  · exact unhide HS _ (Below.refl _ _).drew
  refine wpAnyH_take (i := 0) (oi := { dst := some 5, op := Op.fieldAddr 29 (Operand.tmp 2) 0, type := 0, pos := "part.go:89", after := #[], guard := none }) (v := ?_) rfl (by kernel_rfl) (by kernel_rfl) (by kernel_rfl) (fun _ _ _ h => h) (Or.inl ⟨by rfl, ?_⟩) (by assumption) ?_
  rotate_left
  · intro w hSw; (try dsimp only at hSw); go_simp; (try with_reducible rfl)
  try simp only [Act.put, List.setIfInBounds_toArray, List.set_cons_zero, List.set_cons_succ]
  refine wpAnyH_take (i := 1) (oi := { dst := some 6, op := Op.load 9 (Operand.tmp 5), type := 9, pos := "part.go:89", after := #[{ on := 0, ground := Ground.data }], guard := none }) (v := ?_) rfl (by kernel_rfl) (by kernel_rfl) (by kernel_rfl) (fun _ _ _ h => h) (Or.inl ⟨by rfl, ?_⟩) (by assumption) ?_
  rotate_left
  · intro w hSw; (try dsimp only at hSw); go_simp; (try with_reducible rfl)
  try simp only [Act.put, List.setIfInBounds_toArray, List.set_cons_zero, List.set_cons_succ]
  refine wpAnyH_take (i := 2) (oi := { dst := some 7, op := Op.fieldAddr 29 (Operand.tmp 3) 0, type := 0, pos := "part.go:89", after := #[], guard := none }) (v := ?_) rfl (by kernel_rfl) (by kernel_rfl) (by kernel_rfl) (fun _ _ _ h => h) (Or.inl ⟨by rfl, ?_⟩) (by assumption) ?_
  rotate_left
  · intro w hSw; (try dsimp only at hSw); go_simp; (try with_reducible rfl)
  try simp only [Act.put, List.setIfInBounds_toArray, List.set_cons_zero, List.set_cons_succ]
  refine wpAnyH_take (i := 3) (oi := { dst := some 8, op := Op.load 9 (Operand.tmp 7), type := 9, pos := "part.go:89", after := #[{ on := 2, ground := Ground.data }], guard := none }) (v := ?_) rfl (by kernel_rfl) (by kernel_rfl) (by kernel_rfl) (fun _ _ _ h => h) (Or.inl ⟨by rfl, ?_⟩) (by assumption) ?_
  rotate_left
  · intro w hSw; (try dsimp only at hSw); go_simp; (try with_reducible rfl)
  try simp only [Act.put, List.setIfInBounds_toArray, List.set_cons_zero, List.set_cons_succ]
  refine wpAnyH_take (i := 5) (oi := { dst := some 10, op := Op.fieldAddr 29 (Operand.tmp 2) 1, type := 0, pos := "part.go:89", after := #[], guard := none }) (v := ?_) rfl (by kernel_rfl) (by kernel_rfl) (by kernel_rfl) (fun _ _ _ h => h) (Or.inl ⟨by rfl, ?_⟩) (by assumption) ?_
  rotate_left
  · intro w hSw; (try dsimp only at hSw); go_simp; (try with_reducible rfl)
  try simp only [Act.put, List.setIfInBounds_toArray, List.set_cons_zero, List.set_cons_succ]
  refine wpAnyH_take (i := 6) (oi := { dst := some 11, op := Op.load 9 (Operand.tmp 10), type := 9, pos := "part.go:89", after := #[{ on := 5, ground := Ground.data }], guard := none }) (v := ?_) rfl (by kernel_rfl) (by kernel_rfl) (by kernel_rfl) (fun _ _ _ h => h) (Or.inl ⟨by rfl, ?_⟩) (by assumption) ?_
  rotate_left
  · intro w hSw; (try dsimp only at hSw); go_simp; (try with_reducible rfl)
  try simp only [Act.put, List.setIfInBounds_toArray, List.set_cons_zero, List.set_cons_succ]
  refine wpAnyH_take (i := 7) (oi := { dst := some 12, op := Op.fieldAddr 29 (Operand.tmp 3) 1, type := 0, pos := "part.go:89", after := #[], guard := none }) (v := ?_) rfl (by kernel_rfl) (by kernel_rfl) (by kernel_rfl) (fun _ _ _ h => h) (Or.inl ⟨by rfl, ?_⟩) (by assumption) ?_
  rotate_left
  · intro w hSw; (try dsimp only at hSw); go_simp; (try with_reducible rfl)
  try simp only [Act.put, List.setIfInBounds_toArray, List.set_cons_zero, List.set_cons_succ]
  refine wpAnyH_take (i := 8) (oi := { dst := some 13, op := Op.load 9 (Operand.tmp 12), type := 9, pos := "part.go:89", after := #[{ on := 7, ground := Ground.data }], guard := none }) (v := ?_) rfl (by kernel_rfl) (by kernel_rfl) (by kernel_rfl) (fun _ _ _ h => h) (Or.inl ⟨by rfl, ?_⟩) (by assumption) ?_
  rotate_left
  · intro w hSw; (try dsimp only at hSw); go_simp; (try with_reducible rfl)
  try simp only [Act.put, List.setIfInBounds_toArray, List.set_cons_zero, List.set_cons_succ]
  refine wpAnyH_ready (rs := [4]) (by kernel_rfl) (by simp) ?_
  refine AllReadyH.cons (o := { dst := some 9, op := Op.call { callee := Callee.value (Operand.func 75), args := #[Operand.tmp 6, Operand.tmp 8], argTypes := #[9, 9] }, type := 3, pos := "part.go:89", after := #[{ on := 1, ground := Ground.data }, { on := 3, ground := Ground.data }], guard := none }) rfl (fun K hK => ?_) AllReadyH.nil
  go_simp
  refine (unhide HC1).mono ?_
  rintro e0 w0 ⟨rfl, rfl⟩
  go_wp2_with fail
  refine hK.out _ _ ?_ (fun hHeld => ?_)
  · exact unhide HS _ (Below.refl _ _).drew
  clear hK K
  try simp only [Act.put, List.setIfInBounds_toArray, List.set_cons_zero, List.set_cons_succ]
  refine wpAnyH_ready (rs := [9]) (by kernel_rfl) (by simp) ?_
  refine AllReadyH.cons (o := { dst := some 14, op := Op.call { callee := Callee.value (Operand.func 75), args := #[Operand.tmp 11, Operand.tmp 13], argTypes := #[9, 9] }, type := 3, pos := "part.go:89", after := #[{ on := 6, ground := Ground.data }, { on := 8, ground := Ground.data }, { on := 4, ground := Ground.chain }], guard := none }) rfl (fun K hK => ?_) AllReadyH.nil
  go_simp
  refine (unhide HC2).mono ?_
  rintro e0 w0 ⟨rfl, rfl⟩
  go_wp2_with fail
  refine hK.out _ _ ?_ (fun hHeld => ?_)
  · exact unhide HS _ (Below.refl _ _).drew
  clear hK K
  try simp only [Act.put, List.setIfInBounds_toArray, List.set_cons_zero, List.set_cons_succ]
  refine wpAnyH_ready (rs := [10]) (by kernel_rfl) (by simp) ?_
  refine AllReadyH.cons (o := { dst := some 15, op := Op.buildSlice 34 2 #[(0, Operand.tmp 9), (1, Operand.tmp 14)], type := 34, pos := "part.go:89", after := #[{ on := 4, ground := Ground.data }, { on := 9, ground := Ground.data }], guard := none }) rfl (fun K hK => ?_) AllReadyH.nil
  go_simp
  refine hK.out _ _ ?_ (fun hHeld => ?_)
  · exact unhide HS _ (((Below.refl _ X).drew).alloc (Nat.le_refl _) _)
  clear hK K
  try simp only [Act.put, List.setIfInBounds_toArray, List.set_cons_zero, List.set_cons_succ]
  refine wpAnyH_ready (rs := [11]) (by kernel_rfl) (by simp) ?_
  refine AllReadyH.cons (o := { dst := some 16, op := Op.call { callee := Callee.value (Operand.func 74), args := #[Operand.tmp 15], argTypes := #[34] }, type := 3, pos := "part.go:89", after := #[{ on := 10, ground := Ground.data }, { on := 9, ground := Ground.chain }], guard := none }) rfl (fun K hK => ?_) AllReadyH.nil
  go_simp
  refine (unhide HO).mono ?_
  rintro e0 w0 ⟨rfl, rfl⟩
  go_wp2_with fail
  refine hK.out _ _ ?_ (fun hHeld => ?_)
  · exact unhide HS _ (((Below.refl _ X).drew).alloc (Nat.le_refl _) _)
  clear hK K
  try simp only [Act.put, List.setIfInBounds_toArray, List.set_cons_zero, List.set_cons_succ]
  refine wpAnyH_take (i := 12) (oi := { dst := some 4, op := Op.assign (Operand.tmp 16), type := 3, pos := "part.go:89", after := #[{ on := 11, ground := Ground.data }, { on := 11, ground := Ground.chain }, { on := 0, ground := Ground.phase }, { on := 1, ground := Ground.phase }, { on := 2, ground := Ground.phase }, { on := 3, ground := Ground.phase }, { on := 4, ground := Ground.phase }, { on := 5, ground := Ground.phase }, { on := 6, ground := Ground.phase }, { on := 7, ground := Ground.phase }, { on := 8, ground := Ground.phase }, { on := 9, ground := Ground.phase }, { on := 10, ground := Ground.phase }, { on := 11, ground := Ground.phase }], guard := none }) (v := ?_) rfl (by kernel_rfl) (by kernel_rfl) (by kernel_rfl) (fun _ _ _ h => h) (Or.inl ⟨by rfl, ?_⟩) (by assumption) ?_
  rotate_left
  · intro w hSw; (try dsimp only at hSw); go_simp; (try with_reducible rfl)
  try simp only [Act.put, List.setIfInBounds_toArray, List.set_cons_zero, List.set_cons_succ]
  refine wpAnyH_done (by kernel_rfl) ?_ _
  go_wp2_with fail
  go_ret
  exact ⟨rfl, unhide HE⟩
end Go.Proofs.YtcebpdcijpgkjaaGreatDoor

/-
  DERIVED: THE SHELF's CONTRACTS AT THIS DUMP, IN PLAIN WORDS (tools/lay-plain.mjs out of 'TryzShelf.lean', which tools/lay-shelf.mjs wrote): THE SAME DECLARATIONS UNDER THE SAME NAMES: 'import', 'namespace', 'open', 'def', 'theorem' AND NOTHING ELSE: no command of the shelf's: FOR A HAND-IN. Each laying: the table of numbers ('.._ren') and one theorem, a field a fact of the dump's own or the kernel's comparison; each contract: ONE APPLICATION.
-/
namespace Go.Proofs
open Go.Shelf
def Tryz.laysSF_ren : Go.Shelf.Ren := ⟨fun | 6 => 48 | 15 => 73 | 14 => 72 | 28 => 96 | 29 => 97 | 20 => 88 | 21 => 89 | 22 => 90 | 23 => 91 | 24 => 92 | 25 => 93 | 26 => 94 | 27 => 95 | 46 => 115 | 47 => 116 | 48 => 117 | 49 => 118 | 50 => 119 | 57 => 131 | n => n, fun | 22 => 33 | 24 => 29 | 25 => 89 | 3 => 3 | 39 => 120 | 0 => 0 | 53 => 144 | 55 => 146 | 4 => 4 | 46 => 138 | 45 => 137 | 50 => 100 | 5 => 5 | 9 => 9 | 66 => 163 | 70 => 167 | 76 => 180 | 77 => 151 | n => n, fun | n => n⟩
theorem Tryz.laysSF : Go.Proofs.SlLaysF0.n6 Tryz.prog Tryz.laysSF_ren := {
  mixed := by kernel_rfl
  f6 := ⟨Tryz.f48.name, by decide, Tryz.func48.trans (congrArg some (by kernel_rfl))⟩
  f14 := ⟨Tryz.f72.name, by decide, Tryz.func72.trans (congrArg some (by kernel_rfl))⟩
  f15 := Tryz.func73.trans (congrArg some (by kernel_rfl))
  f20 := ⟨Tryz.f88.name, by decide, Tryz.func88.trans (congrArg some (by kernel_rfl))⟩
  f21 := ⟨Tryz.f89.name, by decide, Tryz.func89.trans (congrArg some (by kernel_rfl))⟩
  f22 := ⟨Tryz.f90.name, by decide, Tryz.func90.trans (congrArg some (by kernel_rfl))⟩
  f23 := ⟨Tryz.f91.name, by decide, Tryz.func91.trans (congrArg some (by kernel_rfl))⟩
  f24 := ⟨Tryz.f92.name, by decide, Tryz.func92.trans (congrArg some (by kernel_rfl))⟩
  f25 := ⟨Tryz.f93.name, by decide, Tryz.func93.trans (congrArg some (by kernel_rfl))⟩
  f26 := ⟨Tryz.f94.name, by decide, Tryz.func94.trans (congrArg some (by kernel_rfl))⟩
  f27 := ⟨Tryz.f95.name, by decide, Tryz.func95.trans (congrArg some (by kernel_rfl))⟩
  f28 := Tryz.func96.trans (congrArg some (by kernel_rfl))
  f29 := Tryz.func97.trans (congrArg some (by kernel_rfl))
  f46 := ⟨Tryz.f115.name, by decide, Tryz.func115.trans (congrArg some (by kernel_rfl))⟩
  f47 := Tryz.func116.trans (congrArg some (by kernel_rfl))
  f48 := Tryz.func117.trans (congrArg some (by kernel_rfl))
  f49 := ⟨Tryz.f118.name, by decide, Tryz.func118.trans (congrArg some (by kernel_rfl))⟩
  f50 := ⟨Tryz.f119.name, by decide, Tryz.func119.trans (congrArg some (by kernel_rfl))⟩
  f57 := ⟨Tryz.f131.name, by decide, Tryz.func131.trans (congrArg some (by kernel_rfl))⟩
  t0 := Tryz.underlying0
  a0 := Tryz.isAgg0
  z0 := Tryz.sizeOf0
  v0 := Tryz.zeroValue0
  t3 := Tryz.underlying3
  a3 := Tryz.isAgg3
  z3 := Tryz.sizeOf3
  v3 := Tryz.zeroValue3
  t4 := Tryz.underlying4
  a4 := Tryz.isAgg4
  z4 := Tryz.sizeOf4
  v4 := Tryz.zeroValue4
  t5 := Tryz.underlying5
  a5 := Tryz.isAgg5
  z5 := Tryz.sizeOf5
  v5 := Tryz.zeroValue5
  t9 := Tryz.underlying9
  a9 := Tryz.isAgg9
  z9 := Tryz.sizeOf9
  v9 := Tryz.zeroValue9
  t22 := Tryz.underlying33
  a22 := Tryz.isAgg33
  z22 := Tryz.sizeOf33
  v22 := Tryz.zeroValue33
  t25 := Tryz.underlying89
  a25 := Tryz.isAgg89
  z25 := Tryz.sizeOf89
  v25 := Tryz.zeroValue89
  t39 := Tryz.underlying120
  a39 := Tryz.isAgg120
  z39 := Tryz.sizeOf120
  v39 := Tryz.zeroValue120
  t45 := Tryz.underlying137
  a45 := Tryz.isAgg137
  z45 := Tryz.sizeOf137
  v45 := Tryz.zeroValue137
  t46 := Tryz.underlying138
  a46 := Tryz.isAgg138
  z46 := Tryz.sizeOf138
  v46 := Tryz.zeroValue138
  t50 := Tryz.underlying100
  a50 := Tryz.isAgg100
  z50 := Tryz.sizeOf100
  v50 := Tryz.zeroValue100
  t53 := Tryz.underlying144
  a53 := Tryz.isAgg144
  z53 := Tryz.sizeOf144
  v53 := Tryz.zeroValue144
  t55 := Tryz.underlying146
  a55 := Tryz.isAgg146
  z55 := Tryz.sizeOf146
  v55 := Tryz.zeroValue146
  t66 := Tryz.underlying163
  a66 := Tryz.isAgg163
  z66 := Tryz.sizeOf163
  v66 := Tryz.zeroValue163
  t70 := Tryz.underlying167
  a70 := Tryz.isAgg167
  z70 := Tryz.sizeOf167
  v70 := Tryz.zeroValue167
  t76 := Tryz.underlying180
  a76 := Tryz.isAgg180
  z76 := Tryz.sizeOf180
  v76 := Tryz.zeroValue180
  t77 := Tryz.underlying151
  a77 := Tryz.isAgg151
  z77 := Tryz.sizeOf151
  v77 := Tryz.zeroValue151 }
end Go.Proofs

