import Derived.Test.YtjflnpcpnoccjaaTjU
import Derived.Test.YtjflnpcpnoccjaaHeN
import Derived.Test.YtjflnpcpnoccjaaTkG
import Derived.Test.YtjflnpcpnoccjaaTjV
namespace Go.Proofs.Ytjflnpcpnoccjaa
open Go.RowKit

/-- LISTS OF NUMBERS THAT ARE AN ANSWER, IN MEMORY BETWEEN lo AND hi. -/
def AnL (lo hi : Nat) (ga : Option Addr) (n : Nat) (ls : Nat → List Nat) (W : World) : Prop := (ga = none ∧ n = 0) ∨ ∃ R ra rc, ga = some ⟨R, 0, none⟩ ∧ lo ≤ R ∧ R < hi ∧ Gs (R + 2) n R ls ra rc W ∧ ∀ k, k < n → ∀ b, (Value.slice (ra k) (ls k).length (rc k)).ownBlock = some b → b < hi
theorem AnG.anl {lo : Nat} {ga : Option Addr} {R n : Nat} {ls : Nat → List Nat} {ra : Nat → Option Addr} {rc : Nat → Nat} {W : World} (h : AnG lo ga R n ls ra rc W) : AnL lo W.heap.size ga n ls W := by
  rcases h with h | ⟨h1, h2, h3⟩
  · exact .inl h
  · exact .inr ⟨R, ra, rc, h1, h2, h3.row.lt, h3, fun k hk b e => ((h3.own k hk).lt b e).2⟩
theorem AnL.fx {P : Nat → Prop} {lo hi : Nat} {ga : Option Addr} {n : Nat} {ls : Nat → List Nat} {W W2 : World} (h : AnL lo hi ga n ls W) (f : Fx P W W2) (hp : ∀ b, lo ≤ b → b < hi → ¬ P b) : AnL lo hi ga n ls W2 := by
  rcases h with h | ⟨R, ra, rc, h1, h2, h3, h4, h5⟩
  · exact .inl h
  · refine .inr ⟨R, ra, rc, h1, h2, h3, ⟨h4.row.fx f (hp R h2 h3), fun k hk => own_same (h4.own k hk) fun b cur t hb eb => f.blk b (blk_lt hb) (hp b (by have := ((h4.own k hk).lt b eb).1; omega) (h5 k hk b eb)), h4.ne, h4.low.1, Nat.le_trans h4.low.2 f.size⟩, h5⟩
theorem AnL.later {lo hi : Nat} {ga : Option Addr} {n : Nat} {ls : Nat → List Nat} {W W2 : World} (h : AnL lo hi ga n ls W) (hb : Below W.heap.size W W2) : AnL lo hi ga n ls W2 := h.fx (P := fun _ => False) (Fx.of hb) (fun _ _ _ q => q)
theorem AnL.low {lo lo2 hi : Nat} {ga : Option Addr} {n : Nat} {ls : Nat → List Nat} {W : World} (h : AnL lo hi ga n ls W) (hl : lo2 ≤ lo) : AnL lo2 hi ga n ls W := by
  rcases h with h | ⟨R, ra, rc, h1, h2, h3⟩
  · exact .inl h
  · exact .inr ⟨R, ra, rc, h1, Nat.le_trans hl h2, h3⟩
theorem AnL.congr {lo hi : Nat} {ga : Option Addr} {n : Nat} {ls ls2 : Nat → List Nat} {W : World} (h : AnL lo hi ga n ls W) (e : ∀ k, k < n → ls k = ls2 k) : AnL lo hi ga n ls2 W := by
  rcases h with h | ⟨R, ra, rc, h1, h2, h3, h4, h5⟩
  · exact .inl h
  · refine .inr ⟨R, ra, rc, h1, h2, h3, ⟨h4.row.congr fun k hk => by rw [e k hk], fun k hk => by rw [← e k hk]; exact h4.own k hk, fun i j hi hj hij => by rw [← e i hi, ← e j hj]; exact h4.ne i j hi hj hij, h4.low⟩, fun k hk => by rw [← e k hk]; exact h5 k hk⟩
abbrev lnL (ls : Nat → List Nat) (p : Nat) : Nat := (ls p).length
abbrev LL (ls : Nat → List Nat) (p j : Nat) : Int := (((ls p).getD j 0 : Nat) : Int)
theorem AnL.rr {lo hi : Nat} {ga : Option Addr} {n : Nat} {ls : Nat → List Nat} {W : World} (h : AnL lo hi ga n ls W) : Rr W ga n (lnL ls) (LL ls) := by
  rcases h with ⟨_, h2⟩ | ⟨R, ra, rc, h1, h2, h3, h4, h5⟩
  · rw [h2]; exact (Rq.none 0 0 W ga _ _).rr
  · rw [h1]; exact h4.rr
theorem AnY.rw {lo g n : Nat} {ga : Option Addr} {f : Nat → Int} {W : World} (h : AnY lo ga g n f W) (hn : n ≤ maxLen) : Rw lo W.heap.size ga g n n f W := by
  rcases h with ⟨h1, h2⟩ | ⟨h1, h2, h3⟩
  · exact ⟨.inl ⟨h1, h2, h2⟩, fun e => by rw [h1] at e; cases e⟩
  · obtain ⟨cur, q1, q2⟩ := h3.mv
    obtain ⟨cur2, q3, q4⟩ := h3.sz
    rw [q1] at q3
    cases q3
    exact ⟨.inr ⟨cur, h1, h2, q1, Nat.le_refl _, hn, q4, fun j hj => q2 j hj⟩, fun _ => blk_lt q1⟩
theorem Rw.cong {lo hi : Nat} {G : Option Addr} {g l c : Nat} {V V2 : Nat → Int} {W : World} (h : Rw lo hi G g l c V W) (e : ∀ j, j < l → V j = V2 j) : Rw lo hi G g l c V2 W := by
  obtain ⟨h1, h2⟩ := h
  refine ⟨?_, h2⟩
  rcases h1 with h1 | ⟨cur, q1, q2, q3, q4, q5, q6, q7⟩
  · exact .inl h1
  · exact .inr ⟨cur, q1, q2, q3, q4, q5, q6, fun j hj => by rw [← e j hj]; exact q7 j hj⟩
def blkOf : Option Addr → Nat
  | some a => a.block
  | none => 0
set_option maxRecDepth 100000 in
set_option maxHeartbeats 4000000 in
theorem apart_nil (w : World) : Calls Try.prog 23 #[.slice none 0 0] w fun x w' => x = .returned (.bool true) ∧ Below w.heap.size w w' := by
  obtain ⟨iL, hiL, hzL0, hzL1, hzL2⟩ := info_parts infoL
  go_enter Try.func23, Try.ntmps23
  go_wp2_with fail
  refine wp_loop_once ?_
  go_wp2_with fail
  refine wp_loop_once ?_
  go_wp2_with fail
  go_loopg [9, 10] 20 (fun g2 vm vk wr => ∃ (k : Nat) (la : Option Addr) (lc : Nat) (xs : List Value), vk = .int .i64 k ∧ vm = .slice la k lc ∧ k ≤ 20 ∧ 20 - k ≤ g2 ∧ Hid (wr.ownsRow w.heap.size 23 1 (.slice la k lc) k xs) ∧ Hid (Below w.heap.size w wr))
  case atStart => exact ⟨0, none, 0, [], by go_num, rfl, by omega, by omega, hide (World.ownsRow_nil _ _ _ _), hide (Below.refl _ _)⟩
  case round =>
    obtain ⟨k, la, lc, xs, rfl, rfl, hk, hgk, HO, HB⟩ := hrel
    have hszz := (unhide HB).size
    by_cases hlk : k < 20
    · have HNW := hide (cell_two_new wr (.cells #[.int .i64 7] 3) (.slice (some ⟨wr.heap.size, 0, none⟩) 1 1) 23)
      have HBa := hide (((unhide HB).alloc hszz (.cells #[.int .i64 7] 3)).alloc (by simp; omega) (.cells #[.slice (some ⟨wr.heap.size, 0, none⟩) 1 1] 23))
      go_wp2_with (at_builtin; go_must (refine wpList_append_lies _ rfl _ _ 22 rfl w.heap.size 23 iL (.slice none 0 0) 1 24 Try.underlying22 hiL hzL0 hzL1 hzL2 rfl (by decide) (.slice la k lc) k xs rfl (((unhide HO).alloc _).alloc _) ⟨wr.heap.size + 1, 0, none⟩ 1 1 [.slice (some ⟨wr.heap.size, 0, none⟩) 1 1] rfl rfl (unhide HNW) (by simp [Value.oneCell']) (by decide) (by unfold maxLen; omega) (by omega) (by simp; omega) _ rfl ?_); intro gg c9 w9 hown hgrow hat _; have HO9 := hide hown; have HB9 := hide ((unhide HBa).grown hgrow (by simp; omega) (fun j e => ((unhide HO).lt j e).1)); clear hown hgrow hat)
      go_roundg (20 - (k + 1))
      case measure => omega
      case rel => exact ⟨k + 1, _, _, _, by go_num, rfl, by omega, by omega, HO9, HB9⟩
    · obtain rfl : k = 20 := by omega
      go_wp2_with fail
      refine wp_loop_once ?_
      go_wp2_with fail
      go_ret
      exact ⟨by simp, unhide HB⟩
theorem AnL.apart {lo hi : Nat} {ga : Option Addr} {n : Nat} {ls : Nat → List Nat} {W : World} (h : AnL lo hi ga n ls W) (hn : n ≤ 2097152) (hl : ∀ k, k < n → (ls k).length ≤ 1099511627776) (hlo : lo ≤ W.heap.size) :
    Calls Try.prog 23 #[.slice ga n n] W fun x w' => x = .returned (.bool true) ∧ Fx (fun b => lo ≤ b ∧ b < hi) W w' ∧ Below lo W w' := by
  rcases h with ⟨h1, h2⟩ | ⟨R, ra, rc, h1, h2, h3, h4, h5⟩
  · subst h1
    subst h2
    exact (apart_nil W).mono fun x w' hx => ⟨hx.1, Fx.of hx.2, hx.2.mono hlo⟩
  · subst h1
    have ho : ∀ k, k < n → ∃ g, Rw (R + 2) W.heap.size (ra k) g (ls k).length (rc k) (LL ls k) W := fun k hk => by
      have q := h4.own k hk
      rw [tV_vl, nI_len] at q
      obtain ⟨g, hg⟩ := Rw.of q
      exact ⟨g, hg.cong fun j hj => by
        unfold nI LL
        simp [hj]⟩
    have hg : ∀ k, k < n → Rw (R + 2) W.heap.size (ra k) (blkOf (ra k)) (ls k).length (rc k) (LL ls k) W := fun k hk => by
      obtain ⟨g, hr⟩ := ho k hk
      rcases hr.1 with q | ⟨cur, q1, q⟩
      · exact ⟨.inl q, fun e => by rw [q.1] at e; cases e⟩
      · have e : blkOf (ra k) = g := by rw [q1]; rfl
        rw [e]
        exact hr
    have hob : ∀ k, ra k = some ⟨blkOf (ra k), 0, none⟩ → (Value.slice (ra k) (ls k).length (rc k)).ownBlock = some (blkOf (ra k)) := fun k e => by
      generalize blkOf (ra k) = b at e
      rw [e]
      rfl
    have hrp : Rp lo R n ra (fun k => blkOf (ra k)) (lnL ls) rc (LL ls) W := by
      obtain ⟨cur, q1, q2⟩ := h4.row
      exact ⟨⟨cur, q1, q2⟩, fun k hk => (hg k hk).low (by omega), fun i j hi hj hij e1 e2 e3 => h4.ne i j hi hj hij _ (hob i e1) (by rw [e3]; exact hob j e2)⟩
    refine (apart_any hn hl hlo hrp).mono fun x w' hx => ⟨hx.1, ⟨hx.2.size, fun b hb hnp => hx.2.kb b hb fun k hk e q => hnp ?_⟩, hx.2.bel⟩
    have z := hob k e
    rw [← q] at z
    exact ⟨by have := ((h4.own k hk).lt b z).1; omega, h5 k hk b z⟩
theorem apart3r {s8 s9 s10 s11 s12 n m k1 k3 kp c1 c3 cq : Nat} {C1 C3 Cp : Option Addr} {V V2 : Nat → Int} {W : World} (h1 : Rw s8 s9 C1 k1 n c1 V W) (h3 : Rw s11 s12 C3 k3 n c3 V W) (hp : Rw s10 s11 Cp kp m cq V2 W) (ho : s8 ≤ s9 ∧ s9 ≤ s10 ∧ s10 ≤ s11 ∧ s11 ≤ s12) (hlo : s8 ≤ W.heap.size) (hn : n ≤ 1099511627776) (hm : m ≤ 1099511627776) :
    Calls Try.prog 23 #[.slice (some ⟨W.heap.size, 0, none⟩) 3 3] (W.alloc (.cells #[.slice C1 n c1, .slice C3 n c3, .slice Cp m cq] 23)) fun x w' => x = .returned (.bool true) ∧ Fx (fun b => (s8 ≤ b ∧ b < s9) ∨ (s10 ≤ b ∧ b < s12)) W w' ∧ Below s8 W w' := by
  have hbA := al W (.cells #[.slice C1 n c1, .slice C3 n c3, .slice Cp m cq] 23)
  have g1 : C1 = some ⟨k1, 0, none⟩ → s8 ≤ k1 ∧ k1 < s9 := fun e => ⟨by rcases h1.1 with ⟨q, _⟩ | ⟨_, _, q, _⟩; · rw [e] at q; cases q
                                                                        · exact q, h1.2 e⟩
  have g3 : C3 = some ⟨k3, 0, none⟩ → s11 ≤ k3 ∧ k3 < s12 := fun e => ⟨by rcases h3.1 with ⟨q, _⟩ | ⟨_, _, q, _⟩; · rw [e] at q; cases q
                                                                          · exact q, h3.2 e⟩
  have gp : Cp = some ⟨kp, 0, none⟩ → s10 ≤ kp ∧ kp < s11 := fun e => ⟨by rcases hp.1 with ⟨q, _⟩ | ⟨_, _, q, _⟩; · rw [e] at q; cases q
                                                                          · exact q, hp.2 e⟩
  have hrp : Rp s8 W.heap.size 3 (fun k => match k with | 0 => C1 | 1 => C3 | _ => Cp) (fun k => match k with | 0 => k1 | 1 => k3 | _ => kp) (fun k => match k with | 0 => n | 1 => n | _ => m) (fun k => match k with | 0 => c1 | 1 => c3 | _ => cq) (fun k => match k with | 0 => V | 1 => V | _ => V2) (W.alloc (.cells #[.slice C1 n c1, .slice C3 n c3, .slice Cp m cq] 23)) := by
    refine ⟨⟨_, heap_new _ _, fun k hk => ?_⟩, fun k hk => ?_, fun i j hi hj hij e1 e2 => ?_⟩
    · match k, hk with
      | 0, _ => rfl
      | 1, _ => rfl
      | 2, _ => rfl
    · match k, hk with
      | 0, _ => exact (h1.later hbA).low (by omega)
      | 1, _ => exact (h3.later hbA).low (by omega)
      | 2, _ => exact (hp.later hbA).low (by omega)
    · match i, j, hi, hj with
      | 0, 0, _, _ => exact absurd rfl hij
      | 0, 1, _, _ => have := g1 e1; have := g3 e2; show k1 ≠ k3; omega
      | 0, 2, _, _ => have := g1 e1; have := gp e2; show k1 ≠ kp; omega
      | 1, 0, _, _ => have := g3 e1; have := g1 e2; show k3 ≠ k1; omega
      | 1, 1, _, _ => exact absurd rfl hij
      | 1, 2, _, _ => have := g3 e1; have := gp e2; show k3 ≠ kp; omega
      | 2, 0, _, _ => have := gp e1; have := g1 e2; show kp ≠ k1; omega
      | 2, 1, _, _ => have := gp e1; have := g3 e2; show kp ≠ k3; omega
      | 2, 2, _, _ => exact absurd rfl hij
  refine (apart_any (by omega) (fun k hk => ?_) (Nat.le_trans hlo hbA.size) hrp).mono fun x w' hx => ⟨hx.1, ?_, ?_⟩
  · match k, hk with
    | 0, _ => exact hn
    | 1, _ => exact hn
    | 2, _ => exact hm
  · refine ⟨Nat.le_trans hbA.size hx.2.size, fun b hb hn => ?_⟩
    refine (hx.2.kb b (Nat.lt_of_lt_of_le hb hbA.size) fun k hk e => ?_).trans (hbA.block b hb)
    match k, hk with
    | 0, _ => have := g1 e; show b ≠ k1; intro q; exact hn (by omega)
    | 1, _ => have := g3 e; show b ≠ k3; intro q; exact hn (by omega)
    | 2, _ => have := gp e; show b ≠ kp; intro q; exact hn (by omega)
  · exact (hbA.mono hlo).trans hx.2.bel
end Go.Proofs.Ytjflnpcpnoccjaa

namespace Go.Proofs.Ytjflnpcpnoccjaa
open Go.RowKit

/-! What is told of the graph that is asked about between. -/
theorem egA (u v : Nat) : Eg 3 lnA LA u v ↔ (u = 0 ∧ v = 1) ∨ (u = 1 ∧ v = 0) ∨ (u = 1 ∧ v = 2) := by
  constructor
  · rintro ⟨hu, i, hi, e⟩
    match u, hu, i, hi, e with
    | 0, _, 0, _, e => have : (1 : Int) = (v : Int) := e; omega
    | 0, _, (i + 1), hi, _ => exact absurd (show i + 1 < 1 from hi) (by omega)
    | 1, _, 0, _, e => have : (0 : Int) = (v : Int) := e; omega
    | 1, _, 1, _, e => have : (2 : Int) = (v : Int) := e; omega
    | 1, _, (i + 2), hi, _ => exact absurd (show i + 2 < 2 from hi) (by omega)
    | 2, _, i, hi, _ => exact absurd (show i < 0 from hi) (by omega)
  · rintro (⟨rfl, rfl⟩ | ⟨rfl, rfl⟩ | ⟨rfl, rfl⟩)
    · exact ⟨by omega, 0, by decide, rfl⟩
    · exact ⟨by omega, 0, by decide, rfl⟩
    · exact ⟨by omega, 1, by decide, rfl⟩
theorem muA : Mu 3 lnA LA 0 1 := ⟨(Rch.refl _ 0).tail ((egA 0 1).2 (.inl ⟨rfl, rfl⟩)), (Rch.refl _ 1).tail ((egA 1 0).2 (.inr (.inl ⟨rfl, rfl⟩)))⟩
theorem nwA0 : nw (Mu 3 lnA LA) 0 := fun _ hj => absurd hj (Nat.not_lt_zero _)
theorem nwA1 : ¬ nw (Mu 3 lnA LA) 1 := fun h => h 0 (by omega) muA
theorem nwA2 : nw (Mu 3 lnA LA) 2 := fun j hj h => by
  have := Rch.closed (p := fun x => x = 2) (fun x w hx he => by
    subst hx
    have := (egA 2 w).1 he
    omega) h.2 rfl
  omega
theorem ndA1 : nds (Mu 3 lnA LA) 1 = 1 := by rw [nds_new nwA0]; rfl
theorem ndA2 : nds (Mu 3 lnA LA) 2 = 1 := by rw [nds_old nwA1, ndA1]
theorem pcA : pc 3 lnA LA = 2 := by
  show nds (Mu 3 lnA LA) 3 = 2
  rw [nds_new nwA2, ndA2]
theorem pnA0 : pn 3 lnA LA 0 = 0 := by
  show no (Mu 3 lnA LA) 0 = 0
  rw [no_new (kd_mu _ _ _) nwA0]; rfl
theorem pnA1 : pn 3 lnA LA 1 = 0 := by
  have : no (Mu 3 lnA LA) 0 = no (Mu 3 lnA LA) 1 := no_same (kd_mu _ _ _) muA
  show no (Mu 3 lnA LA) 1 = 0
  rw [← this]
  exact pnA0
theorem pnA2 : pn 3 lnA LA 2 = 1 := by
  show no (Mu 3 lnA LA) 2 = 1
  rw [no_new (kd_mu _ _ _) nwA2, ndA2]
def oL : Nat → List Nat
  | 0 => [0, 1]
  | _ => [2]
def qL : Nat → List Nat
  | 0 => [1]
  | _ => []
def pV (j : Nat) : Int := if j = 2 then 1 else 0
theorem ptA (k : Nat) (hk : k < 2) : ptL (pn 3 lnA LA) 3 k = oL k := by
  match k, hk with
  | 0, _ => simp [ptL, List.range_succ, pnA0, pnA1, pnA2, oL]
  | 1, _ => simp [ptL, List.range_succ, pnA0, pnA1, pnA2, oL]
theorem btA01 : bt 3 lnA LA 0 1 = true := (bt_iff _ _ _ _ _).2 ⟨1, 2, by omega, by omega, pnA1, pnA2, (egA 1 2).2 (.inr (.inr ⟨rfl, rfl⟩))⟩
theorem btA10 : bt 3 lnA LA 1 0 = false := by
  cases h : bt 3 lnA LA 1 0 with
  | false => rfl
  | true =>
    obtain ⟨x, y, hx, hy, e1, e2, he⟩ := (bt_iff _ _ _ _ _).1 h
    rcases (egA x y).1 he with ⟨rfl, _⟩ | ⟨rfl, _⟩ | ⟨rfl, _⟩
    · rw [pnA0] at e1; cases e1
    · rw [pnA1] at e1; cases e1
    · rw [pnA1] at e1; cases e1
theorem cdA (k : Nat) (hk : k < 2) : cdL 3 lnA LA k = qL k := by
  unfold cdL
  rw [pcA]
  match k, hk with
  | 0, _ => simp [cL, List.range_succ, btA01, qL]
  | 1, _ => simp [cL, List.range_succ, btA10, qL]
theorem poA (j : Nat) (hj : j < 3) : (pn 3 lnA LA j : Int) = pV j := by
  match j, hj with
  | 0, _ => rw [pnA0]; rfl
  | 1, _ => rw [pnA1]; rfl
  | 2, _ => rw [pnA2]; rfl
theorem ptNA : ptN 3 lnA LA = 2 := by unfold ptN; rw [if_pos rgtA, pcA]
theorem poNA : poN 3 lnA LA = 3 := by unfold poN; rw [if_pos rgtA]
theorem ptEA : ptE 3 lnA LA = 0 := by unfold ptE; rw [if_pos rgtA]
theorem lnA_le (k : Nat) (hk : k < 3) : lnA k ≤ 1048576 := by
  match k, hk with
  | 0, _ => decide
  | 1, _ => decide
  | 2, _ => decide
/-! The program's answers, in the law's form. -/
theorem Parts_L {N : Nat} {ln : Nat → Nat} {L : Nat → Nat → Int} {na : Option Addr} {nc : Nat} {w : World} (hN : N ≤ 1048576) (hln : ∀ k, k < N → ln k ≤ 1048576) (hR : Rr w na N ln L) :
    Calls Try.prog 30 #[.slice na N nc] w fun x w' => ∃ ga, x = .returned (.tuple #[.slice ga (ptN N ln L) (ptN N ln L), .int .i64 (ptE N ln L)]) ∧ AnL w.heap.size w'.heap.size ga (ptN N ln L) (ptL (pn N ln L) N) w' ∧ Below w.heap.size w w' :=
  (Parts_any (nc := nc) hN hln hR).mono fun _ _ ⟨ga, _, _, _, e, h, hb⟩ => ⟨ga, e, h.anl, hb⟩
theorem Condense_L {N : Nat} {ln : Nat → Nat} {L : Nat → Nat → Int} {na : Option Addr} {nc : Nat} {w : World} (hN : N ≤ 1048576) (hln : ∀ k, k < N → ln k ≤ 1048576) (hR : Rr w na N ln L) :
    Calls Try.prog 27 #[.slice na N nc] w fun x w' => ∃ ga, x = .returned (.tuple #[.slice ga (ptN N ln L) (ptN N ln L), .int .i64 (ptE N ln L)]) ∧ AnL w.heap.size w'.heap.size ga (ptN N ln L) (cdL N ln L) w' ∧ Below w.heap.size w w' :=
  (Condense_any (nc := nc) hN hln hR).mono fun _ _ ⟨ga, _, _, _, e, h, hb⟩ => ⟨ga, e, h.anl, hb⟩
theorem PartOf_L {N : Nat} {ln : Nat → Nat} {L : Nat → Nat → Int} {na : Option Addr} {nc : Nat} {w : World} (hN : N ≤ 1048576) (hln : ∀ k, k < N → ln k ≤ 1048576) (hR : Rr w na N ln L) :
    Calls Try.prog 32 #[.slice na N nc] w fun x w' => ∃ ga g, x = .returned (.tuple #[.slice ga (poN N ln L) (poN N ln L), .int .i64 (ptE N ln L)]) ∧ Rw w.heap.size w'.heap.size ga g (poN N ln L) (poN N ln L) (fun j => (pn N ln L j : Int)) w' ∧ Below w.heap.size w w' :=
  (PartOf_any (nc := nc) hN hln hR).mono fun _ _ ⟨ga, g, e, h, hb⟩ => ⟨ga, g, e, h.rw (by have : poN N ln L ≤ N := (by unfold poN; split <;> omega); unfold maxLen; omega), hb⟩
theorem Parts_A {na : Option Addr} {nc : Nat} {w : World} (hR : Rr w na 3 lnA LA) :
    Calls Try.prog 30 #[.slice na 3 nc] w fun x w' => ∃ ga, x = .returned (.tuple #[.slice ga 2 2, .int .i64 0]) ∧ AnL w.heap.size w'.heap.size ga 2 oL w' ∧ Below w.heap.size w w' := by
  have h := Parts_L (nc := nc) (by omega) lnA_le hR
  rw [ptNA, ptEA] at h
  exact h.mono fun _ _ ⟨ga, e, h, hb⟩ => ⟨ga, e, h.congr ptA, hb⟩
theorem Condense_A {na : Option Addr} {nc : Nat} {w : World} (hR : Rr w na 3 lnA LA) :
    Calls Try.prog 27 #[.slice na 3 nc] w fun x w' => ∃ ga, x = .returned (.tuple #[.slice ga 2 2, .int .i64 0]) ∧ AnL w.heap.size w'.heap.size ga 2 qL w' ∧ Below w.heap.size w w' := by
  have h := Condense_L (nc := nc) (by omega) lnA_le hR
  rw [ptNA, ptEA] at h
  exact h.mono fun _ _ ⟨ga, e, h, hb⟩ => ⟨ga, e, h.congr cdA, hb⟩
theorem PartOf_A {na : Option Addr} {nc : Nat} {w : World} (hR : Rr w na 3 lnA LA) :
    Calls Try.prog 32 #[.slice na 3 nc] w fun x w' => ∃ ga g, x = .returned (.tuple #[.slice ga 3 3, .int .i64 0]) ∧ Rw w.heap.size w'.heap.size ga g 3 3 pV w' ∧ Below w.heap.size w w' := by
  have h := PartOf_L (nc := nc) (by omega) lnA_le hR
  rw [poNA, ptEA] at h
  exact h.mono fun _ _ ⟨ga, g, e, h, hb⟩ => ⟨ga, g, e, h.cong poA, hb⟩
/-! The lists that are written out. -/
theorem ri_vals {W : World} {x n : Nat} {cur : Array Value} {f : Nat → Int} (h : W.heap[x]? = some (.cells cur 3 (0, 0))) (e : ∀ i, i < n → cur[i]? = some (.int .i64 (f i))) : Ri W (some ⟨x, 0, none⟩) n f := fun _ => ⟨x, 0, rfl, blk_lt h, fun i hi => by rw [Nat.zero_add, (cell_blk h i).1]; exact e i hi⟩
theorem rr_lits {W : World} {x y : Nat} {c1 c2 : Array Value} {n1 n2 m1 m2 : Nat} {ls : Nat → List Nat} (h1 : W.heap[x]? = some (.cells c1 3 (0, 0))) (h2 : W.heap[y]? = some (.cells c2 3 (0, 0))) (e1 : ∀ i, i < n1 → c1[i]? = some (.int .i64 (LL ls 0 i))) (e2 : ∀ i, i < n2 → c2[i]? = some (.int .i64 (LL ls 1 i))) (hn1 : (ls 0).length = n1) (hn2 : (ls 1).length = n2) :
    Rr (W.alloc (.cells #[.slice (some ⟨x, 0, none⟩) n1 m1, .slice (some ⟨y, 0, none⟩) n2 m2] 23)) (some ⟨W.heap.size, 0, none⟩) 2 (lnL ls) (LL ls) := by
  refine ⟨fun k => if k = 0 then some ⟨x, 0, none⟩ else some ⟨y, 0, none⟩, fun k => if k = 0 then m1 else m2, fun _ => ⟨_, 0, rfl, blk_lt (heap_new _ _), fun i hi => ?_⟩, fun k hk => ?_⟩
  · rw [Nat.zero_add, (cell_blk (heap_new _ _) i).1]
    match i, hi with
    | 0, _ => simp [lnL, hn1]
    | 1, _ => simp [lnL, hn2]
  · match k, hk with
    | 0, _ => exact Ri.later (by show Ri W _ (lnL ls 0) _; unfold lnL; rw [hn1]; exact ri_vals h1 e1) (al _ _)
    | 1, _ => exact Ri.later (by show Ri W _ (lnL ls 1) _; unfold lnL; rw [hn2]; exact ri_vals h2 e2) (al _ _)
theorem lit_o (W : World) : Rr (((W.alloc (.cells #[.int .i64 0, .int .i64 1] 3)).alloc (.cells #[.int .i64 2] 3)).alloc (.cells #[.slice (some ⟨W.heap.size, 0, none⟩) 2 2, .slice (some ⟨W.heap.size + 1, 0, none⟩) 1 1] 23)) (some ⟨W.heap.size + 1 + 1, 0, none⟩) 2 (lnL oL) (LL oL) := by
  have b2 := heap_new (W.alloc (.cells #[.int .i64 0, .int .i64 1] 3)) (.cells #[.int .i64 2] 3)
  have b1 := ((al (W.alloc (.cells #[.int .i64 0, .int .i64 1] 3)) (.cells #[.int .i64 2] 3)).block W.heap.size (by simp)).trans (heap_new W (.cells #[.int .i64 0, .int .i64 1] 3))
  rw [World.size_alloc] at b2
  have h := rr_lits (n1 := 2) (n2 := 1) (m1 := 2) (m2 := 1) (ls := oL) b1 b2 (fun i hi => by
    match i, hi with
    | 0, _ => rfl
    | 1, _ => rfl) (fun i hi => by
    match i, hi with
    | 0, _ => rfl) rfl rfl
  simp only [World.size_alloc] at h
  exact h
theorem lit_q (W : World) : Rr (((W.alloc (.cells #[.int .i64 1] 3)).alloc (.cells #[] 3)).alloc (.cells #[.slice (some ⟨W.heap.size, 0, none⟩) 1 1, .slice (some ⟨W.heap.size + 1, 0, none⟩) 0 0] 23)) (some ⟨W.heap.size + 1 + 1, 0, none⟩) 2 (lnL qL) (LL qL) := by
  have b2 := heap_new (W.alloc (.cells #[.int .i64 1] 3)) (.cells #[] 3)
  have b1 := ((al (W.alloc (.cells #[.int .i64 1] 3)) (.cells #[] 3)).block W.heap.size (by simp)).trans (heap_new W (.cells #[.int .i64 1] 3))
  rw [World.size_alloc] at b2
  have h := rr_lits (n1 := 1) (n2 := 0) (m1 := 1) (m2 := 0) (ls := qL) b1 b2 (fun i hi => by
    match i, hi with
    | 0, _ => rfl) (fun i hi => absurd hi (Nat.not_lt_zero _)) rfl rfl
  simp only [World.size_alloc] at h
  exact h
theorem lit_p (W : World) : Ri (W.alloc (.cells #[.int .i64 0, .int .i64 0, .int .i64 1] 3)) (some ⟨W.heap.size, 0, none⟩) 3 pV := ri_vals (heap_new _ _) fun i hi => by
  match i, hi with
  | 0, _ => rfl
  | 1, _ => rfl
  | 2, _ => rfl
theorem bl3 (W : World) (o1 o2 o3 : Obj) : Below W.heap.size W (((W.alloc o1).alloc o2).alloc o3) := bl_t (bl_t (al _ _) (al _ _)) (al _ _)
end Go.Proofs.Ytjflnpcpnoccjaa

namespace Go.Proofs.Ytjflnpcpnoccjaa
open Go.RowKit

/-- WHAT THE LAW HAS LENT. -/
structure KP (w : World) (na : Option Addr) (N : Nat) (ln : Nat → Nat) (L : Nat → Nat → Int) (s1 s2 B cB : Nat) (g cp : Nat → Nat) (qa : Option Addr) (W : World) : Prop where
  tx : Tx s1 w.heap.size B N cB ln g cp L W
  hd : Rh s1 s2 W qa N (Hd g ln cp)
  cl : Rr W na N ln L
  bel : Below w.heap.size w W
  o : s1 ≤ s2
theorem KP.fx {w : World} {na : Option Addr} {N : Nat} {ln : Nat → Nat} {L : Nat → Nat → Int} {s1 s2 B cB : Nat} {g cp : Nat → Nat} {qa : Option Addr} {W W2 : World} {P : Nat → Prop} (h : KP w na N ln L s1 s2 B cB g cp qa W) (f : Fx P W W2) (hp : ∀ b, P b → s2 ≤ b) (hb : Below w.heap.size w W2) (hcl : Rr w na N ln L) : KP w na N ln L s1 s2 B cB g cp qa W2 :=
  ⟨h.tx.fx f (fun b q => by have := hp b q; have := h.o; omega), h.hd.fx f (fun b _ h2 q => by have := hp b q; omega), hcl.later hb, hb, h.o⟩
theorem KP.later {w : World} {na : Option Addr} {N : Nat} {ln : Nat → Nat} {L : Nat → Nat → Int} {s1 s2 B cB : Nat} {g cp : Nat → Nat} {qa : Option Addr} {W W2 : World} (h : KP w na N ln L s1 s2 B cB g cp qa W) (hb : Below W.heap.size W W2) : KP w na N ln L s1 s2 B cB g cp qa W2 :=
  ⟨h.tx.later hb, h.hd.later hb, h.cl.later hb, bl_t h.bel hb, h.o⟩
theorem Rw.lowr {lo hi lo2 : Nat} {G : Option Addr} {g l c : Nat} {V : Nat → Int} {W : World} (h : Rw lo hi G g l c V W) (hl : lo2 ≤ lo) : Rw lo2 hi G g l c V W := ⟨h.low hl, h.2⟩
theorem Fx.or {P Q : Nat → Prop} {A B C : World} (h : Fx P A B) (k : Fx Q B C) : Fx (fun b => P b ∨ Q b) A C := ⟨Nat.le_trans h.size k.size, fun b hb hp => (k.blk b (Nat.lt_of_lt_of_le hb h.size) fun q => hp (.inr q)).trans (h.blk b hb fun q => hp (.inl q))⟩
theorem ptL_len (f : Nat → Nat) (N p : Nat) : (ptL f N p).length ≤ N := by
  have := List.length_filter_le (fun i => f i == p) (List.range N)
  rw [List.length_range] at this
  exact this
theorem cdL_len (N : Nat) (ln : Nat → Nat) (L : Nat → Nat → Int) (p : Nat) : (cdL N ln L p).length ≤ N := Nat.le_trans (cL_len N ln L p _) (pc_le N ln L)
theorem poN_le (N : Nat) (ln : Nat → Nat) (L : Nat → Nat → Int) : poN N ln L ≤ N := by
  unfold poN
  split <;> omega
theorem oL_len (k : Nat) : (oL k).length ≤ 2 := by
  match k with
  | 0 => exact Nat.le_refl 2
  | _ + 1 => exact Nat.le_succ 1
theorem qL_len (k : Nat) : (qL k).length ≤ 2 := by
  match k with
  | 0 => exact Nat.le_succ 1
  | _ + 1 => exact Nat.zero_le 2
theorem le_big {l : Nat → Nat} {m : Nat} (hm : m ≤ 1048576) (h : ∀ k, l k ≤ m) (n : Nat) : ∀ k, k < n → l k ≤ 140737488355328 := fun k _ => by have := h k; omega
theorem le_mid {l : Nat → Nat} {m : Nat} (hm : m ≤ 1048576) (h : ∀ k, l k ≤ m) (n : Nat) : ∀ k, k < n → l k ≤ 1099511627776 := fun k _ => by have := h k; omega
/-- WHAT HAS BEEN ANSWERED. -/
structure PX (n m : Nat) (ls ks : Nat → List Nat) (V : Nat → Int) (s2 s3 s4 s5 s6 s7 s8 s9 s10 s11 s12 s13 s14 s15 s16 s17 : Nat) (ga3 ga4 ga5 ga6 ga7 ga8 ga9 ga10 ga11 ga12 ga13 ga14 ga15 ga16 ga17 : Option Addr) (k8 k9 k10 k11 : Nat) (W : World) : Prop where
  f3 : AnL s2 s3 ga3 n ls W
  f4 : AnL s3 s4 ga4 n ls W
  f5 : AnL s4 s5 ga5 2 oL W
  f6 : AnL s5 s6 ga6 n ls W
  f7 : Rq s6 s7 W ga7 n (lnL ls) (LL ls)
  f8 : Rw s7 s8 ga8 k8 m m V W
  f9 : Rw s8 s9 ga9 k9 m m V W
  f10 : Rw s9 s10 ga10 k10 3 3 pV W
  f11 : Rw s10 s11 ga11 k11 m m V W
  f12 : Rh s11 s12 W ga12 m (iv V)
  f13 : AnL s12 s13 ga13 n ks W
  f14 : AnL s13 s14 ga14 n ks W
  f15 : AnL s14 s15 ga15 2 qL W
  f16 : AnL s15 s16 ga16 n ks W
  f17 : Rq s16 s17 W ga17 n (lnL ks) (LL ks)
  o : s2 ≤ s3 ∧ s3 ≤ s4 ∧ s4 ≤ s5 ∧ s5 ≤ s6 ∧ s6 ≤ s7 ∧ s7 ≤ s8 ∧ s8 ≤ s9 ∧ s9 ≤ s10 ∧ s10 ≤ s11 ∧ s11 ≤ s12 ∧ s12 ≤ s13 ∧ s13 ≤ s14 ∧ s14 ≤ s15 ∧ s15 ≤ s16 ∧ s16 ≤ s17
theorem PX.later {n m : Nat} {ls ks : Nat → List Nat} {V : Nat → Int} {s2 s3 s4 s5 s6 s7 s8 s9 s10 s11 s12 s13 s14 s15 s16 s17 : Nat} {ga3 ga4 ga5 ga6 ga7 ga8 ga9 ga10 ga11 ga12 ga13 ga14 ga15 ga16 ga17 : Option Addr} {k8 k9 k10 k11 : Nat} {W W2 : World} (h : PX n m ls ks V s2 s3 s4 s5 s6 s7 s8 s9 s10 s11 s12 s13 s14 s15 s16 s17 ga3 ga4 ga5 ga6 ga7 ga8 ga9 ga10 ga11 ga12 ga13 ga14 ga15 ga16 ga17 k8 k9 k10 k11 W) (hb : Below W.heap.size W W2) : PX n m ls ks V s2 s3 s4 s5 s6 s7 s8 s9 s10 s11 s12 s13 s14 s15 s16 s17 ga3 ga4 ga5 ga6 ga7 ga8 ga9 ga10 ga11 ga12 ga13 ga14 ga15 ga16 ga17 k8 k9 k10 k11 W2 :=
  ⟨h.f3.later hb, h.f4.later hb, h.f5.later hb, h.f6.later hb, h.f7.later hb, h.f8.later hb, h.f9.later hb, h.f10.later hb, h.f11.later hb, h.f12.later hb, h.f13.later hb, h.f14.later hb, h.f15.later hb, h.f16.later hb, h.f17.later hb, h.o⟩
end Go.Proofs.Ytjflnpcpnoccjaa

