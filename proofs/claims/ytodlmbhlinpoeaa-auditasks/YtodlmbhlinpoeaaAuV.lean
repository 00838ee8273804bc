import Derived.Test.YtodlmbhlinpoeaaAuQ
import Derived.Test.YtodlmbhlinpoeaaAuB
namespace Go.Proofs.Ytodlmbhlinpoeaa
open Go.RowKit

theorem Kd.drew {lo : Nat} {W W' : World} (h : Kd lo W W') : Kd lo W W'.drew := ⟨h.bel.drew, h.cell, h.fr⟩
theorem add_str (a b : ByteArray) (h : a.size + b.size ≤ 9223372036854775807) (w : World) : (binOp .add 9 (.string a) (.string b)).run Try.prog w = .ok (.string (a ++ b)) w := by
  have h1 : ¬ (9223372036854775807 < (a.size : Int) + (b.size : Int)) := by omega
  have h2 : ¬ (9223372036854775807 < a.size + b.size) := by omega
  go_simp
def p1 : Nm := ⟨#[43, 49]⟩
theorem En.of {lo : Nat} {W W' : World} {gw M cw m : Nat} {fl : List (List Value)} {mk : List Value} (h : Len 31 4 lo W fl mk m (.slice (some ⟨gw, 0, none⟩) M cw)) (ok : ∀ r ∈ fl, isT 31 4 r) (d : Kd lo W W') : ∃ fl2, En W' gw M fl2 := by
  obtain ⟨g2, c2, e, _, _, hlt, hfr, _⟩ := h.open ok
  simp only [Value.slice.injEq, Option.some.injEq, Addr.mk.injEq] at e
  obtain ⟨⟨rfl, _⟩, eM, rfl⟩ := e
  obtain ⟨fl2, hR, hl⟩ := d.rws (h.rws ok)
  refine ⟨fl2, by rw [hl, eM], hR.ok, fun j r hj => ?_, fun t => (d.fr _).trans (hfr t), Nat.lt_of_lt_of_le hlt d.bel.size⟩
  have hjl := (List.getElem?_eq_some_iff.1 hj).1
  obtain ⟨b, o, e2, _, _, hr⟩ := hR.at hjl
  cases e2
  rw [Nat.zero_add] at hr
  rw [List.getElem?_eq_getElem hjl] at hj
  cases hj
  exact hr
theorem En.later {W W2 : World} {g M : Nat} {fl : List (List Value)} (h : En W g M fl) (hb : Below W.heap.size W W2) : En W2 g M fl :=
  ⟨h.len, h.ok, fun j r hj => rangeAt_later (h.at_ j r hj) h.lt hb, fun t => (hb.frozen (p := ⟨g, t, none⟩) h.lt).trans (h.fr t), Nat.lt_of_lt_of_le h.lt hb.size⟩
section
variable {ops : Array Oper} {rest : List Oper} {o : Oper} {a : Act} {w : World} {Q : Exit → Act → World → Prop}
theorem m_store {t k : Nat} (hs : (Try.prog.info? t).map (·.size) = some k) (x y : Operand) (ho : o.op = .store t x y) (hw : Region.wanted o (yielded ops a.tmps) = true) (b off : Nat) (hx : a.eval x = .pointer (some ⟨b, off, none⟩)) (l : List Value) (hy : a.eval y = .agg l.toArray) (hl : l.length = k) (h1 : ∀ x ∈ l, x.oneCell' = true) (ht : w.there b off k)
    (h : wpList Try.prog ops Q rest (a.put o.dst undef) (w.setCells b off l)) : wpList Try.prog ops Q (o :: rest) a w := by
  refine BigFrame.wpList_want hw fun K hK => ?_
  exact wp_store_mid t x y ho b off l.toArray hx hy (by rw [List.size_toArray, hl]; exact ht) (by rw [hs, List.size_toArray, hl]) (all_oneCell_toArray h1) (hK _ _ h)
end
theorem sumV (fl : List (List Value)) : ctV fl = .agg (ctL fl).toArray := rfl
set_option maxRecDepth 100000 in
set_option maxHeartbeats 32000000 in
theorem auditAsks_walk {w : World} {v u : Value} {hs : List Hk} {fl : List (List Value)} {path : Nm} (h : Hds w v hs) (hl : hs.length ≤ 586406201463) (hz : ∀ p ∈ hs, HkZ p) (hvr : ∀ p ∈ hs, p.vr.size ≤ 140737488351232) (k : Rws 31 4 w u fl) (kl : fl.length ≤ 2513169434843) (hp : path.size ≤ maxLen) :
    Calls Try.prog 3 #[v, u, .string path] w fun e w' => e = .returned (.bool true) ∧ Below w.heap.size w w' := by
  have HO := hide h.okh
  obtain ⟨va, vc, rfl⟩ := h.form
  obtain ⟨ua, uc, rfl⟩ := k.form
  obtain ⟨zW, TW⟩ := tyW
  have hzf : ∀ x ∈ hs, x.fs.length ≤ 2513169434843 := fun x hx => (hz x hx).fl
  obtain ⟨⟨kn, kv, kb⟩, hown⟩ : ∃ q : Nm × Nm × Bool, ownK hs path = q := ⟨_, rfl⟩
  have eV : ownV (ownK hs path) = .tuple #[.agg #[.string kn, .string kv], .bool kb] := by rw [hown]; rfl
  have CL := hide (lendHeld_any h hl hz)
  have HW := hide (fun (X : World) (hX : Below w.heap.size w X) => lend TW (k.later hX) mkW (m := 2) (by decide) rfl (by simp [mkW, Value.oneCell']) (by unfold maxLen; omega) (by omega) 23)
  have HOW := hide (fun (X : World) (g cap : Nat) (ov dv pv : Value) (csl : List (List Value)) (od od2 : List Value) (hX : Ld w.heap.size X hs g cap ov dv pv csl od od2) => owner_any (p := path) (hX.hds (unhide HO) cap) hl hzf)
  have HRO := hide (fun (X : World) (hX : Below w.heap.size w X) => rowner_any (p := path) (h.later hX) hl hzf)
  have HSU := hide (fun (X : World) (x : Value) (hX : Rws 31 4 X x fl) => summary_any hX kl)
  have HRS := hide (fun (X : World) (hX : Below w.heap.size w X) => rsummary_any (k.later hX) kl)
  have HST := hide (fun (X : World) (lo g cap : Nat) (ov dv pv : Value) (csl : List (List Value)) (od od2 : List Value) (hX : Below w.heap.size w X) (h1 : Ld lo X hs g cap ov dv pv csl od od2) (h2 : hs.length + 2 ≤ cap) => stayed_yes h1 h2 (h.later hX) hl hz)
  have HWR := hide (fun (X : World) (x : Value) (hX : Rws 31 4 X x fl) (hY : Below w.heap.size w X) => wrongs_yes (Nat.le_trans kl (by decide)) hX (k.later hY))
  simp only [eV, sumV] at HOW HRO HSU HRS
  have hcl := ctL_len fl
  have hc1 := hide (ctL_one fl)
  have HNE := hide (neqR kl)
  have HKO := hide k.ok
  obtain ⟨N, hN⟩ : ∃ N, hs.length = N := ⟨_, rfl⟩
  obtain ⟨M, hM⟩ : ∃ M, fl.length = M := ⟨_, rfl⟩
  rw [hN] at hl HOW HRO HST CL ⊢
  rw [hM] at kl HW HRS HWR ⊢
  have HN := hide hN
  have HM := hide hM
  have HV := hide hvr
  have HZ := hide hz
  generalize ctL fl = ct at *
  have HH := hide h
  have HK := hide k
  clear h k hN hM hvr hz hzf eV hown TW
  go_enter Try.func3, Try.ntmps3
  go_upto_region 2 with (first
    | (go_at_call 4; refine (unhide CL).mono ?_; rintro e w1 ⟨g, cap, ov, dv, pv, csl, od, od2, rfl, hcap, hL, hb⟩; have HL1 := hide hL; have K1 := hide hb; have O1 := hide (show ov.oneCell' = true ∧ dv.oneCell' = true ∧ pv.oneCell' = true from ⟨by obtain ⟨_, _, rfl⟩ := owns_form hL.orow; rfl, by obtain ⟨_, _, rfl⟩ := owns_form hL.drow; rfl, by obtain ⟨_, _, rfl⟩ := owns_form hL.prow; rfl⟩); clear hL hb CL)
    | ((with_reducible refine b_alloc (t := 26) (k := 5) zeroN rfl rfl ?_); intro w2 B1 k1 z1)
    | ((with_reducible refine b_store (t := 26) (k := 5) infoN _ _ rfl rfl w1.heap.size rfl [.slice (some ⟨g, 0, none⟩) N cap, ov, dv, pv, .bool true] rfl rfl (by obtain ⟨q1, q2, q3⟩ := unhide O1; intro x hx; simp only [List.mem_cons, List.not_mem_nil, or_false] at hx; rcases hx with rfl | rfl | rfl | rfl | rfl <;> first | assumption | simp [Value.oneCell']) _ B1 ?_); intro w3 B3 o3 k3 z3; have X3 := hide B3; have K3 := hide (bl_t (unhide K1) (k1.trans (k3 _ (Nat.le_refl _)))); have L3 := hide ((unhide HL1).later (k1.trans (k3 _ (Nat.le_refl _)))); have HGG := hide (show w.heap.size ≤ g ∧ g < w1.heap.size from World.ownsRow.lt (unhide HL1).lrow g rfl); clear B1 k1 z1 B3 o3 k3 z3 HL1 K1 O1))
  generalize w1.heap.size = GB at *
  obtain ⟨v1, w3a, gw, cw, w4, ra, rb, hcw, l4, b4⟩ := unhide HW w3 (unhide K3)
  have X4 := hide ((unhide X3).later b4)
  have K4 := hide (bl_t (unhide K3) b4)
  have L4 := hide ((unhide L3).later b4)
  have W4 := hide (l4.base (unhide K3).size)
  have HGW := hide (show g < gw from by have := (l4.blk gw rfl).1; have := (unhide X3).lt; have := (unhide HGG).2; omega)
  have hcw2 : (M : Int) ≤ (cw : Int) := by omega
  have hcw3 : M ≤ cw := by omega
  clear b4 l4 X3 K3 L3 HW
  go_upto_region 5 with (first
    | (at_builtin; refine wpList_append_run rfl _ _ 23 rfl _ _ rfl rfl ra ?_; clear ra)
    | (at_builtin; refine wpList_append_run rfl _ _ 23 rfl _ _ rfl rfl rb ?_; clear rb))
  have a0 := (unhide X4).cell (i := 0) rfl
  go_upto_region 6 with (first
    | (go_at_call 5; refine (unhide HOW _ _ _ _ _ _ _ _ _ (unhide L4)).mono ?_; rintro e w5 ⟨rfl, b5⟩; have X5 := hide ((unhide X4).later b5); have K5 := hide (bl_t (unhide K4) b5); have L5 := hide ((unhide L4).later b5); have W5 := hide ((unhide W4).same fun b _ hb => b5.block b hb); clear b5 X4 K4 L4 W4 a0 HOW)
    | ((with_reducible refine b_alloc (t := 29) (k := 2) zeroK rfl rfl ?_); intro w6 B1 k1 z1)
    | ((with_reducible refine b_store (t := 29) (k := 2) infoK _ _ rfl rfl w5.heap.size rfl [.string kn, .string kv] rfl rfl (by simp [Value.oneCell']) _ B1 ?_); intro w7 B3 o3 k3 z3; have b7 := k1.trans (k3 _ (Nat.le_refl _)); have Y7 := hide B3; have X7 := hide ((unhide X5).later b7); have K7 := hide (bl_t (unhide K5) b7); have L7 := hide ((unhide L5).later b7); have W7 := hide ((unhide W5).same fun b _ hb => b7.block b hb); clear B1 k1 z1 B3 o3 k3 z3 b7 X5 K5 L5 W5))
  generalize w5.heap.size = G1 at *
  go_upto_region 7 with (first
    | (go_at_call 6; refine (unhide HRO _ (unhide K7)).mono ?_; rintro e w8 ⟨rfl, b8⟩; have X8 := hide ((unhide X7).later b8); have Y8 := hide ((unhide Y7).later b8); have K8 := hide (bl_t (unhide K7) b8); have L8 := hide ((unhide L7).later b8); have W8 := hide ((unhide W7).same fun b _ hb => b8.block b hb); clear b8 X7 K7 L7 W7 Y7 HRO)
    | ((with_reducible refine b_alloc (t := 29) (k := 2) zeroK rfl rfl ?_); intro w9 B1 k1 z1)
    | ((with_reducible refine b_store (t := 29) (k := 2) infoK _ _ rfl rfl w8.heap.size rfl [.string kn, .string kv] rfl rfl (by simp [Value.oneCell']) _ B1 ?_); intro wA B3 o3 k3 z3; have b7 := k1.trans (k3 _ (Nat.le_refl _)); have ZA := hide B3; have YA := hide ((unhide Y8).later b7); have XA := hide ((unhide X8).later b7); have KA := hide (bl_t (unhide K8) b7); have LA := hide ((unhide L8).later b7); have WA := hide ((unhide W8).same fun b _ hb => b7.block b hb); clear B1 k1 z1 B3 o3 k3 z3 b7 X8 K8 L8 W8 Y8))
  generalize w8.heap.size = G2 at *
  have SA := hide (show Rws 31 4 wA (.slice (some ⟨gw, 0, none⟩) M cw) fl from (unhide WA).rws (unhide HKO))
  go_upto_region 8 with (first
    | (go_at_call 7; refine (unhide HSU _ _ (unhide SA)).mono ?_; rintro e wB ⟨rfl, b8⟩; have XB := hide ((unhide XA).later b8); have YB := hide ((unhide YA).later b8); have ZB := hide ((unhide ZA).later b8); have KB := hide (bl_t (unhide KA) b8); have LB := hide ((unhide LA).later b8); have WB := hide ((unhide WA).same fun b _ hb => b8.block b hb); clear b8 XA YA ZA KA LA WA SA)
    | ((with_reducible refine b_alloc (t := 34) (k := 7) zeroR rfl rfl ?_); intro wC B1 k1 z1)
    | ((with_reducible refine b_store (t := 34) (k := 7) infoR _ _ rfl rfl wB.heap.size rfl ct rfl hcl (unhide hc1) _ B1 ?_); intro wD B3 o3 k3 z3; have b7 := k1.trans (k3 _ (Nat.le_refl _)); have RD := hide B3; have ZD := hide ((unhide ZB).later b7); have YD := hide ((unhide YB).later b7); have XD := hide ((unhide XB).later b7); have KD := hide (bl_t (unhide KB) b7); have LD := hide ((unhide LB).later b7); have WD := hide ((unhide WB).same fun b _ hb => b7.block b hb); clear B1 k1 z1 B3 o3 k3 z3 b7 XB YB ZB KB LB WB))
  generalize wB.heap.size = G3 at *
  have hne := unhide HNE
  have hKl : (Try.prog.info? 29).map (·.size) = some [Value.string kn, Value.string kv].length := infoK
  have hRl : (Try.prog.info? 34).map (·.size) = some ct.length := by rw [hcl]; exact infoR
  have hNl : (Try.prog.info? 26).map (·.size) = some [Value.slice (some ⟨g, 0, none⟩) N cap, ov, dv, pv, .bool true].length := infoN
  have HS := hide (show ∀ X, Below wD.heap.size wD X → X.rangeAt G1 0 [.string kn, .string kv] ∧ X.rangeAt G2 0 [.string kn, .string kv] ∧ X.rangeAt G3 0 ct ∧ X.rangeAt GB 0 [.slice (some ⟨g, 0, none⟩) N cap, ov, dv, pv, .bool true] from fun X hX => ⟨((unhide YD).later hX).range, ((unhide ZD).later hX).range, ((unhide RD).later hX).range, ((unhide XD).later hX).range⟩)
  have E0 := hide (Below.refl wD.heap.size wD).drew
  refine wp_region_held_drew (S := fun w' => w'.rangeAt G1 0 [.string kn, .string kv] ∧ w'.rangeAt G2 0 [.string kn, .string kv] ∧ w'.rangeAt G3 0 ct ∧ w'.rangeAt GB 0 [.slice (some ⟨g, 0, none⟩) N cap, ov, dv, pv, .bool true]) (by kernel_rfl) ?_ (fun hHeld => ?_)
  · exact unhide HS _ (unhide E0)
  refine wpAnyH_take (i := 0) (oi := { dst := some 51, op := Op.load 29 (Operand.tmp 9), type := 29, pos := "law.go:213", after := #[], guard := none }) (v := .agg ([Value.string kn, Value.string kv]).toArray) rfl (by kernel_rfl) (by kernel_rfl) (by kernel_rfl) (fun _ _ _ h => h) (yieldsIf_load_mid (by rfl) 29 (.tmp 9) rfl G1 (0) (by rfl) ([Value.string kn, Value.string kv]) _ (fun _ h => h.1) Try.underlying29 rfl hKl) (by assumption) ?_
  try simp only [Act.put, List.setIfInBounds_toArray, List.set_cons_zero, List.set_cons_succ]
  refine wpAnyH_take (i := 1) (oi := { dst := some 52, op := Op.load 29 (Operand.tmp 11), type := 29, pos := "law.go:213", after := #[], guard := none }) (v := .agg ([Value.string kn, Value.string kv]).toArray) rfl (by kernel_rfl) (by kernel_rfl) (by kernel_rfl) (fun _ _ _ h => h) (yieldsIf_load_mid (by rfl) 29 (.tmp 11) rfl G2 (0) (by rfl) ([Value.string kn, Value.string kv]) _ (fun _ h => h.2.1) Try.underlying29 rfl hKl) (by assumption) ?_
  try simp only [Act.put, List.setIfInBounds_toArray, List.set_cons_zero, List.set_cons_succ]
  refine wpAnyH_take (i := 2) (oi := { dst := some 53, op := Op.binOp BinOp.neq 29 (Operand.tmp 51) (Operand.tmp 52) 29, type := 4, pos := "law.go:213", after := #[{ on := 0, ground := Ground.data }, { on := 1, ground := Ground.data }], guard := none }) (v := ?_) rfl (by kernel_rfl) (by kernel_rfl) (by kernel_rfl) (fun _ _ _ h => h) (Or.inl ⟨by rfl, ?_⟩) (by assumption) ?_
  rotate_left
  · intro w hSw; (try dsimp only at hSw); go_simp; (try with_reducible rfl)
  try simp only [Act.put, List.setIfInBounds_toArray, List.set_cons_zero, List.set_cons_succ]
  refine wpAnyH_take (i := 3) (oi := { dst := some 54, op := Op.move (Operand.tmp 53), type := 4, pos := "law.go:213", after := #[{ on := 2, ground := Ground.data }], guard := none }) (v := ?_) rfl (by kernel_rfl) (by kernel_rfl) (by kernel_rfl) (fun _ _ _ h => h) (Or.inl ⟨by rfl, ?_⟩) (by assumption) ?_
  rotate_left
  · intro w hSw; (try dsimp only at hSw); go_simp; (try with_reducible rfl)
  try simp only [Act.put, List.setIfInBounds_toArray, List.set_cons_zero, List.set_cons_succ]
  refine wpAnyH_take (i := 4) (oi := { dst := some 55, op := Op.move (Operand.tmp 10), type := 4, pos := "law.go:213", after := #[{ on := 3, ground := Ground.guard }], guard := some (3, false) }) (v := ?_) rfl (by kernel_rfl) (by kernel_rfl) (by kernel_rfl) (fun _ _ _ h => h) (Or.inl ⟨by rfl, ?_⟩) (by assumption) ?_
  rotate_left
  · intro w hSw; (try dsimp only at hSw); go_simp; (try with_reducible rfl)
  try simp only [Act.put, List.setIfInBounds_toArray, List.set_cons_zero, List.set_cons_succ]
  refine wpAnyH_take (i := 5) (oi := { dst := some 56, op := Op.move (Operand.tmp 12), type := 4, pos := "law.go:213", after := #[{ on := 3, ground := Ground.guard }], guard := some (3, false) }) (v := ?_) rfl (by kernel_rfl) (by kernel_rfl) (by kernel_rfl) (fun _ _ _ h => h) (Or.inl ⟨by rfl, ?_⟩) (by assumption) ?_
  rotate_left
  · intro w hSw; (try dsimp only at hSw); go_simp; (try with_reducible rfl)
  try simp only [Act.put, List.setIfInBounds_toArray, List.set_cons_zero, List.set_cons_succ]
  refine wpAnyH_take (i := 6) (oi := { dst := some 57, op := Op.binOp BinOp.neq 4 (Operand.tmp 55) (Operand.tmp 56) 4, type := 4, pos := "law.go:213", after := #[{ on := 4, ground := Ground.data }, { on := 5, ground := Ground.data }, { on := 3, ground := Ground.guard }], guard := some (3, false) }) (v := ?_) rfl (by kernel_rfl) (by kernel_rfl) (by kernel_rfl) (fun _ _ _ h => h) (Or.inl ⟨by rfl, ?_⟩) (by assumption) ?_
  rotate_left
  · intro w hSw; (try dsimp only at hSw); go_simp; (try with_reducible rfl)
  try simp only [Act.put, List.setIfInBounds_toArray, List.set_cons_zero, List.set_cons_succ]
  refine wpAnyH_take (i := 7) (oi := { dst := some 58, op := Op.pick (Operand.tmp 54) (Operand.const (Value.bool true)) (Operand.tmp 57), type := 4, pos := "law.go:213", after := #[{ on := 3, ground := Ground.data }, { on := 6, ground := Ground.data }], guard := none }) (v := ?_) rfl (by kernel_rfl) (by kernel_rfl) (by kernel_rfl) (fun _ _ _ h => h) (Or.inl ⟨by rfl, ?_⟩) (by assumption) ?_
  rotate_left
  · intro w hSw; (try dsimp only at hSw); go_simp; (try with_reducible rfl)
  try simp only [Act.put, List.setIfInBounds_toArray, List.set_cons_zero, List.set_cons_succ]
  refine wpAnyH_take (i := 8) (oi := { dst := some 59, op := Op.move (Operand.tmp 58), type := 4, pos := "law.go:213", after := #[{ on := 7, ground := Ground.data }, { on := 3, ground := Ground.chain }], guard := none }) (v := ?_) rfl (by kernel_rfl) (by kernel_rfl) (by kernel_rfl) (fun _ _ _ h => h) (Or.inl ⟨by rfl, ?_⟩) (by assumption) ?_
  rotate_left
  · intro w hSw; (try dsimp only at hSw); go_simp; (try with_reducible rfl)
  try simp only [Act.put, List.setIfInBounds_toArray, List.set_cons_zero, List.set_cons_succ]
  refine wpAnyH_take (i := 9) (oi := { dst := some 60, op := Op.load 34 (Operand.tmp 13), type := 34, pos := "law.go:213", after := #[{ on := 8, ground := Ground.guard }], guard := some (8, false) }) (v := .agg (ct).toArray) rfl (by kernel_rfl) (by kernel_rfl) (by kernel_rfl) (fun _ _ _ h => h) (yieldsIf_load_mid (by rfl) 34 (.tmp 13) rfl G3 (0) (by rfl) (ct) _ (fun _ h => h.2.2.1) Try.underlying34 rfl hRl) (by assumption) ?_
  try simp only [Act.put, List.setIfInBounds_toArray, List.set_cons_zero, List.set_cons_succ]
  refine wpAnyH_take (i := 10) (oi := { dst := some 61, op := Op.move (Operand.tmp 1), type := 23, pos := "law.go:213", after := #[{ on := 8, ground := Ground.guard }], guard := some (8, false) }) (v := ?_) rfl (by kernel_rfl) (by kernel_rfl) (by kernel_rfl) (fun _ _ _ h => h) (Or.inl ⟨by rfl, ?_⟩) (by assumption) ?_
  rotate_left
  · intro w hSw; (try dsimp only at hSw); go_simp; (try with_reducible rfl)
  try simp only [Act.put, List.setIfInBounds_toArray, List.set_cons_zero, List.set_cons_succ]
  refine wpAnyH_ready (rs := [11]) (by kernel_rfl) (by simp) ?_
  refine AllReadyH.cons (o := { dst := some 62, op := Op.call { callee := Callee.value (Operand.func 8), args := #[Operand.tmp 61], argTypes := #[23] }, type := 34, pos := "law.go:213", after := #[{ on := 10, ground := Ground.data }, { on := 8, ground := Ground.chain }, { on := 8, ground := Ground.guard }], guard := some (8, false) }) rfl (fun K hK => ?_) AllReadyH.nil
  go_simp
  refine (unhide HRS _ (bl_t (unhide KD) (unhide E0))).mono ?_
  rintro e y1 ⟨rfl, hv1⟩
  have E1 := hide (bl_t (unhide E0) hv1)
  clear hv1
  go_wp2_with fail
  refine hK.out _ _ (unhide HS _ (unhide E1)) (fun hHeld => ?_)
  clear hK K
  try simp only [Act.put, List.setIfInBounds_toArray, List.set_cons_zero, List.set_cons_succ]
  refine wpAnyH_take (i := 12) (oi := { dst := some 63, op := Op.binOp BinOp.neq 34 (Operand.tmp 60) (Operand.tmp 62) 34, type := 4, pos := "law.go:213", after := #[{ on := 9, ground := Ground.data }, { on := 11, ground := Ground.data }, { on := 8, ground := Ground.guard }], guard := some (8, false) }) (v := ?_) rfl (by kernel_rfl) (by kernel_rfl) (by kernel_rfl) (fun _ _ _ h => h) (Or.inl ⟨by rfl, ?_⟩) (by assumption) ?_
  rotate_left
  · intro w hSw; (try dsimp only at hSw); go_simp; (try with_reducible rfl)
  try simp only [Act.put, List.setIfInBounds_toArray, List.set_cons_zero, List.set_cons_succ]
  refine wpAnyH_take (i := 13) (oi := { dst := some 64, op := Op.pick (Operand.tmp 59) (Operand.const (Value.bool true)) (Operand.tmp 63), type := 4, pos := "law.go:213", after := #[{ on := 8, ground := Ground.data }, { on := 12, ground := Ground.data }], guard := none }) (v := ?_) rfl (by kernel_rfl) (by kernel_rfl) (by kernel_rfl) (fun _ _ _ h => h) (Or.inl ⟨by rfl, ?_⟩) (by assumption) ?_
  rotate_left
  · intro w hSw; (try dsimp only at hSw); go_simp; (try with_reducible rfl)
  try simp only [Act.put, List.setIfInBounds_toArray, List.set_cons_zero, List.set_cons_succ]
  refine wpAnyH_take (i := 14) (oi := { dst := some 65, op := Op.move (Operand.tmp 64), type := 4, pos := "law.go:213", after := #[{ on := 13, ground := Ground.data }, { on := 11, ground := Ground.chain }], guard := none }) (v := ?_) rfl (by kernel_rfl) (by kernel_rfl) (by kernel_rfl) (fun _ _ _ h => h) (Or.inl ⟨by rfl, ?_⟩) (by assumption) ?_
  rotate_left
  · intro w hSw; (try dsimp only at hSw); go_simp; (try with_reducible rfl)
  try simp only [Act.put, List.setIfInBounds_toArray, List.set_cons_zero, List.set_cons_succ]
  refine wpAnyH_take (i := 15) (oi := { dst := some 66, op := Op.load 26 (Operand.tmp 7), type := 26, pos := "law.go:213", after := #[{ on := 14, ground := Ground.guard }], guard := some (14, false) }) (v := .agg ([Value.slice (some ⟨g, 0, none⟩) N cap, ov, dv, pv, .bool true]).toArray) rfl (by kernel_rfl) (by kernel_rfl) (by kernel_rfl) (fun _ _ _ h => h) (yieldsIf_load_mid (by rfl) 26 (.tmp 7) rfl GB (0) (by rfl) ([Value.slice (some ⟨g, 0, none⟩) N cap, ov, dv, pv, .bool true]) _ (fun _ h => h.2.2.2) Try.underlying26 rfl hNl) (by assumption) ?_
  try simp only [Act.put, List.setIfInBounds_toArray, List.set_cons_zero, List.set_cons_succ]
  refine wpAnyH_take (i := 16) (oi := { dst := some 67, op := Op.move (Operand.tmp 0), type := 22, pos := "law.go:213", after := #[{ on := 14, ground := Ground.guard }], guard := some (14, false) }) (v := ?_) rfl (by kernel_rfl) (by kernel_rfl) (by kernel_rfl) (fun _ _ _ h => h) (Or.inl ⟨by rfl, ?_⟩) (by assumption) ?_
  rotate_left
  · intro w hSw; (try dsimp only at hSw); go_simp; (try with_reducible rfl)
  try simp only [Act.put, List.setIfInBounds_toArray, List.set_cons_zero, List.set_cons_succ]
  refine wpAnyH_ready (rs := [17]) (by kernel_rfl) (by simp) ?_
  refine AllReadyH.cons (o := { dst := some 68, op := Op.call { callee := Callee.value (Operand.func 9), args := #[Operand.tmp 66, Operand.tmp 67], argTypes := #[26, 22] }, type := 4, pos := "law.go:213", after := #[{ on := 15, ground := Ground.data }, { on := 16, ground := Ground.data }, { on := 14, ground := Ground.chain }, { on := 14, ground := Ground.guard }], guard := some (14, false) }) rfl (fun K hK => ?_) AllReadyH.nil
  go_simp
  refine (unhide HST _ _ _ _ _ _ _ _ _ _ (bl_t (unhide KD) (unhide E1)) ((unhide LD).later (unhide E1)) hcap).mono ?_
  rintro e y2 ⟨rfl, hv1⟩
  have E2 := hide (bl_t (unhide E1) hv1)
  clear hv1
  go_wp2_with fail
  refine hK.out _ _ (unhide HS _ (unhide E2)) (fun hHeld => ?_)
  clear hK K
  try simp only [Act.put, List.setIfInBounds_toArray, List.set_cons_zero, List.set_cons_succ]
  refine wpAnyH_take (i := 18) (oi := { dst := some 69, op := Op.unOp UnOp.not 4 (Operand.tmp 68), type := 4, pos := "law.go:213", after := #[{ on := 17, ground := Ground.data }, { on := 14, ground := Ground.guard }], guard := some (14, false) }) (v := ?_) rfl (by kernel_rfl) (by kernel_rfl) (by kernel_rfl) (fun _ _ _ h => h) (Or.inl ⟨by rfl, ?_⟩) (by assumption) ?_
  rotate_left
  · intro w hSw; (try dsimp only at hSw); go_simp; (try with_reducible rfl)
  try simp only [Act.put, List.setIfInBounds_toArray, List.set_cons_zero, List.set_cons_succ]
  refine wpAnyH_take (i := 19) (oi := { dst := some 70, op := Op.pick (Operand.tmp 65) (Operand.const (Value.bool true)) (Operand.tmp 69), type := 4, pos := "law.go:213", after := #[{ on := 14, ground := Ground.data }, { on := 18, ground := Ground.data }], guard := none }) (v := ?_) rfl (by kernel_rfl) (by kernel_rfl) (by kernel_rfl) (fun _ _ _ h => h) (Or.inl ⟨by rfl, ?_⟩) (by assumption) ?_
  rotate_left
  · intro w hSw; (try dsimp only at hSw); go_simp; (try with_reducible rfl)
  try simp only [Act.put, List.setIfInBounds_toArray, List.set_cons_zero, List.set_cons_succ]
  refine wpAnyH_take (i := 20) (oi := { dst := some 71, op := Op.move (Operand.tmp 70), type := 4, pos := "law.go:213", after := #[{ on := 19, ground := Ground.data }, { on := 17, ground := Ground.chain }], guard := none }) (v := ?_) rfl (by kernel_rfl) (by kernel_rfl) (by kernel_rfl) (fun _ _ _ h => h) (Or.inl ⟨by rfl, ?_⟩) (by assumption) ?_
  rotate_left
  · intro w hSw; (try dsimp only at hSw); go_simp; (try with_reducible rfl)
  try simp only [Act.put, List.setIfInBounds_toArray, List.set_cons_zero, List.set_cons_succ]
  refine wpAnyH_take (i := 21) (oi := { dst := some 72, op := Op.move (Operand.tmp 8), type := 23, pos := "law.go:213", after := #[{ on := 20, ground := Ground.guard }], guard := some (20, false) }) (v := ?_) rfl (by kernel_rfl) (by kernel_rfl) (by kernel_rfl) (fun _ _ _ h => h) (Or.inl ⟨by rfl, ?_⟩) (by assumption) ?_
  rotate_left
  · intro w hSw; (try dsimp only at hSw); go_simp; (try with_reducible rfl)
  try simp only [Act.put, List.setIfInBounds_toArray, List.set_cons_zero, List.set_cons_succ]
  refine wpAnyH_take (i := 22) (oi := { dst := some 73, op := Op.move (Operand.tmp 1), type := 23, pos := "law.go:213", after := #[{ on := 20, ground := Ground.guard }], guard := some (20, false) }) (v := ?_) rfl (by kernel_rfl) (by kernel_rfl) (by kernel_rfl) (fun _ _ _ h => h) (Or.inl ⟨by rfl, ?_⟩) (by assumption) ?_
  rotate_left
  · intro w hSw; (try dsimp only at hSw); go_simp; (try with_reducible rfl)
  try simp only [Act.put, List.setIfInBounds_toArray, List.set_cons_zero, List.set_cons_succ]
  refine wpAnyH_ready (rs := [23]) (by kernel_rfl) (by simp) ?_
  refine AllReadyH.cons (o := { dst := some 74, op := Op.call { callee := Callee.value (Operand.func 10), args := #[Operand.tmp 72, Operand.tmp 73], argTypes := #[23, 23] }, type := 4, pos := "law.go:213", after := #[{ on := 21, ground := Ground.data }, { on := 22, ground := Ground.data }, { on := 20, ground := Ground.chain }, { on := 20, ground := Ground.guard }], guard := some (20, false) }) rfl (fun K hK => ?_) AllReadyH.nil
  go_simp
  refine (unhide HWR _ _ (((unhide WD).rws (unhide HKO)).later (unhide E2)) (bl_t (unhide KD) (unhide E2))).mono ?_
  rintro e y3 ⟨rfl, n3, rfl⟩
  have E3 := hide (bl_t (unhide E2) (bl_drewN _ n3))
  go_wp2_with fail
  refine hK.out _ _ (unhide HS _ (unhide E3)) (fun hHeld => ?_)
  clear hK K
  try simp only [Act.put, List.setIfInBounds_toArray, List.set_cons_zero, List.set_cons_succ]
  refine wpAnyH_take (i := 24) (oi := { dst := some 75, op := Op.unOp UnOp.not 4 (Operand.tmp 74), type := 4, pos := "law.go:213", after := #[{ on := 23, ground := Ground.data }, { on := 20, ground := Ground.guard }], guard := some (20, false) }) (v := ?_) rfl (by kernel_rfl) (by kernel_rfl) (by kernel_rfl) (fun _ _ _ h => h) (Or.inl ⟨by rfl, ?_⟩) (by assumption) ?_
  rotate_left
  · intro w hSw; (try dsimp only at hSw); go_simp; (try with_reducible rfl)
  try simp only [Act.put, List.setIfInBounds_toArray, List.set_cons_zero, List.set_cons_succ]
  refine wpAnyH_take (i := 25) (oi := { dst := some 76, op := Op.pick (Operand.tmp 71) (Operand.const (Value.bool true)) (Operand.tmp 75), type := 4, pos := "law.go:213", after := #[{ on := 20, ground := Ground.data }, { on := 24, ground := Ground.data }], guard := none }) (v := ?_) rfl (by kernel_rfl) (by kernel_rfl) (by kernel_rfl) (fun _ _ _ h => h) (Or.inl ⟨by rfl, ?_⟩) (by assumption) ?_
  rotate_left
  · intro w hSw; (try dsimp only at hSw); go_simp; (try with_reducible rfl)
  try simp only [Act.put, List.setIfInBounds_toArray, List.set_cons_zero, List.set_cons_succ]
  refine wpAnyH_done (by kernel_rfl) ?_ _
  have XE := hide ((unhide XD).later (unhide E3))
  have KE := hide (bl_t (unhide KD) (unhide E3))
  have LE := hide ((unhide LD).later (unhide E3))
  have WE := hide ((unhide WD).same fun b _ hb => (unhide E3).block b hb)
  have hcy0 : (0 : Int) ≤ (M : Int) + 2 := by omega
  clear hne hKl hRl hNl HS E0 E1 E2 E3 XD YD ZD RD KD LD WD HNE HRS HST HWR HSU hHeld hc1 hcl
  generalize y2.drewN n3 = wE at *
  obtain ⟨gw2, cw2, eW, hcw4, hwl, hws, hwf, hwm⟩ := (unhide WE).open (unhide HKO)
  have eW2 := eW
  simp only [Value.slice.injEq, Option.some.injEq, Addr.mk.injEq] at eW2
  obtain ⟨⟨rfl, eA⟩, eM, rfl⟩ := eW2
  clear eA eM
  have m77 : wE.cell? ⟨gw, M * 4, none⟩ = some (.int .i64 77) := by have := hwm 0 _ rfl; rw [unhide HM] at this; exact this
  have m78 : wE.cell? ⟨gw, (M + 1) * 4, none⟩ = some (.int .i64 78) := by have := hwm 4 _ rfl; rw [unhide HM, show M * 4 + 4 = (M + 1) * 4 by omega] at this; exact this
  rw [unhide HM] at hcw4
  have hcw5 : (M : Int) + 2 ≤ (cw : Int) := by omega
  have hwr2 : IntKind.i64.wrap ((M : Int) + 2) = (M : Int) + 2 := IntWalk.i64_in _ (by omega)
  have hwr1 : IntKind.i64.wrap ((M : Int) + 1) = (M : Int) + 1 := IntWalk.i64_in _ (by omega)
  have hy1 : (M : Int) < (M : Int) + 2 := by omega
  have hy2 : (M : Int) + 1 < (M : Int) + 2 := by omega
  have HWF := hide hwf
  have HWL := hide (And.intro hwl hws)
  have HAB := hide (about_any (cap := cap) (unhide LE).c44 (fun r hr => by obtain ⟨p, _, d, q, c, v, f, fg, fc, k1, _⟩ := (unhide LE).row (unhide HO) hr; exact k1.one) (unhide LE).ab (by rw [unhide HN]; exact hl))
  rw [unhide HN] at HAB
  have a0 := (unhide XE).cell (i := 0) rfl
  clear eW hwl hws hwf hwm
  go_wp2_with (first
    | (go_at_call 11; refine (unhide HAB).mono ?_; rintro e wF ⟨rfl, rows, hA⟩; have HA := hide hA; clear hA HAB))
  have HA2 := hide (show Ab wE wF g hs.length csl rows from by rw [unhide HN]; exact unhide HA)
  have HGB := hide (show GB ≠ g from fun e => by have := (unhide HGG).2; omega)
  have XF := hide ((unhide XE).of ((unhide HA).oth GB (unhide HGB)))
  have a0F := (unhide XF).cell (i := 0) rfl
  clear m77 m78 hcw5 hwr2 hwr1 hy1 hy2 hcy0 a0
  have HKD0 := hide (Kd.refl w.heap.size wF)
  go_loopg [15] N (fun gq iv wr => ∃ i : Nat, iv = .int .i64 i ∧ i ≤ N ∧ N - i ≤ gq ∧ Hid (Kd w.heap.size wF wr) ∧ Hid (∀ j, i ≤ j → wr.cell? ⟨g, j * 44 + 1, none⟩ = wF.cell? ⟨g, j * 44 + 1, none⟩))
  case atStart => exact ⟨0, by go_num, by omega, by omega, HKD0, hide fun _ _ => rfl⟩
  case round =>
    clear HKD0
    obtain ⟨i, rfl, hi, hg, HD, HJ⟩ := hrel
    have a0 : wr.cell? ⟨GB, 0, none⟩ = some (.slice (some ⟨g, 0, none⟩) N cap) := (unhide HD).slice a0F
    by_cases hlt : i < N
    · have hin : (i : Int) < (N : Int) := by omega
      obtain ⟨p, hpm, fg, fc, v1, f1, s1, z1, lo1, ne1, lt1⟩ := (unhide LE).wr (unhide HO) (unhide HA2) (i := i) (by rw [unhide HN]; exact hlt)
      have hv := unhide HV p hpm
      have hvw : wr.cell? ⟨g, i * 44 + 1, none⟩ = some (.string p.vr) := (unhide HJ i (Nat.le_refl _)).trans v1
      have hvd : wr.drew.cell? ⟨g, i * 44 + 1, none⟩ = some (.string p.vr) := hvw
      have hvz : wr.frozen? ⟨g, i * 44 + 1, none⟩ = false := ((unhide HD).fr _).trans ((unhide HA).fr _)
      have hvz2 : wr.drew.frozen? ⟨g, i * 44 + 1, none⟩ = false := hvz
      have hcat : ¬ (9223372036854775807 < p.vr.size + 2) := by omega
      have hsz : (p.vr ++ (⟨#[43, 49]⟩ : Nm)).size ≤ maxLen := by rw [ByteArray.size_append]; have : (⟨#[43, 49]⟩ : Nm).size = 2 := rfl; unfold maxLen; omega
      have D17 := hide ((unhide HD).set hvw (u' := .string (p.vr ++ (⟨#[43, 49]⟩ : Nm))) (.inr (.inl ⟨_, _, rfl, rfl, hsz⟩)) (unhide HGG).1).drew
      have HSG := hide ((unhide D17).slice a0F)
      have a0d : wr.drew.cell? ⟨GB, 0, none⟩ = some (.slice (some ⟨g, 0, none⟩) N cap) := a0
      go_upto_region 17 with fail
      refine wp_region_held_drew (S := fun w' => w'.cell? ⟨GB, 0, none⟩ = some (.slice (some ⟨g, 0, none⟩) N cap)) (by kernel_rfl) ?_ (fun hHeld => ?_)
      · exact a0d
      refine wpAnyH_take (i := 0) (oi := { dst := some 109, op := Op.fieldAddr 26 (Operand.tmp 7) 0, type := 0, pos := "law.go:222", after := #[], guard := none }) (v := ?_) rfl (by kernel_rfl) (by kernel_rfl) (by kernel_rfl) (fun _ _ _ h => h) (Or.inl ⟨by rfl, ?_⟩) (by assumption) ?_
      rotate_left
      · intro w hSw; (try dsimp only at hSw); go_simp; (try with_reducible rfl)
      try simp only [Act.put, List.setIfInBounds_toArray, List.set_cons_zero, List.set_cons_succ]
      refine wpAnyH_take (i := 1) (oi := { dst := some 110, op := Op.load 22 (Operand.tmp 109), type := 22, pos := "law.go:222", after := #[{ on := 0, ground := Ground.data }], guard := none }) (v := ?_) rfl (by kernel_rfl) (by kernel_rfl) (by kernel_rfl) (fun _ _ _ h => h) (Or.inl ⟨by rfl, ?_⟩) (by assumption) ?_
      rotate_left
      · intro w hSw; (try dsimp only at hSw); go_simp; (try with_reducible rfl)
      try simp only [Act.put, List.setIfInBounds_toArray, List.set_cons_zero, List.set_cons_succ]
      refine wpAnyH_take (i := 2) (oi := { dst := some 111, op := Op.move (Operand.tmp 15), type := 3, pos := "law.go:222", after := #[], guard := none }) (v := ?_) rfl (by kernel_rfl) (by kernel_rfl) (by kernel_rfl) (fun _ _ _ h => h) (Or.inl ⟨by rfl, ?_⟩) (by assumption) ?_
      rotate_left
      · intro w hSw; (try dsimp only at hSw); go_simp; (try with_reducible rfl)
      try simp only [Act.put, List.setIfInBounds_toArray, List.set_cons_zero, List.set_cons_succ]
      refine wpAnyH_take (i := 3) (oi := { dst := some 112, op := Op.fieldAddr 26 (Operand.tmp 7) 0, type := 0, pos := "law.go:222", after := #[], guard := none }) (v := ?_) rfl (by kernel_rfl) (by kernel_rfl) (by kernel_rfl) (fun _ _ _ h => h) (Or.inl ⟨by rfl, ?_⟩) (by assumption) ?_
      rotate_left
      · intro w hSw; (try dsimp only at hSw); go_simp; (try with_reducible rfl)
      try simp only [Act.put, List.setIfInBounds_toArray, List.set_cons_zero, List.set_cons_succ]
      refine wpAnyH_take (i := 4) (oi := { dst := some 113, op := Op.load 22 (Operand.tmp 112), type := 22, pos := "law.go:222", after := #[{ on := 3, ground := Ground.data }], guard := none }) (v := ?_) rfl (by kernel_rfl) (by kernel_rfl) (by kernel_rfl) (fun _ _ _ h => h) (Or.inl ⟨by rfl, ?_⟩) (by assumption) ?_
      rotate_left
      · intro w hSw; (try dsimp only at hSw); go_simp; (try with_reducible rfl)
      try simp only [Act.put, List.setIfInBounds_toArray, List.set_cons_zero, List.set_cons_succ]
      refine wpAnyH_take (i := 5) (oi := { dst := some 114, op := Op.move (Operand.tmp 15), type := 3, pos := "law.go:222", after := #[], guard := none }) (v := ?_) rfl (by kernel_rfl) (by kernel_rfl) (by kernel_rfl) (fun _ _ _ h => h) (Or.inl ⟨by rfl, ?_⟩) (by assumption) ?_
      rotate_left
      · intro w hSw; (try dsimp only at hSw); go_simp; (try with_reducible rfl)
      try simp only [Act.put, List.setIfInBounds_toArray, List.set_cons_zero, List.set_cons_succ]
      refine wpAnyH_take (i := 6) (oi := { dst := some 115, op := Op.indexAddr 22 (Operand.tmp 113) (Operand.tmp 114), type := 0, pos := "law.go:222", after := #[{ on := 4, ground := Ground.data }, { on := 5, ground := Ground.data }], guard := none }) (v := ?_) rfl (by kernel_rfl) (by kernel_rfl) (by kernel_rfl) (fun _ _ _ h => h) (Or.inl ⟨by rfl, ?_⟩) (by assumption) ?_
      rotate_left
      · intro w hSw; (try dsimp only at hSw); go_simp; (try with_reducible rfl)
      try simp only [Act.put, List.setIfInBounds_toArray, List.set_cons_zero, List.set_cons_succ]
      refine wpAnyH_take (i := 7) (oi := { dst := some 116, op := Op.fieldAddr 47 (Operand.tmp 115) 0, type := 0, pos := "law.go:222", after := #[{ on := 6, ground := Ground.data }], guard := none }) (v := ?_) rfl (by kernel_rfl) (by kernel_rfl) (by kernel_rfl) (fun _ _ _ h => h) (Or.inl ⟨by rfl, ?_⟩) (by assumption) ?_
      rotate_left
      · intro w hSw; (try dsimp only at hSw); go_simp; (try with_reducible rfl)
      try simp only [Act.put, List.setIfInBounds_toArray, List.set_cons_zero, List.set_cons_succ]
      refine wpAnyH_take (i := 8) (oi := { dst := some 117, op := Op.fieldAddr 45 (Operand.tmp 116) 1, type := 0, pos := "law.go:222", after := #[{ on := 7, ground := Ground.data }], guard := none }) (v := ?_) rfl (by kernel_rfl) (by kernel_rfl) (by kernel_rfl) (fun _ _ _ h => h) (Or.inl ⟨by rfl, ?_⟩) (by assumption) ?_
      rotate_left
      · intro w hSw; (try dsimp only at hSw); go_simp; (try with_reducible rfl)
      try simp only [Act.put, List.setIfInBounds_toArray, List.set_cons_zero, List.set_cons_succ]
      refine wpAnyH_ready (rs := [9]) (by kernel_rfl) (by simp) ?_
      refine AllReadyH.cons (o := { dst := some 118, op := Op.load 9 (Operand.tmp 117), type := 9, pos := "law.go:222", after := #[{ on := 8, ground := Ground.data }], guard := none }) rfl (fun K hK => ?_) AllReadyH.nil
      go_simp
      refine hK.out _ _ a0d (fun hHeld => ?_)
      clear hK K
      try simp only [Act.put, List.setIfInBounds_toArray, List.set_cons_zero, List.set_cons_succ]
      refine wpAnyH_take (i := 10) (oi := { dst := some 119, op := Op.binOp BinOp.add 9 (Operand.tmp 118) (Operand.const (Value.string { data := #[43, 49] })) 9, type := 9, pos := "law.go:222", after := #[{ on := 9, ground := Ground.data }], guard := none }) (v := ?_) rfl (by kernel_rfl) (by kernel_rfl) (by kernel_rfl) (fun _ _ _ h => h) (Or.inl ⟨by rfl, ?_⟩) (by assumption) ?_
      rotate_left
      · intro w hSw; (try dsimp only at hSw); go_simp; (try with_reducible rfl)
      try simp only [Act.put, List.setIfInBounds_toArray, List.set_cons_zero, List.set_cons_succ]
      refine wpAnyH_take (i := 11) (oi := { dst := some 120, op := Op.indexAddr 22 (Operand.tmp 110) (Operand.tmp 111), type := 0, pos := "law.go:222", after := #[{ on := 1, ground := Ground.data }, { on := 2, ground := Ground.data }, { on := 0, ground := Ground.phase }, { on := 1, ground := Ground.phase }, { on := 2, ground := Ground.phase }, { on := 3, ground := Ground.phase }, { on := 4, ground := Ground.phase }, { on := 5, ground := Ground.phase }, { on := 6, ground := Ground.phase }, { on := 7, ground := Ground.phase }, { on := 8, ground := Ground.phase }, { on := 9, ground := Ground.phase }, { on := 10, ground := Ground.phase }], guard := none }) (v := ?_) rfl (by kernel_rfl) (by kernel_rfl) (by kernel_rfl) (fun _ _ _ h => h) (Or.inl ⟨by rfl, ?_⟩) (by assumption) ?_
      rotate_left
      · intro w hSw; (try dsimp only at hSw); go_simp; (try with_reducible rfl)
      try simp only [Act.put, List.setIfInBounds_toArray, List.set_cons_zero, List.set_cons_succ]
      refine wpAnyH_take (i := 12) (oi := { dst := some 121, op := Op.fieldAddr 47 (Operand.tmp 120) 0, type := 0, pos := "law.go:222", after := #[{ on := 11, ground := Ground.data }, { on := 0, ground := Ground.phase }, { on := 1, ground := Ground.phase }, { on := 2, ground := Ground.phase }, { on := 3, ground := Ground.phase }, { on := 4, ground := Ground.phase }, { on := 5, ground := Ground.phase }, { on := 6, ground := Ground.phase }, { on := 7, ground := Ground.phase }, { on := 8, ground := Ground.phase }, { on := 9, ground := Ground.phase }, { on := 10, ground := Ground.phase }], guard := none }) (v := ?_) rfl (by kernel_rfl) (by kernel_rfl) (by kernel_rfl) (fun _ _ _ h => h) (Or.inl ⟨by rfl, ?_⟩) (by assumption) ?_
      rotate_left
      · intro w hSw; (try dsimp only at hSw); go_simp; (try with_reducible rfl)
      try simp only [Act.put, List.setIfInBounds_toArray, List.set_cons_zero, List.set_cons_succ]
      refine wpAnyH_take (i := 13) (oi := { dst := some 122, op := Op.fieldAddr 45 (Operand.tmp 121) 1, type := 0, pos := "law.go:222", after := #[{ on := 12, ground := Ground.data }, { on := 0, ground := Ground.phase }, { on := 1, ground := Ground.phase }, { on := 2, ground := Ground.phase }, { on := 3, ground := Ground.phase }, { on := 4, ground := Ground.phase }, { on := 5, ground := Ground.phase }, { on := 6, ground := Ground.phase }, { on := 7, ground := Ground.phase }, { on := 8, ground := Ground.phase }, { on := 9, ground := Ground.phase }, { on := 10, ground := Ground.phase }], guard := none }) (v := ?_) rfl (by kernel_rfl) (by kernel_rfl) (by kernel_rfl) (fun _ _ _ h => h) (Or.inl ⟨by rfl, ?_⟩) (by assumption) ?_
      rotate_left
      · intro w hSw; (try dsimp only at hSw); go_simp; (try with_reducible rfl)
      try simp only [Act.put, List.setIfInBounds_toArray, List.set_cons_zero, List.set_cons_succ]
      refine wpAnyH_ready (rs := [14]) (by kernel_rfl) (by simp) ?_
      refine AllReadyH.cons (o := { dst := none, op := Op.store 9 (Operand.tmp 122) (Operand.tmp 119), type := 0, pos := "law.go:222", after := #[{ on := 13, ground := Ground.data }, { on := 10, ground := Ground.data }, { on := 0, ground := Ground.phase }, { on := 1, ground := Ground.phase }, { on := 2, ground := Ground.phase }, { on := 3, ground := Ground.phase }, { on := 4, ground := Ground.phase }, { on := 5, ground := Ground.phase }, { on := 6, ground := Ground.phase }, { on := 7, ground := Ground.phase }, { on := 8, ground := Ground.phase }, { on := 9, ground := Ground.phase }, { on := 10, ground := Ground.phase }], guard := none }) rfl (fun K hK => ?_) AllReadyH.nil
      go_simp
      refine hK.out _ _ (unhide HSG) (fun hHeld => ?_)
      clear hK K
      try simp only [Act.put, List.setIfInBounds_toArray, List.set_cons_zero, List.set_cons_succ]
      refine wpAnyH_done (by kernel_rfl) ?_ _
      clear hcat hvw hvd hvz hvz2 a0d HSG a0 hHeld
      have J17 := hide (show ∀ j, i + 1 ≤ j → (wr.setCell ⟨g, i * 44 + 1, none⟩ (.string (p.vr ++ (⟨#[43, 49]⟩ : Nm)))).drew.cell? ⟨g, j * 44 + 1, none⟩ = wF.cell? ⟨g, j * 44 + 1, none⟩ from fun j hj => by show (wr.setCell ⟨g, i * 44 + 1, none⟩ (.string (p.vr ++ (⟨#[43, 49]⟩ : Nm)))).cell? ⟨g, j * 44 + 1, none⟩ = _; rw [World.cell?_setCell_other _ _ _ _ (by intro e; injection e with _ e2; omega)]; exact unhide HJ j (by omega))
      clear HJ
      generalize (wr.setCell ⟨g, i * 44 + 1, none⟩ (.string (p.vr ++ (⟨#[43, 49]⟩ : Nm)))).drew = W17 at *
      have b0 := (unhide D17).slice a0F
      have b1 := (unhide D17).slice f1
      generalize p.fs.length = fn at *
      by_cases hf : 0 < fn
      · have hfi : (0 : Int) < (fn : Int) := by omega
        obtain ⟨s9, hs9⟩ := s1 hf
        obtain ⟨s8, hs8, _⟩ := (unhide D17).str hs9
        have hfz : W17.frozen? ⟨fg, 0, none⟩ = false := ((unhide D17).fr _).trans (z1 0)
        have D19 := hide ((unhide D17).set hs8 (u' := .string path) (.inr (.inl ⟨_, _, rfl, rfl, hp⟩)) lo1)
        have J19 := hide (show ∀ j, i + 1 ≤ j → (W17.setCell ⟨fg, 0, none⟩ (.string path)).cell? ⟨g, j * 44 + 1, none⟩ = wF.cell? ⟨g, j * 44 + 1, none⟩ from fun j hj => by rw [World.cell?_setCell_other _ _ _ _ (by intro e; injection e with e1 e2; exact ne1 e1)]; exact unhide J17 j hj)
        clear s1 z1 hs9 J17 v1 f1 hsz hv
        go_wp2_with fail
        go_roundg (N - (i + 1))
        case measure => omega
        case rel => exact ⟨i + 1, by go_num, by omega, by omega, D19, J19⟩
      · have hfi : ¬ (0 : Int) < (fn : Int) := by omega
        clear s1 z1 v1 f1 hsz hv
        go_wp2_with fail
        go_roundg (N - (i + 1))
        case measure => omega
        case rel => exact ⟨i + 1, by go_num, by omega, by omega, D17, J17⟩
    · obtain rfl : i = N := by omega
      have hge : ¬ (i : Int) < (i : Int) := by omega
      have hiN : hs.length = i := unhide HN
      obtain ⟨hs2, hq1, hq2, hq3⟩ := (unhide LE).turned (unhide HO) (unhide HA2) cap
      rw [hiN] at hq1 hq2
      obtain ⟨hs3, q1, q2, q3⟩ := (unhide HD).hds hq1 fun p hp => unhide HZ p (hq3 p hp)
      rw [hq2] at q2
      have hzf3 : ∀ x ∈ hs3, x.fs.length ≤ 2513169434843 := fun x hx => (q3 x hx).fl
      obtain ⟨⟨kn3, kv3, kb3⟩, hown⟩ : ∃ q : Nm × Nm × Bool, ownK hs3 path = q := ⟨_, rfl⟩
      have eV : ownV (ownK hs3 path) = .tuple #[.agg #[.string kn3, .string kv3], .bool kb3] := by rw [hown]; rfl
      have CO := hide (copied_any q1 (by omega) q3)
      have HRO := hide (fun (X : World) (r : Value) (hX : Hds X r hs3) => rowner_any (p := path) hX (by omega) hzf3)
      have HOW := hide (fun (X : World) (hX : Below wr.heap.size wr X) => owner_any (p := path) (q1.later hX) (by omega) hzf3)
      simp only [eV] at HRO HOW
      have WF := hide ((unhide WE).keep (W2 := wF) fun b hb => (unhide HA).oth b (by have e : gw = b := Option.some.inj hb; have := unhide HGW; omega))
      obtain ⟨fl2, hEn⟩ := En.of (unhide WF) (unhide HKO) (unhide HD)
      have EN := hide hEn
      have XR := hide ((unhide XF).of (w2 := wr))
      have KR := hide ((unhide KE).trans (((unhide HA).bel _ (unhide HGG).1).trans (unhide HD).bel))
      have AL := hide (fun (X : World) (hX : Below wr.heap.size wr X) => cell_later a0 hX)
      clear hEn WF eV hown hzf3 q1 q2 q3 hq1 hq2 hq3 XF XE LE WE KE HWF HWL HA HA2 HD HJ XR HN HH HZ HV
      go_upto_region 21 with (first
        | (go_at_call 12; refine (unhide CO).mono ?_; rintro e w5 ⟨r5, rfl, h5, b5⟩; have R5 := hide h5; have B5 := hide b5; clear h5 b5 CO)
        | (go_at_call 6; refine (unhide HRO _ _ (unhide R5)).mono ?_; rintro e w6 ⟨rfl, b6⟩; have B6 := hide (bl_t (unhide B5) b6); clear b6 B5 R5 HRO)
        | ((with_reducible refine b_alloc (t := 29) (k := 2) zeroK rfl rfl ?_); intro w7 B1 k1 z1)
        | ((with_reducible refine b_store (t := 29) (k := 2) infoK _ _ rfl rfl w6.heap.size rfl [.string kn3, .string kv3] rfl rfl (by simp [Value.oneCell']) _ B1 ?_); intro w8 B3 o3 k3 z3; have Y8 := hide B3; have B8 := hide (bl_t (unhide B6) (k1.trans (k3 _ (Nat.le_refl _)))); clear B1 k1 z1 B3 o3 k3 z3 B6))
      generalize w6.heap.size = G4 at *
      clear a0
      have a0 := unhide AL _ (unhide B8)
      go_upto_region 22 with (first
        | (go_at_call 5; refine (unhide HOW _ (unhide B8)).mono ?_; rintro e w9 ⟨rfl, b6⟩; have B9 := hide (bl_t (unhide B8) b6); have Y9 := hide ((unhide Y8).later b6); clear b6 B8 Y8 HOW a0)
        | ((with_reducible refine b_alloc (t := 29) (k := 2) zeroK rfl rfl ?_); intro wA B1 k1 z1)
        | ((with_reducible refine b_store (t := 29) (k := 2) infoK _ _ rfl rfl w9.heap.size rfl [.string kn3, .string kv3] rfl rfl (by simp [Value.oneCell']) _ B1 ?_); intro wB B3 o3 k3 z3; have ZB := hide B3; have k9 := k1.trans (k3 _ (Nat.le_refl _)); have YB := hide ((unhide Y9).later k9); have BB := hide (bl_t (unhide B9) k9); clear B1 k1 z1 B3 o3 k3 z3 k9 B9 Y9))
      generalize w9.heap.size = G5 at *
      go_wp2_with (first
        | ((with_reducible refine m_load (t := 29) (k := 2) Try.underlying29 rfl infoK _ rfl rfl G5 0 rfl [.string kn3, .string kv3] (unhide ZB).range rfl ?_))
        | ((with_reducible refine m_load (t := 29) (k := 2) Try.underlying29 rfl infoK _ rfl rfl G4 0 rfl [.string kn3, .string kv3] (unhide YB).range rfl ?_)))
      have EB := hide ((unhide EN).later (unhide BB))
      have KB := hide (bl_t (unhide KR) (unhide BB))
      clear ZB YB EN BB KR AL a0F
      go_loopg [20] M (fun gq iv wz => ∃ (j : Nat) (fl2 : List (List Value)), iv = .int .i64 j ∧ j ≤ M ∧ M - j ≤ gq ∧ Hid (En wz gw M fl2) ∧ Hid (Below w.heap.size w wz))
      case atStart => exact ⟨0, fl2, by go_num, by omega, by omega, EB, KB⟩
      case round =>
        clear EB KB
        obtain ⟨j, fl3, rfl, hj, hgj, HE, HB⟩ := hrel
        by_cases hlj : j < M
        · have hjn : (j : Int) < (M : Int) := by omega
          have HTH := hide ((unhide HE).there hlj)
          have hj8 := newW_ok (k := (j : Int) % 8) (by omega) (by omega)
          have HE2 := hide ((unhide HE).put hlj hj8)
          have HB2 := hide (below_setCells gw (Nat.le_trans (unhide HGG).1 (Nat.le_of_lt (unhide HGW))) (newW ((j : Int) % 8)) (j * 4) wr (unhide HB))
          have HN4 := hide (And.intro hj8.1 hj8.2.2)
          clear HE HB hj8
          go_upto_region 27 with fail
          go_wp2_with (refine m_store (t := 31) (k := 4) infoW _ _ rfl rfl gw (j * 4) rfl (newW ((j : Int) % 8)) rfl (unhide HN4).1 (unhide HN4).2 (unhide HTH) ?_)
          go_roundg (M - (j + 1))
          case measure => omega
          case rel => exact ⟨j + 1, _, by go_num, by omega, by omega, HE2, HB2⟩
        · obtain rfl : j = M := by omega
          have hjn : ¬ (j : Int) < (j : Int) := by omega
          have hl3 : fl3.length = j := (unhide HE).len
          have RW3 := (unhide HE).rws cw
          obtain ⟨v5, W5, ra5, r5, b5⟩ := cp_run (xa := some ⟨gw, 0, none⟩) (xc := cw) (by rw [hl3]; exact RW3) (by omega)
          rw [hl3] at ra5
          have CR := hide (rsummary_any r5 (by omega))
          have HSU := hide (fun (X : World) (hX : Below wr.heap.size wr X) => summary_any (RW3.later hX) (by omega))
          simp only [sumV] at CR HSU
          have hcl3 := ctL_len fl3
          have hc13 := hide (ctL_one fl3)
          have HEQ := hide (eqlR (fl := fl3) (by omega))
          have B5 := hide b5
          clear RW3 r5 b5 HE hl3
          generalize ctL fl3 = ct3 at *
          go_upto_region 29 with (first
            | (at_builtin; refine wpList_append_run rfl _ _ 23 rfl _ _ rfl rfl ra5 ?_; clear ra5)
            | (go_at_call 8; refine (unhide CR).mono ?_; rintro e w6 ⟨rfl, b6⟩; have B6 := hide (bl_t (unhide B5) b6); clear b6 B5 CR)
            | ((with_reducible refine b_alloc (t := 34) (k := 7) zeroR rfl rfl ?_); intro w7 B1 k1 z1)
            | ((with_reducible refine b_store (t := 34) (k := 7) infoR _ _ rfl rfl w6.heap.size rfl ct3 rfl hcl3 (unhide hc13) _ B1 ?_); intro w8 B3 o3 k3 z3; have R8 := hide B3; have B8 := hide (bl_t (unhide B6) (k1.trans (k3 _ (Nat.le_refl _)))); clear B1 k1 z1 B3 o3 k3 z3 B6))
          generalize w6.heap.size = G6 at *
          have heq := unhide HEQ
          have hRl : (Try.prog.info? 34).map (·.size) = some ct3.length := by rw [hcl3]; exact infoR
          have HS := hide (show ∀ X, Below w8.heap.size w8 X → X.rangeAt G6 0 ct3 from fun X hX => ((unhide R8).later hX).range)
          have E0 := hide (Below.refl w8.heap.size w8).drew
          refine wp_region_held_drew (S := fun w' => w'.rangeAt G6 0 ct3) (by kernel_rfl) ?_ (fun hHeld => ?_)
          · exact unhide HS _ (unhide E0)
          refine wpAnyH_take (i := 0) (oi := { dst := some 181, op := Op.move (Operand.tmp 8), type := 23, pos := "law.go:236", after := #[], guard := none }) (v := ?_) rfl (by kernel_rfl) (by kernel_rfl) (by kernel_rfl) (fun _ _ _ h => h) (Or.inl ⟨by rfl, ?_⟩) (by assumption) ?_
          rotate_left
          · intro w hSw; (try dsimp only at hSw); go_simp; (try with_reducible rfl)
          try simp only [Act.put, List.setIfInBounds_toArray, List.set_cons_zero, List.set_cons_succ]
          refine wpAnyH_take (i := 2) (oi := { dst := some 183, op := Op.load 34 (Operand.tmp 21), type := 34, pos := "law.go:236", after := #[], guard := none }) (v := .agg (ct3).toArray) rfl (by kernel_rfl) (by kernel_rfl) (by kernel_rfl) (fun _ _ _ h => h) (yieldsIf_load_mid (by rfl) 34 (.tmp 21) rfl G6 (0) (by rfl) (ct3) _ (fun _ h => h) Try.underlying34 rfl hRl) (by assumption) ?_
          try simp only [Act.put, List.setIfInBounds_toArray, List.set_cons_zero, List.set_cons_succ]
          refine wpAnyH_ready (rs := [1]) (by kernel_rfl) (by simp) ?_
          refine AllReadyH.cons (o := { dst := some 182, op := Op.call { callee := Callee.value (Operand.func 7), args := #[Operand.tmp 181], argTypes := #[23] }, type := 34, pos := "law.go:236", after := #[{ on := 0, ground := Ground.data }], guard := none }) rfl (fun K hK => ?_) AllReadyH.nil
          go_simp
          refine (unhide HSU _ (bl_t (unhide B8) (unhide E0))).mono ?_
          rintro e y1 ⟨rfl, hv1⟩
          have E1 := hide (bl_t (unhide E0) hv1)
          clear hv1
          go_wp2_with fail
          refine hK.out _ _ (unhide HS _ (unhide E1)) (fun hHeld => ?_)
          clear hK K
          try simp only [Act.put, List.setIfInBounds_toArray, List.set_cons_zero, List.set_cons_succ]
          refine wpAnyH_take (i := 3) (oi := { dst := some 184, op := Op.binOp BinOp.eql 34 (Operand.tmp 182) (Operand.tmp 183) 34, type := 4, pos := "law.go:236", after := #[{ on := 1, ground := Ground.data }, { on := 2, ground := Ground.data }], guard := none }) (v := ?_) rfl (by kernel_rfl) (by kernel_rfl) (by kernel_rfl) (fun _ _ _ h => h) (Or.inl ⟨by rfl, ?_⟩) (by assumption) ?_
          rotate_left
          · intro w hSw; (try dsimp only at hSw); go_simp; (try with_reducible rfl)
          try simp only [Act.put, List.setIfInBounds_toArray, List.set_cons_zero, List.set_cons_succ]
          refine wpAnyH_take (i := 4) (oi := { dst := some 6, op := Op.assign (Operand.tmp 184), type := 4, pos := "law.go:236", after := #[{ on := 3, ground := Ground.data }, { on := 1, ground := Ground.chain }, { on := 0, ground := Ground.phase }, { on := 1, ground := Ground.phase }, { on := 2, ground := Ground.phase }, { on := 3, ground := Ground.phase }], guard := none }) (v := ?_) rfl (by kernel_rfl) (by kernel_rfl) (by kernel_rfl) (fun _ _ _ h => h) (Or.inl ⟨by rfl, ?_⟩) (by assumption) ?_
          rotate_left
          · intro w hSw; (try dsimp only at hSw); go_simp; (try with_reducible rfl)
          try simp only [Act.put, List.setIfInBounds_toArray, List.set_cons_zero, List.set_cons_succ]
          refine wpAnyH_done (by kernel_rfl) ?_ _
          go_wp2_with fail
          go_ret
          exact ⟨rfl, bl_t (unhide HB) (bl_t (unhide B8) (unhide E1))⟩
end Go.Proofs.Ytodlmbhlinpoeaa
