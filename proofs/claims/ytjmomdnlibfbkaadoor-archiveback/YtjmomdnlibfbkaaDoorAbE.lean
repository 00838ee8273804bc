import Derived.Test.YtjmomdnlibfbkaaDoorAbD
import Derived.Great.BuildSlice
namespace Go.Proofs.YtjmomdnlibfbkaaDoor
open Go.RowKit

theorem zeroH : (Tryd.prog.info? 44).map (fun i => (i.zero, i.size)) = some (some (.agg ((zs 512).map cb).toArray), 512) ∧ ((zs 512).map cb).length = 512 ∧ ((zs 512).map cb).all (·.oneCell') = true := ⟨by kernel_rfl, by kernel_rfl, by kernel_rfl⟩
theorem infoH : (Tryd.prog.info? 44).map (·.size) = some 512 := by kernel_rfl
theorem By.of_bk {t k : Nat} {w : World} {g : Nat} {L : Bs} (h : Bk t k w g (L.map cb)) : By w g L :=
  ⟨fun i x hi => h.cell (by rw [List.getElem?_map, hi]; rfl), fun i => h.free i, h.lt⟩
/-- A HEADER WHILE IT IS LAID. -/
structure Hd (w0 w : World) (g : Nat) (L : Bs) : Prop where
  by_ : By w g L
  len : L.length = 512
  ow : Ow g w0 w
section
variable {ops : Array Oper} {rest : List Oper} {oo : Oper} {a : Act} {w : World} {Q : Exit → Act → World → Prop}
theorem h_copyS {w0 : World} {g off dn dc : Nat} {L : Bs} {s : ByteArray} (x y : Operand) (hgd : oo.guard = none) (ho : oo.op = .call { callee := .builtin .copy, args := #[x, y], argTypes := #[23, 9] }) (hx : a.eval x = .slice (some ⟨g, off, none⟩) dn dc) (hy : a.eval y = .string s) (hle : s.size ≤ dn) (hB : Hd w0 w g L) (hl : off + dn ≤ 512)
    (h : ∀ w2, Hd w0 w2 g (put L off s.data.toList) → wpList Tryd.prog ops Q rest (a.put oo.dst (goInt s.size)) w2) : wpList Tryd.prog ops Q (oo :: rest) a w :=
  b_copyS x y hgd ho hx hy hle hB.by_ (by rw [hB.len]; exact hl) fun w2 h1 h2 => h w2 ⟨h1, by
    have hsz : s.data.toList.length = s.size := size_list s
    rw [put_len (by rw [hB.len]; omega), hB.len], hB.ow.trans h2⟩
end
theorem builtH : Tryd.prog.built 44 [] = some ((zs 512).map cb).toArray := by kernel_rfl
section
variable {ops : Array Oper} {rest : List Oper} {o : Oper} {a : Act} {w : World} {Q : Exit → Act → World → Prop}
theorem g_build {t : Nat} (parts : Array (Nat × Operand)) (ho : o.op = .build t parts) (hg : o.guard = none) (cs : List Value) (hb : Tryd.prog.built t (parts.map fun (i, x) => (i, a.eval x)).toList = some cs.toArray)
    (h : wpList Tryd.prog ops Q rest (a.put o.dst (.agg cs.toArray)) w) : wpList Tryd.prog ops Q (o :: rest) a w :=
  wpList_build hg _ parts ho (by rw [hb]; rfl) (by rw [hb]; exact h)
end
/-- WHAT headerOf ANSWERS. -/
def hdE (p : ByteArray) (s : Nat) : Bs := if (spl p).2.2 = 0 then hdP p s else zs 512
theorem hdE_len (p : ByteArray) (s : Nat) : (hdE p s).length = 512 := by
  unfold hdE
  split
  · rename_i h
    exact hdP_len h s
  · exact zs_len 512
set_option maxRecDepth 100000 in
set_option maxHeartbeats 8000000 in
theorem headerOf_any {w : World} {p : ByteArray} {s : Nat} (hp : p.size ≤ 9223372036854775807) (hs : s ≤ 4611686018427387904) (hg : Glob w) :
    Calls Tryd.prog 17 #[.string p, .int .i64 s] w fun e w' => e = .returned (.tuple #[.agg ((hdE p s).map cb).toArray, .int .i64 (spl p).2.2]) ∧ Below w.heap.size w w' := by
  have CS := hide (fun (X : World) (hX : Below w.heap.size w X) => Split_any p X hp (hg.later hX))
  clear hg hp
  by_cases h0 : (spl p).2.2 = 0
  · obtain ⟨pre, nm, e1, e2, l1, l2, _⟩ := spl_parts h0
    have hE : hdE p s = hdr pre nm s := by unfold hdE hdP; rw [if_pos h0, e1, e2]
    rw [hE, h0]
    have n1 : (spl p).1.size ≤ 155 := by rw [← size_list, e1]; exact l2
    have n2 : (spl p).2.1.size ≤ 100 := by rw [← size_list, e2]; exact l1
    rw [h0] at CS
    have E1 := hide e1
    have E2 := hide e2
    have N1 := hide n1
    have N2 := hide n2
    clear e1 e2 n1 n2 h0 hE
    generalize (spl p).1 = s1 at *
    generalize (spl p).2.1 = s2 at *
    have HLN := hide (show ((hdr pre nm s).map cb).length = 512 by rw [List.length_map, hdr_len l1 l2 s])
    go_enter Tryd.func17, Tryd.ntmps17
    go_wp2_with (first
      | ((with_reducible refine b_alloc (t := 44) (k := 512) zeroH rfl rfl ?_); intro w3 B3 k3 z3; have P3 := hide ((unhide P2).later k3); have G3 := hide (unhide P2).lt; have K3 := hide (bl_t (unhide K2) k3); have HH := hide (show Hd w3 w3 w2.heap.size (zs 512) from ⟨By.of_bk B3, zs_len 512, Ow.refl _ _⟩); clear B3 k3 z3 P2 K2)
      | ((with_reducible refine b_alloc (t := 44) (k := 512) zeroH rfl rfl ?_); intro w1 B1 k1 z1; have P1 := hide B1; have K1 := hide k1; clear B1 k1 z1)
      | (go_at_call 27; refine (unhide CS w1 (unhide K1)).mono ?_; rintro e w2 ⟨rfl, b2⟩; have P2 := hide ((unhide P1).later b2); have K2 := hide (bl_t (unhide K1) b2); clear b2 CS P1 K1)
      | (go_at_call 28; refine (hname_any _ _).mono ?_; rintro e wn ⟨rfl, hw⟩; rw [hw]; clear hw wn)
      | (go_at_call 30; refine (hsize_any _ _).mono ?_; rintro e wn ⟨rfl, hw⟩; rw [hw]; clear hw wn)
      | (go_at_call 31; refine (hprefix_any _ _).mono ?_; rintro e wn ⟨rfl, hw⟩; rw [hw]; clear hw wn)
      | ((with_reducible refine h_copyS _ _ rfl rfl rfl rfl (by decide) (unhide HH) (by decide) ?_); intro wc hc; clear HH; have HH := hide hc; clear hc)
      | ((with_reducible refine h_copyS (s := s2) _ _ rfl rfl rfl rfl (unhide N2) (unhide HH) (by decide) ?_); intro wc hc; clear HH; have HH := hide hc; clear hc)
      | ((with_reducible refine h_copyS (s := s1) _ _ rfl rfl rfl rfl (unhide N1) (unhide HH) (by decide) ?_); intro wc hc; clear HH; have HH := hide hc; clear hc)
      | (go_at_call 29; refine (layOctal_any (k := 11) (c := 11) (n := s) (unhide HH).by_ (by rw [(unhide HH).len]; decide) (by decide) (by decide) hs).mono ?_; rintro e wl ⟨rfl, q1, q2⟩; have HQ := hide (show Hd _ wl w2.heap.size _ from ⟨q1, by rw [put_len (by rw [oct_len, (unhide HH).len]; decide), (unhide HH).len], (unhide HH).ow.trans q2⟩); clear HH q1 q2; have HH := HQ; clear HQ)
      | (go_at_call 32; refine (laySum_any (unhide HH).by_ (unhide HH).len).mono ?_; rintro e wl ⟨rfl, q1, q2⟩; have HZ := hide (show Hd _ wl w2.heap.size (hdr pre nm s) from ⟨by have := q1; rw [unhide E1, unhide E2] at this; exact this, hdr_len l1 l2 s, (unhide HH).ow.trans q2⟩); clear HH q1 q2; have HR := hide (Rb.of_by (unhide HZ).by_); have P4 := hide ((unhide P3).of ((unhide HZ).ow.oth w.heap.size (by have := unhide G3; omega))))
      | ((with_reducible refine m_load (t := 44) (k := 512) Tryd.underlying44 rfl infoH _ rfl rfl w2.heap.size 0 rfl ((hdr pre nm s).map cb) (unhide HR) (unhide HLN) ?_))
      | ((with_reducible refine b_store (t := 44) (k := 512) infoH _ _ rfl rfl w.heap.size rfl ((hdr pre nm s).map cb) rfl (unhide HLN) (map_cb_one _) _ (unhide P4) ?_); intro w5 B5 o5 k5 z5; have P5 := hide B5; have K5 := hide (k5 w.heap.size (Nat.le_refl _)); clear B5 o5 k5 z5))
    have hld := run_loadVar_mid w5 w.heap.size 0 44 ((hdr pre nm s).map cb) _ (unhide P5).range Tryd.underlying44 rfl (by rw [unhide HLN]; exact infoH)
    (try simp only [Exit.inBlock, Exit.then])
    refine bodyPost_ret (v := .tuple #[.agg ((hdr pre nm s).map cb).toArray, .int .i64 0]) ?_ rfl ⟨rfl, (unhide K3).trans (((unhide HZ).ow.bel.mono (Nat.le_of_lt (unhide G3))).trans (unhide K5))⟩
    rw [results_cell_tmp rfl]
    simp [asAddr, Result.andThen, hld]
  · have hE : hdE p s = zs 512 := by unfold hdE; rw [if_neg h0]
    rw [hE]
    generalize (spl p).2.2 = er at *
    generalize (spl p).1 = s1 at *
    generalize (spl p).2.1 = s2 at *
    have HLN := hide (show ((zs 512).map cb).length = 512 by rw [List.length_map, zs_len])
    have HBH := hide builtH
    clear hE
    go_enter Tryd.func17, Tryd.ntmps17
    go_wp2_with (first
      | ((with_reducible refine b_alloc (t := 44) (k := 512) zeroH rfl rfl ?_); intro w1 B1 k1 z1; have P1 := hide B1; have K1 := hide k1; clear B1 k1 z1)
      | (go_at_call 27; refine (unhide CS w1 (unhide K1)).mono ?_; rintro e w2 ⟨rfl, b2⟩; have P2 := hide ((unhide P1).later b2); have K2 := hide (bl_t (unhide K1) b2); clear b2 CS P1 K1)
      | ((with_reducible refine g_build _ rfl rfl ((zs 512).map cb) ?hb1 ?_); (case hb1 => exact unhide HBH))
      | ((with_reducible refine b_store (t := 44) (k := 512) infoH _ _ rfl rfl w.heap.size rfl ((zs 512).map cb) rfl (unhide HLN) (map_cb_one _) _ (unhide P2) ?_); intro w5 B5 o5 k5 z5; have P5 := hide B5; have K5 := hide (k5 w.heap.size (Nat.le_refl _)); clear B5 o5 k5 z5))
    have hld := run_loadVar_mid w5 w.heap.size 0 44 ((zs 512).map cb) _ (unhide P5).range Tryd.underlying44 rfl (by rw [unhide HLN]; exact infoH)
    (try simp only [Exit.inBlock, Exit.then])
    refine bodyPost_ret (v := .tuple #[.agg ((zs 512).map cb).toArray, .int .i64 er]) ?_ rfl ⟨rfl, (unhide K2).trans (unhide K5)⟩
    rw [results_cell_tmp rfl]
    simp [asAddr, Result.andThen, hld]
end Go.Proofs.YtjmomdnlibfbkaaDoor
