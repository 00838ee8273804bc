import Derived.Test.YtfembjjpmjfklaaDoorWide
import Derived.Test.YtfembjjpmjfklaaDoorLitP
namespace Go.Proofs.YtfembjjpmjfklaaDoor
open Go.RowKit

theorem wd_app (a b : List UInt8) : wd (a ++ b) = wd a ++ wd b := by simp [wd]
theorem wd_same (l : List UInt8) (h : ∀ b ∈ l, b ≠ 32) : wd l = l := by
  induction l with
  | nil => rfl
  | cons b l ih =>
    have e : wd (b :: l) = (if b = 32 then [10, 9, 32] else [b]) ++ wd l := by simp [wd]
    rw [e, if_neg (h b List.mem_cons_self), ih (fun c hc => h c (List.mem_cons_of_mem _ hc))]
    rfl
theorem wd_join (sep : List UInt8) : ∀ xs : List (List UInt8), wd (Lib.join xs sep) = Lib.join (xs.map wd) (wd sep)
  | [] => rfl
  | [x] => by rw [Lib.join_one]; exact (Lib.join_one _ _).symm
  | x :: y :: xs => by
    rw [join_two, wd_app, wd_app, wd_join sep (y :: xs)]
    exact (join_two _ _ _ _).symm
theorem not32 (b : UInt8) (h : blk b = false) : b ≠ 32 := fun e => by subst e; cases h

def WB : List UInt8 := [10, 9, 32]
theorem Blk_W : Blk WB := fun b hb => by
  simp only [WB, List.mem_cons, List.mem_nil_iff, or_false] at hb
  rcases hb with rfl | rfl | rfl <;> rfl

theorem wd_atB (a : Am) (h : ckAtom a.n a.op a.v = 0) : wd (atB [32] a) = atB WB a := by
  obtain ⟨k1, k2, k3, k4, k5⟩ := ckAtom_parts h
  obtain ⟨n1, n2⟩ := name_bytes a.n k1
  have hn : wd a.n.data.toList = a.n.data.toList := wd_same _ (fun b hb => not32 b (nf_not b (n2 b hb)).1)
  unfold atB
  by_cases h0 : a.op = 0
  · rw [if_pos h0, if_pos h0, hn]
  · rw [if_neg h0, if_neg h0]
    obtain ⟨v1, v2⟩ := ver_bytes a.v (k5 h0)
    obtain ⟨s1, s2⟩ := sg_bytes a.op.toNat (by omega) (by omega)
    have hv : wd a.v.data.toList = a.v.data.toList := wd_same _ (fun b hb => not32 b (up_not b (v2 b hb)).1)
    have hs : wd (sg a.op.toNat).data.toList = (sg a.op.toNat).data.toList := wd_same _ (fun b hb => not32 b (op_not b (s2 b hb)).1)
    generalize a.n.data.toList = N at *
    generalize a.v.data.toList = V at *
    generalize (sg a.op.toNat).data.toList = S at *
    have e1 : wd [32] = WB := rfl
    have e2 : wd [40] = [40] := rfl
    have e3 : wd [41] = [41] := rfl
    rw [show (40 :: (S ++ ([32] ++ (V ++ [41]))) : List UInt8) = [40] ++ (S ++ ([32] ++ (V ++ [41]))) from rfl, show (40 :: (S ++ (WB ++ (V ++ [41]))) : List UInt8) = [40] ++ (S ++ (WB ++ (V ++ [41]))) from rfl]
    simp only [wd_app, hn, hv, hs, e1, e2, e3]
theorem wd_clB (al : List Am) (h : okC al) : wd (clB [32] al) = clB WB al := by
  unfold clB
  rw [wd_join, List.map_map]
  have e : (al.map (wd ∘ atB [32])) = al.map (atB WB) := List.map_congr_left fun a ha => wd_atB a (h.2.2 a ha)
  rw [e]
  rfl
theorem wd_fdB (cl : List (List Am)) (h : okF cl) : wd (fdB [32] cl) = fdB WB cl := by
  unfold fdB
  rw [wd_join, List.map_map]
  have e : (cl.map (wd ∘ clB [32])) = cl.map (clB WB) := List.map_congr_left fun a ha => wd_clB a (h.2 a ha)
  rw [e]
  rfl

theorem atT_B (a : Am) : atT a = atB [32] a := by
  unfold atT atB
  rfl
theorem prC_clB (al : List Am) (h : okC al) : (prC al).1.data.toList = clB [32] al := by
  have hl : al.length ≠ 0 := fun e => h.1 (List.length_eq_zero_iff.1 e)
  have h0 := prC_okC al h
  have hC : prC al = prR (fun a => (printA a).1) (fun a => (printA a).2) al ⟨#[32, 124, 32]⟩ 256 := by unfold prC; rw [if_neg hl]
  rw [hC] at h0 ⊢
  obtain ⟨h1, h2, h3, h4⟩ := prR_ok _ _ _ _ _ h0
  rw [h4]
  show Lib.join (al.map fun a => (printA a).1.data.toList) [32, 124, 32] = _
  rw [map_atT al h2]
  unfold clB
  rw [List.map_congr_left (fun a _ => atT_B a)]
  rfl
theorem prF_fdB (cl : List (List Am)) (h : okF cl) (h0 : (prF cl).2 = 0) : (prF cl).1.data.toList = fdB [32] cl ∧ (prF cl).1.size ≤ 16777216 := by
  obtain ⟨h1, h2, h3, h4⟩ := prR_ok _ _ _ _ _ h0
  have h4' : (prF cl).1 = prJ (fun a => (prC a).1) cl ⟨#[44, 32]⟩ := h4
  rw [h4']
  refine ⟨?_, h3⟩
  show Lib.join (cl.map fun a => (prC a).1.data.toList) [44, 32] = _
  unfold fdB
  rw [List.map_congr_left (fun a ha => prC_clB a (h.2 a ha))]

theorem okF_szs (cl : List (List Am)) (h : okF cl) : ∀ j (hj : j < cl.length), Szs cl[j] := fun _ hj _ hi => by
  have := ckAtom_sizes ((h.2 _ (List.getElem_mem hj)).2.2 _ (List.getElem_mem hi))
  unfold maxLen
  omega

set_option maxRecDepth 100000 in
set_option maxHeartbeats 4000000 in
theorem relationOne_walk (s : ByteArray) (hs : s.size ≤ maxLen) (w : World) (hg : Glob w) :
    Calls Tryd.prog 3 #[.string s] w fun e w' => e = .returned (.bool true) ∧ Below w.heap.size w w' := by
  have c1 := hide (ParseField_any s w hs trivial hg)
  have c5 := hide (fun (w' : World) (hb : Below w.heap.size w w') => little_any w' (hg.later hb))
  have HG := hide hg
  have hok := fd_ok s
  clear hs hg
  by_cases he : fdE s = 0
  · have HOK := hide (hok he)
    rw [he] at c1
    generalize fdL s = cl at *
    clear hok he
    go_enter Tryd.func3, Tryd.ntmps3
    go_wp2_with fail
    refine (unhide c1).mono ?_
    rintro e w1 ⟨⟨v, rfl, hv, -, -⟩, hb1⟩
    have HV := hide (hv (by first | trivial | rfl))
    have HB1 := hide hb1
    have c2 := hide (PrintField_any cl v w1 (unhide HV) (okF_szs cl (unhide HOK)) ((unhide HG).later hb1))
    have hpf := prF_okF cl (unhide HOK)
    have hpt := prF_fdB cl (unhide HOK)
    obtain ⟨va, vc, rfl, -⟩ := unhide HV
    rcases hp : prF cl with ⟨t, f⟩
    rw [hp] at c2 hpf hpt
    simp only at c2 hpf hpt
    clear hv hb1 hp c1
    by_cases hf : f = 0
    · obtain ⟨ht1, ht2⟩ := hpt hf
      subst hf
      have k1 := hide (fun (w' : World) (hb : Below w.heap.size w w') => ParseField_any t w' (by omega) trivial ((unhide HG).later hb))
      have hbk := fd_backB [32] Blk_sp (by simp) cl (unhide HOK) (by rw [← ht1, size_list]; exact ht2)
      have htb : ba (fdB [32] cl) = t := by rw [← ht1]; exact ba_self t
      rw [htb] at hbk
      rw [hbk.1, hbk.2] at k1
      have k2 := hide (fun (w' : World) => wide_any t w' ht2)
      have hwd : wd t.data.toList = fdB WB cl := by rw [ht1]; exact wd_fdB cl (unhide HOK)
      rw [hwd] at k2
      have hbw := fd_backB WB Blk_W (by simp [WB]) cl (unhide HOK)
      have hws : (ba (fdB WB cl)).size = (fdB WB cl).length := ba_size _
      rw [← hws] at hbw
      generalize ba (fdB WB cl) = wt at *
      clear hpf hpt hbk htb hwd hws ht1
      go_wp2_with (first | (go_at_call 9; refine (num2_any _ _).mono ?_; rintro e w' ⟨rfl, rfl⟩))
      refine (unhide c2).mono ?_
      rintro e w2 ⟨rfl, hb2⟩
      have HB2 := hide (bl_t (unhide HB1) hb2)
      have HV2 := hide ((unhide HV).later hb2)
      clear hb2 c2 HV HB1
      go_wp2_with (first | (go_at_call 9; refine (num2_any _ _).mono ?_; rintro e w' ⟨rfl, rfl⟩))
      refine (unhide k1 _ (unhide HB2)).mono ?_
      rintro e w3 ⟨⟨m, rfl, hm, -, -⟩, hb3⟩
      have HM := hide (hm (by first | trivial | rfl))
      have HB3 := hide (bl_t (unhide HB2) hb3)
      have HV3 := hide ((unhide HV2).later hb3)
      have k4 := hide (sameFieldB cl _ _ w3 (unhide HV3) (unhide HM))
      obtain ⟨ma, mc, rfl, -⟩ := unhide HM
      clear hm hb3 HB2 HV2 k1
      go_wp2_with (first | (go_at_call 9; refine (num2_any _ _).mono ?_; rintro e w' ⟨rfl, rfl⟩))
      refine (unhide k4).mono ?_
      rintro e w4 ⟨rfl, hb4⟩
      have HB4 := hide (bl_t (unhide HB3) hb4)
      have HV4 := hide ((unhide HV3).later hb4)
      clear hb4 HB3 HV3 k4 HM
      go_wp2_with fail
      refine (unhide k2 _).mono ?_
      rintro e w5 ⟨rfl, hb5⟩
      have HB5 := hide (bl_t (unhide HB4) hb5)
      have HV5 := hide ((unhide HV4).later hb5)
      clear hb5 HB4 HV4 k2
      by_cases hbig : 16777216 < wt.size
      · have hbig' : (16777216 : Int) < (wt.size : Int) := by omega
        clear hbw hbig
        go_wp2_with fail
        refine (unhide c5 _ (unhide HB5)).mono ?_
        rintro e w6 ⟨rfl, hb6⟩
        have HB6 := hide (bl_t (unhide HB5) hb6)
        clear hb6
        go_wp2_with fail
        go_ret
        exact ⟨rfl, unhide HB6⟩
      · have hbig' : ¬ (16777216 : Int) < (wt.size : Int) := by omega
        obtain ⟨y1, y2⟩ := hbw (by omega)
        have k3 := hide (fun (w' : World) (hb : Below w.heap.size w w') => ParseField_any wt w' (by omega) trivial ((unhide HG).later hb))
        rw [y1, y2] at k3
        clear hbw hbig y1 y2
        go_wp2_with fail
        refine (unhide k3 _ (unhide HB5)).mono ?_
        rintro e w6 ⟨⟨m2, rfl, hm, -, -⟩, hb6⟩
        have HM := hide (hm (by first | trivial | rfl))
        have HB6 := hide (bl_t (unhide HB5) hb6)
        have HV6 := hide ((unhide HV5).later hb6)
        have k4 := hide (sameFieldB cl _ _ w6 (unhide HV6) (unhide HM))
        obtain ⟨mb, md, rfl, -⟩ := unhide HM
        clear hm hb6 HB5 HV5 k3
        go_wp2_with (first | (go_at_call 9; refine (num2_any _ _).mono ?_; rintro e w' ⟨rfl, rfl⟩))
        refine (unhide k4).mono ?_
        rintro e w7 ⟨rfl, hb7⟩
        have HB7 := hide (bl_t (unhide HB6) hb7)
        clear hb7 k4 HB6 HV6 HM
        go_wp2_with fail
        refine (unhide c5 _ (unhide HB7)).mono ?_
        rintro e w8 ⟨rfl, hb8⟩
        have HB8 := hide (bl_t (unhide HB7) hb8)
        clear hb8
        go_wp2_with fail
        go_ret
        exact ⟨rfl, unhide HB8⟩
    · have hpf' := hpf hf
      obtain ⟨rfl, rfl⟩ := Prod.mk.inj hpf'
      clear hpf hpt hpf'
      unfold nob at c2
      go_wp2_with (first | (go_at_call 9; refine (num2_any _ _).mono ?_; rintro e w' ⟨rfl, rfl⟩))
      refine (unhide c2).mono ?_
      rintro e w2 ⟨rfl, hb2⟩
      have HB2 := hide (bl_t (unhide HB1) hb2)
      clear hb2
      go_wp2_with (first | (go_at_call 9; refine (num2_any _ _).mono ?_; rintro e w' ⟨rfl, rfl⟩))
      go_ret
      exact ⟨rfl, unhide HB2⟩
  · have he' : (fdE s == 0) = false := by simpa using he
    go_enter Tryd.func3, Tryd.ntmps3
    go_wp2_with fail
    refine (unhide c1).mono ?_
    rintro e w1 ⟨⟨v, rfl, -, hv, -⟩, hb1⟩
    obtain rfl := hv he
    have HB1 := hide hb1
    clear hv hb1 he hok
    go_wp2_with (first | (go_at_call 9; refine (num2_any _ _).mono ?_; rintro e w' ⟨rfl, rfl⟩))
    refine (unhide c5 _ (unhide HB1)).mono ?_
    rintro e w2 ⟨rfl, hb2⟩
    have HB2 := hide (bl_t (unhide HB1) hb2)
    clear hb2
    go_wp2_with fail
    go_ret
    exact ⟨rfl, unhide HB2⟩

end Go.Proofs.YtfembjjpmjfklaaDoor
