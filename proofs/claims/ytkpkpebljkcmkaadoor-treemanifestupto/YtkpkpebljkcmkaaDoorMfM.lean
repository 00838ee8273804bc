import Derived.Test.YtkpkpebljkcmkaaDoorMfL
namespace Go.Proofs.YtkpkpebljkcmkaaDoor
open Go.RowKit

def rem1 (cm : List (List Value)) (f : List Value) : List (List Value) := if (∀ x ∈ cm, pth x ≠ pth f) then [stp 2 ⟨#[]⟩ (tpN (pth f))] else []
def rmv (cm gm : List (List Value)) : List (List Value) := gm.flatMap (rem1 cm)
theorem rmv_snoc (cm A : List (List Value)) (f : List Value) : rmv cm (A ++ [f]) = rmv cm A ++ rem1 cm f := by simp [rmv]
theorem rem1_len (cm : List (List Value)) (f : List Value) : (rem1 cm f).length ≤ 1 := by
  unfold rem1
  split <;> simp
theorem rmv_len (cm : List (List Value)) : ∀ gm : List (List Value), (rmv cm gm).length ≤ gm.length
  | [] => Nat.le_refl _
  | f :: gm => by
    have := rmv_len cm gm
    have := rem1_len cm f
    show (rem1 cm f ++ rmv cm gm).length ≤ _
    rw [List.length_append, List.length_cons]
    omega
/-- WHAT STEPS ANSWERS. -/
inductive St (seq : Int) (I O : List (List Value)) : Int → List (List Value) → Prop
  | arg : ¬ (0 ≤ seq ∧ seq ≤ 281474976710655) → St seq I O 1 []
  | inn (e : Int) (M : List (List Value)) : (0 ≤ seq ∧ seq ≤ 281474976710655) → Mn I e M → e ≠ 0 → St seq I O e []
  | out (e : Int) (CM M : List (List Value)) : (0 ≤ seq ∧ seq ≤ 281474976710655) → Mn I 0 CM → Mn O e M → e ≠ 0 → St seq I O e []
  | good (CM GM : List (List Value)) : (0 ≤ seq ∧ seq ≤ 281474976710655) → Mn I 0 CM → Mn O 0 GM → St seq I O 0 (rnm seq.toNat I ++ rmv CM GM)
theorem St.uniq {seq : Int} {I O : List (List Value)} {e e' : Int} {M M' : List (List Value)} (h : St seq I O e M) (k : St seq I O e' M') : e = e' ∧ M = M' := by
  cases h with
  | arg h =>
    cases k with
    | arg => exact ⟨rfl, rfl⟩
    | inn _ _ q => exact absurd q h
    | out _ _ _ q => exact absurd q h
    | good _ _ q => exact absurd q h
  | inn e M q h hn =>
    cases k with
    | arg k => exact absurd q k
    | inn _ _ _ k => exact ⟨(h.uniq k).1, rfl⟩
    | out _ _ _ _ k => exact absurd (h.uniq k).1 hn
    | good _ _ _ k => exact absurd (h.uniq k).1 hn
  | out e CM M q h1 h hn =>
    cases k with
    | arg k => exact absurd q k
    | inn _ _ _ k kn => exact absurd (k.uniq h1).1 kn
    | out _ _ _ _ _ k => exact ⟨(h.uniq k).1, rfl⟩
    | good _ _ _ _ k => exact absurd (h.uniq k).1 hn
  | good CM GM q h1 h2 =>
    cases k with
    | arg k => exact absurd q k
    | inn _ _ _ k kn => exact absurd (k.uniq h1).1 kn
    | out _ _ _ _ _ k kn => exact absurd (k.uniq h2).1 kn
    | good _ _ _ k1 k2 => rw [(h1.uniq k1).2, (h2.uniq k2).2]; exact ⟨rfl, rfl⟩
def StA (w : World) (seq : Int) (I O : List (List Value)) (e : Ending) (w' : World) : Prop := ∃ er M v', St seq I O er M ∧ e = .returned (.tuple #[v', .int .i64 er]) ∧ w'.ownsRow w.heap.size 42 3 v' M.length M.flatten ∧ Below w.heap.size w w'
theorem sta {w w' : World} {seq : Int} {I O M : List (List Value)} {er : Int} {v' : Value} {e : Ending} (h1 : St seq I O er M) (h2 : e = .returned (.tuple #[v', .int .i64 er])) (h3 : w'.ownsRow w.heap.size 42 3 v' M.length M.flatten) (h4 : Below w.heap.size w w') : StA w seq I O e w' := ⟨er, M, v', h1, h2, h3, h4⟩
theorem Mn.fine {L M : List (List Value)} (h : Mn L 0 M) : (∀ r ∈ L, chk (pth r) = 0) ∧ M.Perm L ∧ Up M := by
  generalize e : (0 : Int) = z at h
  cases h with
  | path => cases e
  | twice => cases e
  | good _ h1 h2 h3 => exact ⟨h1, h2, h3⟩
theorem Pks.ok {w : World} {v : Value} {ps : List Pk} (h : Pks w v ps) : ∀ r ∈ allF ps, isT 40 34 r := fun r hr => by
  obtain ⟨a, c, rfl⟩ := h.form
  obtain ⟨p, hp, hr2⟩ := List.mem_flatMap.1 hr
  obtain ⟨i, hi, rfl⟩ := List.getElem_of_mem hp
  obtain ⟨_, _, _, _, _, _, _, _, _, k⟩ := h.at hi
  exact k.ok r hr2
set_option maxRecDepth 100000 in
set_option maxHeartbeats 8000000 in
theorem steps_any {w : World} {u v : Value} {os ps : List Pk} {seq : Int} (h : Pks w u os) (k : Pks w v ps) (hl : os.length ≤ 1048576) (kl : ps.length ≤ 1048576) (hs : (allF os).length ≤ 1048576) (ks : (allF ps).length ≤ 1048576) (hg : Glob w) :
    Calls Tryd.prog 7 #[.int .i64 seq, u, v] w fun e w' => StA w seq (allF ps) (allF os) e w' := by
  have HG := hide hg
  have HK := hide k
  have HH := hide h
  have CI := hide (isSeq_any seq w)
  have CM1 := hide (manifest_any k kl ks hg)
  have CM2 := hide (fun (X : World) (hX : Below w.heap.size w X) => manifest_any (h.later hX) hl hs (hg.later hX))
  have HOI := hide k.ok
  have HOO := hide h.ok
  clear h k hg
  by_cases hq : 0 ≤ seq ∧ seq ≤ 281474976710655
  · have HQ := hide hq
    obtain ⟨n, rfl⟩ : ∃ n : Nat, seq = (n : Int) := ⟨seq.toNat, by omega⟩
    have hb : (decide (0 ≤ (n : Int)) && decide ((n : Int) ≤ 281474976710655)) = true := by simp; omega
    rw [hb] at CI
    have CR := hide (fun (X : World) (hX : Below w.heap.size w X) hc => renames_any (seq := n) ((unhide HK).later hX) kl ks ((unhide HG).later hX) (by omega) hc)
    clear hb
    go_enter Tryd.func7, Tryd.ntmps7
    go_upto_region 4 with (first
      | (go_at_call 19; refine (unhide CI).mono ?_; rintro e w1 ⟨rfl, rfl⟩)
      | (go_at_call 5; refine (unhide CM1).mono ?_; rintro e w2 ⟨er, CM, v2, h1, rfl, h3, h4⟩; have HM1 := hide h1; have HO1 := hide h3; have HB1 := hide h4; clear h1 h3 h4))
    by_cases h0 : er = 0
    · subst h0
      go_upto_region 7 with (first
        | (go_at_call 5; refine (unhide CM2 _ (unhide HB1)).mono ?_; rintro e w3 ⟨er, GM, v3, h1, rfl, h3, h4⟩; have HM2 := hide h1; have HO2 := hide (own_base h3 (unhide HB1).size); have HB2 := hide (bl_t (unhide HB1) h4); have HO12 := hide (own_low (unhide HO1) h4); clear h1 h3 h4))
      by_cases h0 : er = 0
      · subst h0
        have hF1 := (unhide HM1).fine
        have hF2 := (unhide HM2).fine
        have HRES := hide (St.good CM GM (unhide HQ) (unhide HM1) (unhide HM2))
        have hcl : CM.length ≤ 1048576 := Nat.le_trans (unhide HM1).len ks
        have hgl : GM.length ≤ 1048576 := Nat.le_trans (unhide HM2).len hs
        have hokC := (unhide HM1).ok (unhide HOI)
        have hokG := (unhide HM2).ok (unhide HOO)
        have HRC := hide (own_rws2 hokC (unhide HO12))
        have HRG := hide (own_rws2 hokG (unhide HO2))
        obtain ⟨ga, gc, rfl⟩ := owns_form (unhide HO2)
        have HAT := hide (fun (j : Nat) (hj : j < GM.length) => (unhide HRG).at hj)
        have HAS := hide (fun (X : World) (p : Nm) (hX : Below w3.heap.size w3 X) (hp : p.size ≤ maxLen) => has_any (p := p) ((unhide HRC).later hX) hcl hF1.2.2 hp)
        have HCG := hide (fun (j : Nat) (hj : j < GM.length) => hF2.1 _ (hF2.2.1.mem_iff.1 (List.getElem_mem hj)))
        have CRN := hide (unhide CR w3 (unhide HB2) hF1.1)
        have HRL := hide (rnm_len n (allF ps))
        obtain ⟨zf, zeroF2⟩ := zeroF1
        obtain ⟨K, hK⟩ : ∃ K, GM.length = K := ⟨_, rfl⟩
        have HKN := hide hK
        rw [hK] at hgl ⊢
        clear hF1 hF2 hokC hokG HRC HRG CR CM2 CI CM1 hcl hK
        go_upto_region 10 with (first
          | (go_at_call 20; refine (unhide CRN).mono ?_; rintro e w4 ⟨v4, rfl, ho, hb⟩; have HS4 := hide ho; have HB4 := hide hb; clear ho hb CRN))
        have HS0 := hide (show w4.ownsRow w3.heap.size 42 3 v4 (rnm n (allF ps) ++ rmv CM (GM.take 0)).length (rnm n (allF ps) ++ rmv CM (GM.take 0)).flatten from by
          rw [List.take_zero, show rmv CM [] = [] from rfl, List.append_nil, unhide HRL]; exact unhide HS4)
        clear HS4
        go_wp2_with fail
        go_loopg [11, 13, 38] K (fun gq fv _ iv wr => ∃ k : Nat, iv = .int .i64 k ∧ k ≤ K ∧ K - k ≤ gq ∧ Hid (wr.ownsRow w3.heap.size 42 3 fv (rnm n (allF ps) ++ rmv CM (GM.take k)).length (rnm n (allF ps) ++ rmv CM (GM.take k)).flatten) ∧ Hid (Below w3.heap.size w3 wr))
        case atStart => exact ⟨0, by go_num, by omega, by omega, HS0, HB4⟩
        case round =>
          clear HS0 HB4
          obtain ⟨k, rfl, hk, hgk, HR, HB⟩ := hrel
          obtain ⟨Z, rfl⟩ : ∃ Z, Z = wr := ⟨_, rfl⟩
          by_cases hlk : k < K
          · have hkn : (k : Int) < (K : Int) := by omega
            have hkl : k < GM.length := by have := unhide HKN; omega
            obtain ⟨b2, o2, rfl, hb2, hok, hrg⟩ := unhide HAT k hkl
            have hck := unhide HCG k hkl
            obtain ⟨s, hs0, hsp2, hsz⟩ := hok.path2
            have HRG2 := hide (rangeAt_later hrg hb2 (unhide HB))
            rw [hsp2] at hck
            have hs256 := chk_le hck
            have hxl := hok.1
            have HX1 := hide hok.2.2
            have HX0 := hide hs0
            have HT2 := hide (show rmv CM (GM.take (k + 1)) = rmv CM (GM.take k) ++ rem1 CM GM[k] from by rw [take_snoc2 hkl, rmv_snoc])
            have HR1 := hide (show rem1 CM GM[k] = if (∀ x ∈ CM, pth x ≠ s) then [stp 2 ⟨#[]⟩ (tpN s)] else [] from by unfold rem1; rw [hsp2])
            have hpl : (rnm n (allF ps) ++ rmv CM (GM.take k)).length ≤ 2097152 := by
              rw [List.length_append, unhide HRL]
              have := rmv_len CM (GM.take k)
              rw [List.length_take] at this
              omega
            generalize GM[k] = xs at *
            generalize hP : rnm n (allF ps) ++ rmv CM (GM.take k) = P at *
            have HPP := hide (show rnm n (allF ps) ++ rmv CM (GM.take (k + 1)) = P ++ rem1 CM xs from by rw [unhide HT2, ← List.append_assoc, hP])
            obtain ⟨fa, fc, rfl⟩ := owns_form (unhide HR)
            have hcat1 : ¬ (9223372036854775807 < 2 + s.size) := by omega
            have hcat2 : ¬ (9223372036854775807 < s.size + 2) := by omega
            have HAP := hide (fun (X : World) (hX : Below w3.heap.size w3 X) (hO : X.ownsRow w3.heap.size 42 3 (.slice fa P.length fc) P.length P.flatten) => own_grow tyQ (wx := X.alloc (.cells (stp 2 ⟨#[]⟩ (tpN s)).toArray 42)) hO hX (stp 2 ⟨#[]⟩ (tpN s)) rfl (fun j u hj => by rw [World.cell?_alloc_new]; simpa using hj) ((Below.refl _ _).alloc (Nat.le_refl _) _) (stp_one _ _ _) (by unfold maxLen; omega) (by omega) 30)
            have HAK := hide (fun (X : World) (hX : Below w3.heap.size w3 X) => unhide HAS X s hX hsz)
            clear hok hrg hs0 hsp2 hck hs256 hP hsz HT2
            by_cases hd : ∀ x ∈ CM, pth x ≠ s
            · have HAK2 := hide (fun (X : World) (hX : Below w3.heap.size w3 X) => (unhide HAK X hX).mono (R' := fun e w' => e = .returned (.bool false) ∧ Below X.heap.size X w') fun e w' ⟨b, e1, e2, e3⟩ => ⟨by
                cases b with
                | false => exact e1
                | true => obtain ⟨x, hx, e4⟩ := e2.1 rfl; exact absurd e4 (hd x hx), e3⟩)
              rw [if_pos hd] at HR1
              rw [unhide HR1] at HPP
              clear hd HAK
              go_wp2_with (first
                | ((with_reducible refine m_load (t := 40) (k := 34) Tryd.underlying40 rfl infoF _ rfl rfl b2 (o2 + k * 34) rfl xs (unhide HRG2) hxl ?_))
                | ((with_reducible refine b_alloc (t := 40) (k := 34) zeroF2 rfl rfl ?_); intro w5 B1 k1 z1)
                | ((with_reducible refine b_store (t := 40) (k := 34) infoF _ _ rfl rfl Z.heap.size rfl xs rfl hxl (unhide HX1) _ B1 ?_); intro w6 B3 o3 k3 z3; have b7 := k1.trans (k3 _ (Nat.le_refl _)); have HB6 := hide (bl_t (unhide HB) b7); have HR6 := hide (own_low (unhide HR) b7); have HX6 := hide B3; have c0 := B3.cell (unhide HX0); clear B1 k1 z1 B3 o3 k3 z3 b7)
                | (go_at_call 21; refine (unhide HAK2 _ (unhide HB6)).mono ?_; rintro e w7 ⟨rfl, hbe⟩; have HB7 := hide (bl_t (unhide HB6) hbe); have HR7 := hide (own_low (unhide HR6) hbe); clear c0; have c0 := ((unhide HX6).later hbe).cell (unhide HX0); obtain ⟨v9, w9, hr9, ho9, hb9⟩ := unhide HAP w7 (unhide HB7) (unhide HR7); have HO9 := hide ho9; have HB9 := hide hb9; clear ho9 hb9; clear hbe)
                | (at_builtin; refine wpList_append_run rfl _ _ 30 rfl _ _ rfl rfl hr9 ?_; clear hr9))
              have HO8 := hide (show w9.ownsRow w3.heap.size 42 3 v9 (rnm n (allF ps) ++ rmv CM (GM.take (k + 1))).length (rnm n (allF ps) ++ rmv CM (GM.take (k + 1))).flatten from by
                rw [unhide HPP, List.length_append, List.flatten_append]
                simpa using unhide HO9)
              go_roundg (K - (k + 1))
              case measure => omega
              case rel => exact ⟨k + 1, by go_num, by omega, by omega, HO8, HB9⟩
            · have HAK2 := hide (fun (X : World) (hX : Below w3.heap.size w3 X) => (unhide HAK X hX).mono (R' := fun e w' => e = .returned (.bool true) ∧ Below X.heap.size X w') fun e w' ⟨b, e1, e2, e3⟩ => ⟨by
                cases b with
                | true => exact e1
                | false => exact absurd (fun x hx e4 => (by have := e2.2 ⟨x, hx, e4⟩; cases this)) hd, e3⟩)
              rw [if_neg hd] at HR1
              rw [unhide HR1, List.append_nil] at HPP
              clear hd HAK
              go_wp2_with (first
                | ((with_reducible refine m_load (t := 40) (k := 34) Tryd.underlying40 rfl infoF _ rfl rfl b2 (o2 + k * 34) rfl xs (unhide HRG2) hxl ?_))
                | ((with_reducible refine b_alloc (t := 40) (k := 34) zeroF2 rfl rfl ?_); intro w5 B1 k1 z1)
                | ((with_reducible refine b_store (t := 40) (k := 34) infoF _ _ rfl rfl Z.heap.size rfl xs rfl hxl (unhide HX1) _ B1 ?_); intro w6 B3 o3 k3 z3; have b7 := k1.trans (k3 _ (Nat.le_refl _)); have HB6 := hide (bl_t (unhide HB) b7); have HR6 := hide (own_low (unhide HR) b7); have HX6 := hide B3; have c0 := B3.cell (unhide HX0); clear B1 k1 z1 B3 o3 k3 z3 b7)
                | (go_at_call 21; refine (unhide HAK2 _ (unhide HB6)).mono ?_; rintro e w7 ⟨rfl, hbe⟩; have HB7 := hide (bl_t (unhide HB6) hbe); have HR7 := hide (own_low (unhide HR6) hbe); clear c0; have c0 := ((unhide HX6).later hbe).cell (unhide HX0);  clear hbe)
                | (at_builtin; refine wpList_append_run rfl _ _ 30 rfl _ _ rfl rfl hr9 ?_; clear hr9))
              have HO8 := hide (show w7.ownsRow w3.heap.size 42 3 (.slice fa P.length fc) (rnm n (allF ps) ++ rmv CM (GM.take (k + 1))).length (rnm n (allF ps) ++ rmv CM (GM.take (k + 1))).flatten from by
                rw [unhide HPP]; exact unhide HR7)
              go_roundg (K - (k + 1))
              case measure => omega
              case rel => exact ⟨k + 1, by go_num, by omega, by omega, HO8, HB7⟩
          · obtain rfl : k = K := by omega
            have hge : ¬ (k : Int) < (k : Int) := by omega
            have HR2 := hide (show Z.ownsRow w1.heap.size 42 3 u11 (rnm n (allF ps) ++ rmv CM GM).length (rnm n (allF ps) ++ rmv CM GM).flatten from own_base (by have := unhide HR; rw [← unhide HKN, List.take_length] at this; exact this) (unhide HB2).size)
            have HBB := hide (bl_t (unhide HB2) (unhide HB))
            clear HR
            go_wp2_with fail
            go_ret2
            exact sta (unhide HRES) rfl (unhide HR2) (unhide HBB)
      · have HRES := hide (St.out (seq := (n : Int)) (I := allF ps) (O := allF os) er CM GM (unhide HQ) (unhide HM1) (unhide HM2) h0)
        go_wp2_with fail
        go_ret2
        exact sta (unhide HRES) rfl (World.ownsRow_nil _ _ _ _) (unhide HB2)
    · have HRES := hide (St.inn (seq := (n : Int)) (I := allF ps) (O := allF os) er CM (unhide HQ) (unhide HM1) h0)
      go_wp2_with fail
      go_ret2
      exact sta (unhide HRES) rfl (World.ownsRow_nil _ _ _ _) (unhide HB1)
  · have hb : (decide (0 ≤ seq) && decide (seq ≤ 281474976710655)) = false := by simp; omega
    rw [hb] at CI
    have HQ := hide hq
    clear hb hq
    go_enter Tryd.func7, Tryd.ntmps7
    go_wp2_with (go_at_call 19; refine (unhide CI).mono ?_; rintro e w1 ⟨rfl, rfl⟩)
    go_ret2
    exact sta (.arg (unhide HQ)) rfl (World.ownsRow_nil _ _ _ _) (Below.refl _ _)
end Go.Proofs.YtkpkpebljkcmkaaDoor
