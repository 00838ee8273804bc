import Derived.Test.YtkpkpebljkcmkaaDoorMfK
namespace Go.Proofs.YtkpkpebljkcmkaaDoor
open Go.RowKit

/-- STEPS. -/
def stp (k : Int) (f t : Nm) : List Value := [.int .i64 k, .string f, .string t]
def tpN (p : Nm) : Nm := ⟨#[116, 47]⟩ ++ p
def rnm (seq : Nat) (L : List (List Value)) : List (List Value) := L.zipIdx.map fun x => stp 1 (ba (stT seq x.2)) (tpN (pth x.1))
theorem rnm_len (seq : Nat) (L : List (List Value)) : (rnm seq L).length = L.length := by simp [rnm]
theorem rnm_snoc (seq : Nat) (A : List (List Value)) (f : List Value) : rnm seq (A ++ [f]) = rnm seq A ++ [stp 1 (ba (stT seq A.length)) (tpN (pth f))] := by
  unfold rnm
  rw [List.zipIdx_append, List.map_append]
  simp
theorem chk_le {s : Nm} (h : chk s = 0) : s.size ≤ 256 := by
  unfold chk at h
  split at h
  · rename_i h1; exact ((okP_iff s).1 h1).1
  · cases h
theorem tyQ : Ty 30 42 3 40 (.agg #[.int .i64 0, .string ⟨#[]⟩, .string ⟨#[]⟩]) := ⟨Tryd.underlying30, by kernel_rfl, by kernel_rfl, by decide⟩
theorem stp_one (k : Int) (f t : Nm) : ∀ u ∈ stp k f t, u.oneCell' = true := fun u hu => by
  simp only [stp, List.mem_cons, List.not_mem_nil, or_false] at hu
  rcases hu with rfl | rfl | rfl <;> simp [Value.oneCell']
set_option maxRecDepth 100000 in
set_option maxHeartbeats 8000000 in
theorem renames_any {w : World} {v : Value} {ps : List Pk} {seq : Nat} (h : Pks w v ps) (hl : ps.length ≤ 1048576) (hs : (allF ps).length ≤ 1048576) (hg : Glob w) (hq : seq ≤ 281474976710655) (hck : ∀ r ∈ allF ps, chk (pth r) = 0) :
    Calls Tryd.prog 20 #[.int .i64 seq, v] w fun e w' => ∃ v', e = .returned v' ∧ w'.ownsRow w.heap.size 42 3 v' (allF ps).length (rnm seq (allF ps)).flatten ∧ Below w.heap.size w w' := by
  obtain ⟨a, c, rfl⟩ := h.form
  obtain ⟨zpk, zeroPk2⟩ := zeroPk
  obtain ⟨zf, zeroF2⟩ := zeroF1
  have HP := hide (fun (i : Nat) (hi : i < ps.length) => h.at hi)
  have HLE := hide (fun (i : Nat) (hi : i < ps.length) => Nat.le_trans (allF_le hi) hs)
  have HSN := hide (fun (i : Nat) (hi : i < ps.length) => allF_snoc hi)
  have HSP := hide (fun (i : Nat) (hi : i < ps.length) (k : Nat) (hk : k < (ps[i]).fs.length) => And.intro (allF_split hi hk) (hck _ (allF_mem hi (List.getElem_mem hk))))
  have HSG := hide (fun (k : Nat) (X : World) (hk : k ≤ 281474976710655) (hX : Below w.heap.size w X) => stagedName_any seq k X hq hk (hg.later hX))
  have HFULL := hide (show allF (ps.take ps.length) = allF ps by rw [List.take_length])
  have HST := hide (show w.ownsRow w.heap.size 42 3 (.slice none 0 0) (allF (ps.take 0)).length (rnm seq (allF (ps.take 0))).flatten from World.ownsRow_nil _ _ _ _)
  have HS := hide hs
  obtain ⟨N, hN⟩ : ∃ N, ps.length = N := ⟨_, rfl⟩
  have HN := hide hN
  rw [hN] at hl HFULL
  rw [hN]
  clear h hN hg hs hck
  go_enter Tryd.func20, Tryd.ntmps20
  go_wp2_with fail
  go_loopg [5, 7, 9, 10, 13] N (fun gq fv _ _ _ iv wr => ∃ i : Nat, iv = .int .i64 i ∧ i ≤ N ∧ N - i ≤ gq ∧ Hid (wr.ownsRow w.heap.size 42 3 fv (allF (ps.take i)).length (rnm seq (allF (ps.take i))).flatten) ∧ Hid (Below w.heap.size w wr))
  case atStart => exact ⟨0, by go_num, by omega, by omega, HST, hide (Below.refl _ _)⟩
  case round =>
    clear HST
    obtain ⟨i, rfl, hi, hg, HR, HB⟩ := hrel
    by_cases hlt : i < N
    · have hin : (i : Int) < (N : Int) := by omega
      have hil : i < ps.length := by have := unhide HN; omega
      obtain ⟨b, o, cs, xa, xc, rfl, hbl, hr, hc, hf⟩ := unhide HP i hil
      have HRG := hide (rangeAt_later hr hbl (unhide HB))
      have hcl := hc.len
      have HC1 := hide hc.one
      have HC7 := hide hc.c7
      have hfl := unhide HLE i hil
      have HS1 := hide (unhide HSN i hil)
      have HSPi := hide (unhide HSP i hil)
      have HF := hide (fun (k : Nat) (hk : k < (ps[i]).fs.length) => hf.at hk)
      generalize hfs : (ps[i]).fs = fs at *
      obtain ⟨K, hK⟩ : ∃ K, fs.length = K := ⟨_, rfl⟩
      have HK := hide hK
      rw [hK] at hfl HC7
      obtain ⟨Y, rfl⟩ : ∃ Y, Y = wr := ⟨_, rfl⟩
      clear hr hc hf hK
      go_wp2_with (first
        | ((with_reducible refine m_load (t := 49) (k := 43) Tryd.underlying49 rfl infoK _ rfl rfl b (o + i * 43) rfl cs (unhide HRG) hcl ?_))
        | ((with_reducible refine b_alloc (t := 49) (k := 43) zeroPk2 rfl rfl ?_); intro w2 B1 k1 z1)
        | ((with_reducible refine b_store (t := 49) (k := 43) infoK _ _ rfl rfl Y.heap.size rfl cs rfl hcl (unhide HC1) _ B1 ?_); intro w3 B3 o3 k3 z3; have b7 := k1.trans (k3 _ (Nat.le_refl _)); have HB3 := hide (bl_t (unhide HB) b7); have HR3 := hide (own_low (unhide HR) b7); have c7 := B3.cell (unhide HC7); clear B1 k1 z1 B3 o3 k3 z3 b7))
      have HR0 := hide (show w3.ownsRow w.heap.size 42 3 u5 (allF (ps.take i) ++ fs.take 0).length (rnm seq (allF (ps.take i) ++ fs.take 0)).flatten from by rw [List.take_zero, List.append_nil]; exact unhide HR3)
      clear HR3 HR
      go_loopg [5, 9, 10, 20] K (fun gq fv _ _ iv wr => ∃ k : Nat, iv = .int .i64 k ∧ k ≤ K ∧ K - k ≤ gq ∧ Hid (wr.ownsRow w.heap.size 42 3 fv (allF (ps.take i) ++ fs.take k).length (rnm seq (allF (ps.take i) ++ fs.take k)).flatten) ∧ Hid (Below w.heap.size w wr))
      case atStart => exact ⟨0, by go_num, by omega, by omega, HR0, HB3⟩
      case round =>
        clear HR0 HB3 c7
        obtain ⟨k, rfl, hk, hgk, HRk, HBk⟩ := hrel
        obtain ⟨Z, rfl⟩ : ∃ Z, Z = wr := ⟨_, rfl⟩
        by_cases hlk : k < K
        · have hkn : (k : Int) < (K : Int) := by omega
          have hkl : k < fs.length := by have := unhide HK; omega
          obtain ⟨b2, o2, rfl, hb2, hok, hrg⟩ := unhide HF k hkl
          obtain ⟨⟨rest, hsp⟩, hck⟩ := unhide HSPi k hkl
          obtain ⟨s, hs0, hsp2, hsz⟩ := hok.path2
          have HRG2 := hide (rangeAt_later hrg hb2 (unhide HBk))
          rw [hsp2] at hck
          have hs256 := chk_le hck
          have hxl := hok.1
          have HX1 := hide hok.2.2
          have HX0 := hide hs0
          have HT2 := hide (show rnm seq (allF (ps.take i) ++ fs.take (k + 1)) = rnm seq (allF (ps.take i) ++ fs.take k) ++ [stp 1 (ba (stT seq (allF (ps.take i) ++ fs.take k).length)) (tpN s)] from by rw [take_snoc2 hkl, ← List.append_assoc, rnm_snoc, hsp2])
          have HL2 := hide (show (allF (ps.take i) ++ fs.take (k + 1)).length = (allF (ps.take i) ++ fs.take k).length + 1 from by rw [take_snoc2 hkl, ← List.append_assoc, List.length_append]; rfl)
          have hpl : (allF (ps.take i) ++ fs.take k).length ≤ 1048576 := by
            have h3 := congrArg List.length hsp
            rw [List.length_append] at h3
            have := unhide HS
            omega
          generalize fs[k] = xs at *
          generalize hP : allF (ps.take i) ++ fs.take k = P at *
          obtain ⟨M, hM⟩ : ∃ M, P.length = M := ⟨_, rfl⟩
          have HMN := hide hM
          rw [hM] at HRk hpl HT2 HL2
          obtain ⟨fa, fc, rfl⟩ := owns_form (unhide HRk)
          have hcat1 : ¬ (9223372036854775807 < 2 + s.size) := by omega
          have hcat2 : ¬ (9223372036854775807 < s.size + 2) := by omega
          have HSGk := hide (fun (X : World) (hX : Below w.heap.size w X) => unhide HSG M X (by omega) hX)
          have HAP := hide (fun (X : World) (hX : Below w.heap.size w X) (hO : X.ownsRow w.heap.size 42 3 (.slice fa M fc) M (rnm seq P).flatten) => own_grow tyQ (wx := X.alloc (.cells (stp 1 (ba (stT seq M)) (tpN s)).toArray 42)) hO hX (stp 1 (ba (stT seq M)) (tpN s)) rfl (fun j u hj => by rw [World.cell?_alloc_new]; simpa using hj) ((Below.refl _ _).alloc (Nat.le_refl _) _) (stp_one _ _ _) (by unfold maxLen; omega) (by omega) 30)
          clear hok hrg hs0 hsp hsp2 hck hs256 hP hM hsz
          go_wp2_with (first
            | ((with_reducible refine m_load (t := 40) (k := 34) Tryd.underlying40 rfl infoF _ rfl rfl b2 (o2 + k * 34) rfl xs (unhide HRG2) hxl ?_))
            | ((with_reducible refine b_alloc (t := 40) (k := 34) zeroF2 rfl rfl ?_); intro w4 B1 k1 z1)
            | ((with_reducible refine b_store (t := 40) (k := 34) infoF _ _ rfl rfl Z.heap.size rfl xs rfl hxl (unhide HX1) _ B1 ?_); intro w5 B3 o3 k3 z3; have b7 := k1.trans (k3 _ (Nat.le_refl _)); have HB5 := hide (bl_t (unhide HBk) b7); have HR5 := hide (own_low (unhide HRk) b7); have HX5 := hide B3; clear B1 k1 z1 B3 o3 k3 z3 b7)
            | (go_at_call 31; refine (unhide HSGk _ (unhide HB5)).mono ?_; rintro e w6 ⟨rfl, hb6⟩; have HB6 := hide (bl_t (unhide HB5) hb6); have HR6 := hide (own_low (unhide HR5) hb6); have c0 := ((unhide HX5).later hb6).cell (unhide HX0); obtain ⟨v9, w9, hr9, ho9, hb9⟩ := unhide HAP w6 (unhide HB6) (unhide HR6); have HO9 := hide ho9; have HB9 := hide hb9; clear hb6 ho9 hb9)
            | (at_builtin; refine wpList_append_run rfl _ _ 30 rfl _ _ rfl rfl hr9 ?_; clear hr9))
          have HO8 := hide (show w9.ownsRow w.heap.size 42 3 v9 (allF (ps.take i) ++ fs.take (k + 1)).length (rnm seq (allF (ps.take i) ++ fs.take (k + 1))).flatten from by
            rw [unhide HT2, unhide HL2, List.flatten_append]
            simpa using unhide HO9)
          go_roundg (K - (k + 1))
          case measure => omega
          case rel => exact ⟨k + 1, by go_num, by omega, by omega, HO8, HB9⟩
        · obtain rfl : k = K := by omega
          have hge : ¬ (k : Int) < (k : Int) := by omega
          have HR2 := hide (show Z.ownsRow w.heap.size 42 3 u5 (allF (ps.take (i + 1))).length (rnm seq (allF (ps.take (i + 1)))).flatten from by rw [unhide HS1]; have := unhide HRk; rw [← unhide HK, List.take_length] at this; exact this)
          clear HRk
          go_wp2_with fail
          go_roundg (N - (i + 1))
          case measure => omega
          case rel => exact ⟨i + 1, by go_num, by omega, by omega, HR2, HBk⟩
    · obtain rfl : i = N := by omega
      have hge : ¬ (i : Int) < (i : Int) := by omega
      have HR2 := hide (show wr.ownsRow w.heap.size 42 3 u5 (allF ps).length (rnm seq (allF ps)).flatten from by have := unhide HR; rw [unhide HFULL] at this; exact this)
      clear HR
      go_wp2_with fail
      go_ret
      exact ⟨_, rfl, unhide HR2, unhide HB⟩
end Go.Proofs.YtkpkpebljkcmkaaDoor
