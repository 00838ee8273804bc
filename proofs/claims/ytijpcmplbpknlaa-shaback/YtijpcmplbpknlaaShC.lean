import Derived.Test.YtijpcmplbpknlaaShB
namespace Go.Proofs.Ytijpcmplbpknlaa
open Go.RowKit

/-- THE BYTE THAT TWO DIGITS STAND FOR. -/
def cd (s : Bs) (k : Nat) : Nat := (s[k]?.getD 0).toNat
def pb (s : Bs) (i : Nat) : UInt8 := UInt8.ofNat (hv (cd s (2 * i)) * 16 + hv (cd s (2 * i + 1)))
def rd (s : Bs) (k : Nat) : Bs := (List.range 32).map fun i => if i < k then pb s i else 0
theorem rd_zero (s : Bs) : rd s 0 = zr := by simp [rd, zr, List.map_const']
theorem rd_len (s : Bs) (k : Nat) : (rd s k).length = 32 := by simp [rd]
theorem rd_set (s : Bs) (k : Nat) (hk : k < 32) : (rd s k).set k (pb s k) = rd s (k + 1) := by
  apply List.ext_getElem?
  intro i
  simp only [rd, List.getElem?_set, List.length_map, List.length_range, List.getElem?_map]
  by_cases hi : i < 32
  · simp only [List.getElem?_range hi, Option.map_some]
    by_cases e : k = i
    · subst e; simp [hk]
    · rw [if_neg e]
      by_cases h2 : i < k
      · rw [if_pos h2, if_pos (by omega)]
      · rw [if_neg h2, if_neg (by omega)]
  · have : (List.range 32)[i]? = none := by rw [List.getElem?_eq_none]; simp; omega
    simp [this]; omega

def okS (s : Bs) : Bool := decide (s.length = 64) && (List.range 64).all fun k => decide (hv (cd s k) ≠ 16)
theorem okS_iff (s : Bs) : okS s = true ↔ s.length = 64 ∧ ∀ k, k < 64 → hv (cd s k) ≠ 16 := by simp [okS]
def prs (s : Bs) : Bs := if okS s then rd s 32 else zr
def prn (s : Bs) : Int := if okS s then 0 else 60
theorem prs_len (s : Bs) : (prs s).length = 32 := by unfold prs; split; exact rd_len _ _; rfl

theorem two_halves : ∀ h < 16, ∀ l < 16, (UInt8.ofNat (h * 16 + l)).toNat = h * 16 + l := by decide +kernel
theorem pb_nat (s : Bs) (i : Nat) (h1 : hv (cd s (2 * i)) ≠ 16) (h2 : hv (cd s (2 * i + 1)) ≠ 16) : (pb s i).toNat = hv (cd s (2 * i)) * 16 + hv (cd s (2 * i + 1)) := by
  have a1 := hv_le (cd s (2 * i))
  have a2 := hv_le (cd s (2 * i + 1))
  exact two_halves _ (by omega) _ (by omega)
theorem or_halves : ∀ h < 16, ∀ l < 16, bits .or .u8 ((h : Nat) * 16 % 256 : Int) ((l : Nat) : Int) = ((h * 16 + l : Nat) : Int) := by decide +kernel
theorem hlf_of {n : Nat} (h : isH n = true) : hlf n = hv n ∧ hv n ≠ 16 ∧ hv n < 16 := by
  have h1 : hv n ≠ 16 := by simpa [isH] using h
  have := hv_le n
  exact ⟨by unfold hlf; rw [if_neg h1], h1, by omega⟩
theorem no_hlf {n : Nat} (h : isH n = false) : hv n = 16 := by simpa [isH] using h
theorem ix22 (g k : Nat) (hk : k < 32) (w : World) : (Instr.indexAt 22 (pt g 0) (.int .i64 (k : Int))).run Try.prog w = .ok (pt g k) w := by
  have h1 : (0 : Int) ≤ (k : Int) := by omega
  have h2 : (k : Int) < 32 := by omega
  simp [go_sem, pt, h1, h2, Addr.add]
  omega
theorem cd_lt (s : Bs) (k : Nat) : cd s k < 256 := (s[k]?.getD 0).toNat_lt

theorem ret_cell {fn : Func} (h : fn.results = #[.cell 2 22, .tmp 3]) (tmps : Array Value) (w : World) (g : Nat) (l : Bs) (v : Value) (hp : tmps.getD 2 undef = pt g 0) (hb : Bk w g l) (hv : tmps.getD 3 undef = v) :
    (results fn tmps).run Try.prog w = .ok (.tuple #[agB l, v]) w := by
  have hp' : tmps[2]?.getD undef = .pointer (some ⟨g, 0, none⟩) := by simpa [pt] using hp
  have hv' : tmps[3]?.getD undef = v := by simpa using hv
  have hl := run_loadVar_row (P := Try.prog) w g 22 22 _ (0, 0) _ hb.at_ Try.underlying22 rfl (by rw [size22, List.size_toArray, encB_len, hb.len])
  simp [results, h, hp', hv', asAddr, hl, agB]

set_option maxRecDepth 100000 in
set_option maxHeartbeats 400000 in
theorem Parse_any (s : Bs) (w : World) :
    Calls Try.prog 6 #[.string (ba s)] w fun e w' => e = .returned (.tuple #[agB (prs s), .int .i64 (prn s)]) ∧ Below w.heap.size w w' := by
  have hsz : (ba s).size = s.length := by simp [ba, ByteArray.size]
  by_cases h64 : s.length = 64
  · have h64' : ((s.length : Nat) : Int) = 64 := by omega
    have hsz2 : (ba s).size = 64 := by rw [hsz, h64]
    go_enter Try.func6, Try.ntmps6
    go_wp2_with (first
      | (with_reducible refine w_alloc rfl rfl ?_; first | (intro w2 b2 l2 z2; have k2 := hide z2; clear z2; guard_hyp k2 : Hid (w2.heap.size = w.heap.size + 1)) | (intro w3 b3 l3 z3)))
    have hne : w.heap.size ≠ w2.heap.size := by have := unhide k2; omega
    have hge : w.heap.size ≤ w2.heap.size := by have := unhide k2; omega
    have HB := hide (l2.trans (l3.mono hge))
    have B0 := hide (b2.later l3)
    have B1 := hide (show Bk w3 w2.heap.size (rd s 0) by rw [rd_zero]; exact b3)
    generalize hG : w2.heap.size = g1 at *
    clear b2 b3 l2 l3 z3 k2 hG
    go_loopw [14] (fun iv wr => ∃ k : Nat, k ≤ 32 ∧ iv = .int .i64 k ∧ Hid (Bk wr g1 (rd s k)) ∧ Hid (Bk wr w.heap.size zr) ∧ Hid (Below w.heap.size w wr) ∧ Hid (∀ j, j < 2 * k → hv (cd s j) ≠ 16)) (fun iv _ => 32 - (intOf iv).toNat)
    case atStart => exact ⟨0, by omega, rfl, B1, B0, HB, hide (fun j h => by omega)⟩
    case round =>
      obtain ⟨k, hk, rfl, B1, B0, HB, HA⟩ := hrel
      by_cases hlt : k < 32
      · have q0 : 2 * k + 1 < (ba s).size := by omega
        have e1 : ∀ h, ((ba s)[2 * k]'h).toNat = cd s (2 * k) := fun h => by
          unfold cd; rw [List.getElem?_eq_getElem (by omega)]; rfl
        have e2 : ∀ h, ((ba s)[2 * k + 1]'h).toNat = cd s (2 * k + 1) := fun h => by
          unfold cd; rw [List.getElem?_eq_getElem (by omega)]; rfl
        have hP := pb_nat s k
        obtain ⟨a, ha⟩ : ∃ a, a = cd s (2 * k) := ⟨_, rfl⟩
        obtain ⟨b, hb⟩ : ∃ b, b = cd s (2 * k + 1) := ⟨_, rfl⟩
        rw [← ha] at e1 hP
        rw [← hb] at e2 hP
        have la : a < 256 := by rw [ha]; exact cd_lt _ _
        have lb : b < 256 := by rw [hb]; exact cd_lt _ _
        have HP := hide hP
        have Ha := hide ha
        have Hb := hide hb
        clear h64 h64' hP ha hb q0
        cases ya : isH a
        · have C1 := hide (fun w => half_any a la w)
          have C2 := hide (fun w => half_any b lb w)
          rw [ya] at C1
          have HN := hide (show okS s = false from by
            rw [← Bool.not_eq_true, okS_iff]
            exact fun h => h.2 (2 * k) (by omega) (by rw [← unhide Ha]; exact no_hlf ya))
          clear ya la lb
          go_wp2_with (first
            | (with_reducible refine w_build rfl rfl ?_)
            | (with_reducible refine w_store _ _ rfl rfl w.heap.size rfl zr rfl rfl zr (unhide B0) ?_; intro w5 b5 o5 l5 z5)
            | (go_at_call_of 10 (Value.int .u8 (a : Int)); refine (unhide C1 _).mono ?_; rintro e w4 ⟨rfl, rfl⟩)
            | (go_at_call_of 10 (Value.int .u8 (b : Int)); refine (unhide C2 _).mono ?_; rintro e w4 ⟨rfl, rfl⟩))
          refine bodyPost_ret (v := .tuple #[agB zr, .int .i64 60]) (ret_cell rfl _ _ w.heap.size zr _ rfl b5 rfl) rfl ⟨?_, ?_⟩
          · unfold prs prn; rw [unhide HN]; rfl
          · exact (unhide HB).trans (l5 _ (Nat.le_refl _))
        · cases yb : isH b
          · have C1 := hide (fun w => half_any a la w)
            have C2 := hide (fun w => half_any b lb w)
            rw [ya] at C1
            rw [yb] at C2
            have HN := hide (show okS s = false from by
              rw [← Bool.not_eq_true, okS_iff]
              exact fun h => h.2 (2 * k + 1) (by omega) (by rw [← unhide Hb]; exact no_hlf yb))
            clear ya yb la lb
            go_wp2_with (first
              | (with_reducible refine w_build rfl rfl ?_)
              | (with_reducible refine w_store _ _ rfl rfl w.heap.size rfl zr rfl rfl zr (unhide B0) ?_; intro w5 b5 o5 l5 z5)
              | (go_at_call_of 10 (Value.int .u8 (a : Int)); refine (unhide C1 _).mono ?_; rintro e w4 ⟨rfl, rfl⟩)
              | (go_at_call_of 10 (Value.int .u8 (b : Int)); refine (unhide C2 _).mono ?_; rintro e w4 ⟨rfl, rfl⟩))
            refine bodyPost_ret (v := .tuple #[agB zr, .int .i64 60]) (ret_cell rfl _ _ w.heap.size zr _ rfl b5 rfl) rfl ⟨?_, ?_⟩
            · unfold prs prn; rw [unhide HN]; rfl
            · exact (unhide HB).trans (l5 _ (Nat.le_refl _))
          · have C1 := hide (fun w => half_any a la w)
            have C2 := hide (fun w => half_any b lb w)
            rw [ya] at C1
            rw [yb] at C2
            obtain ⟨a1, a2, a3⟩ := hlf_of ya
            obtain ⟨b1, b2, b3⟩ := hlf_of yb
            have hbits : bits .or .u8 ((hlf a : Int) * 16 % 256) (hlf b : Int) = ((pb s k).toNat : Int) := by
              rw [a1, b1, or_halves _ a3 _ b3, unhide HP a2 b2]
            have hix := ix22 g1 k hlt
            have HA2 := hide (show ∀ j, j < 2 * (k + 1) → hv (cd s j) ≠ 16 from fun j hj => by
              by_cases h1 : j < 2 * k
              · exact unhide HA j h1
              · by_cases h2 : j = 2 * k
                · rw [h2, ← unhide Ha]; exact a2
                · obtain rfl : j = 2 * k + 1 := by omega
                  rw [← unhide Hb]; exact b2)
            clear ya yb la lb a1 a2 a3 b1 b2 b3 HA
            go_wp2_with (first
              | (with_reducible refine w_set _ _ rfl rfl g1 k rfl (pb s k) rfl hlt _ (unhide B1) ?_; intro w5 b5 o5 l5 z5)
              | (go_at_call_of 10 (Value.int .u8 (a : Int)); refine (unhide C1 _).mono ?_; rintro e w4 ⟨rfl, rfl⟩)
              | (go_at_call_of 10 (Value.int .u8 (b : Int)); refine (unhide C2 _).mono ?_; rintro e w4 ⟨rfl, rfl⟩))
            go_roundw
            case rel => exact ⟨k + 1, by omega, by go_num, hide (by rw [← rd_set s k hlt]; exact b5), hide ((unhide B0).of (o5 _ hne)), hide ((unhide HB).trans (l5 _ hge)), HA2⟩
            case measure => simp [intOf]; omega
      · obtain rfl : k = 32 := by omega
        have HN := hide (show okS s = true from (okS_iff s).2 ⟨h64, fun j hj => unhide HA j (by omega)⟩)
        go_wp2_with (first
          | (with_reducible refine w_load _ rfl rfl g1 rfl _ (unhide B1) ?_)
          | (with_reducible refine w_store _ _ rfl rfl w.heap.size rfl (rd s 32) rfl (rd_len _ _) zr (unhide B0) ?_; intro w5 b5 o5 l5 z5))
        refine bodyPost_ret (v := .tuple #[agB (rd s 32), .int .i64 0]) (ret_cell rfl _ _ w.heap.size (rd s 32) _ rfl b5 rfl) rfl ⟨?_, ?_⟩
        · unfold prs prn; rw [unhide HN]; rfl
        · exact (unhide HB).trans (l5 _ (Nat.le_refl _))
  · have HN := hide (show okS s = false from by rw [← Bool.not_eq_true, okS_iff]; exact fun h => h64 h.1)
    have h64' : ¬ ((s.length : Nat) : Int) = 64 := by omega
    go_enter Try.func6, Try.ntmps6
    go_wp2_with (first
      | (with_reducible refine w_alloc rfl rfl ?_; intro w2 b2 l2 z2)
      | (with_reducible refine w_build rfl rfl ?_)
      | (with_reducible refine w_store _ _ rfl rfl w.heap.size rfl zr rfl rfl zr b2 ?_; intro w3 b3 o3 l3 z3))
    refine bodyPost_ret (v := .tuple #[agB zr, .int .i64 60]) (ret_cell rfl _ _ w.heap.size zr _ rfl b3 rfl) rfl ⟨?_, ?_⟩
    · unfold prs prn; rw [unhide HN]; rfl
    · exact l2.trans (l3 _ (Nat.le_refl _))

end Go.Proofs.Ytijpcmplbpknlaa
