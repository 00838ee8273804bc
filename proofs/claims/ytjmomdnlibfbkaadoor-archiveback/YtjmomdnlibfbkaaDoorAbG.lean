import Derived.Test.YtjmomdnlibfbkaaDoorAbF
import Derived.Laws.BitsLemmas
namespace Go.Proofs.YtjmomdnlibfbkaaDoor
open Go.RowKit

theorem wraps_i64 (n : Int) (h0 : 0 ≤ n) (h1 : n < 2 ^ 63) : IntKind.i64.wrap n = n := by rw [IntKind.wrap_i64]; omega
theorem or8 (t d : Nat) (ht : t ≤ 8589934592) (hd : d < 8) : bits .or .i64 ((t : Int) * 8) (d : Int) = ((t * 8 + d : Nat) : Int) := by
  rw [bits_join .i64 63 (by decide) wraps_i64 3 ((t : Int) * 8) (d : Int) (by omega) (by omega) (by omega) (by omega) (by omega) (by omega)]
  omega
theorem mapM_some {α β : Type} (f : α → Option β) (g : α → β) : ∀ l : List α, (∀ a ∈ l, f a = some (g a)) → l.mapM f = some (l.map g)
  | [], _ => rfl
  | x :: l, h => by
    rw [List.mapM_cons, h x List.mem_cons_self, mapM_some f g l fun a ha => h a (List.mem_cons_of_mem _ ha)]
    rfl
theorem cellsH : Tryd.prog.cellsOf 44 = 512 := by kernel_rfl
theorem cells5 : Tryd.prog.cellsOf 5 = 1 := by kernel_rfl
def lb (L : Bs) : List Lit := L.map fun b => Lit.int .u8 (b.toNat : Int)
theorem lb_inj {L M : Bs} (h : lb L = lb M) : L = M := by
  refine List.ext_getElem? fun i => ?_
  have := congrArg (fun l => l[i]?) h
  simp only [lb, List.getElem?_map] at this
  cases h1 : L[i]? with
  | none => rw [h1] at this; cases h2 : M[i]? with
    | none => rfl
    | some y => rw [h2] at this; cases this
  | some x => rw [h1] at this; cases h2 : M[i]? with
    | none => rw [h2] at this; cases this
    | some y =>
      rw [h2] at this
      simp only [Option.map_some, Option.some.injEq, Lit.int.injEq, true_and] at this
      rw [UInt8.toNat_inj.1 (show x.toNat = y.toNat by omega)]
set_option maxRecDepth 100000 in
theorem litsH (d : Nat) {L : Bs} (hl : L.length = 512) : Tryd.prog.keyLits (d + 2) 44 (L.map cb) = some (lb L) := by
  unfold Program.keyLits
  rw [Tryd.underlying44]
  simp only [List.length_map, hl, cellsH, cells5, if_true, Nat.mul_one]
  have h : ∀ i ∈ List.range 512, Tryd.prog.keyLits (d + 1) 5 (((L.map cb).drop i).take 1) = some ((fun i => [Lit.int .u8 ((L.getD i 0).toNat : Int)]) i) := fun i hi => by
    have hi' : i < 512 := List.mem_range.1 hi
    have e : ((L.map cb).drop i).take 1 = [Value.int .u8 ((L.getD i 0).toNat : Int)] := by
      rw [List.drop_eq_getElem_cons (by rw [List.length_map]; omega)]
      simp [cb, List.getD_eq_getElem?_getD, List.getElem?_eq_getElem (show i < L.length by omega)]
    have hb := UInt8.toNat_lt (L[i]?.getD 0)
    have hw : (Lit.int .u8 ((L.getD i 0).toNat : Int)).wf = true := by
      simp [Lit.wf]
      exact ⟨by show (0 : Int) ≤ _; omega, by show _ ≤ (255 : Int); omega⟩
    rw [e]
    unfold Program.keyLits
    rw [Tryd.underlying5]
    simp only [hw, and_self, if_true]
  rw [mapM_some _ _ _ h]
  show some (((List.range 512).map fun i => [Lit.int .u8 ((L.getD i 0).toNat : Int)]).flatten) = _
  congr 1
  have e2 : ∀ l : List Nat, (l.map fun i => [Lit.int .u8 ((L.getD i 0).toNat : Int)]).flatten = l.map fun i => Lit.int .u8 ((L.getD i 0).toNat : Int) := fun l => by
    induction l with
    | nil => rfl
    | cons x l ih => rw [List.map_cons, List.flatten_cons, ih]; rfl
  rw [e2]
  refine List.ext_getElem? fun i => ?_
  unfold lb
  rw [List.getElem?_map, List.getElem?_map]
  by_cases hi : i < 512
  · rw [List.getElem?_range hi, List.getElem?_eq_getElem (show i < L.length by omega)]
    simp [List.getD_eq_getElem?_getD, List.getElem?_eq_getElem (show i < L.length by omega)]
  · rw [List.getElem?_eq_none (by rw [List.length_range]; omega), List.getElem?_eq_none (by omega)]
    rfl
theorem formH (L : Bs) (hl : L.length = 512) : (Value.agg (L.map cb).toArray).formed Tryd.prog 44 = true := by
  unfold Value.formed
  rw [Tryd.underlying44, cellsH]
  simp [hl]
theorem equH {L M : Bs} (h1 : L.length = 512) (h2 : M.length = 512) (w : World) : (Op.equalIn 10000 44 (.agg (L.map cb).toArray) (.agg (M.map cb).toArray)).run Tryd.prog w = .ok (decide (L = M)) w := by
  obtain ⟨r, hr, hiff⟩ := run_equalIn_deep (P := Tryd.prog) (10000 - 5) 5 44 (by kernel_rfl) w 6 6 (.agg (L.map cb).toArray) (.agg (M.map cb).toArray) (lb L) (lb M) (formH L h1) (formH M h2) (by simpa [Value.cells] using litsH 4 h1) (by simpa [Value.cells] using litsH 4 h2)
  rw [show (10000 : Nat) = 10000 - 5 + 5 from rfl, hr]
  by_cases e : L = M
  · rw [decide_eq_true e, hiff.2 (by rw [e])]
  · rw [decide_eq_false e]
    cases r with
    | false => rfl
    | true => exact absurd (lb_inj (hiff.1 rfl)) e
theorem neqH {L M : Bs} (h1 : L.length = 512) (h2 : M.length = 512) (w : World) : (binOp .neq 44 (.agg (L.map cb).toArray) (.agg (M.map cb).toArray)).run Tryd.prog w = .ok (.bool (!decide (L = M))) w := by
  rw [run_neq_struct, equH h1 h2]
  rfl
theorem eqlH {L M : Bs} (h1 : L.length = 512) (h2 : M.length = 512) (w : World) : (binOp .eql 44 (.agg (L.map cb).toArray) (.agg (M.map cb).toArray)).run Tryd.prog w = .ok (.bool (decide (L = M))) w := by
  rw [run_eql_struct, equH h1 h2]
  rfl
theorem spl_two (s : ByteArray) : (spl s).2.2 = 0 ∨ (spl s).2.2 = 44 := by
  unfold spl
  split
  · exact .inr rfl
  · split
    · exact .inl rfl
    · split
      · exact .inr rfl
      · exact .inl rfl
/-- WHAT told ANSWERS. -/
def toldV (h : Bs) : Value := match toldL h with
  | some (p, s) => .tuple #[.string p, .int .i64 (s : Int), .bool true]
  | none => .tuple #[.string ⟨#[]⟩, .int .i64 0, .bool false]
theorem win {w : World} {g : Nat} {L : Bs} (h : By w g L) (hl : L.length = 512) (o n : Nat) (ho : o + n ≤ 512) : Rb w (.slice (some ⟨g, o, none⟩) n n) (fld o n L) := h.rb (by omega) (Nat.le_refl _)
theorem ba_inj2 {a b : Bs} (h : ba a = ba b) : a = b := by
  have := congrArg (fun s : ByteArray => s.data.toList) h
  simpa [ba] using this
theorem ba_app (a b : Bs) : ba a ++ ba b = ba (a ++ b) := by
  apply ba_inj
  rw [ByteArray.data_append, Array.toList_append]
  rfl
theorem upz_len (l : Bs) : (upz l).length ≤ l.length := (List.takeWhile_sublist _).length_le
set_option maxRecDepth 100000 in
set_option maxHeartbeats 8000000 in
theorem told_any {w : World} {g : Nat} {h : Bs} (hB : By w g h) (hl : h.length = 512) (hg : Glob w) :
    Calls Tryd.prog 33 #[.pointer (some ⟨g, 0, none⟩)] w fun e w' => e = .returned (toldV h) ∧ Below w.heap.size w w' := by
  have HB := hide hB
  have HG := hide hg
  have CA := hide (upToZero_any (win hB hl 0 100 (by decide)) (by rw [fld_len (by omega)]; decide) hg)
  have CP := hide (fun (X : World) (hX : Below w.heap.size w X) => upToZero_any (win (hB.later hX) hl 345 155 (by decide)) (by rw [fld_len (by omega)]; decide) (hg.later hX))
  have HD := hide (show ∀ (i : Nat) (x : UInt8), (fld 124 11 h)[i]? = some x → w.cell? ⟨g, 124 + i, none⟩ = some (cb x) from fun i x hi => hB.at_ _ _ (by
    rw [fld_get] at hi
    split at hi
    · exact hi
    · cases hi))
  have hgl := hB.lt
  have hl1 : (fld 0 100 h).length = 100 := fld_len (by omega)
  have hl2 : (fld 345 155 h).length = 155 := fld_len (by omega)
  have hl3 : (fld 124 11 h).length = 11 := fld_len (by omega)
  have u1 := upz_len (fld 0 100 h)
  have u2 := upz_len (fld 345 155 h)
  have HRP := hide (show rdP h = ba (if upz (fld 345 155 h) = [] then upz (fld 0 100 h) else upz (fld 345 155 h) ++ 47 :: upz (fld 0 100 h)) from rfl)
  have HRS := hide (show rdS h = rdO (fld 124 11 h) from rfl)
  have HSZ := hide (show (rdP h).size ≤ 9223372036854775807 from by
    have : (rdP h).size ≤ 300 := by
      unfold rdP
      rw [ba_size]
      split
      · omega
      · rw [List.length_append, List.length_cons]
        omega
    omega)
  generalize upz (fld 0 100 h) = n1 at *
  generalize upz (fld 345 155 h) = p1 at *
  generalize fld 124 11 h = dg at *
  have HN := hide (And.intro (show n1.length ≤ 100 by omega) (show p1.length ≤ 155 by omega))
  clear hB hg u1 u2 hl1 hl2
  go_enter Tryd.func33, Tryd.ntmps33
  by_cases hp : p1 = []
  · rw [if_pos hp] at HRP
    subst hp
    rw [ba_nil] at CP
    go_wp2_with (first
      | (go_at_call 28; refine (hname_any _ _).mono ?_; rintro e wn ⟨rfl, hw⟩; rw [hw]; clear hw wn)
      | (go_at_call 31; refine (hprefix_any _ _).mono ?_; rintro e wn ⟨rfl, hw⟩; rw [hw]; clear hw wn)
      | (go_at_call 30; refine (hsize_any _ _).mono ?_; rintro e wn ⟨rfl, hw⟩; rw [hw]; clear hw wn)
      | (go_at_call 44; refine (unhide CA).mono ?_; rintro e w1 ⟨rfl, b1⟩; have B1 := hide b1; clear b1 CA)
      | (go_at_call 44; refine (unhide CP w1 (unhide B1)).mono ?_; rintro e w2 ⟨rfl, b2⟩; have B2 := hide (bl_t (unhide B1) b2); clear b2 CP))
    rw [show ba n1 = rdP h from (unhide HRP).symm]
    go_loopg [3, 7, 25] 11 (fun gq sv _ iv wr => ∃ i : Nat, iv = .int .i64 i ∧ sv = .int .i64 (rdO (dg.take i) : Nat) ∧ i ≤ 11 ∧ 11 - i ≤ gq ∧ wr = w2)
    case atStart => exact ⟨0, by go_num, rfl, by omega, by omega, rfl⟩
    case round =>
      obtain ⟨i, rfl, rfl, hi, hgq, rfl⟩ := hrel
      by_cases hlt : i < 11
      · have hin : (i : Int) < 11 := by omega
        have c0 := cell_later (unhide HD i _ (List.getElem?_eq_getElem (show i < dg.length by omega))) (unhide B2)
        have hsn : rdO (dg.take (i + 1)) = rdO (dg.take i) * 8 + (dg[i]'(by omega)).toNat % 8 := by
          rw [List.take_succ_eq_append_getElem (by omega), rdO_snoc]
        have hle : rdO (dg.take i) < 1073741824 := Nat.lt_of_lt_of_le (rdO_lt i (dg.take i) (by rw [List.length_take]; omega)) (Nat.le_trans (Nat.pow_le_pow_right (by decide) (show i ≤ 10 by omega)) (by decide))
        have hb := UInt8.toNat_lt (dg[i]'(by omega))
        have HS := hide hsn
        unfold cb at c0
        generalize (dg[i]'(by omega)).toNat = q at *
        generalize rdO (dg.take i) = t at *
        clear hsn
        have ha := u8_and7 (x := (q : Int)) (by omega) (by omega)
        have HO := hide (show bits .or .i64 ((t : Int) * 8) ((q : Int) % 8) = ((t * 8 + q % 8 : Nat) : Int) from by have := or8 t (q % 8) (by omega) (by omega); rwa [show ((q % 8 : Nat) : Int) = (q : Int) % 8 from rfl] at this)
        have hw2 : IntKind.i64.wrap ((q : Int) % 8) = (q : Int) % 8 := IntWalk.i64_in _ (by omega)
        have hw3 : IntKind.i64.wrap ((t : Int) * 8) = (t : Int) * 8 := IntWalk.i64_in _ (by omega)
        go_wp2_with fail
        go_roundg (11 - (i + 1))
        case measure => omega
        case rel => exact ⟨i + 1, by go_num, by rw [unhide HS, unhide HO], by omega, by omega, rfl⟩
      · obtain rfl : i = 11 := by omega
        have hge : ¬ (11 : Int) < 11 := by omega
        have hS : rdO (dg.take 11) = rdS h := by rw [List.take_of_length_le (by omega)]; exact (unhide HRS).symm
        rw [hS]
        have hsz := rdO_lt 11 dg hl3
        rw [← unhide HRS] at hsz
        have CH := hide (fun (X : World) (hX : Below w.heap.size w X) => headerOf_any (w := X) (p := rdP h) (s := rdS h) (unhide HSZ) (Nat.le_of_lt (Nat.lt_trans hsz (by decide))) ((unhide HG).later hX))
        have HLE := hide (show ((hdE (rdP h) (rdS h)).map cb).length = 512 by rw [List.length_map, hdE_len])
        have HLH := hide (show (h.map cb).length = 512 by rw [List.length_map, hl])
        have li1 : (Tryd.prog.info? 44).map (·.size) = some ((hdE (rdP h) (rdS h)).map cb).length := by rw [unhide HLE]; exact infoH
        have li2 : (Tryd.prog.info? 44).map (·.size) = some (h.map cb).length := by rw [unhide HLH]; exact infoH
        have hneq := fun X => neqH (hdE_len (rdP h) (rdS h)) hl X
        clear hS hsz HRP HRS HD
        by_cases he : (spl (rdP h)).2.2 = 0
        · rw [he] at CH
          by_cases hm : hdE (rdP h) (rdS h) = h
          · have hm2 : hdP (rdP h) (rdS h) = h := by unfold hdE at hm; rw [if_pos he] at hm; exact hm
            have HTV := hide (show toldV h = .tuple #[.string (rdP h), .int .i64 (rdS h : Int), .bool true] from by unfold toldV toldL; rw [if_pos ⟨he, hm2⟩])
            have hdec : decide (hdE (rdP h) (rdS h) = h) = true := decide_eq_true hm
            simp only [hdec, Bool.not_true] at hneq
            clear he hm hm2 hdec
            go_wp2_with (first
              | (go_at_call 17; refine (unhide CH wr (unhide B2)).mono ?_; rintro e w4 ⟨rfl, b4⟩; have B4 := hide (bl_t (unhide B2) b4); clear b4 CH)
              | ((with_reducible refine b_alloc (t := 44) (k := 512) zeroH rfl rfl ?_); intro w5 q5 k5 z5; have P5 := hide q5; have B5 := hide (bl_t (unhide B4) k5); have G5 := hide (Nat.lt_of_lt_of_le hgl (unhide B4).size); clear q5 k5 z5)
              | ((with_reducible refine b_store (t := 44) (k := 512) infoH _ _ rfl rfl w4.heap.size rfl ((hdE (rdP h) (rdS h)).map cb) rfl (unhide HLE) (map_cb_one _) _ (unhide P5) ?_); intro w6 q6 o6 k6 z6; have P6 := hide q6.range; have B6 := hide ((unhide B5).trans (k6 w.heap.size (unhide B4).size)); have H6 := hide (Rb.of_by ((unhide HB).later (unhide B6))); clear q6 o6 k6 z6 P5))
            refine wp_region_held_drew (S := fun w' => w'.rangeAt w4.heap.size 0 ((hdE (rdP h) (rdS h)).map cb) ∧ w'.rangeAt g 0 (h.map cb)) (by kernel_rfl) ?_ (fun hHeld => ?_)
            · exact ⟨(World.rangeAt_drew _ _ _ _).2 (unhide P6), (World.rangeAt_drew _ _ _ _).2 (unhide H6)⟩
            refine wpAnyH_take (i := 0) (oi := { dst := some 42, op := Op.move (Operand.tmp 9), type := 25, pos := "header.go:71", after := #[], guard := none }) (v := ?_) rfl (by kernel_rfl) (by kernel_rfl) (by kernel_rfl) (fun _ _ _ h => h) (Or.inl ⟨by rfl, ?_⟩) (by assumption) ?_
            rotate_left
            · intro w hSw; (try dsimp only at hSw); go_simp; (try with_reducible rfl)
            try simp only [Act.put, List.setIfInBounds_toArray, List.set_cons_zero, List.set_cons_succ]
            refine wpAnyH_take (i := 1) (oi := { dst := some 43, op := Op.binOp BinOp.neq 25 (Operand.tmp 42) (Operand.const (Value.int IntKind.i64 0)) 25, type := 4, pos := "header.go:71", after := #[{ on := 0, ground := Ground.data }], guard := none }) (v := ?_) rfl (by kernel_rfl) (by kernel_rfl) (by kernel_rfl) (fun _ _ _ h => h) (Or.inl ⟨by rfl, ?_⟩) (by assumption) ?_
            rotate_left
            · intro w hSw; (try dsimp only at hSw); go_simp; (try with_reducible rfl)
            try simp only [Act.put, List.setIfInBounds_toArray, List.set_cons_zero, List.set_cons_succ]
            refine wpAnyH_take (i := 2) (oi := { dst := some 44, op := Op.move (Operand.tmp 43), type := 4, pos := "header.go:71", after := #[{ on := 1, ground := Ground.data }], guard := none }) (v := ?_) rfl (by kernel_rfl) (by kernel_rfl) (by kernel_rfl) (fun _ _ _ h => h) (Or.inl ⟨by rfl, ?_⟩) (by assumption) ?_
            rotate_left
            · intro w hSw; (try dsimp only at hSw); go_simp; (try with_reducible rfl)
            try simp only [Act.put, List.setIfInBounds_toArray, List.set_cons_zero, List.set_cons_succ]
            refine wpAnyH_take (i := 3) (oi := { dst := some 45, op := Op.load 44 (Operand.tmp 8), type := 44, pos := "header.go:71", after := #[{ on := 2, ground := Ground.guard }], guard := some (2, false) }) (v := .agg ((hdE (rdP h) (rdS h)).map cb).toArray) rfl (by kernel_rfl) (by kernel_rfl) (by kernel_rfl) (fun _ _ _ h => h) (yieldsIf_load_mid (by rfl) 44 (.tmp 8) rfl w4.heap.size (0) (by rfl) ((hdE (rdP h) (rdS h)).map cb) _ (fun _ h => h.1) Tryd.underlying44 rfl li1) (by assumption) ?_
            try simp only [Act.put, List.setIfInBounds_toArray, List.set_cons_zero, List.set_cons_succ]
            refine wpAnyH_take (i := 4) (oi := { dst := some 46, op := Op.move (Operand.tmp 0), type := 50, pos := "header.go:71", after := #[{ on := 2, ground := Ground.guard }], guard := some (2, false) }) (v := ?_) rfl (by kernel_rfl) (by kernel_rfl) (by kernel_rfl) (fun _ _ _ h => h) (Or.inl ⟨by rfl, ?_⟩) (by assumption) ?_
            rotate_left
            · intro w hSw; (try dsimp only at hSw); go_simp; (try with_reducible rfl)
            try simp only [Act.put, List.setIfInBounds_toArray, List.set_cons_zero, List.set_cons_succ]
            refine wpAnyH_take (i := 5) (oi := { dst := some 47, op := Op.nilCheck (Operand.tmp 46), type := 0, pos := "header.go:71", after := #[{ on := 4, ground := Ground.data }, { on := 2, ground := Ground.guard }], guard := some (2, false) }) (v := ?_) rfl (by kernel_rfl) (by kernel_rfl) (by kernel_rfl) (fun _ _ _ h => h) (Or.inl ⟨by rfl, ?_⟩) (by assumption) ?_
            rotate_left
            · intro w hSw; (try dsimp only at hSw); go_simp; (try with_reducible rfl)
            try simp only [Act.put, List.setIfInBounds_toArray, List.set_cons_zero, List.set_cons_succ]
            refine wpAnyH_take (i := 6) (oi := { dst := some 48, op := Op.load 44 (Operand.tmp 47), type := 44, pos := "header.go:71", after := #[{ on := 5, ground := Ground.data }, { on := 2, ground := Ground.guard }], guard := some (2, false) }) (v := .agg (h.map cb).toArray) rfl (by kernel_rfl) (by kernel_rfl) (by kernel_rfl) (fun _ _ _ h => h) (yieldsIf_load_mid (by rfl) 44 (.tmp 47) rfl g (0) (by rfl) (h.map cb) _ (fun _ h => h.2) Tryd.underlying44 rfl li2) (by assumption) ?_
            try simp only [Act.put, List.setIfInBounds_toArray, List.set_cons_zero, List.set_cons_succ]
            refine wpAnyH_take (i := 7) (oi := { dst := some 49, op := Op.binOp BinOp.neq 44 (Operand.tmp 45) (Operand.tmp 48) 44, type := 4, pos := "header.go:71", after := #[{ on := 3, ground := Ground.data }, { on := 6, ground := Ground.data }, { on := 2, ground := Ground.guard }], guard := some (2, false) }) (v := ?_) rfl (by kernel_rfl) (by kernel_rfl) (by kernel_rfl) (fun _ _ _ h => h) (Or.inl ⟨by rfl, ?_⟩) (by assumption) ?_
            rotate_left
            · intro w hSw; (try dsimp only at hSw); go_simp; (try with_reducible rfl)
            try simp only [Act.put, List.setIfInBounds_toArray, List.set_cons_zero, List.set_cons_succ]
            refine wpAnyH_take (i := 8) (oi := { dst := some 50, op := Op.pick (Operand.tmp 44) (Operand.const (Value.bool true)) (Operand.tmp 49), type := 4, pos := "header.go:71", after := #[{ on := 2, ground := Ground.data }, { on := 7, ground := Ground.data }], guard := none }) (v := ?_) rfl (by kernel_rfl) (by kernel_rfl) (by kernel_rfl) (fun _ _ _ h => h) (Or.inl ⟨by rfl, ?_⟩) (by assumption) ?_
            rotate_left
            · intro w hSw; (try dsimp only at hSw); go_simp; (try with_reducible rfl)
            try simp only [Act.put, List.setIfInBounds_toArray, List.set_cons_zero, List.set_cons_succ]
            refine wpAnyH_done (by kernel_rfl) ?_ _
            go_wp2_with fail
            go_ret3
            exact ⟨by rw [unhide HTV]; rfl, (unhide B6).drew⟩
          · have hm2 : ¬ hdP (rdP h) (rdS h) = h := by unfold hdE at hm; rw [if_pos he] at hm; exact hm
            have HTV := hide (show toldV h = .tuple #[.string ⟨#[]⟩, .int .i64 0, .bool false] from by unfold toldV toldL; rw [if_neg fun q => hm2 q.2])
            have hdec : decide (hdE (rdP h) (rdS h) = h) = false := decide_eq_false hm
            simp only [hdec, Bool.not_false] at hneq
            clear he hm hm2 hdec
            go_wp2_with (first
              | (go_at_call 17; refine (unhide CH wr (unhide B2)).mono ?_; rintro e w4 ⟨rfl, b4⟩; have B4 := hide (bl_t (unhide B2) b4); clear b4 CH)
              | ((with_reducible refine b_alloc (t := 44) (k := 512) zeroH rfl rfl ?_); intro w5 q5 k5 z5; have P5 := hide q5; have B5 := hide (bl_t (unhide B4) k5); have G5 := hide (Nat.lt_of_lt_of_le hgl (unhide B4).size); clear q5 k5 z5)
              | ((with_reducible refine b_store (t := 44) (k := 512) infoH _ _ rfl rfl w4.heap.size rfl ((hdE (rdP h) (rdS h)).map cb) rfl (unhide HLE) (map_cb_one _) _ (unhide P5) ?_); intro w6 q6 o6 k6 z6; have P6 := hide q6.range; have B6 := hide ((unhide B5).trans (k6 w.heap.size (unhide B4).size)); have H6 := hide (Rb.of_by ((unhide HB).later (unhide B6))); clear q6 o6 k6 z6 P5))
            refine wp_region_held_drew (S := fun w' => w'.rangeAt w4.heap.size 0 ((hdE (rdP h) (rdS h)).map cb) ∧ w'.rangeAt g 0 (h.map cb)) (by kernel_rfl) ?_ (fun hHeld => ?_)
            · exact ⟨(World.rangeAt_drew _ _ _ _).2 (unhide P6), (World.rangeAt_drew _ _ _ _).2 (unhide H6)⟩
            refine wpAnyH_take (i := 0) (oi := { dst := some 42, op := Op.move (Operand.tmp 9), type := 25, pos := "header.go:71", after := #[], guard := none }) (v := ?_) rfl (by kernel_rfl) (by kernel_rfl) (by kernel_rfl) (fun _ _ _ h => h) (Or.inl ⟨by rfl, ?_⟩) (by assumption) ?_
            rotate_left
            · intro w hSw; (try dsimp only at hSw); go_simp; (try with_reducible rfl)
            try simp only [Act.put, List.setIfInBounds_toArray, List.set_cons_zero, List.set_cons_succ]
            refine wpAnyH_take (i := 1) (oi := { dst := some 43, op := Op.binOp BinOp.neq 25 (Operand.tmp 42) (Operand.const (Value.int IntKind.i64 0)) 25, type := 4, pos := "header.go:71", after := #[{ on := 0, ground := Ground.data }], guard := none }) (v := ?_) rfl (by kernel_rfl) (by kernel_rfl) (by kernel_rfl) (fun _ _ _ h => h) (Or.inl ⟨by rfl, ?_⟩) (by assumption) ?_
            rotate_left
            · intro w hSw; (try dsimp only at hSw); go_simp; (try with_reducible rfl)
            try simp only [Act.put, List.setIfInBounds_toArray, List.set_cons_zero, List.set_cons_succ]
            refine wpAnyH_take (i := 2) (oi := { dst := some 44, op := Op.move (Operand.tmp 43), type := 4, pos := "header.go:71", after := #[{ on := 1, ground := Ground.data }], guard := none }) (v := ?_) rfl (by kernel_rfl) (by kernel_rfl) (by kernel_rfl) (fun _ _ _ h => h) (Or.inl ⟨by rfl, ?_⟩) (by assumption) ?_
            rotate_left
            · intro w hSw; (try dsimp only at hSw); go_simp; (try with_reducible rfl)
            try simp only [Act.put, List.setIfInBounds_toArray, List.set_cons_zero, List.set_cons_succ]
            refine wpAnyH_take (i := 3) (oi := { dst := some 45, op := Op.load 44 (Operand.tmp 8), type := 44, pos := "header.go:71", after := #[{ on := 2, ground := Ground.guard }], guard := some (2, false) }) (v := .agg ((hdE (rdP h) (rdS h)).map cb).toArray) rfl (by kernel_rfl) (by kernel_rfl) (by kernel_rfl) (fun _ _ _ h => h) (yieldsIf_load_mid (by rfl) 44 (.tmp 8) rfl w4.heap.size (0) (by rfl) ((hdE (rdP h) (rdS h)).map cb) _ (fun _ h => h.1) Tryd.underlying44 rfl li1) (by assumption) ?_
            try simp only [Act.put, List.setIfInBounds_toArray, List.set_cons_zero, List.set_cons_succ]
            refine wpAnyH_take (i := 4) (oi := { dst := some 46, op := Op.move (Operand.tmp 0), type := 50, pos := "header.go:71", after := #[{ on := 2, ground := Ground.guard }], guard := some (2, false) }) (v := ?_) rfl (by kernel_rfl) (by kernel_rfl) (by kernel_rfl) (fun _ _ _ h => h) (Or.inl ⟨by rfl, ?_⟩) (by assumption) ?_
            rotate_left
            · intro w hSw; (try dsimp only at hSw); go_simp; (try with_reducible rfl)
            try simp only [Act.put, List.setIfInBounds_toArray, List.set_cons_zero, List.set_cons_succ]
            refine wpAnyH_take (i := 5) (oi := { dst := some 47, op := Op.nilCheck (Operand.tmp 46), type := 0, pos := "header.go:71", after := #[{ on := 4, ground := Ground.data }, { on := 2, ground := Ground.guard }], guard := some (2, false) }) (v := ?_) rfl (by kernel_rfl) (by kernel_rfl) (by kernel_rfl) (fun _ _ _ h => h) (Or.inl ⟨by rfl, ?_⟩) (by assumption) ?_
            rotate_left
            · intro w hSw; (try dsimp only at hSw); go_simp; (try with_reducible rfl)
            try simp only [Act.put, List.setIfInBounds_toArray, List.set_cons_zero, List.set_cons_succ]
            refine wpAnyH_take (i := 6) (oi := { dst := some 48, op := Op.load 44 (Operand.tmp 47), type := 44, pos := "header.go:71", after := #[{ on := 5, ground := Ground.data }, { on := 2, ground := Ground.guard }], guard := some (2, false) }) (v := .agg (h.map cb).toArray) rfl (by kernel_rfl) (by kernel_rfl) (by kernel_rfl) (fun _ _ _ h => h) (yieldsIf_load_mid (by rfl) 44 (.tmp 47) rfl g (0) (by rfl) (h.map cb) _ (fun _ h => h.2) Tryd.underlying44 rfl li2) (by assumption) ?_
            try simp only [Act.put, List.setIfInBounds_toArray, List.set_cons_zero, List.set_cons_succ]
            refine wpAnyH_take (i := 7) (oi := { dst := some 49, op := Op.binOp BinOp.neq 44 (Operand.tmp 45) (Operand.tmp 48) 44, type := 4, pos := "header.go:71", after := #[{ on := 3, ground := Ground.data }, { on := 6, ground := Ground.data }, { on := 2, ground := Ground.guard }], guard := some (2, false) }) (v := ?_) rfl (by kernel_rfl) (by kernel_rfl) (by kernel_rfl) (fun _ _ _ h => h) (Or.inl ⟨by rfl, ?_⟩) (by assumption) ?_
            rotate_left
            · intro w hSw; (try dsimp only at hSw); go_simp; (try with_reducible rfl)
            try simp only [Act.put, List.setIfInBounds_toArray, List.set_cons_zero, List.set_cons_succ]
            refine wpAnyH_take (i := 8) (oi := { dst := some 50, op := Op.pick (Operand.tmp 44) (Operand.const (Value.bool true)) (Operand.tmp 49), type := 4, pos := "header.go:71", after := #[{ on := 2, ground := Ground.data }, { on := 7, ground := Ground.data }], guard := none }) (v := ?_) rfl (by kernel_rfl) (by kernel_rfl) (by kernel_rfl) (fun _ _ _ h => h) (Or.inl ⟨by rfl, ?_⟩) (by assumption) ?_
            rotate_left
            · intro w hSw; (try dsimp only at hSw); go_simp; (try with_reducible rfl)
            try simp only [Act.put, List.setIfInBounds_toArray, List.set_cons_zero, List.set_cons_succ]
            refine wpAnyH_done (by kernel_rfl) ?_ _
            go_wp2_with fail
            go_ret3
            exact ⟨by rw [unhide HTV]; rfl, (unhide B6).drew⟩
        · have HTV := hide (show toldV h = .tuple #[.string ⟨#[]⟩, .int .i64 0, .bool false] from by unfold toldV toldL; rw [if_neg fun q => he q.1])
          rw [(spl_two (rdP h)).resolve_left he] at CH
          clear he
          clear hneq
          go_wp2_with (first
            | (go_at_call 17; refine (unhide CH wr (unhide B2)).mono ?_; rintro e w4 ⟨rfl, b4⟩; have B4 := hide (bl_t (unhide B2) b4); clear b4 CH)
            | ((with_reducible refine b_alloc (t := 44) (k := 512) zeroH rfl rfl ?_); intro w5 q5 k5 z5; have P5 := hide q5; have B5 := hide (bl_t (unhide B4) k5); have G5 := hide (Nat.lt_of_lt_of_le hgl (unhide B4).size); clear q5 k5 z5)
            | ((with_reducible refine b_store (t := 44) (k := 512) infoH _ _ rfl rfl w4.heap.size rfl ((hdE (rdP h) (rdS h)).map cb) rfl (unhide HLE) (map_cb_one _) _ (unhide P5) ?_); intro w6 q6 o6 k6 z6; have P6 := hide q6.range; have B6 := hide ((unhide B5).trans (k6 w.heap.size (unhide B4).size)); have H6 := hide (Rb.of_by ((unhide HB).later (unhide B6))); clear q6 o6 k6 z6 P5))
          refine wp_region_held_drew (S := fun w' => w'.rangeAt w4.heap.size 0 ((hdE (rdP h) (rdS h)).map cb) ∧ w'.rangeAt g 0 (h.map cb)) (by kernel_rfl) ?_ (fun hHeld => ?_)
          · exact ⟨(World.rangeAt_drew _ _ _ _).2 (unhide P6), (World.rangeAt_drew _ _ _ _).2 (unhide H6)⟩
          refine wpAnyH_take (i := 0) (oi := { dst := some 42, op := Op.move (Operand.tmp 9), type := 25, pos := "header.go:71", after := #[], guard := none }) (v := ?_) rfl (by kernel_rfl) (by kernel_rfl) (by kernel_rfl) (fun _ _ _ h => h) (Or.inl ⟨by rfl, ?_⟩) (by assumption) ?_
          rotate_left
          · intro w hSw; (try dsimp only at hSw); go_simp; (try with_reducible rfl)
          try simp only [Act.put, List.setIfInBounds_toArray, List.set_cons_zero, List.set_cons_succ]
          refine wpAnyH_take (i := 1) (oi := { dst := some 43, op := Op.binOp BinOp.neq 25 (Operand.tmp 42) (Operand.const (Value.int IntKind.i64 0)) 25, type := 4, pos := "header.go:71", after := #[{ on := 0, ground := Ground.data }], guard := none }) (v := ?_) rfl (by kernel_rfl) (by kernel_rfl) (by kernel_rfl) (fun _ _ _ h => h) (Or.inl ⟨by rfl, ?_⟩) (by assumption) ?_
          rotate_left
          · intro w hSw; (try dsimp only at hSw); go_simp; (try with_reducible rfl)
          try simp only [Act.put, List.setIfInBounds_toArray, List.set_cons_zero, List.set_cons_succ]
          refine wpAnyH_take (i := 2) (oi := { dst := some 44, op := Op.move (Operand.tmp 43), type := 4, pos := "header.go:71", after := #[{ on := 1, ground := Ground.data }], guard := none }) (v := ?_) rfl (by kernel_rfl) (by kernel_rfl) (by kernel_rfl) (fun _ _ _ h => h) (Or.inl ⟨by rfl, ?_⟩) (by assumption) ?_
          rotate_left
          · intro w hSw; (try dsimp only at hSw); go_simp; (try with_reducible rfl)
          try simp only [Act.put, List.setIfInBounds_toArray, List.set_cons_zero, List.set_cons_succ]
          refine wpAnyH_take (i := 3) (oi := { dst := some 45, op := Op.load 44 (Operand.tmp 8), type := 44, pos := "header.go:71", after := #[{ on := 2, ground := Ground.guard }], guard := some (2, false) }) (v := undef) rfl (by kernel_rfl) (by kernel_rfl) (by kernel_rfl) (fun _ _ _ h => h) (Or.inr ⟨by rfl, rfl⟩) (by assumption) ?_
          try simp only [Act.put, List.setIfInBounds_toArray, List.set_cons_zero, List.set_cons_succ]
          refine wpAnyH_take (i := 4) (oi := { dst := some 46, op := Op.move (Operand.tmp 0), type := 50, pos := "header.go:71", after := #[{ on := 2, ground := Ground.guard }], guard := some (2, false) }) (v := undef) rfl (by kernel_rfl) (by kernel_rfl) (by kernel_rfl) (fun _ _ _ h => h) (Or.inr ⟨by rfl, rfl⟩) (by assumption) ?_
          try simp only [Act.put, List.setIfInBounds_toArray, List.set_cons_zero, List.set_cons_succ]
          refine wpAnyH_take (i := 5) (oi := { dst := some 47, op := Op.nilCheck (Operand.tmp 46), type := 0, pos := "header.go:71", after := #[{ on := 4, ground := Ground.data }, { on := 2, ground := Ground.guard }], guard := some (2, false) }) (v := undef) rfl (by kernel_rfl) (by kernel_rfl) (by kernel_rfl) (fun _ _ _ h => h) (Or.inr ⟨by rfl, rfl⟩) (by assumption) ?_
          try simp only [Act.put, List.setIfInBounds_toArray, List.set_cons_zero, List.set_cons_succ]
          refine wpAnyH_take (i := 6) (oi := { dst := some 48, op := Op.load 44 (Operand.tmp 47), type := 44, pos := "header.go:71", after := #[{ on := 5, ground := Ground.data }, { on := 2, ground := Ground.guard }], guard := some (2, false) }) (v := undef) rfl (by kernel_rfl) (by kernel_rfl) (by kernel_rfl) (fun _ _ _ h => h) (Or.inr ⟨by rfl, rfl⟩) (by assumption) ?_
          try simp only [Act.put, List.setIfInBounds_toArray, List.set_cons_zero, List.set_cons_succ]
          refine wpAnyH_take (i := 7) (oi := { dst := some 49, op := Op.binOp BinOp.neq 44 (Operand.tmp 45) (Operand.tmp 48) 44, type := 4, pos := "header.go:71", after := #[{ on := 3, ground := Ground.data }, { on := 6, ground := Ground.data }, { on := 2, ground := Ground.guard }], guard := some (2, false) }) (v := undef) rfl (by kernel_rfl) (by kernel_rfl) (by kernel_rfl) (fun _ _ _ h => h) (Or.inr ⟨by rfl, rfl⟩) (by assumption) ?_
          try simp only [Act.put, List.setIfInBounds_toArray, List.set_cons_zero, List.set_cons_succ]
          refine wpAnyH_take (i := 8) (oi := { dst := some 50, op := Op.pick (Operand.tmp 44) (Operand.const (Value.bool true)) (Operand.tmp 49), type := 4, pos := "header.go:71", after := #[{ on := 2, ground := Ground.data }, { on := 7, ground := Ground.data }], guard := none }) (v := ?_) rfl (by kernel_rfl) (by kernel_rfl) (by kernel_rfl) (fun _ _ _ h => h) (Or.inl ⟨by rfl, ?_⟩) (by assumption) ?_
          rotate_left
          · intro w hSw; (try dsimp only at hSw); go_simp; (try with_reducible rfl)
          try simp only [Act.put, List.setIfInBounds_toArray, List.set_cons_zero, List.set_cons_succ]
          refine wpAnyH_done (by kernel_rfl) ?_ _
          go_wp2_with fail
          go_ret3
          exact ⟨by rw [unhide HTV]; rfl, (unhide B6).drew⟩
  · have HP0 := hide hp
    have hne : ((ba p1).toList == []) = false := by
      rw [Lib.toList_data]
      cases p1 with
      | nil => exact absurd rfl hp
      | cons x l => rfl
    have z1 : (ba p1).size ≤ 155 := by rw [ba_size]; exact (unhide HN).2
    have z2 : (ba n1).size ≤ 100 := by rw [ba_size]; exact (unhide HN).1
    have hcat : ¬ (9223372036854775807 < (ba p1).size + 1) := by omega
    have hcat2 : ¬ (9223372036854775807 < (ba p1 ++ (⟨#[47]⟩ : ByteArray)).size + (ba n1).size) := by
      rw [ByteArray.size_append]
      have : (⟨#[47]⟩ : ByteArray).size = 1 := rfl
      omega
    clear hp
    go_wp2_with (first
      | (go_at_call 28; refine (hname_any _ _).mono ?_; rintro e wn ⟨rfl, hw⟩; rw [hw]; clear hw wn)
      | (go_at_call 31; refine (hprefix_any _ _).mono ?_; rintro e wn ⟨rfl, hw⟩; rw [hw]; clear hw wn)
      | (go_at_call 30; refine (hsize_any _ _).mono ?_; rintro e wn ⟨rfl, hw⟩; rw [hw]; clear hw wn)
      | (go_at_call 44; refine (unhide CA).mono ?_; rintro e w1 ⟨rfl, b1⟩; have B1 := hide b1; clear b1 CA)
      | (go_at_call 44; refine (unhide CP w1 (unhide B1)).mono ?_; rintro e w2 ⟨rfl, b2⟩; have B2 := hide (bl_t (unhide B1) b2); clear b2 CP))
    clear hcat hcat2 z1 z2 hne
    rw [show ba p1 ++ (⟨#[47]⟩ : ByteArray) ++ ba n1 = rdP h from by rw [unhide HRP, if_neg (unhide HP0), show (⟨#[47]⟩ : ByteArray) = ba [47] from rfl, ba_app, ba_app, List.append_assoc]; rfl]
    go_loopg [3, 7, 25] 11 (fun gq sv _ iv wr => ∃ i : Nat, iv = .int .i64 i ∧ sv = .int .i64 (rdO (dg.take i) : Nat) ∧ i ≤ 11 ∧ 11 - i ≤ gq ∧ wr = w2)
    case atStart => exact ⟨0, by go_num, rfl, by omega, by omega, rfl⟩
    case round =>
      obtain ⟨i, rfl, rfl, hi, hgq, rfl⟩ := hrel
      by_cases hlt : i < 11
      · have hin : (i : Int) < 11 := by omega
        have c0 := cell_later (unhide HD i _ (List.getElem?_eq_getElem (show i < dg.length by omega))) (unhide B2)
        have hsn : rdO (dg.take (i + 1)) = rdO (dg.take i) * 8 + (dg[i]'(by omega)).toNat % 8 := by
          rw [List.take_succ_eq_append_getElem (by omega), rdO_snoc]
        have hle : rdO (dg.take i) < 1073741824 := Nat.lt_of_lt_of_le (rdO_lt i (dg.take i) (by rw [List.length_take]; omega)) (Nat.le_trans (Nat.pow_le_pow_right (by decide) (show i ≤ 10 by omega)) (by decide))
        have hb := UInt8.toNat_lt (dg[i]'(by omega))
        have HS := hide hsn
        unfold cb at c0
        generalize (dg[i]'(by omega)).toNat = q at *
        generalize rdO (dg.take i) = t at *
        clear hsn
        have ha := u8_and7 (x := (q : Int)) (by omega) (by omega)
        have HO := hide (show bits .or .i64 ((t : Int) * 8) ((q : Int) % 8) = ((t * 8 + q % 8 : Nat) : Int) from by have := or8 t (q % 8) (by omega) (by omega); rwa [show ((q % 8 : Nat) : Int) = (q : Int) % 8 from rfl] at this)
        have hw2 : IntKind.i64.wrap ((q : Int) % 8) = (q : Int) % 8 := IntWalk.i64_in _ (by omega)
        have hw3 : IntKind.i64.wrap ((t : Int) * 8) = (t : Int) * 8 := IntWalk.i64_in _ (by omega)
        go_wp2_with fail
        go_roundg (11 - (i + 1))
        case measure => omega
        case rel => exact ⟨i + 1, by go_num, by rw [unhide HS, unhide HO], by omega, by omega, rfl⟩
      · obtain rfl : i = 11 := by omega
        have hge : ¬ (11 : Int) < 11 := by omega
        have hS : rdO (dg.take 11) = rdS h := by rw [List.take_of_length_le (by omega)]; exact (unhide HRS).symm
        rw [hS]
        have hsz := rdO_lt 11 dg hl3
        rw [← unhide HRS] at hsz
        have CH := hide (fun (X : World) (hX : Below w.heap.size w X) => headerOf_any (w := X) (p := rdP h) (s := rdS h) (unhide HSZ) (Nat.le_of_lt (Nat.lt_trans hsz (by decide))) ((unhide HG).later hX))
        have HLE := hide (show ((hdE (rdP h) (rdS h)).map cb).length = 512 by rw [List.length_map, hdE_len])
        have HLH := hide (show (h.map cb).length = 512 by rw [List.length_map, hl])
        have li1 : (Tryd.prog.info? 44).map (·.size) = some ((hdE (rdP h) (rdS h)).map cb).length := by rw [unhide HLE]; exact infoH
        have li2 : (Tryd.prog.info? 44).map (·.size) = some (h.map cb).length := by rw [unhide HLH]; exact infoH
        have hneq := fun X => neqH (hdE_len (rdP h) (rdS h)) hl X
        clear hS hsz HRP HRS HD
        by_cases he : (spl (rdP h)).2.2 = 0
        · rw [he] at CH
          by_cases hm : hdE (rdP h) (rdS h) = h
          · have hm2 : hdP (rdP h) (rdS h) = h := by unfold hdE at hm; rw [if_pos he] at hm; exact hm
            have HTV := hide (show toldV h = .tuple #[.string (rdP h), .int .i64 (rdS h : Int), .bool true] from by unfold toldV toldL; rw [if_pos ⟨he, hm2⟩])
            have hdec : decide (hdE (rdP h) (rdS h) = h) = true := decide_eq_true hm
            simp only [hdec, Bool.not_true] at hneq
            clear he hm hm2 hdec
            go_wp2_with (first
              | (go_at_call 17; refine (unhide CH wr (unhide B2)).mono ?_; rintro e w4 ⟨rfl, b4⟩; have B4 := hide (bl_t (unhide B2) b4); clear b4 CH)
              | ((with_reducible refine b_alloc (t := 44) (k := 512) zeroH rfl rfl ?_); intro w5 q5 k5 z5; have P5 := hide q5; have B5 := hide (bl_t (unhide B4) k5); have G5 := hide (Nat.lt_of_lt_of_le hgl (unhide B4).size); clear q5 k5 z5)
              | ((with_reducible refine b_store (t := 44) (k := 512) infoH _ _ rfl rfl w4.heap.size rfl ((hdE (rdP h) (rdS h)).map cb) rfl (unhide HLE) (map_cb_one _) _ (unhide P5) ?_); intro w6 q6 o6 k6 z6; have P6 := hide q6.range; have B6 := hide ((unhide B5).trans (k6 w.heap.size (unhide B4).size)); have H6 := hide (Rb.of_by ((unhide HB).later (unhide B6))); clear q6 o6 k6 z6 P5))
            refine wp_region_held_drew (S := fun w' => w'.rangeAt w4.heap.size 0 ((hdE (rdP h) (rdS h)).map cb) ∧ w'.rangeAt g 0 (h.map cb)) (by kernel_rfl) ?_ (fun hHeld => ?_)
            · exact ⟨(World.rangeAt_drew _ _ _ _).2 (unhide P6), (World.rangeAt_drew _ _ _ _).2 (unhide H6)⟩
            refine wpAnyH_take (i := 0) (oi := { dst := some 42, op := Op.move (Operand.tmp 9), type := 25, pos := "header.go:71", after := #[], guard := none }) (v := ?_) rfl (by kernel_rfl) (by kernel_rfl) (by kernel_rfl) (fun _ _ _ h => h) (Or.inl ⟨by rfl, ?_⟩) (by assumption) ?_
            rotate_left
            · intro w hSw; (try dsimp only at hSw); go_simp; (try with_reducible rfl)
            try simp only [Act.put, List.setIfInBounds_toArray, List.set_cons_zero, List.set_cons_succ]
            refine wpAnyH_take (i := 1) (oi := { dst := some 43, op := Op.binOp BinOp.neq 25 (Operand.tmp 42) (Operand.const (Value.int IntKind.i64 0)) 25, type := 4, pos := "header.go:71", after := #[{ on := 0, ground := Ground.data }], guard := none }) (v := ?_) rfl (by kernel_rfl) (by kernel_rfl) (by kernel_rfl) (fun _ _ _ h => h) (Or.inl ⟨by rfl, ?_⟩) (by assumption) ?_
            rotate_left
            · intro w hSw; (try dsimp only at hSw); go_simp; (try with_reducible rfl)
            try simp only [Act.put, List.setIfInBounds_toArray, List.set_cons_zero, List.set_cons_succ]
            refine wpAnyH_take (i := 2) (oi := { dst := some 44, op := Op.move (Operand.tmp 43), type := 4, pos := "header.go:71", after := #[{ on := 1, ground := Ground.data }], guard := none }) (v := ?_) rfl (by kernel_rfl) (by kernel_rfl) (by kernel_rfl) (fun _ _ _ h => h) (Or.inl ⟨by rfl, ?_⟩) (by assumption) ?_
            rotate_left
            · intro w hSw; (try dsimp only at hSw); go_simp; (try with_reducible rfl)
            try simp only [Act.put, List.setIfInBounds_toArray, List.set_cons_zero, List.set_cons_succ]
            refine wpAnyH_take (i := 3) (oi := { dst := some 45, op := Op.load 44 (Operand.tmp 8), type := 44, pos := "header.go:71", after := #[{ on := 2, ground := Ground.guard }], guard := some (2, false) }) (v := .agg ((hdE (rdP h) (rdS h)).map cb).toArray) rfl (by kernel_rfl) (by kernel_rfl) (by kernel_rfl) (fun _ _ _ h => h) (yieldsIf_load_mid (by rfl) 44 (.tmp 8) rfl w4.heap.size (0) (by rfl) ((hdE (rdP h) (rdS h)).map cb) _ (fun _ h => h.1) Tryd.underlying44 rfl li1) (by assumption) ?_
            try simp only [Act.put, List.setIfInBounds_toArray, List.set_cons_zero, List.set_cons_succ]
            refine wpAnyH_take (i := 4) (oi := { dst := some 46, op := Op.move (Operand.tmp 0), type := 50, pos := "header.go:71", after := #[{ on := 2, ground := Ground.guard }], guard := some (2, false) }) (v := ?_) rfl (by kernel_rfl) (by kernel_rfl) (by kernel_rfl) (fun _ _ _ h => h) (Or.inl ⟨by rfl, ?_⟩) (by assumption) ?_
            rotate_left
            · intro w hSw; (try dsimp only at hSw); go_simp; (try with_reducible rfl)
            try simp only [Act.put, List.setIfInBounds_toArray, List.set_cons_zero, List.set_cons_succ]
            refine wpAnyH_take (i := 5) (oi := { dst := some 47, op := Op.nilCheck (Operand.tmp 46), type := 0, pos := "header.go:71", after := #[{ on := 4, ground := Ground.data }, { on := 2, ground := Ground.guard }], guard := some (2, false) }) (v := ?_) rfl (by kernel_rfl) (by kernel_rfl) (by kernel_rfl) (fun _ _ _ h => h) (Or.inl ⟨by rfl, ?_⟩) (by assumption) ?_
            rotate_left
            · intro w hSw; (try dsimp only at hSw); go_simp; (try with_reducible rfl)
            try simp only [Act.put, List.setIfInBounds_toArray, List.set_cons_zero, List.set_cons_succ]
            refine wpAnyH_take (i := 6) (oi := { dst := some 48, op := Op.load 44 (Operand.tmp 47), type := 44, pos := "header.go:71", after := #[{ on := 5, ground := Ground.data }, { on := 2, ground := Ground.guard }], guard := some (2, false) }) (v := .agg (h.map cb).toArray) rfl (by kernel_rfl) (by kernel_rfl) (by kernel_rfl) (fun _ _ _ h => h) (yieldsIf_load_mid (by rfl) 44 (.tmp 47) rfl g (0) (by rfl) (h.map cb) _ (fun _ h => h.2) Tryd.underlying44 rfl li2) (by assumption) ?_
            try simp only [Act.put, List.setIfInBounds_toArray, List.set_cons_zero, List.set_cons_succ]
            refine wpAnyH_take (i := 7) (oi := { dst := some 49, op := Op.binOp BinOp.neq 44 (Operand.tmp 45) (Operand.tmp 48) 44, type := 4, pos := "header.go:71", after := #[{ on := 3, ground := Ground.data }, { on := 6, ground := Ground.data }, { on := 2, ground := Ground.guard }], guard := some (2, false) }) (v := ?_) rfl (by kernel_rfl) (by kernel_rfl) (by kernel_rfl) (fun _ _ _ h => h) (Or.inl ⟨by rfl, ?_⟩) (by assumption) ?_
            rotate_left
            · intro w hSw; (try dsimp only at hSw); go_simp; (try with_reducible rfl)
            try simp only [Act.put, List.setIfInBounds_toArray, List.set_cons_zero, List.set_cons_succ]
            refine wpAnyH_take (i := 8) (oi := { dst := some 50, op := Op.pick (Operand.tmp 44) (Operand.const (Value.bool true)) (Operand.tmp 49), type := 4, pos := "header.go:71", after := #[{ on := 2, ground := Ground.data }, { on := 7, ground := Ground.data }], guard := none }) (v := ?_) rfl (by kernel_rfl) (by kernel_rfl) (by kernel_rfl) (fun _ _ _ h => h) (Or.inl ⟨by rfl, ?_⟩) (by assumption) ?_
            rotate_left
            · intro w hSw; (try dsimp only at hSw); go_simp; (try with_reducible rfl)
            try simp only [Act.put, List.setIfInBounds_toArray, List.set_cons_zero, List.set_cons_succ]
            refine wpAnyH_done (by kernel_rfl) ?_ _
            go_wp2_with fail
            go_ret3
            exact ⟨by rw [unhide HTV]; rfl, (unhide B6).drew⟩
          · have hm2 : ¬ hdP (rdP h) (rdS h) = h := by unfold hdE at hm; rw [if_pos he] at hm; exact hm
            have HTV := hide (show toldV h = .tuple #[.string ⟨#[]⟩, .int .i64 0, .bool false] from by unfold toldV toldL; rw [if_neg fun q => hm2 q.2])
            have hdec : decide (hdE (rdP h) (rdS h) = h) = false := decide_eq_false hm
            simp only [hdec, Bool.not_false] at hneq
            clear he hm hm2 hdec
            go_wp2_with (first
              | (go_at_call 17; refine (unhide CH wr (unhide B2)).mono ?_; rintro e w4 ⟨rfl, b4⟩; have B4 := hide (bl_t (unhide B2) b4); clear b4 CH)
              | ((with_reducible refine b_alloc (t := 44) (k := 512) zeroH rfl rfl ?_); intro w5 q5 k5 z5; have P5 := hide q5; have B5 := hide (bl_t (unhide B4) k5); have G5 := hide (Nat.lt_of_lt_of_le hgl (unhide B4).size); clear q5 k5 z5)
              | ((with_reducible refine b_store (t := 44) (k := 512) infoH _ _ rfl rfl w4.heap.size rfl ((hdE (rdP h) (rdS h)).map cb) rfl (unhide HLE) (map_cb_one _) _ (unhide P5) ?_); intro w6 q6 o6 k6 z6; have P6 := hide q6.range; have B6 := hide ((unhide B5).trans (k6 w.heap.size (unhide B4).size)); have H6 := hide (Rb.of_by ((unhide HB).later (unhide B6))); clear q6 o6 k6 z6 P5))
            refine wp_region_held_drew (S := fun w' => w'.rangeAt w4.heap.size 0 ((hdE (rdP h) (rdS h)).map cb) ∧ w'.rangeAt g 0 (h.map cb)) (by kernel_rfl) ?_ (fun hHeld => ?_)
            · exact ⟨(World.rangeAt_drew _ _ _ _).2 (unhide P6), (World.rangeAt_drew _ _ _ _).2 (unhide H6)⟩
            refine wpAnyH_take (i := 0) (oi := { dst := some 42, op := Op.move (Operand.tmp 9), type := 25, pos := "header.go:71", after := #[], guard := none }) (v := ?_) rfl (by kernel_rfl) (by kernel_rfl) (by kernel_rfl) (fun _ _ _ h => h) (Or.inl ⟨by rfl, ?_⟩) (by assumption) ?_
            rotate_left
            · intro w hSw; (try dsimp only at hSw); go_simp; (try with_reducible rfl)
            try simp only [Act.put, List.setIfInBounds_toArray, List.set_cons_zero, List.set_cons_succ]
            refine wpAnyH_take (i := 1) (oi := { dst := some 43, op := Op.binOp BinOp.neq 25 (Operand.tmp 42) (Operand.const (Value.int IntKind.i64 0)) 25, type := 4, pos := "header.go:71", after := #[{ on := 0, ground := Ground.data }], guard := none }) (v := ?_) rfl (by kernel_rfl) (by kernel_rfl) (by kernel_rfl) (fun _ _ _ h => h) (Or.inl ⟨by rfl, ?_⟩) (by assumption) ?_
            rotate_left
            · intro w hSw; (try dsimp only at hSw); go_simp; (try with_reducible rfl)
            try simp only [Act.put, List.setIfInBounds_toArray, List.set_cons_zero, List.set_cons_succ]
            refine wpAnyH_take (i := 2) (oi := { dst := some 44, op := Op.move (Operand.tmp 43), type := 4, pos := "header.go:71", after := #[{ on := 1, ground := Ground.data }], guard := none }) (v := ?_) rfl (by kernel_rfl) (by kernel_rfl) (by kernel_rfl) (fun _ _ _ h => h) (Or.inl ⟨by rfl, ?_⟩) (by assumption) ?_
            rotate_left
            · intro w hSw; (try dsimp only at hSw); go_simp; (try with_reducible rfl)
            try simp only [Act.put, List.setIfInBounds_toArray, List.set_cons_zero, List.set_cons_succ]
            refine wpAnyH_take (i := 3) (oi := { dst := some 45, op := Op.load 44 (Operand.tmp 8), type := 44, pos := "header.go:71", after := #[{ on := 2, ground := Ground.guard }], guard := some (2, false) }) (v := .agg ((hdE (rdP h) (rdS h)).map cb).toArray) rfl (by kernel_rfl) (by kernel_rfl) (by kernel_rfl) (fun _ _ _ h => h) (yieldsIf_load_mid (by rfl) 44 (.tmp 8) rfl w4.heap.size (0) (by rfl) ((hdE (rdP h) (rdS h)).map cb) _ (fun _ h => h.1) Tryd.underlying44 rfl li1) (by assumption) ?_
            try simp only [Act.put, List.setIfInBounds_toArray, List.set_cons_zero, List.set_cons_succ]
            refine wpAnyH_take (i := 4) (oi := { dst := some 46, op := Op.move (Operand.tmp 0), type := 50, pos := "header.go:71", after := #[{ on := 2, ground := Ground.guard }], guard := some (2, false) }) (v := ?_) rfl (by kernel_rfl) (by kernel_rfl) (by kernel_rfl) (fun _ _ _ h => h) (Or.inl ⟨by rfl, ?_⟩) (by assumption) ?_
            rotate_left
            · intro w hSw; (try dsimp only at hSw); go_simp; (try with_reducible rfl)
            try simp only [Act.put, List.setIfInBounds_toArray, List.set_cons_zero, List.set_cons_succ]
            refine wpAnyH_take (i := 5) (oi := { dst := some 47, op := Op.nilCheck (Operand.tmp 46), type := 0, pos := "header.go:71", after := #[{ on := 4, ground := Ground.data }, { on := 2, ground := Ground.guard }], guard := some (2, false) }) (v := ?_) rfl (by kernel_rfl) (by kernel_rfl) (by kernel_rfl) (fun _ _ _ h => h) (Or.inl ⟨by rfl, ?_⟩) (by assumption) ?_
            rotate_left
            · intro w hSw; (try dsimp only at hSw); go_simp; (try with_reducible rfl)
            try simp only [Act.put, List.setIfInBounds_toArray, List.set_cons_zero, List.set_cons_succ]
            refine wpAnyH_take (i := 6) (oi := { dst := some 48, op := Op.load 44 (Operand.tmp 47), type := 44, pos := "header.go:71", after := #[{ on := 5, ground := Ground.data }, { on := 2, ground := Ground.guard }], guard := some (2, false) }) (v := .agg (h.map cb).toArray) rfl (by kernel_rfl) (by kernel_rfl) (by kernel_rfl) (fun _ _ _ h => h) (yieldsIf_load_mid (by rfl) 44 (.tmp 47) rfl g (0) (by rfl) (h.map cb) _ (fun _ h => h.2) Tryd.underlying44 rfl li2) (by assumption) ?_
            try simp only [Act.put, List.setIfInBounds_toArray, List.set_cons_zero, List.set_cons_succ]
            refine wpAnyH_take (i := 7) (oi := { dst := some 49, op := Op.binOp BinOp.neq 44 (Operand.tmp 45) (Operand.tmp 48) 44, type := 4, pos := "header.go:71", after := #[{ on := 3, ground := Ground.data }, { on := 6, ground := Ground.data }, { on := 2, ground := Ground.guard }], guard := some (2, false) }) (v := ?_) rfl (by kernel_rfl) (by kernel_rfl) (by kernel_rfl) (fun _ _ _ h => h) (Or.inl ⟨by rfl, ?_⟩) (by assumption) ?_
            rotate_left
            · intro w hSw; (try dsimp only at hSw); go_simp; (try with_reducible rfl)
            try simp only [Act.put, List.setIfInBounds_toArray, List.set_cons_zero, List.set_cons_succ]
            refine wpAnyH_take (i := 8) (oi := { dst := some 50, op := Op.pick (Operand.tmp 44) (Operand.const (Value.bool true)) (Operand.tmp 49), type := 4, pos := "header.go:71", after := #[{ on := 2, ground := Ground.data }, { on := 7, ground := Ground.data }], guard := none }) (v := ?_) rfl (by kernel_rfl) (by kernel_rfl) (by kernel_rfl) (fun _ _ _ h => h) (Or.inl ⟨by rfl, ?_⟩) (by assumption) ?_
            rotate_left
            · intro w hSw; (try dsimp only at hSw); go_simp; (try with_reducible rfl)
            try simp only [Act.put, List.setIfInBounds_toArray, List.set_cons_zero, List.set_cons_succ]
            refine wpAnyH_done (by kernel_rfl) ?_ _
            go_wp2_with fail
            go_ret3
            exact ⟨by rw [unhide HTV]; rfl, (unhide B6).drew⟩
        · have HTV := hide (show toldV h = .tuple #[.string ⟨#[]⟩, .int .i64 0, .bool false] from by unfold toldV toldL; rw [if_neg fun q => he q.1])
          rw [(spl_two (rdP h)).resolve_left he] at CH
          clear he
          clear hneq
          go_wp2_with (first
            | (go_at_call 17; refine (unhide CH wr (unhide B2)).mono ?_; rintro e w4 ⟨rfl, b4⟩; have B4 := hide (bl_t (unhide B2) b4); clear b4 CH)
            | ((with_reducible refine b_alloc (t := 44) (k := 512) zeroH rfl rfl ?_); intro w5 q5 k5 z5; have P5 := hide q5; have B5 := hide (bl_t (unhide B4) k5); have G5 := hide (Nat.lt_of_lt_of_le hgl (unhide B4).size); clear q5 k5 z5)
            | ((with_reducible refine b_store (t := 44) (k := 512) infoH _ _ rfl rfl w4.heap.size rfl ((hdE (rdP h) (rdS h)).map cb) rfl (unhide HLE) (map_cb_one _) _ (unhide P5) ?_); intro w6 q6 o6 k6 z6; have P6 := hide q6.range; have B6 := hide ((unhide B5).trans (k6 w.heap.size (unhide B4).size)); have H6 := hide (Rb.of_by ((unhide HB).later (unhide B6))); clear q6 o6 k6 z6 P5))
          refine wp_region_held_drew (S := fun w' => w'.rangeAt w4.heap.size 0 ((hdE (rdP h) (rdS h)).map cb) ∧ w'.rangeAt g 0 (h.map cb)) (by kernel_rfl) ?_ (fun hHeld => ?_)
          · exact ⟨(World.rangeAt_drew _ _ _ _).2 (unhide P6), (World.rangeAt_drew _ _ _ _).2 (unhide H6)⟩
          refine wpAnyH_take (i := 0) (oi := { dst := some 42, op := Op.move (Operand.tmp 9), type := 25, pos := "header.go:71", after := #[], guard := none }) (v := ?_) rfl (by kernel_rfl) (by kernel_rfl) (by kernel_rfl) (fun _ _ _ h => h) (Or.inl ⟨by rfl, ?_⟩) (by assumption) ?_
          rotate_left
          · intro w hSw; (try dsimp only at hSw); go_simp; (try with_reducible rfl)
          try simp only [Act.put, List.setIfInBounds_toArray, List.set_cons_zero, List.set_cons_succ]
          refine wpAnyH_take (i := 1) (oi := { dst := some 43, op := Op.binOp BinOp.neq 25 (Operand.tmp 42) (Operand.const (Value.int IntKind.i64 0)) 25, type := 4, pos := "header.go:71", after := #[{ on := 0, ground := Ground.data }], guard := none }) (v := ?_) rfl (by kernel_rfl) (by kernel_rfl) (by kernel_rfl) (fun _ _ _ h => h) (Or.inl ⟨by rfl, ?_⟩) (by assumption) ?_
          rotate_left
          · intro w hSw; (try dsimp only at hSw); go_simp; (try with_reducible rfl)
          try simp only [Act.put, List.setIfInBounds_toArray, List.set_cons_zero, List.set_cons_succ]
          refine wpAnyH_take (i := 2) (oi := { dst := some 44, op := Op.move (Operand.tmp 43), type := 4, pos := "header.go:71", after := #[{ on := 1, ground := Ground.data }], guard := none }) (v := ?_) rfl (by kernel_rfl) (by kernel_rfl) (by kernel_rfl) (fun _ _ _ h => h) (Or.inl ⟨by rfl, ?_⟩) (by assumption) ?_
          rotate_left
          · intro w hSw; (try dsimp only at hSw); go_simp; (try with_reducible rfl)
          try simp only [Act.put, List.setIfInBounds_toArray, List.set_cons_zero, List.set_cons_succ]
          refine wpAnyH_take (i := 3) (oi := { dst := some 45, op := Op.load 44 (Operand.tmp 8), type := 44, pos := "header.go:71", after := #[{ on := 2, ground := Ground.guard }], guard := some (2, false) }) (v := undef) rfl (by kernel_rfl) (by kernel_rfl) (by kernel_rfl) (fun _ _ _ h => h) (Or.inr ⟨by rfl, rfl⟩) (by assumption) ?_
          try simp only [Act.put, List.setIfInBounds_toArray, List.set_cons_zero, List.set_cons_succ]
          refine wpAnyH_take (i := 4) (oi := { dst := some 46, op := Op.move (Operand.tmp 0), type := 50, pos := "header.go:71", after := #[{ on := 2, ground := Ground.guard }], guard := some (2, false) }) (v := undef) rfl (by kernel_rfl) (by kernel_rfl) (by kernel_rfl) (fun _ _ _ h => h) (Or.inr ⟨by rfl, rfl⟩) (by assumption) ?_
          try simp only [Act.put, List.setIfInBounds_toArray, List.set_cons_zero, List.set_cons_succ]
          refine wpAnyH_take (i := 5) (oi := { dst := some 47, op := Op.nilCheck (Operand.tmp 46), type := 0, pos := "header.go:71", after := #[{ on := 4, ground := Ground.data }, { on := 2, ground := Ground.guard }], guard := some (2, false) }) (v := undef) rfl (by kernel_rfl) (by kernel_rfl) (by kernel_rfl) (fun _ _ _ h => h) (Or.inr ⟨by rfl, rfl⟩) (by assumption) ?_
          try simp only [Act.put, List.setIfInBounds_toArray, List.set_cons_zero, List.set_cons_succ]
          refine wpAnyH_take (i := 6) (oi := { dst := some 48, op := Op.load 44 (Operand.tmp 47), type := 44, pos := "header.go:71", after := #[{ on := 5, ground := Ground.data }, { on := 2, ground := Ground.guard }], guard := some (2, false) }) (v := undef) rfl (by kernel_rfl) (by kernel_rfl) (by kernel_rfl) (fun _ _ _ h => h) (Or.inr ⟨by rfl, rfl⟩) (by assumption) ?_
          try simp only [Act.put, List.setIfInBounds_toArray, List.set_cons_zero, List.set_cons_succ]
          refine wpAnyH_take (i := 7) (oi := { dst := some 49, op := Op.binOp BinOp.neq 44 (Operand.tmp 45) (Operand.tmp 48) 44, type := 4, pos := "header.go:71", after := #[{ on := 3, ground := Ground.data }, { on := 6, ground := Ground.data }, { on := 2, ground := Ground.guard }], guard := some (2, false) }) (v := undef) rfl (by kernel_rfl) (by kernel_rfl) (by kernel_rfl) (fun _ _ _ h => h) (Or.inr ⟨by rfl, rfl⟩) (by assumption) ?_
          try simp only [Act.put, List.setIfInBounds_toArray, List.set_cons_zero, List.set_cons_succ]
          refine wpAnyH_take (i := 8) (oi := { dst := some 50, op := Op.pick (Operand.tmp 44) (Operand.const (Value.bool true)) (Operand.tmp 49), type := 4, pos := "header.go:71", after := #[{ on := 2, ground := Ground.data }, { on := 7, ground := Ground.data }], guard := none }) (v := ?_) rfl (by kernel_rfl) (by kernel_rfl) (by kernel_rfl) (fun _ _ _ h => h) (Or.inl ⟨by rfl, ?_⟩) (by assumption) ?_
          rotate_left
          · intro w hSw; (try dsimp only at hSw); go_simp; (try with_reducible rfl)
          try simp only [Act.put, List.setIfInBounds_toArray, List.set_cons_zero, List.set_cons_succ]
          refine wpAnyH_done (by kernel_rfl) ?_ _
          go_wp2_with fail
          go_ret3
          exact ⟨by rw [unhide HTV]; rfl, (unhide B6).drew⟩
end Go.Proofs.YtjmomdnlibfbkaaDoor
