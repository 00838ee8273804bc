import Derived.Test.YtlknhpeeemhfgaaGreatDoorNnC
import Derived.RangeFuncBox
import Derived.Deep.MidRow
namespace Go.Proofs.YtlknhpeeemhfgaaGreatDoor
open Go.RowKit

set_option maxRecDepth 100000 in
set_option maxHeartbeats 1000000 in
theorem DSort_nil (p : Option Addr) (c : Nat) (w : World) :
    Calls Tryz.prog 15 #[.slice p 0 c] w fun e w' => (∃ q k, e = .returned (.tuple #[.slice q 0 k, .int .i64 0])) ∧ Below w.heap.size w w' := by
  have m1 := make71
  have m2 := make40
  go_enter Tryz.func15, Tryz.ntmps15
  go_wp2
  go_loop [18] (fun i => i = .int .i64 0) (fun _ => 0)
  case atStart => rfl
  case round =>
    obtain rfl := hrel
    go_wp2_with (go_at_call 31; refine (SortStable_nil _ _ _ _).mono ?_; rintro e w' ⟨⟨v, rfl⟩, rfl⟩)
    go_ret2
    refine ⟨⟨_, _, rfl⟩, ?_⟩
    exact (((Below.refl _ _).alloc (Nat.le_refl _) _).alloc (by simp) _).alloc (by simp; omega) _

theorem below_setCells {n b : Nat} (hb : n ≤ b) : ∀ (vs : List Value) (o : Nat) (w W : World), Below n w W → Below n w (W.setCells b o vs)
  | [], _, _, _, h => h
  | v :: r, o, w, _, h => below_setCells hb r (o + 1) w _ (h.setCell (p := ⟨b, o, none⟩) hb v)

abbrev z43 : List Value := [.string ⟨#[]⟩, .string ⟨#[]⟩, .bool false, .slice none 0 0, .slice none 0 0, .slice none 0 0, .slice none 0 0, .slice none 0 0, .string ⟨#[]⟩, .int .i64 0] ++ List.replicate 32 (.int .u8 0) ++ [.string ⟨#[]⟩]

theorem results_cell2 {fn : Func} {a u : Tmp} {t : TypeId} (h : fn.results = #[.cell a t, .tmp u]) (tmps : Array Value) (P : Program) (w : World) (ad : Addr) (v : Value) (ha : tmps.getD a undef = .pointer (some ad)) (hl : (loadVar t ad).run P w = .ok v w) :
    (results fn tmps).run P w = .ok (.tuple #[v, tmps.getD u undef]) w := by
  have ha2 : tmps[a]?.getD undef = .pointer (some ad) := by simpa using ha
  simp [results, h, asAddr, ha2, hl]

theorem there43 (w : World) (cs : Array Value) (t : TypeId) (k : Nat) (h : w.heap[k]? = some (.cells cs t (0, 0))) (n : Nat) (hn : n ≤ cs.size) : w.there k 0 n := by
  intro j hj
  constructor
  · simp [World.cell?, h]
    omega
  · simp [World.frozen?, h]

set_option maxRecDepth 100000 in
set_option maxHeartbeats 1000000 in
theorem At_nil (w : World) :
    Calls Tryz.prog 4 #[.pointer none, .int .i64 0] w fun e w' => (∃ cs : List Value, e = .returned (.tuple #[.agg cs.toArray, .bool false]) ∧ cs.length = 43 ∧ cs[0]? = some (.string ⟨#[]⟩) ∧ ∀ v ∈ cs, v.oneCell' = true) ∧ Below w.heap.size w w' := by
  have hz : ∀ w, (zeroValue 29).run Tryz.prog w = .ok (.agg z43.toArray) w := Tryz.zeroValue29
  have hi : (Tryz.prog.info? 29).map (·.size) = some 43 := by kernel_rfl
  generalize hcs : z43 = cs at hz
  have h43 : cs.length = 43 := by rw [← hcs]; rfl
  have h0 : cs[0]? = some (.string ⟨#[]⟩) := by rw [← hcs]; rfl
  have h1 : ∀ v ∈ cs, v.oneCell' = true := by rw [← hcs]; decide +kernel
  clear hcs
  obtain ⟨W2, hst, hr, hbel⟩ : ∃ W2, (storeCells ⟨w.heap.size, 0, none⟩ cs).run Tryz.prog ((w.alloc (.cells cs.toArray 29)).alloc tab0) = .ok () W2 ∧ W2.rangeAt w.heap.size 0 cs ∧ Below w.heap.size w W2 := by
    have ht : ((w.alloc (.cells cs.toArray 29)).alloc tab0).there w.heap.size 0 cs.length :=
      World.there_alloc (there43 _ cs.toArray 29 _ (World.alloc_heap_new w _) _ (by simp)) _
    have := run_storeCells_cells (P := Tryz.prog) w.heap.size 0 cs 0 ((w.alloc (.cells cs.toArray 29)).alloc tab0) (fun j hj => by simpa using (ht j hj).1) (fun j hj => (ht j hj).2) h1
    refine ⟨_, by simpa using this, ?_, ?_⟩
    · exact World.rangeAt_setCells_same _ _ _ _ ht
    · exact below_setCells (Nat.le_refl _) cs 0 w _ (((Below.refl _ w).alloc (Nat.le_refl _) _).alloc (by simp) _)
  have hld : (loadVar 29 ⟨w.heap.size, 0, none⟩).run Tryz.prog W2 = .ok (.agg cs.toArray) W2 := run_loadVar_mid W2 w.heap.size 0 29 cs _ hr Tryz.underlying29 rfl (by rw [hi, h43])
  go_enter Tryz.func4, Tryz.ntmps4
  go_wp2_with (first | (go_at_call 7; refine (Len_nil _).mono ?_; rintro e w' ⟨rfl, rfl⟩))
  exact bodyPost_ret (v := .tuple #[.agg cs.toArray, .bool false]) (results_cell2 (show Tryz.f4.results = #[.cell 4 29, .tmp 5] from Tryz.results4) _ _ _ _ _ rfl hld) rfl ⟨⟨cs, rfl, h43, h0, h1⟩, hbel⟩

set_option maxRecDepth 100000 in
set_option maxHeartbeats 1000000 in
theorem Find_nil (w : World) :
    Calls Tryz.prog 5 #[.pointer none, .agg #[.string ⟨#[97, 97]⟩, .string ⟨#[49]⟩]] w fun e w' => e = .returned (.tuple #[.int .i64 0, .bool false]) ∧ Below w.heap.size w w' := by
  have hlk := look49
  go_enter Tryz.func5, Tryz.ntmps5
  go_wp2
  go_region_with (go_at_call 13; refine (orNothing_nil _).mono ?_; rintro e w' ⟨rfl, rfl⟩)
  all_goals
    go_wp2
    go_ret2
    refine ⟨rfl, ?_⟩
    repeat (first | exact (((Below.refl _ _).alloc (Nat.le_refl _) _).alloc (by simp) _) | refine Below.drew ?_)

end Go.Proofs.YtlknhpeeemhfgaaGreatDoor
