import Derived.Test.YtokgegbodbnimaaMsI
namespace Go.Proofs.Ytokgegbodbnimaa
open Go.RowKit Go.Maps

def Opn.fN : Opn → FuncId
  | .wr .. => 94
  | .ap .. => 96
  | .tr .. => 100
  | .rn .. => 102
  | .rm .. => 98
def Opn.fO : Opn → FuncId
  | .wr .. => 95
  | .ap .. => 97
  | .tr .. => 101
  | .rn .. => 103
  | .rm .. => 99
set_option maxRecDepth 100000 in
theorem methN (o : Opn) (w : World) : (method 242 o.ty o.ag "larder/store.names").run Try.prog w = .ok (o.fN, o.ag) w := by
  cases o <;> rfl
set_option maxRecDepth 100000 in
theorem methO (o : Opn) (w : World) : (method 242 o.ty o.ag "larder/store.on").run Try.prog w = .ok (o.fO, o.ag) w := by
  cases o <;> rfl
/-- NAMES IN NEW MEMORY. -/
def Ns (lo : Nat) (L : List Nm) (v : Value) (W : World) : Prop := ∃ g, v = .slice (some ⟨g, 0, none⟩) L.length L.length ∧ lo ≤ g ∧ W.heap[g]? = some (.cells (L.map Value.string).toArray 9 (0, 0))
theorem heap_new (w : World) (o : Obj) : (w.alloc o).heap[w.heap.size]? = some o := World.alloc_heap_new w o
theorem heap_new1 (w : World) (o p : Obj) : ((w.alloc o).alloc p).heap[w.heap.size + 1]? = some p := by
  have := World.alloc_heap_new (w.alloc o) p
  rwa [World.size_alloc] at this
set_option maxRecDepth 100000 in
set_option maxHeartbeats 4000000 in
theorem names_any (o : Opn) (W : World) : Calls Try.prog o.fN #[o.ag] W fun v W' => ∃ x, v = .returned x ∧ Ns W.heap.size o.nms x W' ∧ Below W.heap.size W W' := by
  cases o with
  | wr x f bs =>
    show Calls Try.prog 94 #[.agg #[.string x, .slice f.a f.n f.c]] W _
    go_enter Try.func94, Try.ntmps94
    go_wp2_with fail
    go_ret
    exact ⟨_, rfl, ⟨W.heap.size + 1, rfl, by omega, heap_new1 _ _ _⟩, ((Below.refl _ _).alloc (Nat.le_refl _) _).alloc (by simp) _⟩
  | ap x f bs =>
    show Calls Try.prog 96 #[.agg #[.string x, .slice f.a f.n f.c]] W _
    go_enter Try.func96, Try.ntmps96
    go_wp2_with fail
    go_ret
    exact ⟨_, rfl, ⟨W.heap.size + 1, rfl, by omega, heap_new1 _ _ _⟩, ((Below.refl _ _).alloc (Nat.le_refl _) _).alloc (by simp) _⟩
  | tr x n =>
    show Calls Try.prog 100 #[.agg #[.string x, .int .i64 n]] W _
    go_enter Try.func100, Try.ntmps100
    go_wp2_with fail
    go_ret
    exact ⟨_, rfl, ⟨W.heap.size + 1, rfl, by omega, heap_new1 _ _ _⟩, ((Below.refl _ _).alloc (Nat.le_refl _) _).alloc (by simp) _⟩
  | rn x y =>
    show Calls Try.prog 102 #[.agg #[.string x, .string y]] W _
    go_enter Try.func102, Try.ntmps102
    go_wp2_with fail
    go_ret
    exact ⟨_, rfl, ⟨W.heap.size + 1, rfl, by omega, heap_new1 _ _ _⟩, ((Below.refl _ _).alloc (Nat.le_refl _) _).alloc (by simp) _⟩
  | rm x =>
    show Calls Try.prog 98 #[.agg #[.string x]] W _
    go_enter Try.func98, Try.ntmps98
    go_wp2_with fail
    go_ret
    exact ⟨_, rfl, ⟨W.heap.size + 1, rfl, by omega, heap_new1 _ _ _⟩, ((Below.refl _ _).alloc (Nat.le_refl _) _).alloc (by simp) _⟩
end Go.Proofs.Ytokgegbodbnimaa
