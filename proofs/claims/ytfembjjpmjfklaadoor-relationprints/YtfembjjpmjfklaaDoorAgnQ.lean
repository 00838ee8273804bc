import Derived.Test.YtfembjjpmjfklaaDoorAgnP
import Derived.Test.YtfembjjpmjfklaaDoorRefE
namespace Go.Proofs.YtfembjjpmjfklaaDoor
open Go.RowKit

def zz : Am := ⟨⟨#[122, 122]⟩, 3, ⟨#[49]⟩⟩
def yy : Am := ⟨⟨#[121, 121]⟩, 0, ⟨#[]⟩⟩
def xx : ByteArray := ⟨#[120, 120]⟩

/-- WHAT STANDS WHILE THE CLAUSES ARE WRITTEN OVER. -/
def SG (lo sA sN : Nat) (W0 : World) (M : Nat) (ms : List Value) (va : Value) (al : List Am) (vn : Value) (nl : List ByteArray) (N i k : Nat) (W : World) : Prop :=
  ∃ cl : List (List Am), cl.length = N ∧ AG lo sA sN W0 W M ms cl va al vn nl ∧ Ov zz cl i k
theorem SG.later {lo sA sN : Nat} {W0 : World} {M : Nat} {ms : List Value} {va : Value} {al : List Am} {vn : Value} {nl : List ByteArray} {N i k : Nat} {W : World} {W' : World} (h : SG lo sA sN W0 M ms va al vn nl N i k W) (hb : Below W.heap.size W W') : SG lo sA sN W0 M ms va al vn nl N i k W' := by
  obtain ⟨cl, h1, h2, h3⟩ := h
  exact ⟨cl, h1, h2.later h2.size hb, h3⟩
theorem SG.elem {lo sA sN : Nat} {W0 : World} {M : Nat} {ms : List Value} {va : Value} {al : List Am} {vn : Value} {nl : List ByteArray} {N i k : Nat} {W : World} (h : SG lo sA sN W0 M ms va al vn nl N i k W) {j : Nat} (hj : j < N) : ∃ C L, ms[j]? = some (.slice (some ⟨C, 0, none⟩) L (L + 1)) := by
  obtain ⟨cl, h1, h2, h3⟩ := h
  obtain ⟨x, e1, C, rfl, -⟩ := h2.lf.el j (by omega) (by omega)
  exact ⟨C, _, e1⟩
theorem SG.cell {lo sA sN : Nat} {W0 : World} {M : Nat} {ms : List Value} {va : Value} {al : List Am} {vn : Value} {nl : List ByteArray} {N i k : Nat} {W : World} (h : SG lo sA sN W0 M ms va al vn nl N i k W) {j : Nat} {x : Value} (hx : ms[j]? = some x) : W.cell? ⟨M, j, none⟩ = some x ∧ M < W.heap.size := by
  obtain ⟨cl, h1, h2, h3⟩ := h
  have h0 := h2.lf.row.cells (g := M) rfl j _ hx
  rw [Go.WideShapes.add_plain, Nat.zero_add] at h0
  exact ⟨h0, h2.lf.ltM.2⟩
theorem SG.one {lo sA sN : Nat} {W0 : World} {M : Nat} {ms : List Value} {va : Value} {al : List Am} {vn : Value} {nl : List ByteArray} {N i k : Nat} {W : World} (h : SG lo sA sN W0 M ms va al vn nl N i k W) {j C L : Nat} (hj : j < N) (hx : ms[j]? = some (.slice (some ⟨C, 0, none⟩) L (L + 1))) : ∃ cl, ∃ hj' : j < cl.length, cl.length = N ∧ AG lo sA sN W0 W M ms cl va al vn nl ∧ Ov zz cl i k ∧ cl[j].length = L ∧ OwnA lo W (.slice (some ⟨C, 0, none⟩) L (L + 1)) cl[j] := by
  obtain ⟨cl, h1, h2, h3⟩ := h
  have hj' : j < cl.length := by omega
  obtain ⟨x, e1, hE⟩ := h2.lf.el j hj' hj'
  have ho := hE.own
  obtain ⟨C', e, -⟩ := hE
  rw [hx] at e1
  cases e1
  have hL : L = cl[j].length := by injection e
  exact ⟨cl, hj', h1, h2, h3, hL.symm, ho⟩
theorem SG.spots {lo sA sN : Nat} {W0 : World} {M : Nat} {ms : List Value} {va : Value} {al : List Am} {vn : Value} {nl : List ByteArray} {N i k : Nat} {W : World} (h : SG lo sA sN W0 M ms va al vn nl N i k W) {j C L : Nat} (hj : j < N) (hx : ms[j]? = some (.slice (some ⟨C, 0, none⟩) L (L + 1))) {m : Nat} (hm : m < L) :
    C < W.heap.size ∧ (∃ y : Am, W.cell? ⟨C, m * 3, none⟩ = some (.string y.n) ∧ W.cell? ⟨C, m * 3 + 1, none⟩ = some (.int .i64 y.op) ∧ W.cell? ⟨C, m * 3 + 2, none⟩ = some (.string y.v)) ∧ W.frozen? ⟨C, m * 3, none⟩ = false ∧ W.frozen? ⟨C, m * 3 + 1, none⟩ = false ∧ W.frozen? ⟨C, m * 3 + 2, none⟩ = false := by
  obtain ⟨cl, hj', h1, h2, h3, hL, ho⟩ := h.one hj hx
  obtain ⟨q0, q1, q2⟩ := ho.cells m (by omega)
  have hf : ∀ o, W.frozen? ⟨C, o, none⟩ = false := fun o => ownsRow_free (n := L) (by have h := ho; unfold OwnA at h; rw [hL] at h; exact h) o
  exact ⟨(World.ownsRow.lt ho C rfl).2, ⟨_, q0, q1, q2⟩, hf _, hf _, hf _⟩
theorem SG.put {lo sA sN : Nat} {W0 : World} {M : Nat} {ms : List Value} {va : Value} {al : List Am} {vn : Value} {nl : List ByteArray} {N i k : Nat} {W : World} (h : SG lo sA sN W0 M ms va al vn nl N i k W) {C L : Nat} (hi : i < N) (hx : ms[i]? = some (.slice (some ⟨C, 0, none⟩) L (L + 1))) (hk : k < L) :
    SG lo sA sN W0 M ms va al vn nl N i (k + 1) (((W.setCell ⟨C, k * 3, none⟩ (.string ⟨#[122, 122]⟩)).setCell ⟨C, k * 3 + 1, none⟩ (.int .i64 3)).setCell ⟨C, k * 3 + 2, none⟩ (.string ⟨#[49]⟩)) := by
  obtain ⟨cl, hj', h1, h2, h3, hL, ho⟩ := h.one hi hx
  exact ⟨_, by rw [List.length_set]; exact h1, h2.setL hj' hx hk zz, h3.put hj'⟩
theorem SG.next {lo sA sN : Nat} {W0 : World} {M : Nat} {ms : List Value} {va : Value} {al : List Am} {vn : Value} {nl : List ByteArray} {N i : Nat} {W : World} {C L : Nat} (h : SG lo sA sN W0 M ms va al vn nl N i L W) (hi : i < N) (hx : ms[i]? = some (.slice (some ⟨C, 0, none⟩) L (L + 1))) : SG lo sA sN W0 M ms va al vn nl N (i + 1) 0 W := by
  obtain ⟨cl, hj', h1, h2, h3, hL, ho⟩ := h.one hi hx
  exact ⟨cl, h1, h2, Ov.next hj' (by rw [hL]; exact h3)⟩
theorem SG.bel {lo sA sN : Nat} {W0 : World} {M : Nat} {ms : List Value} {va : Value} {al : List Am} {vn : Value} {nl : List ByteArray} {N i k : Nat} {W : World} (h : SG lo sA sN W0 M ms va al vn nl N i k W) : Below lo W0 W := by obtain ⟨cl, h1, h2, h3⟩ := h; exact h2.bel
/-- .. THE ATOMS, THE NAMES. -/
def SA (lo sA sN : Nat) (W0 : World) (M : Nat) (ms : List Value) (va : Value) (vn : Value) (N La Ln j q : Nat) (W : World) : Prop :=
  ∃ al nl, al.length = La ∧ nl.length = Ln ∧ (∀ m (h : m < al.length), m < j → al[m] = yy) ∧ (∀ m (h : m < nl.length), m < q → nl[m] = xx) ∧ SG lo sA sN W0 M ms va al vn nl N N 0 W
theorem SA.later {lo sA sN : Nat} {W0 : World} {M : Nat} {ms : List Value} {va : Value} {vn : Value} {N La Ln j q : Nat} {W : World} {W' : World} (h : SA lo sA sN W0 M ms va vn N La Ln j q W) (hb : Below W.heap.size W W') : SA lo sA sN W0 M ms va vn N La Ln j q W' := by
  obtain ⟨al, nl, h1, h2, h3, h4, h5⟩ := h
  exact ⟨al, nl, h1, h2, h3, h4, h5.later hb⟩
theorem SA.bel {lo sA sN : Nat} {W0 : World} {M : Nat} {ms : List Value} {va : Value} {vn : Value} {N La Ln j q : Nat} {W : World} (h : SA lo sA sN W0 M ms va vn N La Ln j q W) : Below lo W0 W := by obtain ⟨al, nl, h1, h2, h3, h4, h5⟩ := h; exact h5.bel
theorem SA.addrA {lo sA sN : Nat} {W0 : World} {M : Nat} {ms : List Value} {vn : Value} {N La Ln j q : Nat} {W : World} {aa : Option Addr} {ca : Nat} (h : SA lo sA sN W0 M ms (.slice aa La ca) vn N La Ln j q W) (hL : 0 < La) : ∃ C, aa = some ⟨C, 0, none⟩ := by
  obtain ⟨al, nl, h1, h2, h3, h4, cl, h5, h6, h7⟩ := h
  rcases h6.a.2 with ⟨e, _⟩ | ⟨g, cap, cur, e, _⟩
  · cases e; omega
  · cases e; exact ⟨g, rfl⟩
theorem SA.addrN {lo sA sN : Nat} {W0 : World} {M : Nat} {ms : List Value} {va : Value} {N La Ln j q : Nat} {W : World} {aa : Option Addr} {ca : Nat} (h : SA lo sA sN W0 M ms va (.slice aa Ln ca) N La Ln j q W) (hL : 0 < Ln) : ∃ C, aa = some ⟨C, 0, none⟩ := by
  obtain ⟨al, nl, h1, h2, h3, h4, cl, h5, h6, h7⟩ := h
  rcases h6.n.2 with ⟨e, _⟩ | ⟨g, cap, cur, e, _⟩
  · cases e; omega
  · cases e; exact ⟨g, rfl⟩
theorem SA.spotsA {lo sA sN : Nat} {W0 : World} {M : Nat} {ms : List Value} {vn : Value} {N La Ln j q : Nat} {W : World} {C ca : Nat} (h : SA lo sA sN W0 M ms (.slice (some ⟨C, 0, none⟩) La ca) vn N La Ln j q W) {m : Nat} (hm : m < La) :
    C < W.heap.size ∧ (∃ y : Am, W.cell? ⟨C, m * 3, none⟩ = some (.string y.n) ∧ W.cell? ⟨C, m * 3 + 1, none⟩ = some (.int .i64 y.op) ∧ W.cell? ⟨C, m * 3 + 2, none⟩ = some (.string y.v)) ∧ W.frozen? ⟨C, m * 3, none⟩ = false ∧ W.frozen? ⟨C, m * 3 + 1, none⟩ = false ∧ W.frozen? ⟨C, m * 3 + 2, none⟩ = false := by
  obtain ⟨al, nl, h1, h2, h3, h4, cl, h5, h6, h7⟩ := h
  obtain ⟨q0, q1, q2⟩ := h6.a.cells m (by omega)
  have hf : ∀ o, W.frozen? ⟨C, o, none⟩ = false := fun o => ownsRow_free (n := La) (by have h := h6.a; unfold OwnA at h; rw [h1] at h; exact h) o
  exact ⟨(World.ownsRow.lt h6.a C rfl).2, ⟨_, q0, q1, q2⟩, hf _, hf _, hf _⟩
theorem SA.putA {lo sA sN : Nat} {W0 : World} {M : Nat} {ms : List Value} {vn : Value} {N La Ln j q : Nat} {W : World} {C ca : Nat} (h : SA lo sA sN W0 M ms (.slice (some ⟨C, 0, none⟩) La ca) vn N La Ln j q W) (hj : j < La) :
    SA lo sA sN W0 M ms (.slice (some ⟨C, 0, none⟩) La ca) vn N La Ln (j + 1) q (((W.setCell ⟨C, j * 3, none⟩ (.string ⟨#[121, 121]⟩)).setCell ⟨C, j * 3 + 1, none⟩ (.int .i64 0)).setCell ⟨C, j * 3 + 2, none⟩ (.string ⟨#[]⟩)) := by
  obtain ⟨al, nl, h1, h2, h3, h4, cl, h5, h6, h7⟩ := h
  refine ⟨al.set j yy, nl, by rw [List.length_set]; exact h1, h2, fun m hm hmj => ?_, h4, cl, h5, h6.setA h1 hj yy, h7⟩
  by_cases e : m = j
  · subst e; simp
  · rw [List.getElem_set_ne (fun e' => e e'.symm)]
    exact h3 m (by rw [List.length_set] at hm; exact hm) (by omega)
theorem SA.spotsN {lo sA sN : Nat} {W0 : World} {M : Nat} {ms : List Value} {va : Value} {N La Ln j q : Nat} {W : World} {Q ca : Nat} (h : SA lo sA sN W0 M ms va (.slice (some ⟨Q, 0, none⟩) Ln ca) N La Ln j q W) {m : Nat} (hm : m < Ln) :
    Q < W.heap.size ∧ (∃ y, W.cell? ⟨Q, m, none⟩ = some (.string y)) ∧ W.frozen? ⟨Q, m, none⟩ = false := by
  obtain ⟨al, nl, h1, h2, h3, h4, cl, h5, h6, h7⟩ := h
  have hn : World.ownsRow W lo 9 1 (.slice (some ⟨Q, 0, none⟩) Ln ca) Ln (nl.map Value.string) := by have h := h6.n; unfold OwnS at h; rw [h2] at h; exact h
  have q0 := hn.cells (g := Q) rfl m (.string (nl[m]'(by omega))) (by rw [List.getElem?_map, List.getElem?_eq_getElem (by omega)]; rfl)
  rw [Go.WideShapes.add_plain, Nat.zero_add] at q0
  exact ⟨(hn.lt Q rfl).2, ⟨_, q0⟩, ownsRow_free hn m⟩
theorem SA.putN {lo sA sN : Nat} {W0 : World} {M : Nat} {ms : List Value} {va : Value} {N La Ln j q : Nat} {W : World} {Q ca : Nat} (h : SA lo sA sN W0 M ms va (.slice (some ⟨Q, 0, none⟩) Ln ca) N La Ln j q W) (hq : q < Ln) :
    SA lo sA sN W0 M ms va (.slice (some ⟨Q, 0, none⟩) Ln ca) N La Ln j (q + 1) (W.setCell ⟨Q, q, none⟩ (.string ⟨#[120, 120]⟩)) := by
  obtain ⟨al, nl, h1, h2, h3, h4, cl, h5, h6, h7⟩ := h
  refine ⟨al, nl.set q xx, h1, by rw [List.length_set]; exact h2, h3, fun m hm hmj => ?_, cl, h5, h6.setN h2 hq xx, h7⟩
  by_cases e : m = q
  · subst e; simp
  · rw [List.getElem_set_ne (fun e' => e e'.symm)]
    exact h4 m (by rw [List.length_set] at hm; exact hm) (by omega)
/-- AT THE END: what is asked then. -/
theorem ams_of {lo : Nat} {W : World} {v : Value} {al : List Am} (h : OwnA lo W v al) : Ams W v al := by
  have h0 := h
  rcases h.2 with ⟨rfl, e⟩ | ⟨g, cap, cur, rfl, _⟩
  · exact ⟨_, _, by rw [e], by omega, fun i hi => absurd hi (by omega)⟩
  · exact h0.amsB
theorem sts_of {lo : Nat} {W : World} {v : Value} {nl : List ByteArray} (h : OwnS lo W v nl) : Sts W v nl := by
  rcases h.2 with ⟨rfl, h0⟩ | ⟨g, cap, cur, rfl, _, _, e4, e5, _⟩
  · exact ⟨_, _, by rw [h0], by omega, fun i hi => absurd hi (by omega)⟩
  · refine ⟨_, _, rfl, by unfold maxLen at e5; omega, fun i hi => ⟨g, 0, rfl, (World.ownsRow.lt h g rfl).2, ?_⟩⟩
    have q0 := World.ownsRow.cells (g := g) h rfl i (.string nl[i]) (by rw [List.getElem?_map, List.getElem?_eq_getElem hi]; rfl)
    rw [Go.WideShapes.add_plain] at q0
    exact q0

end Go.Proofs.YtfembjjpmjfklaaDoor
