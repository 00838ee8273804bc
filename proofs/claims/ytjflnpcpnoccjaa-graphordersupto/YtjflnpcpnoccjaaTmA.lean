import Derived.Test.YtjflnpcpnoccjaaGrP
namespace Go.Proofs.Ytjflnpcpnoccjaa

/-- WHO REACHES WHOM. -/
def Rch (E : Nat → Nat → Prop) (u v : Nat) : Prop := ∃ k, Wk E (fun x => x = u) k v
theorem Rch.refl (E : Nat → Nat → Prop) (u : Nat) : Rch E u u := ⟨0, rfl⟩
theorem Rch.tail {E : Nat → Nat → Prop} {u v w : Nat} (h : Rch E u v) (e : E v w) : Rch E u w := by
  obtain ⟨k, hk⟩ := h
  exact ⟨k + 1, v, hk, e⟩
theorem Rch.trans {E : Nat → Nat → Prop} {u v w : Nat} (h : Rch E u v) (h2 : Rch E v w) : Rch E u w := by
  obtain ⟨k, hk⟩ := h2
  induction k generalizing w with
  | zero =>
    have : w = v := hk
    rw [this]; exact h
  | succ k ih =>
    obtain ⟨x, hx, e⟩ := hk
    exact (ih hx).tail e
theorem Rch.closed {E : Nat → Nat → Prop} {p : Nat → Prop} (hp : ∀ x w, p x → E x w → p w) {u v : Nat} (h : Rch E u v) (hu : p u) : p v := by
  obtain ⟨k, hk⟩ := h
  induction k generalizing v with
  | zero =>
    have : v = u := hk
    rw [this]; exact hu
  | succ k ih =>
    obtain ⟨x, hx, e⟩ := hk
    exact hp x v (ih hx) e
def up (f : Nat → Nat) (u x v : Nat) : Nat := if v = u then x else f v
theorem up_same (f : Nat → Nat) (u x : Nat) : up f u x u = x := if_pos rfl
theorem up_ne (f : Nat → Nat) (u x : Nat) {v : Nat} (h : v ≠ u) : up f u x v = f v := if_neg h
/-- THE SEARCH: ranks, least ranks, heads, the open ones, the frames (the topmost first), how many have been come upon. -/
structure Ts where
  rk : Nat → Nat
  lw : Nat → Nat
  hd : Nat → Int
  op : List Nat
  fr : List (Nat × Nat)
  sn : Nat
/-- A FRAME, WITH THE NODE OF THE ONE ABOVE IT. -/
structure FC (ln : Nat → Nat) (L : Nat → Nat → Int) (s : Ts) (a : Option Nat) (v nx : Nat) : Prop where
  mem : v ∈ s.op
  nle : nx ≤ ln v
  ord : ∀ q, a = some q → s.rk v < s.rk q
  edg : ∀ i, i < nx → ∀ w : Nat, L v i = (w : Int) → s.hd w ≠ -1 ∨ (w ∈ s.op ∧ s.lw v ≤ s.rk w) ∨ a = some w
  sub : ∀ x, x ∈ s.op → s.rk v < s.rk x → (∀ q, a = some q → s.rk x < s.rk q) → s.lw v ≤ s.lw x
def FO (ln : Nat → Nat) (L : Nat → Nat → Int) (s : Ts) : Option Nat → List (Nat × Nat) → Prop
  | _, [] => True
  | a, (v, nx) :: r => FC ln L s a v nx ∧ FO ln L s (some v) r
theorem FO.mem {ln : Nat → Nat} {L : Nat → Nat → Int} {s : Ts} : ∀ {st : List (Nat × Nat)} {a : Option Nat}, FO ln L s a st → ∀ f, f ∈ st → f.1 ∈ s.op ∧ ∀ q, a = some q → s.rk f.1 < s.rk q
  | [], _, _, f, hf => absurd hf List.not_mem_nil
  | (v, nx) :: r, a, h, f, hf => by
    rcases List.mem_cons.1 hf with rfl | hf
    · exact ⟨h.1.mem, h.1.ord⟩
    · obtain ⟨h1, h2⟩ := FO.mem h.2 f hf
      refine ⟨h1, fun q e => ?_⟩
      have := h2 v rfl
      have := h.1.ord q e
      omega
/-- Frames below stay frames. -/
theorem FO.imp {ln : Nat → Nat} {L : Nat → Nat → Int} {s s2 : Ts} : ∀ {st : List (Nat × Nat)} {b : Nat}, FO ln L s (some b) st →
    (∀ v nx q, s.rk q ≤ s.rk b → FC ln L s (some q) v nx → FC ln L s2 (some q) v nx) → FO ln L s2 (some b) st
  | [], _, _, _ => trivial
  | (v, nx) :: r, b, h, k => ⟨k v nx b (Nat.le_refl _) h.1, FO.imp h.2 fun v2 nx2 q hq hc => k v2 nx2 q (by have := h.1.ord b rfl; omega) hc⟩
/-- THE INVARIANT. -/
structure Tj (N : Nat) (ln : Nat → Nat) (L : Nat → Nat → Int) (s : Ts) : Prop where
  o1 : ∀ x, x ∈ s.op → x < N ∧ 0 < s.rk x ∧ s.hd x = -1
  o2 : ∀ x, x < N → 0 < s.rk x → s.hd x = -1 → x ∈ s.op
  os : s.op.Pairwise fun a b => s.rk a < s.rk b
  rs : ∀ x, x < N → s.rk x ≤ s.sn
  w0 : ∀ x, x < N → s.rk x = 0 → s.hd x = -1
  fo : FO ln L s none s.fr
  fA : ∀ f, f ∈ s.fr → ∀ x, x ∈ s.op → s.rk f.1 ≤ s.rk x → Rch (Eg N ln L) f.1 x
  f0 : ∀ x, x ∈ s.op → ∃ f, f ∈ s.fr ∧ s.rk f.1 ≤ s.rk x
  l0 : ∀ x, x ∈ s.op → 0 < s.lw x ∧ s.lw x ≤ s.rk x
  l1 : ∀ x, x ∈ s.op → ∃ y, y ∈ s.op ∧ s.rk y = s.lw x ∧ Rch (Eg N ln L) x y
  fin : ∀ x, x ∈ s.op → (∀ f, f ∈ s.fr → f.1 ≠ x) → s.lw x < s.rk x ∧ ∀ i, i < ln x → ∀ w : Nat, L x i = (w : Int) → s.hd w ≠ -1 ∨ (w ∈ s.op ∧ s.lw x ≤ s.rk w)
  D : ∀ x, x < N → s.hd x ≠ -1 → ∀ w, Eg N ln L x w → s.hd w ≠ -1
  S : ∀ x y, x < N → y < N → s.hd x ≠ -1 → s.hd y ≠ -1 → (s.hd x = s.hd y ↔ Rch (Eg N ln L) x y ∧ Rch (Eg N ln L) y x)
  H : ∀ x, x < N → s.hd x ≠ -1 → ∃ h : Nat, h < N ∧ s.hd x = (h : Int) ∧ s.hd h = (h : Int)
  len1 : s.op.length ≤ s.sn
  len2 : s.fr.length ≤ s.sn
  cw : s.sn + cnt (fun v => if s.rk v = 0 then -1 else 0) N = N
theorem Tj.start (N : Nat) (ln : Nat → Nat) (L : Nat → Nat → Int) : Tj N ln L ⟨fun _ => 0, fun _ => 0, fun _ => -1, [], [], 0⟩ where
  o1 := fun x hx => absurd hx List.not_mem_nil
  o2 := fun x _ h => absurd h (Nat.lt_irrefl _)
  os := List.Pairwise.nil
  rs := fun _ _ => Nat.le_refl _
  w0 := fun _ _ _ => rfl
  fo := trivial
  fA := fun f hf => absurd hf List.not_mem_nil
  f0 := fun x hx => absurd hx List.not_mem_nil
  l0 := fun x hx => absurd hx List.not_mem_nil
  l1 := fun x hx => absurd hx List.not_mem_nil
  fin := fun x hx => absurd hx List.not_mem_nil
  D := fun x _ h => absurd rfl h
  S := fun x _ _ _ h => absurd rfl h
  H := fun x _ h => absurd rfl h
  len1 := Nat.le_refl _
  len2 := Nat.le_refl _
  cw := by
    show 0 + cnt (fun _ => if (0 : Nat) = 0 then -1 else 0) N = N
    have h : ∀ N, cnt (fun _ => if (0 : Nat) = 0 then (-1 : Int) else 0) N = N := by
      intro N
      induction N with
      | zero => rfl
      | succ N ih => rw [cnt_succ, ih]; simp
    rw [h]
    omega
/-- One edge of the topmost frame has been looked at. -/
def bump : List (Nat × Nat) → List (Nat × Nat)
  | [] => []
  | (v, nx) :: r => (v, nx + 1) :: r
theorem bump_fst (st : List (Nat × Nat)) (f : Nat × Nat) (h : f ∈ bump st) : ∃ g, g ∈ st ∧ g.1 = f.1 := by
  cases st with
  | nil => exact absurd h List.not_mem_nil
  | cons a r =>
    obtain ⟨v, nx⟩ := a
    rcases List.mem_cons.1 h with rfl | h
    · exact ⟨(v, nx), List.mem_cons_self, rfl⟩
    · exact ⟨f, List.mem_cons_of_mem _ h, rfl⟩
theorem bump_len (st : List (Nat × Nat)) : (bump st).length = st.length := by cases st <;> rfl
theorem bump_snd (st : List (Nat × Nat)) (g : Nat × Nat) (h : g ∈ st) : ∃ f, f ∈ bump st ∧ f.1 = g.1 := by
  cases st with
  | nil => exact absurd h List.not_mem_nil
  | cons a r =>
    obtain ⟨v, nx⟩ := a
    rcases List.mem_cons.1 h with rfl | h
    · exact ⟨(v, nx + 1), List.mem_cons_self, rfl⟩
    · exact ⟨g, List.mem_cons_of_mem _ h, rfl⟩
/-- A NODE IS COME UPON. -/
theorem Tj.enter {N : Nat} {ln : Nat → Nat} {L : Nat → Nat → Int} {s : Ts} (h : Tj N ln L s) {u : Nat} (hu : u < N) (hw : s.rk u = 0) (htop : ∀ v nx r, s.fr = (v, nx) :: r → nx < ln v ∧ L v nx = (u : Int) ∧ v < N) :
    Tj N ln L ⟨up s.rk u (s.sn + 1), up s.lw u (s.sn + 1), s.hd, s.op ++ [u], (u, 0) :: bump s.fr, s.sn + 1⟩ := by
  have hno : u ∉ s.op := fun q => by have := (h.o1 u q).2.1; omega
  have hne : ∀ x, x ∈ s.op → x ≠ u := fun x hx e => hno (e ▸ hx)
  have hrk : ∀ x, x ∈ s.op → up s.rk u (s.sn + 1) x = s.rk x := fun x hx => up_ne _ _ _ (hne x hx)
  have hlw : ∀ x, x ∈ s.op → up s.lw u (s.sn + 1) x = s.lw x := fun x hx => up_ne _ _ _ (hne x hx)
  have hle : ∀ x, x ∈ s.op → s.rk x ≤ s.sn := fun x hx => h.rs x (h.o1 x hx).1
  have hsame := up_same s.rk u (s.sn + 1)
  have hsl := up_same s.lw u (s.sn + 1)
  have hmem := FO.mem h.fo
  have hfc : ∀ a a2 v nx, (∀ q, a2 = some q → a = some q ∨ (a = none ∧ q = u)) → (∀ q, a = some q → a2 = some q ∧ q ∈ s.op) → FC ln L s a v nx → FC ln L ⟨up s.rk u (s.sn + 1), up s.lw u (s.sn + 1), s.hd, s.op ++ [u], (u, 0) :: bump s.fr, s.sn + 1⟩ a2 v nx := by
    intro a a2 v nx ha ha2 hc
    refine ⟨List.mem_append_left _ hc.mem, hc.nle, fun q e => ?_, fun i hi w e => ?_, fun x hx hlt hq => ?_⟩
    · show up s.rk u (s.sn + 1) v < up s.rk u (s.sn + 1) q
      rw [hrk v hc.mem]
      rcases ha q e with e1 | ⟨_, rfl⟩
      · rw [hrk q (ha2 q e1).2]
        exact hc.ord q e1
      · rw [hsame]
        have := hle v hc.mem
        omega
    · rcases hc.edg i hi w e with q | ⟨q1, q2⟩ | q
      · exact .inl q
      · refine .inr (.inl ⟨List.mem_append_left _ q1, ?_⟩)
        show up s.lw u (s.sn + 1) v ≤ up s.rk u (s.sn + 1) w
        rw [hlw v hc.mem, hrk w q1]
        exact q2
      · exact .inr (.inr (ha2 w q).1)
    · show up s.lw u (s.sn + 1) v ≤ up s.lw u (s.sn + 1) x
      have hlt2 : up s.rk u (s.sn + 1) v < up s.rk u (s.sn + 1) x := hlt
      rcases List.mem_append.1 hx with hx | hx
      · rw [hlw v hc.mem, hlw x hx]
        rw [hrk v hc.mem, hrk x hx] at hlt2
        refine hc.sub x hx hlt2 fun q e => ?_
        have h1 : up s.rk u (s.sn + 1) x < up s.rk u (s.sn + 1) q := hq q (ha2 q e).1
        rw [hrk x hx, hrk q (ha2 q e).2] at h1
        exact h1
      · rw [List.mem_singleton] at hx
        subst hx
        rw [hlw v hc.mem, hsl]
        have := (h.l0 v hc.mem).2
        have := hle v hc.mem
        omega
  have hbelow : ∀ {st : List (Nat × Nat)} {a : Nat}, a ∈ s.op → FO ln L s (some a) st → FO ln L ⟨up s.rk u (s.sn + 1), up s.lw u (s.sn + 1), s.hd, s.op ++ [u], (u, 0) :: bump s.fr, s.sn + 1⟩ (some a) st := by
    intro st
    induction st with
    | nil => exact fun _ _ => trivial
    | cons f r ih =>
      obtain ⟨v, nx⟩ := f
      intro a ha hf
      exact ⟨hfc (some a) (some a) v nx (fun q e => .inl e) (fun q e => ⟨e, by cases e; exact ha⟩) hf.1, ih hf.1.mem hf.2⟩
  refine ⟨fun x hx => ?_, fun x hx h1 h2 => ?_, ?_, fun x hx => ?_, fun x hx h1 => ?_, ⟨?_, ?_⟩, fun f hf x hx hle2 => ?_, fun x hx => ?_, fun x hx => ?_, fun x hx => ?_, fun x hx hnf => ?_, h.D, h.S, h.H, ?_, ?_, ?_⟩
  · rcases List.mem_append.1 hx with hx | hx
    · show x < N ∧ 0 < up s.rk u (s.sn + 1) x ∧ s.hd x = -1
      rw [hrk x hx]
      exact h.o1 x hx
    · rw [List.mem_singleton] at hx
      subst hx
      exact ⟨hu, by show 0 < up s.rk x (s.sn + 1) x; rw [hsame]; omega, h.w0 x hu hw⟩
  · by_cases e : x = u
    · subst e; exact List.mem_append_right _ (List.mem_singleton.2 rfl)
    · have h3 : 0 < up s.rk u (s.sn + 1) x := h1
      rw [up_ne _ _ _ e] at h3
      exact List.mem_append_left _ (h.o2 x hx h3 h2)
  · refine List.pairwise_append.2 ⟨?_, List.pairwise_singleton _ _, fun a ha b hb => ?_⟩
    · refine (List.Pairwise.and_mem.1 h.os).imp fun {a b} q => ?_
      obtain ⟨q1, q2, q3⟩ := q
      show up s.rk u (s.sn + 1) a < up s.rk u (s.sn + 1) b
      rw [hrk a q1, hrk b q2]
      exact q3
    · rw [List.mem_singleton] at hb
      subst hb
      show up s.rk b (s.sn + 1) a < up s.rk b (s.sn + 1) b
      rw [hrk a ha, hsame]
      have := hle a ha
      omega
  · show up s.rk u (s.sn + 1) x ≤ s.sn + 1
    by_cases e : x = u
    · subst e; rw [hsame]; exact Nat.le_refl _
    · rw [up_ne _ _ _ e]
      have := h.rs x hx
      omega
  · have h3 : up s.rk u (s.sn + 1) x = 0 := h1
    by_cases e : x = u
    · subst e; exact h.w0 x hu hw
    · rw [up_ne _ _ _ e] at h3
      exact h.w0 x hx h3
  · refine ⟨List.mem_append_right _ (List.mem_singleton.2 rfl), Nat.zero_le _, fun q e => (by cases e), fun i hi => absurd hi (Nat.not_lt_zero _), fun x hx hlt _ => ?_⟩
    have hlt2 : up s.rk u (s.sn + 1) u < up s.rk u (s.sn + 1) x := hlt
    rw [hsame] at hlt2
    rcases List.mem_append.1 hx with hx | hx
    · rw [hrk x hx] at hlt2
      have := hle x hx
      omega
    · rw [List.mem_singleton] at hx
      subst hx
      rw [hsame] at hlt2
      omega
  · cases hfr : s.fr with
    | nil => exact trivial
    | cons f r =>
      obtain ⟨v, nx⟩ := f
      obtain ⟨t1, t2, t3⟩ := htop v nx r hfr
      have hfo := h.fo
      rw [hfr] at hfo
      have hc := hfc none (some u) v nx (fun q e => .inr ⟨rfl, by cases e; rfl⟩) (fun q e => by cases e) hfo.1
      rw [hfr] at hc
      refine ⟨⟨hc.mem, t1, hc.ord, fun i hi w e => ?_, hc.sub⟩, ?_⟩
      · by_cases q : i = nx
        · subst q
          obtain rfl : u = w := by omega
          exact .inr (.inr rfl)
        · exact hc.edg i (by omega) w e
      · have := hbelow hfo.1.mem hfo.2
        rw [hfr] at this
        exact this
  · have hle3 : up s.rk u (s.sn + 1) f.1 ≤ up s.rk u (s.sn + 1) x := hle2
    rcases List.mem_cons.1 hf with rfl | hf
    · rcases List.mem_append.1 hx with hx | hx
      · have hle4 : up s.rk u (s.sn + 1) u ≤ up s.rk u (s.sn + 1) x := hle3
        rw [hsame, hrk x hx] at hle4
        have := hle x hx
        omega
      · rw [List.mem_singleton] at hx
        subst hx
        exact Rch.refl _ _
    · obtain ⟨g, hg, e⟩ := bump_fst _ _ hf
      rw [← e]
      rw [← e] at hle3
      rcases List.mem_append.1 hx with hx | hx
      · rw [hrk g.1 (hmem g hg).1, hrk x hx] at hle3
        exact h.fA g hg x hx hle3
      · rw [List.mem_singleton] at hx
        subst hx
        cases hfr : s.fr with
        | nil => rw [hfr] at hg; exact absurd hg List.not_mem_nil
        | cons a r =>
          obtain ⟨v, nx⟩ := a
          obtain ⟨t1, t2, t3⟩ := htop v nx r hfr
          have hfo := h.fo
          rw [hfr] at hfo
          have hgv : Rch (Eg N ln L) g.1 v := by
            rw [hfr] at hg
            rcases List.mem_cons.1 hg with rfl | hg
            · exact Rch.refl _ _
            · refine h.fA g (by rw [hfr]; exact List.mem_cons_of_mem _ hg) v hfo.1.mem ?_
              have := (FO.mem hfo.2 g hg).2 v rfl
              omega
          exact hgv.tail ⟨t3, nx, t1, t2⟩
  · rcases List.mem_append.1 hx with hx | hx
    · obtain ⟨f, hf, q⟩ := h.f0 x hx
      obtain ⟨f2, hf2, e⟩ := bump_snd _ _ hf
      refine ⟨f2, List.mem_cons_of_mem _ hf2, ?_⟩
      show up s.rk u (s.sn + 1) f2.1 ≤ up s.rk u (s.sn + 1) x
      rw [e, hrk f.1 (hmem f hf).1, hrk x hx]
      exact q
    · rw [List.mem_singleton] at hx
      subst hx
      exact ⟨(x, 0), List.mem_cons_self, Nat.le_refl _⟩
  · rcases List.mem_append.1 hx with hx | hx
    · show 0 < up s.lw u (s.sn + 1) x ∧ up s.lw u (s.sn + 1) x ≤ up s.rk u (s.sn + 1) x
      rw [hlw x hx, hrk x hx]
      exact h.l0 x hx
    · rw [List.mem_singleton] at hx
      subst hx
      show 0 < up s.lw x (s.sn + 1) x ∧ up s.lw x (s.sn + 1) x ≤ up s.rk x (s.sn + 1) x
      rw [hsl, hsame]
      omega
  · rcases List.mem_append.1 hx with hx | hx
    · obtain ⟨y, hy, e, q⟩ := h.l1 x hx
      refine ⟨y, List.mem_append_left _ hy, ?_, q⟩
      show up s.rk u (s.sn + 1) y = up s.lw u (s.sn + 1) x
      rw [hrk y hy, hlw x hx]
      exact e
    · rw [List.mem_singleton] at hx
      subst hx
      refine ⟨x, List.mem_append_right _ (List.mem_singleton.2 rfl), ?_, Rch.refl _ _⟩
      show up s.rk x (s.sn + 1) x = up s.lw x (s.sn + 1) x
      rw [hsl, hsame]
  · rcases List.mem_append.1 hx with hx | hx
    · obtain ⟨q1, q2⟩ := h.fin x hx fun f hf e => by
        obtain ⟨f2, hf2, e2⟩ := bump_snd _ _ hf
        exact hnf f2 (List.mem_cons_of_mem _ hf2) (e2.trans e)
      refine ⟨?_, fun i hi w e => ?_⟩
      · show up s.lw u (s.sn + 1) x < up s.rk u (s.sn + 1) x
        rw [hlw x hx, hrk x hx]
        exact q1
      · rcases q2 i hi w e with q | ⟨q3, q4⟩
        · exact .inl q
        · refine .inr ⟨List.mem_append_left _ q3, ?_⟩
          show up s.lw u (s.sn + 1) x ≤ up s.rk u (s.sn + 1) w
          rw [hlw x hx, hrk w q3]
          exact q4
    · rw [List.mem_singleton] at hx
      subst hx
      exact absurd rfl (hnf (x, 0) List.mem_cons_self)
  · show (s.op ++ [u]).length ≤ s.sn + 1
    rw [List.length_append]
    have := h.len1
    simp only [List.length_cons, List.length_nil]
    omega
  · show ((u, 0) :: bump s.fr).length ≤ s.sn + 1
    rw [List.length_cons, bump_len]
    have := h.len2
    omega
  · have e1 : (fun v => if up s.rk u (s.sn + 1) v = 0 then (-1 : Int) else 0) = put (fun v => if s.rk v = 0 then (-1 : Int) else 0) u 0 := by
      funext v
      unfold put
      by_cases e : v = u
      · subst e; rw [hsame, if_neg (by omega), if_pos rfl]
      · rw [up_ne _ _ _ e, if_neg e]
    show s.sn + 1 + cnt (fun v => if up s.rk u (s.sn + 1) v = 0 then (-1 : Int) else 0) N = N
    rw [e1]
    have h1 := cnt_put (f := fun v => if s.rk v = 0 then (-1 : Int) else 0) (u := u) (x := 0) (by decide) (if_pos hw) hu
    have h2 := h.cw
    omega
end Go.Proofs.Ytjflnpcpnoccjaa

namespace Go.Proofs.Ytjflnpcpnoccjaa

/-- AN EDGE TO WHAT HAS BEEN COME UPON. -/
theorem Tj.look {N : Nat} {ln : Nat → Nat} {L : Nat → Nat → Int} {s : Ts} (h : Tj N ln L s) {v nx : Nat} {r : List (Nat × Nat)} (hfr : s.fr = (v, nx) :: r) {w m : Nat} (hnx : nx < ln v) (hw : L v nx = (w : Int)) (hv : v < N)
    (hm : (s.hd w ≠ -1 ∧ m = s.lw v) ∨ (w ∈ s.op ∧ m = min (s.lw v) (s.rk w))) : Tj N ln L ⟨s.rk, up s.lw v m, s.hd, s.op, (v, nx + 1) :: r, s.sn⟩ := by
  have hfo := h.fo
  rw [hfr] at hfo
  have hvo := hfo.1.mem
  have hml : m ≤ s.lw v := by rcases hm with ⟨_, e⟩ | ⟨_, e⟩ <;> omega
  have hlw : ∀ x, x ≠ v → up s.lw v m x = s.lw x := fun x hx => up_ne _ _ _ hx
  have hsl := up_same s.lw v m
  have hle : ∀ x, up s.lw v m x ≤ s.lw x := fun x => by
    by_cases e : x = v
    · subst e; rw [hsl]; exact hml
    · rw [hlw x e]; exact Nat.le_refl _
  have hfst : ∀ f, f ∈ (v, nx + 1) :: r → ∃ g, g ∈ s.fr ∧ g.1 = f.1 := fun f hf => by
    rw [hfr]
    rcases List.mem_cons.1 hf with rfl | hf
    · exact ⟨(v, nx), List.mem_cons_self, rfl⟩
    · exact ⟨f, List.mem_cons_of_mem _ hf, rfl⟩
  have hsnd : ∀ g, g ∈ s.fr → ∃ f, f ∈ (v, nx + 1) :: r ∧ f.1 = g.1 := fun g hg => by
    rw [hfr] at hg
    rcases List.mem_cons.1 hg with rfl | hg
    · exact ⟨(v, nx + 1), List.mem_cons_self, rfl⟩
    · exact ⟨g, List.mem_cons_of_mem _ hg, rfl⟩
  refine ⟨h.o1, h.o2, h.os, h.rs, h.w0, ⟨⟨hvo, hnx, fun q e => (by cases e), fun i hi w2 e => ?_, fun x hx hlt _ => ?_⟩, ?_⟩, fun f hf x hx hlt => ?_, fun x hx => ?_, fun x hx => ?_, fun x hx => ?_, fun x hx hnf => ?_, h.D, h.S, h.H, h.len1, ?_, h.cw⟩
  · by_cases q : i = nx
    · subst q
      obtain rfl : w = w2 := by omega
      rcases hm with ⟨e1, _⟩ | ⟨e1, e2⟩
      · exact .inl e1
      · refine .inr (.inl ⟨e1, ?_⟩)
        show up s.lw v m v ≤ s.rk w
        rw [hsl]
        omega
    · rcases hfo.1.edg i (by omega) w2 e with q | ⟨q1, q2⟩ | q
      · exact .inl q
      · exact .inr (.inl ⟨q1, Nat.le_trans (hle v) q2⟩)
      · cases q
  · have hne : x ≠ v := fun e => by
      have hlt2 : s.rk v < s.rk x := hlt
      rw [e] at hlt2
      omega
    show up s.lw v m v ≤ up s.lw v m x
    rw [hlw x hne]
    exact Nat.le_trans (hle v) (hfo.1.sub x hx hlt fun q e => (by cases e))
  · refine FO.imp hfo.2 fun p np q hq hc => ?_
    have hpv : p ≠ v := fun e => by have := hc.ord q rfl; rw [e] at this; omega
    refine ⟨hc.mem, hc.nle, hc.ord, fun i hi w2 e => ?_, fun x hx hlt hqq => ?_⟩
    · show s.hd w2 ≠ -1 ∨ (w2 ∈ s.op ∧ up s.lw v m p ≤ s.rk w2) ∨ some q = some w2
      rw [hlw p hpv]
      exact hc.edg i hi w2 e
    · have hne : x ≠ v := fun e => by
        have h1 : s.rk x < s.rk q := hqq q rfl
        rw [e] at h1
        omega
      show up s.lw v m p ≤ up s.lw v m x
      rw [hlw p hpv, hlw x hne]
      exact hc.sub x hx hlt hqq
  · obtain ⟨g, hg, e⟩ := hfst f hf
    rw [← e]
    rw [← e] at hlt
    exact h.fA g hg x hx hlt
  · obtain ⟨f, hf, q⟩ := h.f0 x hx
    obtain ⟨f2, hf2, e⟩ := hsnd f hf
    exact ⟨f2, hf2, by rw [e]; exact q⟩
  · show 0 < up s.lw v m x ∧ up s.lw v m x ≤ s.rk x
    have h1 := h.l0 x hx
    refine ⟨?_, Nat.le_trans (hle x) h1.2⟩
    by_cases e : x = v
    · subst e
      rw [hsl]
      rcases hm with ⟨_, e1⟩ | ⟨e1, e2⟩
      · omega
      · have := (h.o1 w e1).2.1
        omega
    · rw [hlw x e]; exact h1.1
  · by_cases e : x = v
    · subst e
      show ∃ y, y ∈ s.op ∧ s.rk y = up s.lw x m x ∧ Rch (Eg N ln L) x y
      rw [hsl]
      by_cases e3 : m = s.lw x
      · rw [e3]; exact h.l1 x hx
      · rcases hm with ⟨_, e1⟩ | ⟨e1, e2⟩
        · exact absurd e1 e3
        · exact ⟨w, e1, by omega, (Rch.refl _ _).tail ⟨hv, nx, hnx, hw⟩⟩
    · show ∃ y, y ∈ s.op ∧ s.rk y = up s.lw v m x ∧ Rch (Eg N ln L) x y
      rw [hlw x e]
      exact h.l1 x hx
  · have e : x ≠ v := fun e => hnf (v, nx + 1) List.mem_cons_self e.symm
    show up s.lw v m x < s.rk x ∧ ∀ i, i < ln x → ∀ w : Nat, L x i = (w : Int) → s.hd w ≠ -1 ∨ (w ∈ s.op ∧ up s.lw v m x ≤ s.rk w)
    rw [hlw x e]
    exact h.fin x hx fun f hf e2 => by
      obtain ⟨f2, hf2, e3⟩ := hsnd f hf
      exact hnf f2 hf2 (e3.trans e2)
  · have := h.len2
    rw [hfr] at this
    exact this
/-- What is at or above a head reaches it. -/
theorem Tj.back {N : Nat} {ln : Nat → Nat} {L : Nat → Nat → Int} {s : Ts} (h : Tj N ln L s) {v nx : Nat} {r : List (Nat × Nat)} (hfr : s.fr = (v, nx) :: r) (he : s.lw v = s.rk v) : ∀ (n x : Nat), s.rk x ≤ n → x ∈ s.op → s.rk v ≤ s.rk x → Rch (Eg N ln L) x v
  | n, x, hn, hx, hle => by
    have hfo := h.fo
    rw [hfr] at hfo
    by_cases e : x = v
    · rw [e]; exact Rch.refl _ _
    · have hlt : s.rk v < s.rk x := by
        rcases Nat.lt_or_ge (s.rk v) (s.rk x) with q | q
        · exact q
        · exfalso
          have heq : s.rk x = s.rk v := by omega
          obtain ⟨i, hi, ei⟩ := List.getElem_of_mem hx
          obtain ⟨j, hj, ej⟩ := List.getElem_of_mem hfo.1.mem
          rcases Nat.lt_trichotomy i j with q1 | q1 | q1
          · have := List.pairwise_iff_getElem.1 h.os i j hi hj q1
            rw [ei, ej] at this; omega
          · subst q1; exact e (ei.symm.trans ej)
          · have := List.pairwise_iff_getElem.1 h.os j i hj hi q1
            rw [ei, ej] at this; omega
      obtain ⟨q1, _⟩ := h.fin x hx fun f hf e2 => by
        rw [hfr] at hf
        rcases List.mem_cons.1 hf with rfl | hf
        · exact e e2.symm
        · have := (FO.mem hfo.2 f hf).2 v rfl
          rw [e2] at this
          omega
      have h2 := hfo.1.sub x hx hlt fun q e => (by cases e)
      obtain ⟨y, hy, ey, hr⟩ := h.l1 x hx
      match n with
      | 0 => omega
      | n + 1 => exact hr.trans (h.back hfr he n y (by omega) hy (by omega))
/-- A PART IS SHUT. -/
theorem Tj.shut {N : Nat} {ln : Nat → Nat} {L : Nat → Nat → Int} {s : Ts} (h : Tj N ln L s) {v : Nat} {r : List (Nat × Nat)} (hfr : s.fr = (v, ln v) :: r) (he : s.lw v = s.rk v) {A C : List Nat} (hop : s.op = A ++ v :: C) :
    Tj N ln L ⟨s.rk, s.lw, fun x => if x ∈ v :: C then (v : Int) else s.hd x, A, r, s.sn⟩ := by
  have hfo := h.fo
  rw [hfr] at hfo
  have hos := h.os
  rw [hop] at hos
  obtain ⟨osA, osC, osX⟩ := List.pairwise_append.1 hos
  have hvC := (List.pairwise_cons.1 osC).1
  have hmA : ∀ x, x ∈ A → x ∈ s.op := fun x hx => by rw [hop]; exact List.mem_append_left _ hx
  have hmC : ∀ x, x ∈ v :: C → x ∈ s.op := fun x hx => by rw [hop]; exact List.mem_append_right _ hx
  have hAlt : ∀ x, x ∈ A → s.rk x < s.rk v := fun x hx => osX x hx v List.mem_cons_self
  have hCge : ∀ x, x ∈ v :: C → s.rk v ≤ s.rk x := fun x hx => by
    rcases List.mem_cons.1 hx with rfl | hx
    · exact Nat.le_refl _
    · exact Nat.le_of_lt (hvC x hx)
  have hsplit : ∀ x, x ∈ s.op → x ∈ A ∨ x ∈ v :: C := fun x hx => by rw [hop] at hx; exact List.mem_append.1 hx
  have hAC : ∀ x, x ∈ A → x ∉ v :: C := fun x h1 h2 => by have := hAlt x h1; have := hCge x h2; omega
  have hopA : ∀ x, x ∈ s.op → s.rk x < s.rk v → x ∈ A := fun x hx hlt => by
    rcases hsplit x hx with q | q
    · exact q
    · have := hCge x q; omega
  have hopC : ∀ x, x ∈ s.op → s.rk v ≤ s.rk x → x ∈ v :: C := fun x hx hlt => by
    rcases hsplit x hx with q | q
    · have := hAlt x q; omega
    · exact q
  have hvN := (h.o1 v hfo.1.mem).1
  have hnew : ∀ x, s.hd x ≠ -1 → (if x ∈ v :: C then (v : Int) else s.hd x) ≠ -1 := fun x hx => by
    split
    · omega
    · exact hx
  have hinC : ∀ x, x ∈ v :: C → (if x ∈ v :: C then (v : Int) else s.hd x) = (v : Int) := fun x hx => if_pos hx
  have hnoC : ∀ x, x ∉ v :: C → (if x ∈ v :: C then (v : Int) else s.hd x) = s.hd x := fun x hx => if_neg hx
  have hneg : ∀ x, x ∈ v :: C → (if x ∈ v :: C then (v : Int) else s.hd x) ≠ -1 := fun x hx => by rw [hinC x hx]; omega
  have hlow : ∀ x, x ∈ v :: C → s.rk v ≤ s.lw x := fun x hx => by
    rcases List.mem_cons.1 hx with rfl | hx2
    · omega
    · have := hfo.1.sub x (hmC x hx) (hvC x hx2) fun q e => (by cases e)
      omega
  have hedge : ∀ x, x ∈ v :: C → ∀ w, Eg N ln L x w → s.hd w ≠ -1 ∨ w ∈ v :: C := fun x hx w hE => by
    obtain ⟨_, i, hi, e⟩ := hE
    have hl := hlow x hx
    rcases List.mem_cons.1 hx with rfl | hx2
    · rcases hfo.1.edg i hi w e with q | ⟨q1, q2⟩ | q
      · exact .inl q
      · exact .inr (hopC w q1 (by omega))
      · cases q
    · obtain ⟨_, q2⟩ := h.fin x (hmC x hx) fun f hf e2 => by
        rw [hfr] at hf
        have h1 := hvC x hx2
        rcases List.mem_cons.1 hf with rfl | hf
        · have e3 : v = x := e2
          rw [e3] at h1; omega
        · have := (FO.mem hfo.2 f hf).2 v rfl
          rw [e2] at this; omega
      rcases q2 i hi w e with q | ⟨q1, q3⟩
      · exact .inl q
      · exact .inr (hopC w q1 (by omega))
  have hup : ∀ x, x ∈ v :: C → Rch (Eg N ln L) v x := fun x hx => h.fA (v, ln v) (by rw [hfr]; exact List.mem_cons_self) x (hmC x hx) (hCge x hx)
  have hdn : ∀ x, x ∈ v :: C → Rch (Eg N ln L) x v := fun x hx => h.back hfr he _ x (Nat.le_refl _) (hmC x hx) (hCge x hx)
  have hcl : ∀ x y, x < N → s.hd x ≠ -1 → Rch (Eg N ln L) x y → s.hd y ≠ -1 := fun x y hxN hx hr => by
    have := Rch.closed (p := fun z => s.hd z ≠ -1 ∧ (z < N ∨ True)) (fun a b ha hE => ⟨h.D a hE.1 ha.1 b hE, .inr trivial⟩) hr ⟨hx, .inl hxN⟩
    exact this.1
  have hopen : ∀ x, x ∈ v :: C → s.hd x = -1 := fun x hx => (h.o1 x (hmC x hx)).2.2
  refine ⟨fun x hx => ?_, fun x hx h1 h2 => ?_, osA, h.rs, fun x hx h1 => ?_, ?_, fun f hf x hx hle => ?_, fun x hx => ?_, fun x hx => h.l0 x (hmA x hx), fun x hx => ?_, fun x hx hnf => ?_, fun x hx h1 w hE => ?_, fun x y hx hy h1 h2 => ?_, fun x hx h1 => ?_, ?_, ?_, h.cw⟩
  · refine ⟨(h.o1 x (hmA x hx)).1, (h.o1 x (hmA x hx)).2.1, ?_⟩
    show (if x ∈ v :: C then (v : Int) else s.hd x) = -1
    rw [hnoC x (hAC x hx)]
    exact (h.o1 x (hmA x hx)).2.2
  · have h3 : (if x ∈ v :: C then (v : Int) else s.hd x) = -1 := h2
    by_cases e : x ∈ v :: C
    · exact absurd h3 (hneg x e)
    · rw [hnoC x e] at h3
      rcases hsplit x (h.o2 x hx h1 h3) with q | q
      · exact q
      · exact absurd q e
  · show (if x ∈ v :: C then (v : Int) else s.hd x) = -1
    rw [hnoC x fun e => by have := (h.o1 x (hmC x e)).2.1; have h2 : s.rk x = 0 := h1; omega]
    exact h.w0 x hx h1
  · have hall : ∀ {st : List (Nat × Nat)} {b : Nat}, FO ln L s (some b) st → s.rk b < s.rk v → FO ln L ⟨s.rk, s.lw, fun x => if x ∈ v :: C then (v : Int) else s.hd x, A, r, s.sn⟩ (some b) st := by
      intro st
      induction st with
      | nil => exact fun _ _ => trivial
      | cons f t ih =>
        obtain ⟨p, np⟩ := f
        intro b hf hb
        have hp : s.rk p < s.rk v := by have := hf.1.ord b rfl; omega
        have hpA := hopA p hf.1.mem hp
        refine ⟨⟨hpA, hf.1.nle, hf.1.ord, fun i hi w e => ?_, fun x hx hlt hq => hf.1.sub x (hmA x hx) hlt hq⟩, ih hf.2 hp⟩
        rcases hf.1.edg i hi w e with q | ⟨q1, q2⟩ | q
        · exact .inl (hnew w q)
        · rcases hsplit w q1 with q3 | q3
          · exact .inr (.inl ⟨q3, q2⟩)
          · exact .inl (hneg w q3)
        · exact .inr (.inr q)
    cases hr : r with
    | nil => exact trivial
    | cons f t =>
      obtain ⟨p, np⟩ := f
      have hf := hfo.2
      rw [hr] at hf hall
      have hp := hf.1.ord v rfl
      have hpA := hopA p hf.1.mem hp
      refine ⟨⟨hpA, hf.1.nle, fun q e => (by cases e), fun i hi w e => ?_, fun x hx hlt hq => hf.1.sub x (hmA x hx) hlt fun q e => ?_⟩, hall hf.2 hp⟩
      · rcases hf.1.edg i hi w e with q | ⟨q1, q2⟩ | q
        · exact .inl (hnew w q)
        · rcases hsplit w q1 with q3 | q3
          · exact .inr (.inl ⟨q3, q2⟩)
          · exact .inl (hneg w q3)
        · cases q
          exact .inl (hneg v List.mem_cons_self)
      · cases e
        exact hAlt x hx
  · exact h.fA f (by rw [hfr]; exact List.mem_cons_of_mem _ hf) x (hmA x hx) hle
  · obtain ⟨f, hf, q⟩ := h.f0 x (hmA x hx)
    rw [hfr] at hf
    rcases List.mem_cons.1 hf with rfl | hf
    · have := hAlt x hx
      have q2 : s.rk v ≤ s.rk x := q
      omega
    · exact ⟨f, hf, q⟩
  · obtain ⟨y, hy, e, hr⟩ := h.l1 x (hmA x hx)
    have h1 := (h.l0 x (hmA x hx)).2
    have h2 := hAlt x hx
    exact ⟨y, hopA y hy (by omega), e, hr⟩
  · have hxv : x ≠ v := fun e => by have := hAlt x hx; rw [e] at this; omega
    obtain ⟨q1, q2⟩ := h.fin x (hmA x hx) fun f hf e2 => by
      rw [hfr] at hf
      rcases List.mem_cons.1 hf with rfl | hf
      · exact hxv e2.symm
      · exact hnf f hf e2
    refine ⟨q1, fun i hi w e => ?_⟩
    rcases q2 i hi w e with q | ⟨q3, q4⟩
    · exact .inl (hnew w q)
    · rcases hsplit w q3 with q5 | q5
      · exact .inr ⟨q5, q4⟩
      · exact .inl (hneg w q5)
  · have h2 : (if x ∈ v :: C then (v : Int) else s.hd x) ≠ -1 := h1
    show (if w ∈ v :: C then (v : Int) else s.hd w) ≠ -1
    by_cases e : x ∈ v :: C
    · rcases hedge x e w hE with q | q
      · exact hnew w q
      · exact hneg w q
    · rw [hnoC x e] at h2
      exact hnew w (h.D x hx h2 w hE)
  · have h1' : (if x ∈ v :: C then (v : Int) else s.hd x) ≠ -1 := h1
    have h2' : (if y ∈ v :: C then (v : Int) else s.hd y) ≠ -1 := h2
    show (if x ∈ v :: C then (v : Int) else s.hd x) = (if y ∈ v :: C then (v : Int) else s.hd y) ↔ _
    have hcross : ∀ a b, a < N → a ∉ v :: C → b ∈ v :: C → s.hd a ≠ -1 → s.hd a ≠ (v : Int) ∧ ¬ Rch (Eg N ln L) a b := fun a b ha hna hb h3 => by
      refine ⟨fun e => ?_, fun hr => ?_⟩
      · obtain ⟨q, _, e1, e2⟩ := h.H a ha h3
        obtain rfl : q = v := by omega
        rw [hopen q List.mem_cons_self] at e2
        omega
      · exact hcl a b ha h3 hr (hopen b hb)
    by_cases ex : x ∈ v :: C
    · by_cases ey : y ∈ v :: C
      · rw [hinC x ex, hinC y ey]
        exact ⟨fun _ => ⟨(hdn x ex).trans (hup y ey), (hdn y ey).trans (hup x ex)⟩, fun _ => rfl⟩
      · rw [hnoC y ey] at h2'
        obtain ⟨q1, q2⟩ := hcross y x hy ey ex h2'
        rw [hinC x ex, hnoC y ey]
        exact ⟨fun e => absurd e.symm q1, fun e => absurd e.2 q2⟩
    · rw [hnoC x ex] at h1'
      by_cases ey : y ∈ v :: C
      · obtain ⟨q1, q2⟩ := hcross x y hx ex ey h1'
        rw [hinC y ey, hnoC x ex]
        exact ⟨fun e => absurd e q1, fun e => absurd e.1 q2⟩
      · rw [hnoC y ey] at h2'
        rw [hnoC x ex, hnoC y ey]
        exact h.S x y hx hy h1' h2'
  · have h1' : (if x ∈ v :: C then (v : Int) else s.hd x) ≠ -1 := h1
    show ∃ q : Nat, q < N ∧ (if x ∈ v :: C then (v : Int) else s.hd x) = (q : Int) ∧ (if q ∈ v :: C then (v : Int) else s.hd q) = (q : Int)
    by_cases ex : x ∈ v :: C
    · exact ⟨v, hvN, hinC x ex, hinC v List.mem_cons_self⟩
    · rw [hnoC x ex] at h1'
      obtain ⟨q, q1, q2, q3⟩ := h.H x hx h1'
      refine ⟨q, q1, by rw [hnoC x ex]; exact q2, ?_⟩
      rw [hnoC q fun e => by have := hopen q e; rw [q3] at this; omega]
      exact q3
  · have := h.len1
    rw [hop, List.length_append] at this
    exact Nat.le_trans (Nat.le_add_right _ _) this
  · have := h.len2
    rw [hfr, List.length_cons] at this
    exact Nat.le_trans (Nat.le_succ _) this
end Go.Proofs.Ytjflnpcpnoccjaa

namespace Go.Proofs.Ytjflnpcpnoccjaa

/-- What is no head has a frame below. -/
theorem Tj.below {N : Nat} {ln : Nat → Nat} {L : Nat → Nat → Int} {s : Ts} (h : Tj N ln L s) {v nx : Nat} {r : List (Nat × Nat)} (hfr : s.fr = (v, nx) :: r) (he : s.lw v ≠ s.rk v) : ∃ p np t, r = (p, np) :: t := by
  have hfo := h.fo
  rw [hfr] at hfo
  obtain ⟨y, hy, ey, _⟩ := h.l1 v hfo.1.mem
  have h1 := (h.l0 v hfo.1.mem).2
  obtain ⟨f, hf, q⟩ := h.f0 y hy
  rw [hfr] at hf
  cases hr : r with
  | cons a t => exact ⟨a.1, a.2, t, rfl⟩
  | nil =>
    rw [hr] at hf
    rw [List.mem_singleton] at hf
    subst hf
    have q2 : s.rk v ≤ s.rk y := q
    omega
/-- A NODE IS LEFT THAT IS NO HEAD. -/
theorem Tj.pass {N : Nat} {ln : Nat → Nat} {L : Nat → Nat → Int} {s : Ts} (h : Tj N ln L s) {v p np : Nat} {t : List (Nat × Nat)} (hfr : s.fr = (v, ln v) :: (p, np) :: t) (he : s.lw v ≠ s.rk v) :
    Tj N ln L ⟨s.rk, up s.lw p (min (s.lw p) (s.lw v)), s.hd, s.op, (p, np) :: t, s.sn⟩ := by
  have hfo := h.fo
  rw [hfr] at hfo
  obtain ⟨cv, cp, ft⟩ := hfo
  have hlv := (h.l0 v cv.mem).2
  have hpv := cp.ord v rfl
  have hne : v ≠ p := fun e => by rw [e] at hpv; omega
  have hlw : ∀ x, x ≠ p → up s.lw p (min (s.lw p) (s.lw v)) x = s.lw x := fun x hx => up_ne _ _ _ hx
  have hsl := up_same s.lw p (min (s.lw p) (s.lw v))
  have hle : ∀ x, up s.lw p (min (s.lw p) (s.lw v)) x ≤ s.lw x := fun x => by
    by_cases e : x = p
    · subst e; rw [hsl]; exact Nat.min_le_left _ _
    · rw [hlw x e]; exact Nat.le_refl _
  have hin : ∀ f, f ∈ (p, np) :: t → f ∈ s.fr := fun f hf => by rw [hfr]; exact List.mem_cons_of_mem _ hf
  refine ⟨h.o1, h.o2, h.os, h.rs, h.w0, ⟨⟨cp.mem, cp.nle, fun q e => (by cases e), fun i hi w e => ?_, fun x hx hlt _ => ?_⟩, ?_⟩, fun f hf => h.fA f (hin f hf), fun x hx => ?_, fun x hx => ?_, fun x hx => ?_, fun x hx hnf => ?_, h.D, h.S, h.H, h.len1, ?_, h.cw⟩
  · rcases cp.edg i hi w e with q | ⟨q1, q2⟩ | q
    · exact .inl q
    · exact .inr (.inl ⟨q1, Nat.le_trans (hle p) q2⟩)
    · cases q
      refine .inr (.inl ⟨cv.mem, ?_⟩)
      show up s.lw p (min (s.lw p) (s.lw v)) p ≤ s.rk v
      rw [hsl]
      omega
  · have hlt2 : s.rk p < s.rk x := hlt
    have hxp : x ≠ p := fun e => by rw [e] at hlt2; omega
    show up s.lw p (min (s.lw p) (s.lw v)) p ≤ up s.lw p (min (s.lw p) (s.lw v)) x
    rw [hsl, hlw x hxp]
    by_cases e : x = v
    · subst e; exact Nat.min_le_right _ _
    · rcases Nat.lt_or_ge (s.rk x) (s.rk v) with q | q
      · have := cp.sub x hx hlt2 fun z ez => by cases ez; exact q
        omega
      · have hvx : s.rk v < s.rk x := by
          rcases Nat.lt_or_ge (s.rk v) (s.rk x) with z | z
          · exact z
          · exfalso
            obtain ⟨i, hi, ei⟩ := List.getElem_of_mem hx
            obtain ⟨j, hj, ej⟩ := List.getElem_of_mem cv.mem
            rcases Nat.lt_trichotomy i j with q1 | q1 | q1
            · have := List.pairwise_iff_getElem.1 h.os i j hi hj q1
              rw [ei, ej] at this; omega
            · subst q1; exact e (ei.symm.trans ej)
            · have := List.pairwise_iff_getElem.1 h.os j i hj hi q1
              rw [ei, ej] at this; omega
        have := cv.sub x hx hvx fun z ez => (by cases ez)
        omega
  · refine FO.imp ft fun a na q hq hc => ?_
    have hap : a ≠ p := fun e => by have := hc.ord q rfl; rw [e] at this; omega
    refine ⟨hc.mem, hc.nle, hc.ord, fun i hi w e => ?_, fun x hx hlt hqq => ?_⟩
    · show s.hd w ≠ -1 ∨ (w ∈ s.op ∧ up s.lw p (min (s.lw p) (s.lw v)) a ≤ s.rk w) ∨ some q = some w
      rw [hlw a hap]
      exact hc.edg i hi w e
    · have hxp : x ≠ p := fun e => by
        have h1 : s.rk x < s.rk q := hqq q rfl
        rw [e] at h1
        omega
      show up s.lw p (min (s.lw p) (s.lw v)) a ≤ up s.lw p (min (s.lw p) (s.lw v)) x
      rw [hlw a hap, hlw x hxp]
      exact hc.sub x hx hlt hqq
  · obtain ⟨f, hf, q⟩ := h.f0 x hx
    rw [hfr] at hf
    rcases List.mem_cons.1 hf with rfl | hf
    · refine ⟨(p, np), List.mem_cons_self, ?_⟩
      have q2 : s.rk v ≤ s.rk x := q
      show s.rk p ≤ s.rk x
      omega
    · exact ⟨f, hf, q⟩
  · show 0 < up s.lw p (min (s.lw p) (s.lw v)) x ∧ up s.lw p (min (s.lw p) (s.lw v)) x ≤ s.rk x
    have h1 := h.l0 x hx
    refine ⟨?_, Nat.le_trans (hle x) h1.2⟩
    by_cases e : x = p
    · subst e
      rw [hsl]
      have := (h.l0 v cv.mem).1
      omega
    · rw [hlw x e]; exact h1.1
  · show ∃ y, y ∈ s.op ∧ s.rk y = up s.lw p (min (s.lw p) (s.lw v)) x ∧ Rch (Eg N ln L) x y
    by_cases e : x = p
    · subst e
      rw [hsl]
      rcases Nat.le_total (s.lw x) (s.lw v) with q | q
      · rw [Nat.min_eq_left q]; exact h.l1 x hx
      · rw [Nat.min_eq_right q]
        obtain ⟨y, hy, ey, hr⟩ := h.l1 v cv.mem
        refine ⟨y, hy, ey, Rch.trans (h.fA (x, np) (by rw [hfr]; exact List.mem_cons_of_mem _ List.mem_cons_self) v cv.mem (by show s.rk x ≤ s.rk v; omega)) hr⟩
    · rw [hlw x e]
      exact h.l1 x hx
  · have hxp : x ≠ p := fun e => hnf (p, np) List.mem_cons_self e.symm
    show up s.lw p (min (s.lw p) (s.lw v)) x < s.rk x ∧ ∀ i, i < ln x → ∀ w : Nat, L x i = (w : Int) → s.hd w ≠ -1 ∨ (w ∈ s.op ∧ up s.lw p (min (s.lw p) (s.lw v)) x ≤ s.rk w)
    rw [hlw x hxp]
    by_cases e : x = v
    · subst e
      refine ⟨by omega, fun i hi w ew => ?_⟩
      rcases cv.edg i hi w ew with q | q | q
      · exact .inl q
      · exact .inr q
      · cases q
    · exact h.fin x hx fun f hf e2 => by
        rw [hfr] at hf
        rcases List.mem_cons.1 hf with rfl | hf
        · exact e e2.symm
        · exact hnf f hf e2
  · have := h.len2
    rw [hfr, List.length_cons] at this
    exact Nat.le_trans (Nat.le_succ _) this
/-- Where there is no frame nothing is open. -/
theorem Tj.none {N : Nat} {ln : Nat → Nat} {L : Nat → Nat → Int} {s : Ts} (h : Tj N ln L s) (hfr : s.fr = []) : s.op = [] := by
  cases ho : s.op with
  | nil => rfl
  | cons a r =>
    obtain ⟨f, hf, _⟩ := h.f0 a (by rw [ho]; exact List.mem_cons_self)
    rw [hfr] at hf
    exact absurd hf List.not_mem_nil
/-- What a topmost frame says. -/
theorem Tj.top {N : Nat} {ln : Nat → Nat} {L : Nat → Nat → Int} {s : Ts} (h : Tj N ln L s) {v nx : Nat} {r : List (Nat × Nat)} (hfr : s.fr = (v, nx) :: r) : v < N ∧ nx ≤ ln v ∧ v ∈ s.op ∧ 0 < s.rk v := by
  have hfo := h.fo
  rw [hfr] at hfo
  exact ⟨(h.o1 v hfo.1.mem).1, hfo.1.nle, hfo.1.mem, (h.o1 v hfo.1.mem).2.1⟩
/-- THE HEADS: who has the same one is of one part. -/
def Hds (N : Nat) (ln : Nat → Nat) (L : Nat → Nat → Int) (hd : Nat → Int) : Prop := (∀ x, x < N → ∃ h : Nat, h < N ∧ hd x = (h : Int)) ∧ ∀ x y, x < N → y < N → (hd x = hd y ↔ Rch (Eg N ln L) x y ∧ Rch (Eg N ln L) y x)
theorem Tj.end {N : Nat} {ln : Nat → Nat} {L : Nat → Nat → Int} {s : Ts} (h : Tj N ln L s) (hfr : s.fr = []) (hall : ∀ x, x < N → 0 < s.rk x) : Hds N ln L s.hd := by
  have ho := h.none hfr
  have hd : ∀ x, x < N → s.hd x ≠ -1 := fun x hx e => by
    have := h.o2 x hx (hall x hx) e
    rw [ho] at this
    exact absurd this List.not_mem_nil
  exact ⟨fun x hx => by obtain ⟨q, q1, q2, _⟩ := h.H x hx (hd x hx); exact ⟨q, q1, q2⟩, fun x y hx hy => h.S x y hx hy (hd x hx) (hd y hy)⟩
end Go.Proofs.Ytjflnpcpnoccjaa

