import Derived.Test.YtohnjmhdbbkmbaaDoorSbH
namespace Go.Proofs.YtohnjmhdbbkmbaaDoor
open Go.RowKit

theorem Cl.of_ls {W : World} {b q : Nat} {l : List Bs} (h : ∀ i u, (strs l)[i]? = some u → W.cell? ⟨b, q + i, none⟩ = some u) : Cl W (some ⟨b, q, none⟩) (strs l) := fun _ => ⟨b, q, rfl, h⟩
theorem er_get {p q : List Fd} (h : p.map er = q.map er) (k : Nat) (h1 : k < p.length) (h2 : k < q.length) : q[k].nm = p[k].nm ∧ q[k].ls = p[k].ls := by
  have h3 : (p.map er)[k]? = (q.map er)[k]? := by rw [h]
  rw [List.getElem?_map, List.getElem?_map, List.getElem?_eq_getElem h1, List.getElem?_eq_getElem h2] at h3
  have h4 : er p[k] = er q[k] := Option.some.inj h3
  exact ⟨(congrArg Prod.fst h4).symm, (congrArg Prod.snd h4).symm⟩

set_option maxRecDepth 100000 in
set_option maxHeartbeats 4000000 in
theorem eqFields_yes (p q : List Fd) (v u : Value) (w : World) (he : p.map er = q.map er) (hl : p.length ≤ 268435456) (hls : ∀ f ∈ p, f.ls.length ≤ 268435456) (h1 : ParC w v p) (h2 : ParC w u q) :
    Calls Tryd.prog 59 #[v, u, .func (.func 60) #[] #[]] w fun e w' => e = .returned (.bool true) ∧ Below w.heap.size w w' := by
  obtain ⟨va, vc, rfl, h1⟩ := h1
  obtain ⟨ua, uc, rfl, h2⟩ := h2
  have hlen : q.length = p.length := by have := congrArg List.length he; simpa using this.symm
  rw [hlen] at h2 ⊢
  have H1 := hide h1
  have H2 := hide h2
  have HE := hide he
  clear h1 h2 he
  go_enter Tryd.func59, Tryd.ntmps59
  go_wp2_with fail
  go_loopw [17] (fun iv wr => ∃ k : Nat, k ≤ p.length ∧ iv = .int .i64 k ∧ Hid (Below w.heap.size w wr)) (fun iv _ => p.length - (intOf iv).toNat)
  case atStart => exact ⟨0, Nat.zero_le _, rfl, hide (Below.refl _ _)⟩
  case round =>
    obtain ⟨k, hk, rfl, HB⟩ := hrel
    by_cases hlt : k < p.length
    · obtain ⟨g, o, rfl, hf1⟩ := unhide H1 (by omega)
      obtain ⟨g2, o2, rfl, hf2⟩ := unhide H2 (by omega)
      have hlt2 : k < q.length := by omega
      have f1 := (hf1 k _ (List.getElem?_eq_getElem hlt)).later (unhide HB)
      have f2 := (hf2 k _ (List.getElem?_eq_getElem hlt2)).later (unhide HB)
      obtain ⟨en, el⟩ := er_get (unhide HE) k hlt hlt2
      obtain ⟨b, r, c, a1, a2, a3, a4⟩ := f1.ls
      obtain ⟨na, nc, a5, a6⟩ := f1.ns
      obtain ⟨b2, r2, c2, d1, d2, d3, d4⟩ := f2.ls
      obtain ⟨nb, nd, d5, d6⟩ := f2.ns
      have a0 := f1.nm
      have d0 := f2.nm
      rw [en] at d0
      rw [el] at d1 d4
      have c1 := hide (fun (W : World) (hb : Below wr.heap.size wr W) => sameField_yes (ba p[k].nm) p[k].ls (some ⟨b, r, none⟩) (some ⟨b2, r2, none⟩) c c2 (.slice na p[k].ns.length nc) (.slice nb q[k].ns.length nd) W (by have := hls _ (List.getElem_mem hlt); omega) ((Cl.of_ls a4).later hb) ((Cl.of_ls d4).later hb))
      have e0 := fun ob => ca (o := ob) d0
      have e1 := fun ob => ca (o := ob) d1
      have e5 := fun ob => ca (o := ob) d5
      clear f1 f2 hf1 hf2 a2 a3 a4 a6 d2 d3 d4 d6 en el
      generalize ba p[k].nm = sn at *
      generalize p[k].ls.length = ln at *
      generalize p[k].ns.length = nn at *
      generalize q[k].ns.length = mm at *
      go_wp2_with fail
      refine (unhide c1 _ (((Below.refl _ _).alloc (Nat.le_refl _) _).alloc (by simp) _)).mono ?_
      rintro e w1 ⟨rfl, hb1⟩
      have HB9 := hide (bl_t (((unhide HB).alloc (unhide HB).size _).alloc (Nat.le_trans (unhide HB).size (by simp)) _) hb1)
      clear hb1
      go_wp2_with fail
      go_roundw
      case rel => exact ⟨k + 1, by omega, by go_num, HB9⟩
      case measure => simp [intOf]; omega
    · go_wp2_with fail
      go_ret
      exact ⟨rfl, unhide HB⟩

set_option maxRecDepth 100000 in
set_option maxHeartbeats 1000000 in
theorem samePar_yes (p q : List Fd) (v u : Value) (w : World) (he : p.map er = q.map er) (hl : p.length ≤ 268435456) (hls : ∀ f ∈ p, f.ls.length ≤ 268435456) (h1 : ParC w v p) (h2 : ParC w u q) :
    Calls Tryd.prog 40 #[v, u] w fun e w' => e = .returned (.bool true) ∧ Below w.heap.size w w' := by
  have c1 := hide (eqFields_yes p q v u w he hl hls h1 h2)
  clear h1 h2 he hls
  go_enter Tryd.func40, Tryd.ntmps40
  go_wp2_with (go_at_call 59; refine (unhide c1).mono ?_; rintro e w2 ⟨rfl, hb⟩; have HB := hide hb; clear hb)
  go_ret
  exact ⟨rfl, unhide HB⟩

theorem ers_get {p q : List (List Fd)} (h : p.map (List.map er) = q.map (List.map er)) (k : Nat) (h1 : k < p.length) (h2 : k < q.length) : p[k].map er = q[k].map er := by
  have h3 : (p.map (List.map er))[k]? = (q.map (List.map er))[k]? := by rw [h]
  rw [List.getElem?_map, List.getElem?_map, List.getElem?_eq_getElem h1, List.getElem?_eq_getElem h2] at h3
  exact Option.some.inj h3

set_option maxRecDepth 100000 in
set_option maxHeartbeats 4000000 in
theorem eqDocs_yes (p q : List (List Fd)) (v u : Value) (w : World) (he : p.map (List.map er) = q.map (List.map er)) (hl : p.length ≤ 268435457) (hls : ∀ x ∈ p, x.length ≤ 268435456 ∧ ∀ f ∈ x, f.ls.length ≤ 268435456) (h1 : DocC w v p) (h2 : DocC w u q) :
    Calls Tryd.prog 39 #[v, u, .func (.func 40) #[] #[]] w fun e w' => e = .returned (.bool true) ∧ Below w.heap.size w w' := by
  obtain ⟨va, vc, rfl, h1⟩ := h1
  obtain ⟨ua, uc, rfl, h2⟩ := h2
  have hlen : q.length = p.length := by have := congrArg List.length he; simpa using this.symm
  rw [hlen] at h2 ⊢
  have H1 := hide h1
  have H2 := hide h2
  have HE := hide he
  clear h1 h2 he
  go_enter Tryd.func39, Tryd.ntmps39
  go_wp2_with fail
  go_loopw [17] (fun iv wr => ∃ k : Nat, k ≤ p.length ∧ iv = .int .i64 k ∧ Hid (Below w.heap.size w wr)) (fun iv _ => p.length - (intOf iv).toNat)
  case atStart => exact ⟨0, Nat.zero_le _, rfl, hide (Below.refl _ _)⟩
  case round =>
    obtain ⟨k, hk, rfl, HB⟩ := hrel
    by_cases hlt : k < p.length
    · obtain ⟨g, o, rfl, hf1⟩ := unhide H1 (by omega)
      obtain ⟨g2, o2, rfl, hf2⟩ := unhide H2 (by omega)
      have hlt2 : k < q.length := by omega
      obtain ⟨x, x1, x2⟩ := hf1 k _ (List.getElem?_eq_getElem hlt)
      obtain ⟨y, y1, y2⟩ := hf2 k _ (List.getElem?_eq_getElem hlt2)
      have d0 := cell_later x1 (unhide HB)
      have d1 := cell_later y1 (unhide HB)
      have hx := hls _ (List.getElem_mem hlt)
      have c1 := hide (samePar_yes p[k] q[k] x y wr (ers_get (unhide HE) k hlt hlt2) hx.1 hx.2 (x2.later (unhide HB)) (y2.later (unhide HB)))
      obtain ⟨xa, xc, rfl, _⟩ := x2
      obtain ⟨ya, yc, rfl, _⟩ := y2
      clear hf1 hf2 x1 y1 hx
      generalize p[k].length = pn at *
      generalize q[k].length = qn at *
      go_wp2_with fail
      refine (unhide c1).mono ?_
      rintro e w1 ⟨rfl, hb1⟩
      have HB9 := hide (bl_t (unhide HB) hb1)
      clear hb1
      go_wp2_with fail
      go_roundw
      case rel => exact ⟨k + 1, by omega, by go_num, HB9⟩
      case measure => simp [intOf]; omega
    · go_wp2_with fail
      go_ret
      exact ⟨rfl, unhide HB⟩

set_option maxRecDepth 100000 in
set_option maxHeartbeats 1000000 in
theorem Same_yes (p q : List (List Fd)) (v u : Value) (w : World) (he : p.map (List.map er) = q.map (List.map er)) (hl : p.length ≤ 268435457) (hls : ∀ x ∈ p, x.length ≤ 268435456 ∧ ∀ f ∈ x, f.ls.length ≤ 268435456) (h1 : DocC w v p) (h2 : DocC w u q) :
    Calls Tryd.prog 16 #[v, u] w fun e w' => e = .returned (.bool true) ∧ Below w.heap.size w w' := by
  have c1 := hide (eqDocs_yes p q v u w he hl hls h1 h2)
  clear h1 h2 he hls
  go_enter Tryd.func16, Tryd.ntmps16
  go_wp2_with (go_at_call 39; refine (unhide c1).mono ?_; rintro e w2 ⟨rfl, hb⟩; have HB := hide hb; clear hb)
  go_ret
  exact ⟨rfl, unhide HB⟩

set_option maxRecDepth 100000 in
set_option maxHeartbeats 2000000 in
theorem same_yes (l : Bs) (pa qa : Option Addr) (pc qc : Nat) (w : World) (hl : l.length ≤ 9223372036854775807) (h1 : Rb w pa l) (h2 : Rb w qa l) :
    Calls Tryd.prog 20 #[.slice pa l.length pc, .slice qa l.length qc] w fun e w' => e = .returned (.bool true) ∧ Below w.heap.size w w' := by
  have H1 := hide h1
  have H2 := hide h2
  clear h1 h2
  go_enter Tryd.func20, Tryd.ntmps20
  go_wp2
  go_loopw [5] (fun iv wr => ∃ k : Nat, k ≤ l.length ∧ iv = .int .i64 k ∧ Hid (Below w.heap.size w wr)) (fun iv _ => l.length - (intOf iv).toNat)
  case atStart => exact ⟨0, Nat.zero_le _, rfl, hide (Below.refl _ _)⟩
  case round =>
    obtain ⟨k, hk, rfl, HB⟩ := hrel
    by_cases hlt : k < l.length
    · obtain ⟨b, o, rfl, hc1⟩ := (unhide H1).later (unhide HB) (by omega)
      obtain ⟨b2, o2, rfl, hc2⟩ := (unhide H2).later (unhide HB) (by omega)
      have d1 := hc1 k hlt
      have d2 := hc2 k hlt
      clear hc1 hc2
      generalize (l[k].toNat : Int) = tk at *
      go_wp2
      go_region
      go_wp2
      go_roundw
      case rel => exact ⟨k + 1, by omega, by go_num, hide ((unhide HB).drew)⟩
      case measure => simp [intOf]; omega
    · go_wp2
      go_ret
      exact ⟨rfl, unhide HB⟩

end Go.Proofs.YtohnjmhdbbkmbaaDoor
