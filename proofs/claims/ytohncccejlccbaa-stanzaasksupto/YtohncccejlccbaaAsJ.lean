import Derived.Test.YtohncccejlccbaaAsI
namespace Go.Proofs.Ytohncccejlccbaa
open Go.RowKit Go.Shelf

def eqPz : List Gd → List Gd → Bool
  | [], [] => true
  | f :: p, g :: q => eqG f g && eqPz p q
  | _, _ => false
theorem eqPz_len {p q : List Gd} (h : p.length ≠ q.length) : eqPz p q = false := by
  induction p generalizing q with
  | nil => cases q with
    | nil => exact absurd rfl h
    | cons _ _ => rfl
  | cons f p ih => cases q with
    | nil => rfl
    | cons g q => rw [eqPz, ih (by simpa using h), Bool.and_false]
theorem eqPz_yes : ∀ {p q : List Gd}, p.length = q.length → (∀ (j : Nat) (f g : Gd), p[j]? = some f → q[j]? = some g → eqG f g = true) → eqPz p q = true
  | [], [], _, _ => rfl
  | [], _ :: _, h, _ => by simp at h
  | _ :: _, [], h, _ => by simp at h
  | f :: p, g :: q, h, hz => by
    rw [eqPz, hz 0 f g rfl rfl, Bool.true_and]
    exact eqPz_yes (by simpa using h) fun j a b h1 h2 => hz (j + 1) a b (by simpa using h1) (by simpa using h2)
theorem eqPz_no : ∀ {p q : List Gd} {k : Nat} {f g : Gd}, p[k]? = some f → q[k]? = some g → eqG f g = false → eqPz p q = false
  | [], _, _, _, _, h, _, _ => by simp at h
  | _ :: _, [], _, _, _, _, h, _ => by simp at h
  | a :: p, b :: q, 0, f, g, h1, h2, h => by
    cases h1
    cases h2
    rw [eqPz, h, Bool.false_and]
  | a :: p, b :: q, k + 1, f, g, h1, h2, h => by
    rw [eqPz, eqPz_no (by simpa using h1) (by simpa using h2) h, Bool.and_false]

theorem ret_b {a b : Bool} (h : a = b) : Ending.returned (.bool a) = .returned (.bool b) := by rw [h]
set_option maxRecDepth 100000 in
set_option maxHeartbeats 4000000 in
theorem eqFields_any (p q : List Gd) (va ua : Option Addr) (vc uc : Nat) (w : World) (hl2 : q.length ≤ 16777216) (hls : ∀ f ∈ p, f.ls.length ≤ 16777216) (hls2 : ∀ f ∈ q, f.ls.length ≤ 16777216) (h1 : ParZ w (.slice va p.length vc) p) (h2 : ParZ w (.slice ua q.length uc) q) :
    Calls Try.prog 37 #[.slice va p.length vc, .slice ua q.length uc, .func (.func 38) #[] #[]] w fun e w' => e = .returned (.bool (eqPz p q)) ∧ Below w.heap.size w w' := by
  have H1 := hide h1
  have H2 := hide h2
  have HL1 := hide hls
  have HL2 := hide hls2
  clear h1 h2 hls hls2
  obtain ⟨R, hR⟩ : ∃ R, eqPz p q = R := ⟨_, rfl⟩
  rw [hR]
  have HR := hide hR
  clear hR
  by_cases hlen : p.length = q.length
  · obtain ⟨N, hN⟩ : ∃ N, p.length = N := ⟨_, rfl⟩
    have hNq : q.length = N := by omega
    rw [hN] at H1
    rw [hNq] at hl2 H2
    rw [hN, hNq]
    have HN := hide hN
    have HNq := hide hNq
    clear hlen hN hNq
    go_enter Try.func37, Try.ntmps37
    go_wp2_with fail
    go_loopw [17] (fun iv wr => ∃ k : Nat, k ≤ N ∧ iv = .int .i64 k ∧ Hid (∀ j f g, j < k → p[j]? = some f → q[j]? = some g → eqG f g = true) ∧ Hid (Below w.heap.size w wr)) (fun iv _ => N - (intOf iv).toNat)
    case atStart => exact ⟨0, Nat.zero_le _, rfl, hide (fun j _ _ h => absurd h (Nat.not_lt_zero _)), hide (Below.refl _ _)⟩
    case round =>
      obtain ⟨k, hk, rfl, HZ, HB⟩ := hrel
      rename World => W
      by_cases hlt : k < N
      · have hkp : k < p.length := by have := unhide HN; omega
        have hkq : k < q.length := by have := unhide HNq; omega
        have hltz : (k : Int) < (N : Int) := by omega
        obtain ⟨g, o, rfl, f1⟩ := ((unhide H1).later (unhide HB)).fld k hkp
        obtain ⟨g2, o2, rfl, f2⟩ := ((unhide H2).later (unhide HB)).fld k hkq
        have z1 := unhide HL1 p[k] (List.getElem_mem hkp)
        have z2 := unhide HL2 q[k] (List.getElem_mem hkq)
        have hpk : p[k]? = some p[k] := List.getElem?_eq_getElem hkp
        have hqk : q[k]? = some q[k] := List.getElem?_eq_getElem hkq
        have HPK := hide hpk
        have HQK := hide hqk
        clear hpk hqk
        generalize p[k] = f at *
        generalize q[k] = f' at *
        have a0 := f1.nm
        obtain ⟨la, lc, a1, _, acl⟩ := f1.ls
        obtain ⟨na, nc, a2, _⟩ := f1.ns
        have d0 := f2.nm
        obtain ⟨lb, ld, d1, _, dcl⟩ := f2.ls
        obtain ⟨nb, nd, d2, _⟩ := f2.ns
        have cF := hide (fun (W' : World) (hb : Below W.heap.size W W') => sameField_any f f' la lb lc ld (.slice na f.ns.length nc) (.slice nb f'.ns.length nd) W' z1 z2 (acl.later hb) (dcl.later hb))
        have e0 := fun ob => cell_later d0 ((Below.refl W.heap.size W).alloc (Nat.le_refl _) ob)
        have e1 := fun ob => cell_later d1 ((Below.refl W.heap.size W).alloc (Nat.le_refl _) ob)
        have e2 := fun ob => cell_later d2 ((Below.refl W.heap.size W).alloc (Nat.le_refl _) ob)
        have BX := hide (((Below.refl W.heap.size W).alloc (Nat.le_refl _) (.cells #[.string (ba f.nm), .slice la f.ls.length lc, .slice na f.ns.length nc] 30)).alloc (by simp) (.cells #[.string (ba f'.nm), .slice lb f'.ls.length ld, .slice nb f'.ns.length nd] 30))
        have cG0 := unhide cF _ (unhide BX)
        clear f1 f2 acl dcl cF
        by_cases he : eqG f f' = true
        · have HZ2 := hide (show ∀ j a b, j < k + 1 → p[j]? = some a → q[j]? = some b → eqG a b = true from fun j a b hj ha hb => by
            by_cases e : j < k
            · exact unhide HZ j a b e ha hb
            · obtain rfl : j = k := by omega
              rw [unhide HPK] at ha
              rw [unhide HQK] at hb
              cases ha
              cases hb
              exact he)
          rw [he] at cG0
          have cG := hide cG0
          clear cG0 HZ he
          go_wp2_with (go_at_call 38; refine (unhide cG).mono ?_; rintro e w1 ⟨rfl, hb⟩; have HB9 := hide (bl_t (unhide HB) (bl_t (unhide BX) hb)); clear hb)
          go_roundw
          case rel => exact ⟨k + 1, by omega, by go_num, HZ2, HB9⟩
          case measure => simp [intOf]; omega
        · have he' : eqG f f' = false := by simpa using he
          have HE := hide (show R = false by rw [← unhide HR]; exact eqPz_no (unhide HPK) (unhide HQK) he')
          rw [he'] at cG0
          have cG := hide cG0
          clear cG0 HZ he he'
          go_wp2_with (go_at_call 38; refine (unhide cG).mono ?_; rintro e w1 ⟨rfl, hb⟩; have HB9 := hide (bl_t (unhide HB) (bl_t (unhide BX) hb)); clear hb)
          go_ret
          exact ⟨ret_b (unhide HE).symm, unhide HB9⟩
      · have HE := hide (show R = true by
          rw [← unhide HR]
          exact eqPz_yes (by have a := unhide HN; have b := unhide HNq; omega) fun j f g h1 h2 => unhide HZ j f g (by have a := unhide HN; have := (List.getElem?_eq_some_iff.1 h1).1; omega) h1 h2)
        have hltz : ¬ (k : Int) < (N : Int) := by omega
        clear HZ
        go_wp2_with fail
        go_ret
        exact ⟨ret_b (unhide HE).symm, unhide HB⟩
  · have HE := hide (show R = false by rw [← unhide HR]; exact eqPz_len hlen)
    rw [unhide HE]
    have hz : ¬ (p.length : Int) = (q.length : Int) := by omega
    go_enter Try.func37, Try.ntmps37
    go_wp2_with fail
    go_ret
    exact ⟨rfl, Below.refl _ _⟩

theorem samePar_any (p q : List Gd) (va ua : Option Addr) (vc uc : Nat) (w : World) (hl2 : q.length ≤ 16777216) (hls : ∀ f ∈ p, f.ls.length ≤ 16777216) (hls2 : ∀ f ∈ q, f.ls.length ≤ 16777216) (h1 : ParZ w (.slice va p.length vc) p) (h2 : ParZ w (.slice ua q.length uc) q) :
    Calls Try.prog 32 #[.slice va p.length vc, .slice ua q.length uc] w fun e w' => e = .returned (.bool (eqPz p q)) ∧ Below w.heap.size w w' := by
  have c1 := hide (eqFields_any p q va ua vc uc w hl2 hls hls2 h1 h2)
  clear h1 h2 hls hls2
  go_enter Try.func32, Try.ntmps32
  go_wp2_with (go_at_call 37; refine (unhide c1).mono ?_; rintro e w2 ⟨rfl, hb⟩; have HB := hide hb; clear hb)
  go_ret
  exact ⟨rfl, unhide HB⟩

def eqDz : List (List Gd) → List (List Gd) → Bool
  | [], [] => true
  | f :: p, g :: q => eqPz f g && eqDz p q
  | _, _ => false
theorem eqDz_len {p q : List (List Gd)} (h : p.length ≠ q.length) : eqDz p q = false := by
  induction p generalizing q with
  | nil => cases q with
    | nil => exact absurd rfl h
    | cons _ _ => rfl
  | cons f p ih => cases q with
    | nil => rfl
    | cons g q => rw [eqDz, ih (by simpa using h), Bool.and_false]
theorem eqDz_yes : ∀ {p q : List (List Gd)}, p.length = q.length → (∀ (j : Nat) (f g : List Gd), p[j]? = some f → q[j]? = some g → eqPz f g = true) → eqDz p q = true
  | [], [], _, _ => rfl
  | [], _ :: _, h, _ => by simp at h
  | _ :: _, [], h, _ => by simp at h
  | f :: p, g :: q, h, hz => by
    rw [eqDz, hz 0 f g rfl rfl, Bool.true_and]
    exact eqDz_yes (by simpa using h) fun j a b h1 h2 => hz (j + 1) a b (by simpa using h1) (by simpa using h2)
theorem eqDz_no : ∀ {p q : List (List Gd)} {k : Nat} {f g : List Gd}, p[k]? = some f → q[k]? = some g → eqPz f g = false → eqDz p q = false
  | [], _, _, _, _, h, _, _ => by simp at h
  | _ :: _, [], _, _, _, _, h, _ => by simp at h
  | a :: p, b :: q, 0, f, g, h1, h2, h => by
    cases h1
    cases h2
    rw [eqDz, h, Bool.false_and]
  | a :: p, b :: q, k + 1, f, g, h1, h2, h => by
    rw [eqDz, eqDz_no (by simpa using h1) (by simpa using h2) h, Bool.and_false]

set_option maxRecDepth 100000 in
set_option maxHeartbeats 4000000 in
theorem eqDocs_any (p q : List (List Gd)) (va ua : Option Addr) (vc uc : Nat) (w : World) (hl2 : q.length ≤ 16777216) (hls : ∀ x ∈ p, x.length ≤ 16777216 ∧ ∀ f ∈ x, f.ls.length ≤ 16777216) (hls2 : ∀ x ∈ q, x.length ≤ 16777216 ∧ ∀ f ∈ x, f.ls.length ≤ 16777216) (h1 : DocZ w (.slice va p.length vc) p) (h2 : DocZ w (.slice ua q.length uc) q) :
    Calls Try.prog 31 #[.slice va p.length vc, .slice ua q.length uc, .func (.func 32) #[] #[]] w fun e w' => e = .returned (.bool (eqDz p q)) ∧ Below w.heap.size w w' := by
  have H1 := hide h1
  have H2 := hide h2
  have HL1 := hide hls
  have HL2 := hide hls2
  clear h1 h2 hls hls2
  obtain ⟨R, hR⟩ : ∃ R, eqDz p q = R := ⟨_, rfl⟩
  rw [hR]
  have HR := hide hR
  clear hR
  by_cases hlen : p.length = q.length
  · obtain ⟨N, hN⟩ : ∃ N, p.length = N := ⟨_, rfl⟩
    have hNq : q.length = N := by omega
    rw [hN] at H1
    rw [hNq] at hl2 H2
    rw [hN, hNq]
    have HN := hide hN
    have HNq := hide hNq
    clear hlen hN hNq
    go_enter Try.func31, Try.ntmps31
    go_wp2_with fail
    go_loopw [17] (fun iv wr => ∃ k : Nat, k ≤ N ∧ iv = .int .i64 k ∧ Hid (∀ j f g, j < k → p[j]? = some f → q[j]? = some g → eqPz f g = true) ∧ Hid (Below w.heap.size w wr)) (fun iv _ => N - (intOf iv).toNat)
    case atStart => exact ⟨0, Nat.zero_le _, rfl, hide (fun j _ _ h => absurd h (Nat.not_lt_zero _)), hide (Below.refl _ _)⟩
    case round =>
      obtain ⟨k, hk, rfl, HZ, HB⟩ := hrel
      rename World => W
      by_cases hlt : k < N
      · have hkp : k < p.length := by have := unhide HN; omega
        have hkq : k < q.length := by have := unhide HNq; omega
        have hltz : (k : Int) < (N : Int) := by omega
        obtain ⟨g, o, qa, qc, rfl, c1, z1⟩ := ((unhide H1).later (unhide HB)).par k hkp
        obtain ⟨g2, o2, ra, rc, rfl, c2, z2⟩ := ((unhide H2).later (unhide HB)).par k hkq
        have y1 := unhide HL1 p[k] (List.getElem_mem hkp)
        have y2 := unhide HL2 q[k] (List.getElem_mem hkq)
        have HPK := hide (show p[k]? = some p[k] from List.getElem?_eq_getElem hkp)
        have HQK := hide (show q[k]? = some q[k] from List.getElem?_eq_getElem hkq)
        generalize p[k] = f at *
        generalize q[k] = f' at *
        have cF := hide (fun (W' : World) (hb : Below W.heap.size W W') => samePar_any f f' qa ra qc rc W' y2.1 y1.2 y2.2 (z1.later hb) (z2.later hb))
        have cG0 := unhide cF W (Below.refl _ _)
        clear z1 z2 y1 y2 cF
        by_cases he : eqPz f f' = true
        · have HZ2 := hide (show ∀ j a b, j < k + 1 → p[j]? = some a → q[j]? = some b → eqPz a b = true from fun j a b hj ha hb => by
            by_cases e : j < k
            · exact unhide HZ j a b e ha hb
            · obtain rfl : j = k := by omega
              rw [unhide HPK] at ha
              rw [unhide HQK] at hb
              cases ha
              cases hb
              exact he)
          rw [he] at cG0
          have cG := hide cG0
          clear cG0 HZ he
          go_wp2_with (go_at_call 32; refine (unhide cG).mono ?_; rintro e w1 ⟨rfl, hb⟩; have HB9 := hide (bl_t (unhide HB) hb); clear hb)
          go_roundw
          case rel => exact ⟨k + 1, by omega, by go_num, HZ2, HB9⟩
          case measure => simp [intOf]; omega
        · have he' : eqPz f f' = false := by simpa using he
          have HE := hide (show R = false by rw [← unhide HR]; exact eqDz_no (unhide HPK) (unhide HQK) he')
          rw [he'] at cG0
          have cG := hide cG0
          clear cG0 HZ he he'
          go_wp2_with (go_at_call 32; refine (unhide cG).mono ?_; rintro e w1 ⟨rfl, hb⟩; have HB9 := hide (bl_t (unhide HB) hb); clear hb)
          go_ret
          exact ⟨ret_b (unhide HE).symm, unhide HB9⟩
      · have HE := hide (show R = true by
          rw [← unhide HR]
          exact eqDz_yes (by have a := unhide HN; have b := unhide HNq; omega) fun j f g h1 h2 => unhide HZ j f g (by have a := unhide HN; have := (List.getElem?_eq_some_iff.1 h1).1; omega) h1 h2)
        have hltz : ¬ (k : Int) < (N : Int) := by omega
        clear HZ
        go_wp2_with fail
        go_ret
        exact ⟨ret_b (unhide HE).symm, unhide HB⟩
  · have HE := hide (show R = false by rw [← unhide HR]; exact eqDz_len hlen)
    rw [unhide HE]
    have hz : ¬ (p.length : Int) = (q.length : Int) := by omega
    go_enter Try.func31, Try.ntmps31
    go_wp2_with fail
    go_ret
    exact ⟨rfl, Below.refl _ _⟩

theorem Same_any (p q : List (List Gd)) (va ua : Option Addr) (vc uc : Nat) (w : World) (hl2 : q.length ≤ 16777216) (hls : ∀ x ∈ p, x.length ≤ 16777216 ∧ ∀ f ∈ x, f.ls.length ≤ 16777216) (hls2 : ∀ x ∈ q, x.length ≤ 16777216 ∧ ∀ f ∈ x, f.ls.length ≤ 16777216) (h1 : DocZ w (.slice va p.length vc) p) (h2 : DocZ w (.slice ua q.length uc) q) :
    Calls Try.prog 17 #[.slice va p.length vc, .slice ua q.length uc] w fun e w' => e = .returned (.bool (eqDz p q)) ∧ Below w.heap.size w w' := by
  have c1 := hide (eqDocs_any p q va ua vc uc w hl2 hls hls2 h1 h2)
  clear h1 h2 hls hls2
  go_enter Try.func17, Try.ntmps17
  go_wp2_with (go_at_call 31; refine (unhide c1).mono ?_; rintro e w2 ⟨rfl, hb⟩; have HB := hide hb; clear hb)
  go_ret
  exact ⟨rfl, unhide HB⟩
end Go.Proofs.Ytohncccejlccbaa
