import Derived.Test.YtfembjjpmjfklaaDoorWrtP
import Derived.Handy
import Derived.ArgAppend
import Derived.Deep.RegionLawGrows
namespace Go.Proofs.YtfembjjpmjfklaaDoor
open Go.RowKit

set_option maxRecDepth 100000 in
set_option maxHeartbeats 8000000 in
theorem written_any (T : Nat → Prop) (lo : Nat) (W : World) (v : Value) (vs : List Value) (cl : List (List Am)) (h : OwnC T lo W v vs cl) :
    Calls Tryd.prog 27 #[v] W fun e w' => e = .returned (.bool true) ∧ Fr T W w' := by
  obtain ⟨va, vc, rfl⟩ := ownRow_shape h.row
  obtain ⟨N, hN⟩ : ∃ N, cl.length = N := ⟨_, rfl⟩
  rw [hN] at h ⊢
  have hbig : N ≤ 16777217 := by rw [← hN]; exact h.big
  have HI := hide (show St T lo W (.slice va N vc) vs N 0 0 W from ⟨cl, hN, h, Fr.refl _ _, Mk.start _⟩)
  clear h hN
  go_enter Tryd.func27, Tryd.ntmps27
  go_wp2_with fail
  go_loopw [3] (fun i wr => ∃ k : Nat, k ≤ N ∧ i = .int .i64 k ∧ Hid (St T lo W (.slice va N vc) vs N k 0 wr)) (fun i _ => N - (intOf i).toNat)
  case atStart => exact ⟨0, Nat.zero_le _, rfl, HI⟩
  case round =>
    obtain ⟨k, hk, rfl, HR⟩ := hrel
    clear HI
    by_cases hlt : k < N
    · obtain ⟨g, rfl⟩ := (unhide HR).addr (by omega)
      obtain ⟨xa, L, hx, hLb⟩ := (unhide HR).elem hlt
      have HX := hide hx
      clear hx
      go_wp2_with fail
      obtain ⟨wo, hwo⟩ : ∃ wo : World, wo = wr := ⟨_, rfl⟩
      subst hwo
      go_loopw [4] (fun i wr => ∃ m : Nat, m ≤ L ∧ i = .int .i64 m ∧ Hid (St T lo W (.slice (some ⟨g, 0, none⟩) N vc) vs N k m wr)) (fun i _ => L - (intOf i).toNat)
      case atStart => exact ⟨0, Nat.zero_le _, rfl, HR⟩
      case round =>
        obtain ⟨m, hm, rfl, HM⟩ := hrel
        clear HR
        obtain ⟨hq, hgl⟩ := (unhide HM).cell (unhide HX)
        by_cases hml : m < L
        · obtain ⟨gx, rfl⟩ := (unhide HM).eaddr (unhide HX) (by omega)
          have HF := hide (fun (w' : World) (hb : Below wr.heap.size wr w') => ((unhide HM).later hb).cell (unhide HX))
          have B0 := hide ((Below.refl wr.heap.size wr).drew)
          go_wp2_with fail
          go_region_held3 (fun w' => w'.cell? ⟨g, k, none⟩ = some (.slice (some ⟨gx, 0, none⟩) L L)) (first | exact (unhide HF _ (unhide B0)).1 | exact (unhide HF _ (unhide B1)).1 | exact ((unhide HS).cell (unhide HX)).1)
            (first | (go_at_call 22; refine (markA_any _ _).mono ?_; rintro x w11 ⟨rfl, hb11⟩; have B1 := hide ((unhide B0).trans (hb11.mono (unhide B0).size)); obtain ⟨hgx, ⟨y, q0, q1, q2, -⟩, f0, f1, f2⟩ := ((unhide HM).later (unhide B1)).spots (unhide HX) hml; have HS := hide (((unhide HM).later (unhide B1)).mark (unhide HX) hml); clear hb11))
          go_wp2_with fail
          go_roundw
          case rel => exact ⟨m + 1, by omega, by go_num, HS⟩
          case measure => simp [intOf]; omega
        · obtain rfl : m = L := by omega
          have HS := hide ((unhide HM).next (unhide HX))
          clear HM
          go_wp2_with fail
          go_roundw
          case rel => exact ⟨k + 1, by omega, by go_num, HS⟩
          case measure => simp [intOf]; omega
    · obtain rfl : k = N := by omega
      go_wp2_with fail
      obtain ⟨wo, hwo⟩ : ∃ wo : World, wo = wr := ⟨_, rfl⟩
      subst hwo
      go_loopw [5] (fun i wr => ∃ j : Nat, j ≤ k ∧ i = .int .i64 j ∧ Hid (St T lo W (.slice va k vc) vs k k 0 wr)) (fun i _ => k - (intOf i).toNat)
      case atStart => exact ⟨0, Nat.zero_le _, rfl, HR⟩
      case round =>
        obtain ⟨j, hj, rfl, HR2⟩ := hrel
        clear HR
        by_cases hjl : j < k
        · obtain ⟨g, rfl⟩ := (unhide HR2).addr (by omega)
          obtain ⟨xa, L, hx, hLb⟩ := (unhide HR2).elem hjl
          have HX := hide hx
          clear hx
          have HF := hide (fun (w' : World) (hb : Below wr.heap.size wr w') => ((unhide HR2).later hb).cell (unhide HX))
          obtain ⟨hq, hgl⟩ := (unhide HR2).cell (unhide HX)
          have B0 := hide ((Below.refl wr.heap.size wr).drew)
          obtain ⟨i0, hi, hz0, hz1, hz2⟩ := info_parts infoA
          obtain ⟨olds, ho1, ho2, ho3⟩ := (unhide HR2).olds (unhide HX)
          have HO := hide ho3
          have HN0 := hide ho2
          have HL0 := hide ho1
          clear ho1 ho2 ho3
          go_wp2_with fail
          go_region_held3 (fun w' => w'.cell? ⟨g, j, none⟩ = some (.slice xa L L)) (first | exact (unhide HF _ (unhide B0)).1 | exact (unhide HF _ (unhide B1)).1 | exact (unhide HF _ (unhide B2)).1 | exact (unhide HF _ (unhide B3)).1)
            (first | (go_at_call 22; refine (markA_any _ _).mono ?_; rintro x w11 ⟨rfl, hb11⟩; have B1 := hide ((unhide B0).trans (hb11.mono (unhide B0).size)); have B2 := hide ((unhide B1).alloc (unhide B1).size (.cells #[.string ⟨#[77, 65, 82, 75]⟩, .int .i64 (-1), .string ⟨#[]⟩] 34)); clear hb11) | (refine step_append_grows (by rfl) _ _ 52 (by rfl) 34 i0 (.agg #[.string ⟨#[]⟩, .int .i64 0, .string ⟨#[]⟩]) 3 40 Tryd.underlying52 hi hz0 hz1 hz2 rfl (by decide) xa L L olds (by rfl) (unhide HN0) (unhide HL0) (unhide HO _ (unhide B2)) _ 1 1 [.string ⟨#[77, 65, 82, 75]⟩, .int .i64 (-1), .string ⟨#[]⟩] (by rfl) rfl (by simpa using cells3_new w11 _ _ _ _) (by simp [Value.oneCell']) (by omega) (by unfold maxLen; omega) (by omega) ?_; intro v5 w5 hown5 hgrow5; have B3 := hide ((unhide B2).grown hgrow5 (unhide B2).size (fun k h => by cases h)); have HM := hide (show ∃ xs, w5.ownsRow wr.heap.size 34 3 v5 (L + 1 + 0) xs from ⟨_, ownsRow_mono hown5 (unhide B2).size⟩); clear hown5 hgrow5))
          go_wp2_with fail
          obtain ⟨wi, hwi⟩ : ∃ wi : World, wi = wr := ⟨_, rfl⟩
          subst hwi
          have HI := hide (And.intro (unhide HM) (unhide B3))
          clear HM B0 B1 B2 B3 hq hgl HO HN0 HL0 HF
          go_loopw [6, 7] (fun vm i wr => ∃ q : Nat, q ≤ 99 ∧ i = .int .i64 q ∧ Hid ((∃ xs, wr.ownsRow wi.heap.size 34 3 vm (L + 1 + q) xs) ∧ Below wi.heap.size wi wr)) (fun _ i _ => 99 - (intOf i).toNat)
          case atStart => exact ⟨0, by omega, rfl, HI⟩
          case round =>
            obtain ⟨q, hq9, rfl, HQ⟩ := hrel
            clear HI
            obtain ⟨xs, hxs⟩ := (unhide HQ).1
            obtain ⟨ma, mc, rfl⟩ := ownRow_shape hxs
            have HO := hide hxs
            have HB := hide (unhide HQ).2
            have hbz := (unhide HB).size
            clear hxs HQ
            by_cases hq : q < 99
            · go_wp2_with fail
              refine (markA_any _ _).mono ?_
              rintro e w12 ⟨rfl, hb12⟩
              have HO3 := hide (ownsRow_below (unhide HO) hb12)
              have HB3 := hide ((unhide HB).trans (hb12.mono (unhide HB).size))
              have hbz3 := (unhide HB3).size
              clear hb12 HO HB
              go_wp2_with (first | (at_builtin; refine wpList_append_own_at _ rfl _ _ 52 rfl wi.heap.size 34 i0 (.agg #[.string ⟨#[]⟩, .int .i64 0, .string ⟨#[]⟩]) 3 40 Tryd.underlying52 hi hz0 hz1 hz2 rfl (by decide) _ _ _ rfl ((unhide HO3).alloc _) _ 1 1 [.string ⟨#[77, 65, 82, 75]⟩, .int .i64 (-1), .string ⟨#[]⟩] rfl rfl (by simpa using cells3_new w12 _ _ _ _) (by simp [Value.oneCell']) (by unfold maxLen; omega) (by omega) (by simp; omega) ?_; intro v5 w5 hown5 hgrow5 _ hat5; have HM5 := hide (show ∃ xs, w5.ownsRow wi.heap.size 34 3 v5 (L + 1 + (q + 1)) xs from ⟨_, hown5⟩); have HB5 := hide (((unhide HB3).alloc (unhide HB3).size _).grown hgrow5 (by simp; omega) (ownRow_own (unhide HO3))); clear hown5 hgrow5 hat5))
              go_wp2_with fail
              go_roundw
              case rel => exact ⟨q + 1, by omega, by go_num, hide ⟨unhide HM5, unhide HB5⟩⟩
              case measure => simp [intOf]; omega
            · have hL9 : L + 1 + q = L + 100 := by omega
              rw [hL9]
              have HS := hide ((unhide HR2).later (unhide HB))
              obtain ⟨hq2, hgl2⟩ := (unhide HS).cell (unhide HX)
              clear HO HB HR2
              go_wp2_with fail
              go_roundw
              case rel => exact ⟨j + 1, by omega, by go_num, HS⟩
              case measure => simp [intOf]; omega
        · obtain rfl : j = k := by omega
          go_wp2_with fail
          obtain ⟨wi, hwi⟩ : ∃ wi : World, wi = wr := ⟨_, rfl⟩
          subst hwi
          go_loopw [8] (fun i wr => ∃ n : Nat, n ≤ j ∧ i = .int .i64 n ∧ Hid (St T lo W (.slice va j vc) vs j j 0 wr)) (fun i _ => j - (intOf i).toNat)
          case atStart => exact ⟨0, Nat.zero_le _, rfl, HR2⟩
          case round =>
            obtain ⟨n, hn, rfl, HR3⟩ := hrel
            clear HR2
            by_cases hnl : n < j
            · obtain ⟨g, rfl⟩ := (unhide HR3).addr (by omega)
              obtain ⟨xa, L, hx, hLb⟩ := (unhide HR3).elem hnl
              have HX := hide hx
              clear hx
              go_wp2_with fail
              obtain ⟨wo2, hwo2⟩ : ∃ wo2 : World, wo2 = wr := ⟨_, rfl⟩
              subst hwo2
              go_loopw [9] (fun i wr => ∃ m : Nat, m ≤ L ∧ i = .int .i64 m ∧ Hid (St T lo W (.slice (some ⟨g, 0, none⟩) j vc) vs j j 0 wr)) (fun i _ => L - (intOf i).toNat)
              case atStart => exact ⟨0, Nat.zero_le _, rfl, HR3⟩
              case round =>
                obtain ⟨m, hm, rfl, HM⟩ := hrel
                clear HR3
                obtain ⟨hq, hgl⟩ := (unhide HM).cell (unhide HX)
                by_cases hml : m < L
                · obtain ⟨gx, rfl⟩ := (unhide HM).eaddr (unhide HX) (by omega)
                  have HF := hide (fun (w' : World) (hb : Below wr.heap.size wr w') => show w'.cell? ⟨g, n, none⟩ = some (.slice (some ⟨gx, 0, none⟩) L L) ∧ w'.cell? ⟨gx, m * 3, none⟩ = some (.string ⟨#[77, 65, 82, 75]⟩) ∧ w'.cell? ⟨gx, m * 3 + 1, none⟩ = some (.int .i64 n) ∧ w'.cell? ⟨gx, m * 3 + 2, none⟩ = some (.string ⟨#[]⟩) by
                    obtain ⟨-, ⟨y, q0, q1, q2, hy⟩, -⟩ := ((unhide HM).later hb).spots (unhide HX) hml
                    rw [hy (.inl hnl)] at q0 q1 q2
                    exact ⟨(((unhide HM).later hb).cell (unhide HX)).1, q0, q1, q2⟩)
                  have B0 := hide ((Below.refl wr.heap.size wr).drew)
                  have ce := neqA ⟨#[77, 65, 82, 75]⟩ n ⟨#[]⟩
                  go_wp2_with fail
                  go_region_held3 (fun w' => w'.cell? ⟨g, n, none⟩ = some (.slice (some ⟨gx, 0, none⟩) L L) ∧ w'.cell? ⟨gx, m * 3, none⟩ = some (.string ⟨#[77, 65, 82, 75]⟩) ∧ w'.cell? ⟨gx, m * 3 + 1, none⟩ = some (.int .i64 n) ∧ w'.cell? ⟨gx, m * 3 + 2, none⟩ = some (.string ⟨#[]⟩)) (first | exact unhide HF _ (unhide B0) | exact unhide HF _ (unhide B1)) (first | (go_at_call 22; refine (markA_any _ _).mono ?_; rintro x w11 ⟨rfl, hb11⟩; have B1 := hide ((unhide B0).trans (hb11.mono (unhide B0).size)); clear hb11))
                  have HS := hide ((unhide HM).later (unhide B1))
                  clear HM HF
                  go_wp2_with fail
                  go_roundw
                  case rel => exact ⟨m + 1, by omega, by go_num, HS⟩
                  case measure => simp [intOf]; omega
                · go_wp2_with fail
                  go_roundw
                  case rel => exact ⟨n + 1, by omega, by go_num, HM⟩
                  case measure => simp [intOf]; omega
            · have H4 := hide (show Fr T W wr ∧ ∃ us, wr.ownsRow lo 52 1 (.slice va j vc) j us ∧ (∀ g, va = some ⟨g, 0, none⟩ → T g) by
                obtain ⟨cl', h1, h2, h3, -⟩ := unhide HR3
                refine ⟨h3, vs, ?_, fun g e => ?_⟩
                · rw [← h1]; have := h2.row; rw [h1] at this ⊢; exact this
                · subst e; exact h2.tr g rfl)
              clear HR3
              go_wp2_with fail
              obtain ⟨w3, hw3⟩ : ∃ w3 : World, w3 = wr := ⟨_, rfl⟩
              subst hw3
              go_loopw [10] (fun i wr => ∃ p : Nat, p ≤ j ∧ i = .int .i64 p ∧ Hid (Fr T W wr ∧ ∃ us, wr.ownsRow lo 52 1 (.slice va j vc) j us ∧ (∀ g, va = some ⟨g, 0, none⟩ → T g))) (fun i _ => j - (intOf i).toNat)
              case atStart => exact ⟨0, Nat.zero_le _, rfl, H4⟩
              case round =>
                obtain ⟨p, hp, rfl, HP⟩ := hrel
                clear H4
                by_cases hpl : p < j
                · obtain ⟨g, rfl⟩ : ∃ g, va = some ⟨g, 0, none⟩ := by
                    obtain ⟨-, us, h2, -⟩ := unhide HP
                    rcases h2.2 with ⟨e, _⟩ | ⟨g, cap, cur, e, _⟩
                    · cases e; omega
                    · cases e; exact ⟨g, rfl⟩
                  obtain ⟨us, hus, hTT⟩ := (unhide HP).2
                  have hgl := (hus.lt g rfl).2
                  have hul : us.length = j := by simpa using hus.1
                  have hq := hus.cells (g := g) rfl p (us[p]'(by omega)) (List.getElem?_eq_getElem _)
                  rw [Go.WideShapes.add_plain] at hq
                  simp only [Nat.zero_add] at hq
                  generalize us[p]'(by omega) = uu at hq
                  have hf := ownsRow_free hus p
                  have HS := hide (show Fr T W (wr.setCell ⟨g, p, none⟩ (.slice none 0 0)) ∧ ∃ us, (wr.setCell ⟨g, p, none⟩ (.slice none 0 0)).ownsRow lo 52 1 (.slice (some ⟨g, 0, none⟩) j vc) j us ∧ (∀ g', (some ⟨g, 0, none⟩ : Option Addr) = some ⟨g', 0, none⟩ → T g') from ⟨(unhide HP).1.setCell (hTT g rfl) _, _, ownsRow_set hus p _, hTT⟩)
                  clear HP hus hTT hul
                  go_wp2_with fail
                  go_roundw
                  case rel => exact ⟨p + 1, by omega, by go_num, HS⟩
                  case measure => simp [intOf]; omega
                · go_wp2_with fail
                  go_ret
                  exact ⟨rfl, (unhide HP).1⟩

end Go.Proofs.YtfembjjpmjfklaaDoor
