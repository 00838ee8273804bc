import Derived.Test.YtjmomdnlibfbkaaDoorAbV
namespace Go.Proofs.YtjmomdnlibfbkaaDoor
open Go.RowKit

theorem tyY : Ty 23 5 1 1 (.int .u8 0) := ⟨Tryd.underlying23, infoY, rfl, by decide⟩
/-- BYTES BEHIND BYTES OF ONE'S OWN. -/
theorem app_bytes {wx : World} {lo n m c : Nat} {s : Value} {xs : List Value} {a : Option Addr} {l : Bs} (h : wx.ownsRow lo 5 1 s n xs) (hlo : lo ≤ wx.heap.size) (hR : Rb wx (.slice a m c) l) (hm : 0 < l.length) (hb : n + l.length ≤ 140737488355328) (ty : TypeId) :
    ∃ g cap w9, (Builtin.append_ #[23, 23] ty #[s, .slice a m c]).run Tryd.prog wx = .ok (.slice (some ⟨g, 0, none⟩) (n + l.length) cap) w9 ∧ w9.ownsRow lo 5 1 (.slice (some ⟨g, 0, none⟩) (n + l.length) cap) (n + l.length) (xs ++ l.map cb) ∧ Below lo wx w9 := by
  obtain ⟨a2, c2, e, _⟩ := hR.form
  cases e
  obtain ⟨b, o, rfl, _, hc⟩ := hR.at hm
  obtain ⟨i0, hi0, hz0, hz1, hz2⟩ := info_parts2 tyY.inf
  obtain ⟨g, cap, w9, hr, ho, hg, hgg, _⟩ := run_append_lies (P := Tryd.prog) wx 23 ty lo 5 i0 (.int .u8 0) 1 1 tyY.und hi0 hz0 hz1 hz2 tyY.zs tyY.pos s n xs h ⟨b, o, none⟩ l.length c (l.map cb) (by rw [List.length_map, Nat.mul_one])
    (fun j u hj => by
      rw [List.getElem?_map] at hj
      obtain ⟨x, hx, rfl⟩ := Option.map_eq_some_iff.1 hj
      have hjl := (List.getElem?_eq_some_iff.1 hx).1
      rw [Addr.add_mid, hc j hjl]
      rw [List.getElem?_eq_getElem hjl] at hx
      cases hx
      rfl) (map_cb_one _) hm (by unfold maxLen; omega) (by omega) hlo _ rfl
  refine ⟨g, cap, w9, hr, ho, hg.1, hg.2, hg.3, hg.size, fun k hk => hg.block k (by omega) fun q => ?_⟩
  have := (World.ownsRow.lt h k q.symm).1
  omega
end Go.Proofs.YtjmomdnlibfbkaaDoor
