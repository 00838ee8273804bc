import Derived.Test.YtjcemfegkefdeaaDoorFirst
import Derived.Test.YtjcemfegkefdeaaDoorMeetR
import Derived.Deep.RegionHeld3
namespace Go.Proofs.YtjcemfegkefdeaaDoor
open Go.RowKit

theorem keepF {W w' : World} {b i c : Nat} {v0 v1 v2 : Value} {cs : List Value} (hb : b < W.heap.size) (hc : c < W.heap.size) (c0 : W.cell? ⟨b, i, none⟩ = some v0) (c1 : W.cell? ⟨b, i + 1, none⟩ = some v1) (c2 : W.cell? ⟨b, i + 2, none⟩ = some v2) (hr : W.rangeAt c 0 cs) (B : Below W.heap.size W w') :
    w'.cell? ⟨b, i, none⟩ = some v0 ∧ w'.cell? ⟨b, i + 1, none⟩ = some v1 ∧ w'.cell? ⟨b, i + 2, none⟩ = some v2 ∧ w'.rangeAt c 0 cs ∧ Below W.heap.size W w' :=
  ⟨(B.cell (p := ⟨b, i, none⟩) hb).trans c0, (B.cell (p := ⟨b, i + 1, none⟩) hb).trans c1, (B.cell (p := ⟨b, i + 2, none⟩) hb).trans c2, range_later1 hr hc B, B⟩

end Go.Proofs.YtjcemfegkefdeaaDoor
