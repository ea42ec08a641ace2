/- Contracts of the reference: Put, Reverse, PutLittle, Get, GetLittle. -/
import Derived.Test.YtlmjfbgigfmdhaaMem2
import Derived.Deep.RegionWith
import Derived.OwnWalk
namespace Go.Proofs.Ytlmjfbgigfmdhaa
open Go.ChangeShapes Go.WideShapes Go.ChangeAt Go.RowKit

/-- What lies below the heap's end reads on behind a step that keeps it. -/
theorem kept_cells {a b : World} (h : Below a.heap.size a b) (g o : Nat) (hg : g < a.heap.size) : b.cell? ⟨g, o, none⟩ = a.cell? ⟨g, o, none⟩ := h.cell (p := ⟨g, o, none⟩) hg

end Go.Proofs.Ytlmjfbgigfmdhaa
