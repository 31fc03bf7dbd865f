/- One field of a struct that came in, whatever its cells. -/
import Derived.Test.YtlkeghfdpbfhbaaRecs
namespace Go.Proofs.Ytlkeghfdpbfhbaa
set_option linter.unusedVariables false
open Go.ChangeShapes Go.WideShapes Go.ChangeAt Go.RowKit Go.Deep
section
variable {H : Type} {enc : TypeId × Value → H} {P : Program} {w : World} {base : Nat} {spare : Nat → Bool} {held : Bool}
theorem field_of {t : TypeId} {fs : Array Field} {fuel : Nat} {vs : List Value} {y : DataW H × List MemPlace} (hs : P.underlying t = some (.struct fs)) (h : DataW.trod enc P w base spare held fuel t vs = some y) (i : Nat) {f : Field} (hi : fs[i]? = some f)
    {o k : Nat} (ho : f.offset = o) (hk : P.cellsOf f.type = k) : ∃ m z, DataW.trod enc P w base spare held m f.type ((vs.drop o).take k) = some z ∧ ∃ l, y.1 = .agg l ∧ z.1 ∈ l := by
  obtain ⟨ys, m, _, hx, _, hlen, hg⟩ := DataW.trod_struct hs h
  have hlt : i < ys.length := by rw [hlen]; exact (Array.getElem?_eq_some_iff.1 hi).1
  have := hg i f hi
  rw [ho, hk, List.getElem?_eq_getElem hlt] at this
  exact ⟨m, _, this, ys.map (·.1), by rw [hx], List.mem_map.2 ⟨_, List.getElem_mem hlt, rfl⟩⟩
end
end Go.Proofs.Ytlkeghfdpbfhbaa
