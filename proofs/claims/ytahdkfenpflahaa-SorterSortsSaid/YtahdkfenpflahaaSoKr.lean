/- Lists of rows that came in, of any size. -/
import Derived.Test.YtahdkfenpflahaaSoK
namespace Go.Proofs.Ytahdkfenpflahaa
set_option linter.unusedVariables false
open Go.ChangeShapes Go.WideShapes Go.ChangeAt Go.RowKit Go.Joins Go.Deep

section
variable {H : Type} {enc : TypeId × Value → H} {w : World} {base : Nat} {spare : Nat → Bool} {held : Bool}
theorem open_rowsC {n : Nat} {cs : List Value} {x : DataW H × List MemPlace} (h : DataW.trod enc Try.prog w base spare held n 29 cs = some x) : ∃ A N C ps, cs = [.slice A N C] ∧ HsAt w A N C ps ∧ ∀ p ∈ ps, StrsOk p.2 := by
  obtain ⟨A, N, C, l, e, h1, h2, h3, h4, h5, h6, h7⟩ := open_elems (α := HRow) hdC (Good := fun p => RowAt w w.heap.size p.1.A p.1.n p.1.c p.2 ∧ StrsOk p.2) Try.underlying29 (k := 1) (by kernel_rfl) (by omega) Rows.uptoBulk bulk_el bulk_le (M := Rows.uptoBulk x.1) (Nat.le_refl _) (fun n vs y hl hy _ => by
    obtain ⟨A, N, C, l, e, h1, h2⟩ := open_rowC hy
    exact ⟨(⟨A, N, C⟩, l), e, h1, h2⟩) h
  exact ⟨A, N, C, l, e, ⟨⟨h4, h1, h2, h3, h6⟩, fun p hp => (h7 p hp).1⟩, fun p hp => (h7 p hp).2⟩
theorem open_rowsT {v : Value} {d : DataW H} {p : List MemPlace} (hok : Value.okWide Try.prog w .any base 29 v) (h : DataW.Trod enc Try.prog w 0 (fun _ => true) true 29 v d p) : ∃ A N C ps, v = .slice A N C ∧ HsAt w A N C ps ∧ ∀ p ∈ ps, StrsOk p.2 := by
  obtain ⟨n, h0⟩ := h
  obtain ⟨A, N, C, l, e, h1, h2⟩ := open_rowsC h0
  obtain ⟨a0, len0, cap0, rfl⟩ := okWide_slice Try.underlying29 hok
  simp [Value.cells] at e
  obtain ⟨rfl, rfl, rfl⟩ := e
  exact ⟨_, _, _, l, rfl, h1, h2⟩
end
end Go.Proofs.Ytahdkfenpflahaa
