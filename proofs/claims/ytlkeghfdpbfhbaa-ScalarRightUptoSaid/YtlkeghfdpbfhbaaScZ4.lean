/- The statement ScalarRight, for arguments of at most the bulk that the Upto card names. -/
import Derived.Test.YtlkeghfdpbfhbaaRtW
import Derived.Test.YtlkeghfdpbfhbaaScalarRightFrame
namespace Go.Proofs.Ytlkeghfdpbfhbaa
set_option linter.unusedVariables false
open Go.ChangeShapes Go.WideShapes Go.ChangeAt Go.RowKit Go.Joins Go.Deep
open Go.ChangeMaps (open_string)

theorem open_valsT {H : Type} {enc : TypeId × Value → H} {w : World} {base : Nat} {v : Value} {d : DataW H} {p : List MemPlace} (hok : Value.okWide Try.prog w .any base 22 v) (h : DataW.Trod enc Try.prog w 0 (fun _ => true) true 22 v d p) (hM : Rows.uptoBulk d ≤ 1048576) : ∃ A n c l, v = .slice A n c ∧ RowV w w.heap.size A n c l ∧ n ≤ 1048576 ∧ ∀ a ∈ l, OkV a := by
  obtain ⟨m, h0⟩ := h
  obtain ⟨A, N, C, l, e, h1, h2, h3, h4, h5, h6, h7⟩ := open_elems (α := ValV) valCells (Good := OkV) Try.underlying22 (k := 3) (by kernel_rfl) (by omega) Rows.uptoBulk bulk_el bulk_le (M := 1048576) (by simpa using hM) (fun n vs y hl hy hb => by
    obtain ⟨a, h1, h2, h3⟩ := open_val hl hy hb
    exact ⟨a, h1, h2, h3⟩) h0
  obtain ⟨a0, len0, cap0, rfl⟩ := okWide_slice Try.underlying22 hok
  simp [Value.cells] at e
  obtain ⟨rfl, rfl, rfl⟩ := e
  exact ⟨_, _, _, l, rfl, ⟨h4, h1, h2, h3, h6⟩, h5, h7⟩
theorem scalarRight_holds : Rows.ScalarRightUptoSaid := scalarRightFrame.of_walk (by
  intro H enc W base v0 v1 v2 v3 d0 d1 d2 d3 p0 p1 p2 p3 k0 h0 k1 h1 k2 h2 k3 h3 hk
  have hu := bulk_all hk
  simp only [Rows.uptoBulkAll] at hu
  obtain ⟨op, rfl, _, _, _⟩ := open_int Try.underlying3 k0 h0
  obtain ⟨nm, rfl, _, _, _⟩ := open_string Try.underlying9 k1 h1
  obtain ⟨A, n, c, l, rfl, g1, g2, g3⟩ := open_valsT k2 h2 (by omega)
  obtain ⟨B, bn, bc, bl, rfl, f1, f2, f3⟩ := open_rowT k3 h3 (by omega)
  exact rightW_w op nm A B n c bn bc l bl W g1 f1 g3 f3 g2)
end Go.Proofs.Ytlkeghfdpbfhbaa
