/- Values and rows of values that came in, of whatever size. -/
import Derived.Test.YtlkeghfdpbfhbaaOpenV
import Derived.Test.YtlkeghfdpbfhbaaScD
namespace Go.Proofs.Ytlkeghfdpbfhbaa
set_option linter.unusedVariables false
open Go.ChangeShapes Go.WideShapes Go.ChangeAt Go.RowKit Go.Joins Go.Deep

theorem open_valU2 {H : Type} {enc : TypeId × Value → H} {w : World} {base : Nat} {v : Value} {d : DataW H} {p : List MemPlace} (hok : Value.okWide Try.prog w .any base 26 v) (h : DataW.Trod enc Try.prog w 0 (fun _ => true) true 26 v d p) : ∃ a : ValV, v = valAgg a := by
  obtain ⟨cs, rfl, hsz⟩ := okWide_struct Try.underlying26 hok
  have hC : Try.prog.cellsOf 26 = 3 := by kernel_rfl
  rw [hC] at hsz
  obtain ⟨fuel, hf⟩ := h
  obtain ⟨a, ha, h1⟩ := open_val (vs := cs.toList) (by rw [Array.length_toList]; exact hsz) hf (Nat.le_refl _)
  refine ⟨a, ?_⟩
  obtain ⟨l⟩ := cs
  simp only at ha
  rw [ha]
  rfl
theorem open_valsU {H : Type} {enc : TypeId × Value → H} {w : World} {base : Nat} {v : Value} {d : DataW H} {p : List MemPlace} (hok : Value.okWide Try.prog w .any base 22 v) (h : DataW.Trod enc Try.prog w 0 (fun _ => true) true 22 v d p) : ∃ A n c l, v = .slice A n c ∧ RowV w w.heap.size A n c l := by
  obtain ⟨m, h0⟩ := h
  have hf : ∀ (M n : Nat) (vs : List Value) (y : DataW H × List MemPlace), vs.length = 3 → DataW.trod enc Try.prog w 0 (fun _ => true) true n 26 vs = some y → Rows.uptoBulk y.1 ≤ M → ∃ a : ValV, vs = valCells a ∧ ((-9223372036854775808 ≤ a.num ∧ a.num ≤ 9223372036854775807) ∧ a.str.size ≤ M) := fun M n vs y hl hy hb => open_val hl hy hb
  obtain ⟨A, N, C, l, e, h1, h2, h3, h4, h5, h6, h7⟩ := open_elems (α := ValV) valCells (Good := fun a => (-9223372036854775808 ≤ a.num ∧ a.num ≤ 9223372036854775807) ∧ a.str.size ≤ Rows.uptoBulk d) Try.underlying22 (k := 3) (by kernel_rfl) (by omega) Rows.uptoBulk bulk_el bulk_le (Nat.le_refl _) (hf _) h0
  obtain ⟨a0, len0, cap0, rfl⟩ := okWide_slice Try.underlying22 hok
  simp [Value.cells] at e
  obtain ⟨rfl, rfl, rfl⟩ := e
  exact ⟨_, _, _, l, rfl, ⟨h4, h1, h2, h3, h6⟩⟩
end Go.Proofs.Ytlkeghfdpbfhbaa
