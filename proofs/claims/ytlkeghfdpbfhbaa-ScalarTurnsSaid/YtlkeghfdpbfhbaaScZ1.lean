/- The statement ScalarTurns. -/
import Derived.Test.YtlkeghfdpbfhbaaScL
import Derived.Test.YtlkeghfdpbfhbaaOpenV
import Derived.Test.YtlkeghfdpbfhbaaScalarTurnsFrame
namespace Go.Proofs.Ytlkeghfdpbfhbaa
set_option linter.unusedVariables false
open Go.ChangeShapes Go.WideShapes Go.ChangeAt Go.RowKit Go.Joins Go.Deep

/-- A value that came in, of whatever size. -/
theorem open_valU {H : Type} {enc : TypeId × Value → H} {w : World} {base : Nat} {v : Value} {d : DataW H} {p : List MemPlace} (hok : Value.okWide Try.prog w .any base 26 v) (h : DataW.Trod enc Try.prog w 0 (fun _ => true) true 26 v d p) : ∃ a : ValV, v = valAgg a := by
  obtain ⟨cs, rfl, hsz⟩ := okWide_struct Try.underlying26 hok
  have hC : Try.prog.cellsOf 26 = 3 := by kernel_rfl
  rw [hC] at hsz
  obtain ⟨fuel, hf⟩ := h
  obtain ⟨a, ha, h1⟩ := open_val (vs := cs.toList) (by rw [Array.length_toList]; exact hsz) hf (Nat.le_refl _)
  refine ⟨a, ?_⟩
  obtain ⟨l⟩ := cs
  simp only at ha
  rw [ha]
  rfl
theorem scalarTurns_holds : Rows.ScalarTurnsSaid := scalarTurnsFrame.of_walk (by
  intro H enc W base v0 v1 v2 v3 d0 d1 d2 d3 p0 p1 p2 p3 k0 h0 k1 h1 k2 h2 k3 h3
  obtain ⟨a, rfl⟩ := open_valU k0 h0
  obtain ⟨b, rfl⟩ := open_valU k1 h1
  obtain ⟨c, rfl⟩ := open_valU k2 h2
  obtain ⟨k, rfl, _, _, wk⟩ := open_int Try.underlying3 k3 h3
  by_cases hk : k < 0 ∨ 5 < k
  · exact turns_out a b c k hk W
  · obtain ⟨K, rfl⟩ : ∃ K : Nat, k = K := ⟨k.toNat, by omega⟩
    exact turns_in a b c K (by omega) W)
end Go.Proofs.Ytlkeghfdpbfhbaa
