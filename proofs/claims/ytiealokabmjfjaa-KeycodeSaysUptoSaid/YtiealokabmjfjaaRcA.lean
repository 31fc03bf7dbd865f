/- Contracts: the size of a value and of a row. -/
import Derived.Test.YtiealokabmjfjaaRcM2
import Derived.Test.YtiealokabmjfjaaBld
import Derived.Handy
namespace Go.Proofs.Ytiealokabmjfjaa
set_option linter.unusedVariables false
open Go.ChangeShapes Go.WideShapes Go.ChangeAt Go.RowKit

theorem sum_snoc (l : List ValV) (v : ValV) : sumV (l ++ [v]) = sumV l + sizeV v := by simp [sumV]
theorem size_range {v : ValV} (h : rightP v = true) : 1 ≤ sizeV v ∧ sizeV v ≤ 102 := by
  rcases right_kinds h with rfl | rfl | rfl | ⟨n, rfl, hn⟩ | ⟨s, rfl, hs⟩
  · decide
  · decide
  · decide
  · exact ⟨show (1 : Int) ≤ 9 by omega, show (9 : Int) ≤ 102 by omega⟩
  · have := (plain_iff.1 hs).1
    show 1 ≤ 2 + (s.size : Int) ∧ 2 + (s.size : Int) ≤ 102
    omega
theorem sum_range : ∀ (l : List ValV), l.all rightP = true → 0 ≤ sumV l ∧ sumV l ≤ 102 * l.length
  | [], _ => by simp [sumV]
  | v :: l, h => by
    rw [List.all_cons, Bool.and_eq_true] at h
    have h1 := sum_range l h.2
    have h2 := size_range h.1
    unfold sumV at *
    rw [List.map_cons, List.sum_cons, List.length_cons]
    omega
end Go.Proofs.Ytiealokabmjfjaa
