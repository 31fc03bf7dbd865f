/- The mathematics of a round of ScalarLists' loop. No walk. -/
import Derived.Test.YtlkeghfdpbfhbaaScN
import Derived.Test.YtlkeghfdpbfhbaaScC
namespace Go.Proofs.Ytlkeghfdpbfhbaa
set_option linter.unusedVariables false

theorem take_next {l : List ValV} {k : Nat} {v : ValV} (h : l[k]? = some v) : l.take (k + 1) = l.take k ++ [v] := by
  rw [List.take_add_one, h]
  rfl
theorem or_next (a : ValV) {l : List ValV} {k : Nat} {v : ValV} (h : l[k]? = some v) : binV 18 (orTo a (l.take k)) (binV 11 a v) = orTo a (l.take (k + 1)) := by
  rw [binV_cmp (op := 11) ⟨by decide, by decide⟩, take_next h, orTo_snoc]
theorem whens_next {l : List ValV} {k : Nat} {v : ValV} (h : l[k]? = some v) : whens (l.take k) ++ [unV 4 (unV 19 v), v] = whens (l.take (k + 1)) := by
  rw [take_next h, whens_snoc]
theorem turned_next (a : ValV) {l : List ValV} {n k : Nat} {u : ValV} (hl : l.length = n) (hk : k < n) (h : l[n - 1 - k]? = some u) : (a :: l.reverse.take k) ++ [u] = a :: l.reverse.take (k + 1) := by
  have hr : l.reverse[k]? = some u := by
    rw [List.getElem?_reverse (by omega), hl]
    exact h
  rw [take_next hr]
  rfl
theorem end_or (a : ValV) {l : List ValV} {n : Nat} (hl : l.length = n) : orTo a (l.take n) = inV a l := by
  rw [List.take_of_length_le (by omega)]
  rfl
theorem end_turned (a : ValV) {l : List ValV} {n : Nat} (hl : l.length = n) : inV a (l.reverse.take n) = inV a l := by
  rw [List.take_of_length_le (by rw [List.length_reverse]; omega), inV_reverse]
theorem end_whens {l : List ValV} {n : Nat} (hl : l.length = n) : chooseV (whens (l.take n)) = coalV l := by
  rw [List.take_of_length_le (by omega), choose_whens]
end Go.Proofs.Ytlkeghfdpbfhbaa
