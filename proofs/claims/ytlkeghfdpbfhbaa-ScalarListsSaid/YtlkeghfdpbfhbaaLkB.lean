/- The contract of like.elements. -/
import Derived.Test.YtlkeghfdpbfhbaaLkA
import Derived.BigRegion
namespace Go.Proofs.Ytlkeghfdpbfhbaa
set_option linter.unusedVariables false
open Go.ChangeShapes Go.WideShapes Go.ChangeAt Go.RowKit

theorem str_get {s : ByteArray} {k : Nat} (h : k < s.size) : s.data.toList[k]? = some s[k] := by
  rw [List.getElem?_eq_getElem (by rw [str_len]; exact h)]
  rfl
theorem drop_str {s : ByteArray} {k : Nat} (h : k < s.size) : s.data.toList.drop k = s[k] :: s.data.toList.drop (k + 1) := drop_at (str_get h)
/-- How far the signs of a text have been read. -/
def ElsAt (w0 : World) (s : ByteArray) (k : Nat) (v : Value) (w : World) : Prop := ∃ l : List Sg, l ++ signsL (s.data.toList.drop k) = signsL s.data.toList ∧ l.length ≤ k ∧ w.ownsRow w0.heap.size 80 2 v l.length (l.map elC).flatten ∧ Below w0.heap.size w0 w
/-- What stands at k: its sign, and how many bytes it takes. -/
theorem sign_step {s : ByteArray} {k : Nat} (h : k < s.size) : (s[k] = 37 ∧ signsL (s.data.toList.drop k) = .all :: signsL (s.data.toList.drop (k + 1))) ∨ (s[k] = 95 ∧ signsL (s.data.toList.drop k) = .one :: signsL (s.data.toList.drop (k + 1))) ∨
    (∃ h2 : k + 1 < s.size, s[k] = 92 ∧ specialB s[k + 1] = true ∧ signsL (s.data.toList.drop k) = .byte s[k + 1] :: signsL (s.data.toList.drop (k + 1 + 1))) ∨
    (s[k] ≠ 37 ∧ s[k] ≠ 95 ∧ (s[k] ≠ 92 ∨ ¬ k + 1 < s.size ∨ ∃ h2 : k + 1 < s.size, specialB s[k + 1] = false) ∧ signsL (s.data.toList.drop k) = .byte s[k] :: signsL (s.data.toList.drop (k + 1))) := by
  rw [drop_str h]
  generalize hc : s[k] = c
  by_cases h1 : c = 37
  · left
    subst h1
    exact ⟨rfl, signs_one (by decide) _⟩
  · by_cases h2 : c = 95
    · right; left
      subst h2
      exact ⟨rfl, signs_one (by decide) _⟩
    · have hsg : sgOf c = .byte c := by unfold sgOf; rw [if_neg h1, if_neg h2]
      by_cases h3 : c = 92
      · subst h3
        by_cases h4 : k + 1 < s.size
        · by_cases h5 : specialB s[k + 1] = true
          · right; right; left
            exact ⟨h4, rfl, h5, by rw [drop_str h4, signs_esc h5]⟩
          · right; right; right
            have h5' : specialB s[k + 1] = false := by simpa using h5
            refine ⟨by decide, by decide, .inr (.inr ⟨h4, h5'⟩), ?_⟩
            rw [drop_str h4, signsL, if_neg (fun e => h5 e.2), hsg]
        · right; right; right
          refine ⟨by decide, by decide, .inr (.inl h4), ?_⟩
          rw [List.drop_of_length_le (by rw [str_len]; omega)]
          rfl
      · right; right; right
        exact ⟨h1, h2, .inl h3, by rw [signs_one h3, hsg]⟩
end Go.Proofs.Ytlkeghfdpbfhbaa
