/- Rows: contracts of Orders and of its reference. -/
import Derived.Test.YtlkeghfdpbfhbaaValC
import Derived.Test.YtlkeghfdpbfhbaaSl
import Derived.Test.YtlkeghfdpbfhbaaNth
namespace Go.Proofs.Ytlkeghfdpbfhbaa
set_option linter.unusedVariables false
open Go.ChangeShapes Go.WideShapes Go.ChangeAt Go.RowKit

abbrev RowAt := SlAt valCells 3
theorem RowAt.val {w : World} {B n c : Nat} {A : Option Addr} {r : List ValV} (h : RowAt w B A n c r) {i : Nat} (hi : i < n) :
    ∃ b off v, A = some ⟨b, off, none⟩ ∧ b < B ∧ r[i]? = some v ∧ w.cell? ⟨b, off + i * 3, none⟩ = some (.int .i64 v.kind) ∧ w.cell? ⟨b, off + i * 3 + 1, none⟩ = some (.int .i64 v.num) ∧ w.cell? ⟨b, off + i * 3 + 2, none⟩ = some (.string v.str) := by
  obtain ⟨b, off, v, e, hb, hv, hc⟩ := h.at (by omega) hi
  exact ⟨b, off, v, e, hb, hv, hc 0 _ rfl, hc 1 _ rfl, hc 2 _ rfl⟩
theorem cmpR_at {r s : List ValV} {k : Nat} {a b : ValV} (h1 : r[k]? = some a) (h2 : s[k]? = some b) : cmpR (r.drop k) (s.drop k) = if cmpV a b = 0 then cmpR (r.drop (k + 1)) (s.drop (k + 1)) else cmpV a b := by
  rw [drop_at h1, drop_at h2]
  rfl
theorem cmpR_end {r s : List ValV} {k : Nat} (h1 : k ≤ r.length) (h2 : k ≤ s.length) (h : k = r.length ∨ k = s.length) : cmpR (r.drop k) (s.drop k) = cmpI r.length s.length := by
  by_cases a : k = r.length
  · rw [List.drop_of_length_le (l := r) (by omega)]
    by_cases b : k = s.length
    · rw [List.drop_of_length_le (by omega), cmpI_zero.2 (by omega)]; rfl
    · rw [List.drop_eq_getElem_cons (l := s) (by omega)]
      unfold cmpI
      rw [if_pos (by omega)]
      rfl
  · rw [List.drop_of_length_le (l := s) (by omega), List.drop_eq_getElem_cons (l := r) (by omega)]
    unfold cmpI
    rw [if_neg (by omega), if_pos (by omega)]
    rfl
end Go.Proofs.Ytlkeghfdpbfhbaa
