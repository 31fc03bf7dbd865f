/- Contracts: small functions on versions. -/
import Derived.Test.YtebamnlknaoehaaVrM
namespace Go.Proofs.Ytebamnlknaoehaa
set_option linter.unusedVariables false
open Go.ChangeShapes Go.WideShapes Go.ChangeAt Go.RowKit

theorem isNumber_c (n : Int) (w : World) : Calls Try.prog 22 #[.int .i64 n] w fun e w' => e = .returned (.bool (fitN n)) ∧ w = w' := by
  go_enter Try.func22, Try.ntmps22
  go_wp2
  all_goals (go_ret; refine ⟨ret_bool ?_, rfl⟩; unfold fitN; rw [Bool.eq_iff_iff]; simp; try omega)
theorem rfits_c (n : Int) (w : World) : Calls Try.prog 25 #[.int .i64 n] w fun e w' => e = .returned (.bool (fitN n)) ∧ w = w' := by
  go_enter Try.func25, Try.ntmps25
  go_wp2
  all_goals (go_ret; refine ⟨ret_bool ?_, rfl⟩; unfold fitN; rw [Bool.eq_iff_iff]; simp; try omega)
def verAgg (a b c : Int) (A : Option Addr) (n k : Nat) : Value := .agg #[.int .i64 a, .int .i64 b, .int .i64 c, .slice A n k]
theorem seen_cases (f t s : Int) : (s < f ∧ seenG f t s = false) ∨ (f ≤ s ∧ t = 0 ∧ seenG f t s = true) ∨ (f ≤ s ∧ (t == 0) = false ∧ s < t ∧ seenG f t s = true) ∨ (f ≤ s ∧ (t == 0) = false ∧ t ≤ s ∧ seenG f t s = false) := by
  unfold seenG
  by_cases h1 : f ≤ s
  · by_cases h2 : t = 0
    · right; left; simp [h1, h2]
    · by_cases h3 : s < t
      · right; right; left; simp [h1, h2, h3]
      · right; right; right; simp [h1, h2]; omega
  · left; simp [h1]; omega
theorem seen_c (a f t s : Int) (A : Option Addr) (n k : Nat) (w : World) : Calls Try.prog 14 #[verAgg a f t A n k, .int .i64 s] w fun e w' => e = .returned (.bool (seenG f t s)) ∧ Below w.heap.size w w' := by
  have hc := seen_cases f t s
  generalize seenG f t s = b at *
  unfold verAgg
  rcases hc with ⟨h1, rfl⟩ | ⟨h1, rfl, rfl⟩ | ⟨h1, h2, h3, rfl⟩ | ⟨h1, h2, h3, rfl⟩
  all_goals
    go_enter Try.func14, Try.ntmps14
    go_wp2
    go_ret
    exact ⟨ret_bool (by first | rfl | (simp; omega)), Bel.one _ _⟩
theorem rseen_c (a f t s : Int) (A : Option Addr) (n k : Nat) (w : World) : Calls Try.prog 15 #[verAgg a f t A n k, .int .i64 s] w fun e w' => e = .returned (.bool (seenG f t s)) ∧ Below w.heap.size w w' := by
  have hc := seen_cases f t s
  generalize seenG f t s = b at *
  unfold verAgg
  rcases hc with ⟨h1, rfl⟩ | ⟨h1, rfl, rfl⟩ | ⟨h1, h2, h3, rfl⟩ | ⟨h1, h2, h3, rfl⟩
  all_goals
    go_enter Try.func15, Try.ntmps15
    go_wp2
    go_ret
    exact ⟨ret_bool (by first | rfl | (simp; omega)), Bel.one _ _⟩
theorem old_cases (t o : Int) : (t ≤ 0 ∧ oldG t o = false) ∨ (0 < t ∧ t ≤ o ∧ oldG t o = true) ∨ (0 < t ∧ o < t ∧ oldG t o = false) := by
  unfold oldG
  by_cases h1 : 0 < t
  · by_cases h2 : t ≤ o
    · right; left; simp [h1, h2]
    · right; right; simp [h1]; omega
  · left; simp; omega
theorem old_c (a f t o : Int) (A : Option Addr) (n k : Nat) (w : World) : Calls Try.prog 16 #[verAgg a f t A n k, .int .i64 o] w fun e w' => e = .returned (.bool (oldG t o)) ∧ Below w.heap.size w w' := by
  have hc := old_cases t o
  generalize oldG t o = b at *
  unfold verAgg
  rcases hc with ⟨h1, rfl⟩ | ⟨h1, h2, rfl⟩ | ⟨h1, h2, rfl⟩
  all_goals
    go_enter Try.func16, Try.ntmps16
    go_wp2
    go_ret
    exact ⟨ret_bool (by first | rfl | (simp; omega)), Bel.one _ _⟩
theorem rold_c (a f t o : Int) (A : Option Addr) (n k : Nat) (w : World) : Calls Try.prog 17 #[verAgg a f t A n k, .int .i64 o] w fun e w' => e = .returned (.bool (oldG t o)) ∧ Below w.heap.size w w' := by
  have hc := old_cases t o
  generalize oldG t o = b at *
  unfold verAgg
  rcases hc with ⟨h1, rfl⟩ | ⟨h1, h2, rfl⟩ | ⟨h1, h2, rfl⟩
  all_goals
    go_enter Try.func17, Try.ntmps17
    go_wp2
    go_ret
    exact ⟨ret_bool (by first | rfl | (simp; omega)), Bel.one _ _⟩
end Go.Proofs.Ytebamnlknaoehaa
