/- Contracts: a number, a text, a bool as a value. -/
import Derived.Test.YtebamnlknaoehaaValC
import Derived.Handy
namespace Go.Proofs.Ytebamnlknaoehaa
set_option linter.unusedVariables false
open Go.ChangeShapes Go.WideShapes Go.ChangeAt Go.RowKit

theorem num_c (n : Int) (w : World) : Calls Try.prog 71 #[.int .i64 n] w fun e w' => e = .returned (valAgg ⟨2, n, .empty⟩) ∧ Below w.heap.size w w' := by
  go_enter Try.func71, Try.ntmps71
  go_wp2
  exact bodyPost_ret (v := valAgg ⟨2, n, .empty⟩) (by simp [results, Try.results71, go_sem, valAgg] <;> rfl) rfl ⟨rfl, by go_grown⟩
theorem rnum_c (n : Int) (w : World) : Calls Try.prog 63 #[.int .i64 n] w fun e w' => e = .returned (valAgg ⟨2, n, .empty⟩) ∧ Below w.heap.size w w' := by
  go_enter Try.func63, Try.ntmps63
  go_wp2
  exact bodyPost_ret (v := valAgg ⟨2, n, .empty⟩) (by simp [results, Try.results63, go_sem, valAgg] <;> rfl) rfl ⟨rfl, by go_grown⟩
theorem str_c (s : ByteArray) (w : World) : Calls Try.prog 72 #[.string s] w fun e w' => e = .returned (valAgg ⟨3, 0, s⟩) ∧ Below w.heap.size w w' := by
  go_enter Try.func72, Try.ntmps72
  go_wp2
  exact bodyPost_ret (v := valAgg ⟨3, 0, s⟩) (by simp [results, Try.results72, go_sem, valAgg] <;> rfl) rfl ⟨rfl, by go_grown⟩
theorem rstr_c (s : ByteArray) (w : World) : Calls Try.prog 73 #[.string s] w fun e w' => e = .returned (valAgg ⟨3, 0, s⟩) ∧ Below w.heap.size w w' := by
  go_enter Try.func73, Try.ntmps73
  go_wp2
  exact bodyPost_ret (v := valAgg ⟨3, 0, s⟩) (by simp [results, Try.results73, go_sem, valAgg] <;> rfl) rfl ⟨rfl, by go_grown⟩
theorem bool_c (b : Bool) (w : World) : Calls Try.prog 21 #[.bool b] w fun e w' => e = .returned (valAgg ⟨1, if b then 1 else 0, .empty⟩) ∧ Below w.heap.size w w' := by
  cases b
  · go_enter Try.func21, Try.ntmps21
    go_wp2
    exact bodyPost_ret (v := valAgg ⟨1, 0, .empty⟩) (by simp [results, Try.results21, go_sem, valAgg] <;> rfl) rfl ⟨rfl, by go_grown⟩
  · go_enter Try.func21, Try.ntmps21
    go_wp2
    exact bodyPost_ret (v := valAgg ⟨1, 1, .empty⟩) (by simp [results, Try.results21, go_sem, valAgg] <;> rfl) rfl ⟨rfl, by go_grown⟩
theorem rbool_c (b : Bool) (w : World) : Calls Try.prog 60 #[.bool b] w fun e w' => e = .returned (valAgg ⟨1, if b then 1 else 0, .empty⟩) ∧ Below w.heap.size w w' := by
  cases b
  · go_enter Try.func60, Try.ntmps60
    go_wp2
    exact bodyPost_ret (v := valAgg ⟨1, 0, .empty⟩) (by simp [results, Try.results60, go_sem, valAgg] <;> rfl) rfl ⟨rfl, by go_grown⟩
  · go_enter Try.func60, Try.ntmps60
    go_wp2
    exact bodyPost_ret (v := valAgg ⟨1, 1, .empty⟩) (by simp [results, Try.results60, go_sem, valAgg] <;> rfl) rfl ⟨rfl, by go_grown⟩
end Go.Proofs.Ytebamnlknaoehaa
