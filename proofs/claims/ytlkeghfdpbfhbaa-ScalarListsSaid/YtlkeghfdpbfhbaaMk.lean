/- Contracts: a number, a text, a bool as a value. -/
import Derived.Test.YtlkeghfdpbfhbaaValC
import Derived.Handy
namespace Go.Proofs.Ytlkeghfdpbfhbaa
set_option linter.unusedVariables false
open Go.ChangeShapes Go.WideShapes Go.ChangeAt Go.RowKit

theorem num_c (n : Int) (w : World) : Calls Try.prog 23 #[.int .i64 n] w fun e w' => e = .returned (valAgg ⟨2, n, .empty⟩) ∧ Below w.heap.size w w' := by
  go_enter Try.func23, Try.ntmps23
  go_wp2
  exact bodyPost_ret (v := valAgg ⟨2, n, .empty⟩) (by simp [results, Try.results23, go_sem, valAgg] <;> rfl) rfl ⟨rfl, by go_grown⟩
theorem rnum_c (n : Int) (w : World) : Calls Try.prog 58 #[.int .i64 n] w fun e w' => e = .returned (valAgg ⟨2, n, .empty⟩) ∧ Below w.heap.size w w' := by
  go_enter Try.func58, Try.ntmps58
  go_wp2
  exact bodyPost_ret (v := valAgg ⟨2, n, .empty⟩) (by simp [results, Try.results58, go_sem, valAgg] <;> rfl) rfl ⟨rfl, by go_grown⟩
theorem str_c (s : ByteArray) (w : World) : Calls Try.prog 24 #[.string s] w fun e w' => e = .returned (valAgg ⟨3, 0, s⟩) ∧ Below w.heap.size w w' := by
  go_enter Try.func24, Try.ntmps24
  go_wp2
  exact bodyPost_ret (v := valAgg ⟨3, 0, s⟩) (by simp [results, Try.results24, go_sem, valAgg] <;> rfl) rfl ⟨rfl, by go_grown⟩
theorem rstr_c (s : ByteArray) (w : World) : Calls Try.prog 67 #[.string s] w fun e w' => e = .returned (valAgg ⟨3, 0, s⟩) ∧ Below w.heap.size w w' := by
  go_enter Try.func67, Try.ntmps67
  go_wp2
  exact bodyPost_ret (v := valAgg ⟨3, 0, s⟩) (by simp [results, Try.results67, go_sem, valAgg] <;> rfl) rfl ⟨rfl, by go_grown⟩
theorem bool_c (b : Bool) (w : World) : Calls Try.prog 22 #[.bool b] w fun e w' => e = .returned (valAgg ⟨1, if b then 1 else 0, .empty⟩) ∧ Below w.heap.size w w' := by
  cases b
  · go_enter Try.func22, Try.ntmps22
    go_wp2
    exact bodyPost_ret (v := valAgg ⟨1, 0, .empty⟩) (by simp [results, Try.results22, go_sem, valAgg] <;> rfl) rfl ⟨rfl, by go_grown⟩
  · go_enter Try.func22, Try.ntmps22
    go_wp2
    exact bodyPost_ret (v := valAgg ⟨1, 1, .empty⟩) (by simp [results, Try.results22, go_sem, valAgg] <;> rfl) rfl ⟨rfl, by go_grown⟩
theorem rbool_c (b : Bool) (w : World) : Calls Try.prog 61 #[.bool b] w fun e w' => e = .returned (valAgg ⟨1, if b then 1 else 0, .empty⟩) ∧ Below w.heap.size w w' := by
  cases b
  · go_enter Try.func61, Try.ntmps61
    go_wp2
    exact bodyPost_ret (v := valAgg ⟨1, 0, .empty⟩) (by simp [results, Try.results61, go_sem, valAgg] <;> rfl) rfl ⟨rfl, by go_grown⟩
  · go_enter Try.func61, Try.ntmps61
    go_wp2
    exact bodyPost_ret (v := valAgg ⟨1, 1, .empty⟩) (by simp [results, Try.results61, go_sem, valAgg] <;> rfl) rfl ⟨rfl, by go_grown⟩
end Go.Proofs.Ytlkeghfdpbfhbaa
