/- Contracts: a number, a text, a bool as a value. -/
import Derived.Test.YtfkccmkggggpbaaValC
import Derived.Handy
namespace Go.Proofs.Ytfkccmkggggpbaa
set_option linter.unusedVariables false
open Go.ChangeShapes Go.WideShapes Go.ChangeAt Go.RowKit

theorem num_c (n : Int) (w : World) : Calls Try.prog 19 #[.int .i64 n] w fun e w' => e = .returned (valAgg ⟨2, n, .empty⟩) ∧ Below w.heap.size w w' := by
  go_enter Try.func19, Try.ntmps19
  go_wp2
  exact bodyPost_ret (v := valAgg ⟨2, n, .empty⟩) (by simp [results, Try.results19, go_sem, valAgg] <;> rfl) rfl ⟨rfl, by go_grown⟩
theorem rnum_c (n : Int) (w : World) : Calls Try.prog 44 #[.int .i64 n] w fun e w' => e = .returned (valAgg ⟨2, n, .empty⟩) ∧ Below w.heap.size w w' := by
  go_enter Try.func44, Try.ntmps44
  go_wp2
  exact bodyPost_ret (v := valAgg ⟨2, n, .empty⟩) (by simp [results, Try.results44, go_sem, valAgg] <;> rfl) rfl ⟨rfl, by go_grown⟩
theorem str_c (s : ByteArray) (w : World) : Calls Try.prog 20 #[.string s] w fun e w' => e = .returned (valAgg ⟨3, 0, s⟩) ∧ Below w.heap.size w w' := by
  go_enter Try.func20, Try.ntmps20
  go_wp2
  exact bodyPost_ret (v := valAgg ⟨3, 0, s⟩) (by simp [results, Try.results20, go_sem, valAgg] <;> rfl) rfl ⟨rfl, by go_grown⟩
theorem rstr_c (s : ByteArray) (w : World) : Calls Try.prog 52 #[.string s] w fun e w' => e = .returned (valAgg ⟨3, 0, s⟩) ∧ Below w.heap.size w w' := by
  go_enter Try.func52, Try.ntmps52
  go_wp2
  exact bodyPost_ret (v := valAgg ⟨3, 0, s⟩) (by simp [results, Try.results52, go_sem, valAgg] <;> rfl) rfl ⟨rfl, by go_grown⟩
theorem bool_c (b : Bool) (w : World) : Calls Try.prog 18 #[.bool b] w fun e w' => e = .returned (valAgg ⟨1, if b then 1 else 0, .empty⟩) ∧ Below w.heap.size w w' := by
  cases b
  · go_enter Try.func18, Try.ntmps18
    go_wp2
    exact bodyPost_ret (v := valAgg ⟨1, 0, .empty⟩) (by simp [results, Try.results18, go_sem, valAgg] <;> rfl) rfl ⟨rfl, by go_grown⟩
  · go_enter Try.func18, Try.ntmps18
    go_wp2
    exact bodyPost_ret (v := valAgg ⟨1, 1, .empty⟩) (by simp [results, Try.results18, go_sem, valAgg] <;> rfl) rfl ⟨rfl, by go_grown⟩
theorem rbool_c (b : Bool) (w : World) : Calls Try.prog 41 #[.bool b] w fun e w' => e = .returned (valAgg ⟨1, if b then 1 else 0, .empty⟩) ∧ Below w.heap.size w w' := by
  cases b
  · go_enter Try.func41, Try.ntmps41
    go_wp2
    exact bodyPost_ret (v := valAgg ⟨1, 0, .empty⟩) (by simp [results, Try.results41, go_sem, valAgg] <;> rfl) rfl ⟨rfl, by go_grown⟩
  · go_enter Try.func41, Try.ntmps41
    go_wp2
    exact bodyPost_ret (v := valAgg ⟨1, 1, .empty⟩) (by simp [results, Try.results41, go_sem, valAgg] <;> rfl) rfl ⟨rfl, by go_grown⟩
end Go.Proofs.Ytfkccmkggggpbaa
