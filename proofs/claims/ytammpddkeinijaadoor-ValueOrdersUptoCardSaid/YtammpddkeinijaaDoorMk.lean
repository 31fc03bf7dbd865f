/- Contracts: a number, a text, a bool as a value. -/
import Derived.Test.YtammpddkeinijaaDoorValRT
import Derived.Handy
namespace Go.Proofs.YtammpddkeinijaaDoor
set_option linter.unusedVariables false
open Go.ChangeShapes Go.WideShapes Go.ChangeAt Go.RowKit

theorem num_c (n : Int) (w : World) : Calls Tryd.prog 19 #[.int .i64 n] w fun e w' => e = .returned (valAgg ⟨2, n, .empty⟩) ∧ Below w.heap.size w w' := by
  go_enter Tryd.func19, Tryd.ntmps19
  go_wp2
  exact bodyPost_ret (v := valAgg ⟨2, n, .empty⟩) (by simp [results, Tryd.results19, go_sem, valAgg] <;> rfl) rfl ⟨rfl, by go_grown⟩
theorem rnum_c (n : Int) (w : World) : Calls Tryd.prog 20 #[.int .i64 n] w fun e w' => e = .returned (valAgg ⟨2, n, .empty⟩) ∧ Below w.heap.size w w' := by
  go_enter Tryd.func20, Tryd.ntmps20
  go_wp2
  exact bodyPost_ret (v := valAgg ⟨2, n, .empty⟩) (by simp [results, Tryd.results20, go_sem, valAgg] <;> rfl) rfl ⟨rfl, by go_grown⟩
theorem str_c (s : ByteArray) (w : World) : Calls Tryd.prog 21 #[.string s] w fun e w' => e = .returned (valAgg ⟨3, 0, s⟩) ∧ Below w.heap.size w w' := by
  go_enter Tryd.func21, Tryd.ntmps21
  go_wp2
  exact bodyPost_ret (v := valAgg ⟨3, 0, s⟩) (by simp [results, Tryd.results21, go_sem, valAgg] <;> rfl) rfl ⟨rfl, by go_grown⟩
theorem rstr_c (s : ByteArray) (w : World) : Calls Tryd.prog 22 #[.string s] w fun e w' => e = .returned (valAgg ⟨3, 0, s⟩) ∧ Below w.heap.size w w' := by
  go_enter Tryd.func22, Tryd.ntmps22
  go_wp2
  exact bodyPost_ret (v := valAgg ⟨3, 0, s⟩) (by simp [results, Tryd.results22, go_sem, valAgg] <;> rfl) rfl ⟨rfl, by go_grown⟩
theorem bool_c (b : Bool) (w : World) : Calls Tryd.prog 23 #[.bool b] w fun e w' => e = .returned (valAgg ⟨1, if b then 1 else 0, .empty⟩) ∧ Below w.heap.size w w' := by
  cases b
  · go_enter Tryd.func23, Tryd.ntmps23
    go_wp2
    exact bodyPost_ret (v := valAgg ⟨1, 0, .empty⟩) (by simp [results, Tryd.results23, go_sem, valAgg] <;> rfl) rfl ⟨rfl, by go_grown⟩
  · go_enter Tryd.func23, Tryd.ntmps23
    go_wp2
    exact bodyPost_ret (v := valAgg ⟨1, 1, .empty⟩) (by simp [results, Tryd.results23, go_sem, valAgg] <;> rfl) rfl ⟨rfl, by go_grown⟩
theorem rbool_c (b : Bool) (w : World) : Calls Tryd.prog 24 #[.bool b] w fun e w' => e = .returned (valAgg ⟨1, if b then 1 else 0, .empty⟩) ∧ Below w.heap.size w w' := by
  cases b
  · go_enter Tryd.func24, Tryd.ntmps24
    go_wp2
    exact bodyPost_ret (v := valAgg ⟨1, 0, .empty⟩) (by simp [results, Tryd.results24, go_sem, valAgg] <;> rfl) rfl ⟨rfl, by go_grown⟩
  · go_enter Tryd.func24, Tryd.ntmps24
    go_wp2
    exact bodyPost_ret (v := valAgg ⟨1, 1, .empty⟩) (by simp [results, Tryd.results24, go_sem, valAgg] <;> rfl) rfl ⟨rfl, by go_grown⟩
end Go.Proofs.YtammpddkeinijaaDoor
