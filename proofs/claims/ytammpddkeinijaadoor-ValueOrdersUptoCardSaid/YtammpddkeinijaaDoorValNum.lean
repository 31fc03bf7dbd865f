/- Contracts of num.In, num.Text, and of the reference's In: for seats without Parse. -/
import Derived.Test.YtammpddkeinijaaDoorRows
import Derived.Test.YtammpddkeinijaaDoorLib2
import Derived.Test.YtammpddkeinijaaDoorValueA
import Derived.Test.YtammpddkeinijaaDoorShelf
import Derived.Lib.LaidTab
import Derived.WalkSmall
import Derived.MakeChecks
namespace Go.Proofs.YtammpddkeinijaaDoor
set_option linter.unusedVariables false
open Go.ChangeShapes Go.WideShapes Go.ChangeAt Go.RowKit

theorem gPow : Tryd.prog.globalNamed "internal/strconv.uint64pow10" = some 3 := by kernel_rfl
theorem tPow : (Tryd.prog.globals[3]?).map (·.type) = some 93 := by kernel_rfl
/-- What the walks are told of the library's variables: the table of powers. -/
structure NumW (W : World) : Prop where
  tab : Lib.TabIs Tryd.prog W "internal/strconv.uint64pow10" .u64 Lib.pow10Tab
theorem NumW.keep {W W' : World} (h : NumW W) (hb : Below W.heap.size W W') : NumW W' := ⟨Joins.tab_stays gPow h.tab hb (Nat.le_refl _)⟩
theorem below_grown (w : World) (n : Nat) (os : Array Obj) : Below w.heap.size w (Sort.grow (w.drewN n) os) :=
  ⟨rfl, rfl, rfl, by show w.heap.size ≤ (w.heap ++ os).size; rw [Array.size_append]; omega, fun _ hj => Sort.heap_grow_old (w.drewN n) os hj⟩

theorem text_c (n : Int) (h0 : -9223372036854775808 ≤ n) (h1 : n ≤ 9223372036854775807) (w : World) (hW : NumW w) :
    Calls Tryd.prog 42 #[.int .i64 n] w fun e w' => e = .returned (.string ⟨(Lib.itoa n).toArray⟩) ∧ Below w.heap.size w w' := by
  have HW := hide hW
  clear hW
  have HC := hide (Tryd.strconv_Itoa n h0 h1 w HW.out.tab)
  clear h0 h1
  go_enter Tryd.func42, Tryd.ntmps42
  go_wp2_with fail
  refine HC.out.mono ?_
  rintro e w' ⟨rfl, k, os, hw⟩
  have hb := below_grown w k os
  rw [← hw] at hb
  clear hw
  go_wp2_with fail
  go_ret
  exact ⟨rfl, hb⟩
end Go.Proofs.YtammpddkeinijaaDoor
