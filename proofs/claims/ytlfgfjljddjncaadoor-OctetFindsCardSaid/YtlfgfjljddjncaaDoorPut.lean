/- The contract of octet.Put: the low bytes of a number, the highest first. -/
import Derived.Test.YtlfgfjljddjncaaDoorSum
import Derived.Handy
import Derived.Laws.BytesArg
namespace Go.Proofs.YtlfgfjljddjncaaDoor
set_option linter.unusedVariables false
open Go.ChangeShapes Go.WideShapes Go.ChangeAt Go.RowKit

def putL (n : Int) : Nat → List Int
  | 0 => []
  | k + 1 => putL (n / 256) k ++ [n % 256]
theorem conv_c (w : World) (xs : List Int) (t : TypeId) : (convert 39 9 (.slice (some ⟨w.heap.size, 0, none⟩) xs.length xs.length)).run Tryd.prog (w.alloc (.cells (xs.map (Value.int .u8)).toArray t)) = .ok (.string (strOfNums xs)) (w.alloc (.cells (xs.map (Value.int .u8)).toArray t)) := by
  refine run_convert_bytes_arg (w.alloc (.cells (xs.map (Value.int .u8)).toArray t)) 39 5 Tryd.underlying39 Tryd.underlying5 w.heap.size 0 xs.length xs.length xs rfl ?_ 9 Tryd.underlying9
  intro i hi
  have h := cell_of_row (w.alloc (.cells (xs.map (Value.int .u8)).toArray t)) w.heap.size i _ _ _ (heap_alloc_new w _)
  rw [Nat.zero_add]
  refine h.trans ?_
  simp [List.getD, hi]
theorem put1 (n : Int) (w : World) :
    Calls Tryd.prog 8 #[.int .i64 n, .int .i64 1] w fun e w' => e = .returned (.string (strOfNums (putL n 1))) ∧ Below w.heap.size w w' := by
  have hmk : ∀ w, (Instr.makeSlice 39 (.int .i64 1) (.int .i64 1)).run Tryd.prog w = .ok (.slice (some ⟨w.heap.size, 0, none⟩) 1 1) (w.alloc (.cells #[.int .u8 0] 5)) := fun _ => by kernel_rfl
  have hcv : (convert 39 9 (.slice (some ⟨w.heap.size, 0, none⟩) 1 1)).run Tryd.prog (w.alloc (.cells #[.int .u8 (n % 256)] 5)) = .ok (.string (strOfNums (putL n 1))) (w.alloc (.cells #[.int .u8 (n % 256)] 5)) := conv_c w [n % 256] 5
  generalize strOfNums (putL n 1) = s at *
  go_enter Tryd.func8, Tryd.ntmps8
  go_wp2
  go_rounds 2
  go_ret
  exact ⟨rfl, Bel.one _ _⟩
theorem put2 (n : Int) (w : World) :
    Calls Tryd.prog 8 #[.int .i64 n, .int .i64 2] w fun e w' => e = .returned (.string (strOfNums (putL n 2))) ∧ Below w.heap.size w w' := by
  have hmk : ∀ w, (Instr.makeSlice 39 (.int .i64 2) (.int .i64 2)).run Tryd.prog w = .ok (.slice (some ⟨w.heap.size, 0, none⟩) 2 2) (w.alloc (.cells #[.int .u8 0, .int .u8 0] 5)) := fun _ => by kernel_rfl
  have hcv : (convert 39 9 (.slice (some ⟨w.heap.size, 0, none⟩) 2 2)).run Tryd.prog (w.alloc (.cells #[.int .u8 (n / 256 % 256), .int .u8 (n % 256)] 5)) = .ok (.string (strOfNums (putL n 2))) (w.alloc (.cells #[.int .u8 (n / 256 % 256), .int .u8 (n % 256)] 5)) := conv_c w [n / 256 % 256, n % 256] 5
  generalize strOfNums (putL n 2) = s at *
  go_enter Tryd.func8, Tryd.ntmps8
  go_wp2
  go_rounds 3
  go_ret
  exact ⟨rfl, Bel.one _ _⟩
theorem put3 (n : Int) (w : World) :
    Calls Tryd.prog 8 #[.int .i64 n, .int .i64 3] w fun e w' => e = .returned (.string (strOfNums (putL n 3))) ∧ Below w.heap.size w w' := by
  have hmk : ∀ w, (Instr.makeSlice 39 (.int .i64 3) (.int .i64 3)).run Tryd.prog w = .ok (.slice (some ⟨w.heap.size, 0, none⟩) 3 3) (w.alloc (.cells #[.int .u8 0, .int .u8 0, .int .u8 0] 5)) := fun _ => by kernel_rfl
  have hcv : (convert 39 9 (.slice (some ⟨w.heap.size, 0, none⟩) 3 3)).run Tryd.prog (w.alloc (.cells #[.int .u8 (n / 256 / 256 % 256), .int .u8 (n / 256 % 256), .int .u8 (n % 256)] 5)) = .ok (.string (strOfNums (putL n 3))) (w.alloc (.cells #[.int .u8 (n / 256 / 256 % 256), .int .u8 (n / 256 % 256), .int .u8 (n % 256)] 5)) := conv_c w [n / 256 / 256 % 256, n / 256 % 256, n % 256] 5
  generalize strOfNums (putL n 3) = s at *
  go_enter Tryd.func8, Tryd.ntmps8
  go_wp2
  go_rounds 4
  go_ret
  exact ⟨rfl, Bel.one _ _⟩
theorem put4 (n : Int) (w : World) :
    Calls Tryd.prog 8 #[.int .i64 n, .int .i64 4] w fun e w' => e = .returned (.string (strOfNums (putL n 4))) ∧ Below w.heap.size w w' := by
  have hmk : ∀ w, (Instr.makeSlice 39 (.int .i64 4) (.int .i64 4)).run Tryd.prog w = .ok (.slice (some ⟨w.heap.size, 0, none⟩) 4 4) (w.alloc (.cells #[.int .u8 0, .int .u8 0, .int .u8 0, .int .u8 0] 5)) := fun _ => by kernel_rfl
  have hcv : (convert 39 9 (.slice (some ⟨w.heap.size, 0, none⟩) 4 4)).run Tryd.prog (w.alloc (.cells #[.int .u8 (n / 256 / 256 / 256 % 256), .int .u8 (n / 256 / 256 % 256), .int .u8 (n / 256 % 256), .int .u8 (n % 256)] 5)) = .ok (.string (strOfNums (putL n 4))) (w.alloc (.cells #[.int .u8 (n / 256 / 256 / 256 % 256), .int .u8 (n / 256 / 256 % 256), .int .u8 (n / 256 % 256), .int .u8 (n % 256)] 5)) := conv_c w [n / 256 / 256 / 256 % 256, n / 256 / 256 % 256, n / 256 % 256, n % 256] 5
  generalize strOfNums (putL n 4) = s at *
  go_enter Tryd.func8, Tryd.ntmps8
  go_wp2
  go_rounds 5
  go_ret
  exact ⟨rfl, Bel.one _ _⟩
theorem put5 (n : Int) (w : World) :
    Calls Tryd.prog 8 #[.int .i64 n, .int .i64 5] w fun e w' => e = .returned (.string (strOfNums (putL n 5))) ∧ Below w.heap.size w w' := by
  have hmk : ∀ w, (Instr.makeSlice 39 (.int .i64 5) (.int .i64 5)).run Tryd.prog w = .ok (.slice (some ⟨w.heap.size, 0, none⟩) 5 5) (w.alloc (.cells #[.int .u8 0, .int .u8 0, .int .u8 0, .int .u8 0, .int .u8 0] 5)) := fun _ => by kernel_rfl
  have hcv : (convert 39 9 (.slice (some ⟨w.heap.size, 0, none⟩) 5 5)).run Tryd.prog (w.alloc (.cells #[.int .u8 (n / 256 / 256 / 256 / 256 % 256), .int .u8 (n / 256 / 256 / 256 % 256), .int .u8 (n / 256 / 256 % 256), .int .u8 (n / 256 % 256), .int .u8 (n % 256)] 5)) = .ok (.string (strOfNums (putL n 5))) (w.alloc (.cells #[.int .u8 (n / 256 / 256 / 256 / 256 % 256), .int .u8 (n / 256 / 256 / 256 % 256), .int .u8 (n / 256 / 256 % 256), .int .u8 (n / 256 % 256), .int .u8 (n % 256)] 5)) := conv_c w [n / 256 / 256 / 256 / 256 % 256, n / 256 / 256 / 256 % 256, n / 256 / 256 % 256, n / 256 % 256, n % 256] 5
  generalize strOfNums (putL n 5) = s at *
  go_enter Tryd.func8, Tryd.ntmps8
  go_wp2
  go_rounds 6
  go_ret
  exact ⟨rfl, Bel.one _ _⟩
theorem put6 (n : Int) (w : World) :
    Calls Tryd.prog 8 #[.int .i64 n, .int .i64 6] w fun e w' => e = .returned (.string (strOfNums (putL n 6))) ∧ Below w.heap.size w w' := by
  have hmk : ∀ w, (Instr.makeSlice 39 (.int .i64 6) (.int .i64 6)).run Tryd.prog w = .ok (.slice (some ⟨w.heap.size, 0, none⟩) 6 6) (w.alloc (.cells #[.int .u8 0, .int .u8 0, .int .u8 0, .int .u8 0, .int .u8 0, .int .u8 0] 5)) := fun _ => by kernel_rfl
  have hcv : (convert 39 9 (.slice (some ⟨w.heap.size, 0, none⟩) 6 6)).run Tryd.prog (w.alloc (.cells #[.int .u8 (n / 256 / 256 / 256 / 256 / 256 % 256), .int .u8 (n / 256 / 256 / 256 / 256 % 256), .int .u8 (n / 256 / 256 / 256 % 256), .int .u8 (n / 256 / 256 % 256), .int .u8 (n / 256 % 256), .int .u8 (n % 256)] 5)) = .ok (.string (strOfNums (putL n 6))) (w.alloc (.cells #[.int .u8 (n / 256 / 256 / 256 / 256 / 256 % 256), .int .u8 (n / 256 / 256 / 256 / 256 % 256), .int .u8 (n / 256 / 256 / 256 % 256), .int .u8 (n / 256 / 256 % 256), .int .u8 (n / 256 % 256), .int .u8 (n % 256)] 5)) := conv_c w [n / 256 / 256 / 256 / 256 / 256 % 256, n / 256 / 256 / 256 / 256 % 256, n / 256 / 256 / 256 % 256, n / 256 / 256 % 256, n / 256 % 256, n % 256] 5
  generalize strOfNums (putL n 6) = s at *
  go_enter Tryd.func8, Tryd.ntmps8
  go_wp2
  go_rounds 7
  go_ret
  exact ⟨rfl, Bel.one _ _⟩
theorem put7 (n : Int) (w : World) :
    Calls Tryd.prog 8 #[.int .i64 n, .int .i64 7] w fun e w' => e = .returned (.string (strOfNums (putL n 7))) ∧ Below w.heap.size w w' := by
  have hmk : ∀ w, (Instr.makeSlice 39 (.int .i64 7) (.int .i64 7)).run Tryd.prog w = .ok (.slice (some ⟨w.heap.size, 0, none⟩) 7 7) (w.alloc (.cells #[.int .u8 0, .int .u8 0, .int .u8 0, .int .u8 0, .int .u8 0, .int .u8 0, .int .u8 0] 5)) := fun _ => by kernel_rfl
  have hcv : (convert 39 9 (.slice (some ⟨w.heap.size, 0, none⟩) 7 7)).run Tryd.prog (w.alloc (.cells #[.int .u8 (n / 256 / 256 / 256 / 256 / 256 / 256 % 256), .int .u8 (n / 256 / 256 / 256 / 256 / 256 % 256), .int .u8 (n / 256 / 256 / 256 / 256 % 256), .int .u8 (n / 256 / 256 / 256 % 256), .int .u8 (n / 256 / 256 % 256), .int .u8 (n / 256 % 256), .int .u8 (n % 256)] 5)) = .ok (.string (strOfNums (putL n 7))) (w.alloc (.cells #[.int .u8 (n / 256 / 256 / 256 / 256 / 256 / 256 % 256), .int .u8 (n / 256 / 256 / 256 / 256 / 256 % 256), .int .u8 (n / 256 / 256 / 256 / 256 % 256), .int .u8 (n / 256 / 256 / 256 % 256), .int .u8 (n / 256 / 256 % 256), .int .u8 (n / 256 % 256), .int .u8 (n % 256)] 5)) := conv_c w [n / 256 / 256 / 256 / 256 / 256 / 256 % 256, n / 256 / 256 / 256 / 256 / 256 % 256, n / 256 / 256 / 256 / 256 % 256, n / 256 / 256 / 256 % 256, n / 256 / 256 % 256, n / 256 % 256, n % 256] 5
  generalize strOfNums (putL n 7) = s at *
  go_enter Tryd.func8, Tryd.ntmps8
  go_wp2
  go_rounds 8
  go_ret
  exact ⟨rfl, Bel.one _ _⟩
theorem put8 (n : Int) (w : World) :
    Calls Tryd.prog 8 #[.int .i64 n, .int .i64 8] w fun e w' => e = .returned (.string (strOfNums (putL n 8))) ∧ Below w.heap.size w w' := by
  have hmk : ∀ w, (Instr.makeSlice 39 (.int .i64 8) (.int .i64 8)).run Tryd.prog w = .ok (.slice (some ⟨w.heap.size, 0, none⟩) 8 8) (w.alloc (.cells #[.int .u8 0, .int .u8 0, .int .u8 0, .int .u8 0, .int .u8 0, .int .u8 0, .int .u8 0, .int .u8 0] 5)) := fun _ => by kernel_rfl
  have hcv : (convert 39 9 (.slice (some ⟨w.heap.size, 0, none⟩) 8 8)).run Tryd.prog (w.alloc (.cells #[.int .u8 (n / 256 / 256 / 256 / 256 / 256 / 256 / 256 % 256), .int .u8 (n / 256 / 256 / 256 / 256 / 256 / 256 % 256), .int .u8 (n / 256 / 256 / 256 / 256 / 256 % 256), .int .u8 (n / 256 / 256 / 256 / 256 % 256), .int .u8 (n / 256 / 256 / 256 % 256), .int .u8 (n / 256 / 256 % 256), .int .u8 (n / 256 % 256), .int .u8 (n % 256)] 5)) = .ok (.string (strOfNums (putL n 8))) (w.alloc (.cells #[.int .u8 (n / 256 / 256 / 256 / 256 / 256 / 256 / 256 % 256), .int .u8 (n / 256 / 256 / 256 / 256 / 256 / 256 % 256), .int .u8 (n / 256 / 256 / 256 / 256 / 256 % 256), .int .u8 (n / 256 / 256 / 256 / 256 % 256), .int .u8 (n / 256 / 256 / 256 % 256), .int .u8 (n / 256 / 256 % 256), .int .u8 (n / 256 % 256), .int .u8 (n % 256)] 5)) := conv_c w [n / 256 / 256 / 256 / 256 / 256 / 256 / 256 % 256, n / 256 / 256 / 256 / 256 / 256 / 256 % 256, n / 256 / 256 / 256 / 256 / 256 % 256, n / 256 / 256 / 256 / 256 % 256, n / 256 / 256 / 256 % 256, n / 256 / 256 % 256, n / 256 % 256, n % 256] 5
  generalize strOfNums (putL n 8) = s at *
  go_enter Tryd.func8, Tryd.ntmps8
  go_wp2
  go_rounds 9
  go_ret
  exact ⟨rfl, Bel.one _ _⟩
end Go.Proofs.YtlfgfjljddjncaaDoor
