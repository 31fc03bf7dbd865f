/- Tokens compared; the examples of the statements. -/
import Derived.Test.YtcmhnaanfkpheaaDoorLxX
namespace Go.Proofs.YtcmhnaanfkpheaaDoor
set_option linter.unusedVariables false
open Go.ChangeShapes Go.WideShapes Go.ChangeAt Go.RowKit

deriving instance DecidableEq for Tok, TokA
theorem toks1 : tokensS [97, 60, 61, 49, 32, 45, 45, 120] = ([⟨0, ⟨2, 1, 0, [97], 0⟩⟩, ⟨1, ⟨5, 2, 0, [60, 61], 0⟩⟩, ⟨3, ⟨3, 1, 1, [], 0⟩⟩], 0, 0) := by decide +kernel
theorem toks2 : tokensS [97, 32, 39, 98] = ([], 2, 3) := by decide +kernel
theorem next1 : nextAt [32, 39, 105, 116, 39, 39, 115, 39] 0 = ⟨1, ⟨4, 7, 0, [105, 116, 39, 115], 0⟩⟩ := by decide +kernel
theorem res1 : resB [115, 101, 108, 101, 99, 116] = true := by decide +kernel
theorem res2 : resB [97, 95, 49] = false := by decide +kernel
theorem form1 : formB [97, 95, 49] = true := by decide +kernel
theorem form2 : formB [115, 101, 108, 101, 99, 116] = true := by decide +kernel
theorem str_eq_dec (a b : ByteArray) : (a.toList == b.toList) = decide (a = b) := by
  by_cases h : a = b
  · subst h; simp
  · rw [decide_eq_false h]
    cases hq : (a.toList == b.toList)
    · rfl
    · have := eq_of_beq hq
      rw [ByteArray.toList_eq, ByteArray.toList_eq] at this
      exact absurd (ByteArray.ext (Array.toList_inj.1 this)) h
/-- Two tokens are the same, or not: the comparison's run. -/
theorem tokEq_run (a1 a2 a3 a4 b1 b2 b3 b4 : Int) (a5 b5 : ByteArray) : ∃ e : Bool, (e = true ↔ a1 = b1 ∧ a2 = b2 ∧ a3 = b3 ∧ a4 = b4 ∧ a5 = b5) ∧ ∀ w : World, (Op.equalIn 10000 24 (.agg #[.int .i64 a1, .int .i64 a2, .int .i64 a3, .int .i64 a4, .string a5]) (.agg #[.int .i64 b1, .int .i64 b2, .int .i64 b3, .int .i64 b4, .string b5])).run Tryd.prog w = .ok e w := by
  by_cases h1 : a1 = b1
  · subst h1
    by_cases h2 : a2 = b2
    · subst h2
      by_cases h3 : a3 = b3
      · subst h3
        by_cases h4 : a4 = b4
        · subst h4
          by_cases h5 : a5 = b5
          · subst h5
            refine ⟨true, by simp, fun w => ?_⟩
            go_simp
          · have f := str_eq_dec a5 b5
            rw [decide_eq_false h5] at f
            refine ⟨false, by simp [h5], fun w => ?_⟩
            go_simp
        · have f : (a4 == b4) = false := by simp [h4]
          refine ⟨false, by simp [h4], fun w => ?_⟩
          clear h4
          go_simp
      · have f : (a3 == b3) = false := by simp [h3]
        refine ⟨false, by simp [h3], fun w => ?_⟩
        clear h3
        go_simp
    · have f : (a2 == b2) = false := by simp [h2]
      refine ⟨false, by simp [h2], fun w => ?_⟩
      clear h2
      go_simp
  · have f : (a1 == b1) = false := by simp [h1]
    refine ⟨false, by simp [h1], fun w => ?_⟩
    clear h1
    go_simp
theorem tokEq_same (a1 a2 a3 a4 : Int) (a5 : ByteArray) (w : World) : (Op.equalIn 10000 24 (.agg #[.int .i64 a1, .int .i64 a2, .int .i64 a3, .int .i64 a4, .string a5]) (.agg #[.int .i64 a1, .int .i64 a2, .int .i64 a3, .int .i64 a4, .string a5])).run Tryd.prog w = .ok true w := by
  obtain ⟨e, he, hE⟩ := tokEq_run a1 a2 a3 a4 a1 a2 a3 a4 a5 a5
  rw [he.2 ⟨rfl, rfl, rfl, rfl, rfl⟩] at hE
  exact hE w
end Go.Proofs.YtcmhnaanfkpheaaDoor
