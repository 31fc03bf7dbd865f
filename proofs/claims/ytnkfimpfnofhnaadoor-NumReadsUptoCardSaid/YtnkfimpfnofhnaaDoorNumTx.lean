/- The walk of NumTexts. -/
import Derived.Test.YtnkfimpfnofhnaaDoorNumX2
import Derived.Test.YtnkfimpfnofhnaaDoorNumD
import Derived.Test.YtnkfimpfnofhnaaDoorNumL
namespace Go.Proofs.YtnkfimpfnofhnaaDoor
set_option linter.unusedVariables false
open Go.ChangeShapes Go.WideShapes Go.ChangeAt Go.RowKit

theorem texts_w (n : Int) (h0 : -9223372036854775808 ≤ n) (h1 : n ≤ 9223372036854775807) (w : World) (hW : NumW w) : Calls Tryd.prog 6 #[.int .i64 n] w fun e w' => e = .returned (.bool true) ∧ Below w.heap.size w w' := by
  have HW := hide hW
  clear hW
  have t1 : ∀ b : Bool, (b == b) = true := fun b => by cases b <;> rfl
  have t2 : ∀ x : Int, decide (x = x) = true := fun x => by simp
  have t3 : ∀ x : Int, (x == x) = true := fun x => by simp
  have hp := parse_itoa n h0 h1
  have q1 := fun W => text_c n h0 h1 W
  have q2 := fun W => parse_c ⟨(Lib.itoa n).toArray⟩ (by have := itoa_size n h0 h1; omega) W
  have q3 := fun W => rtext_c n h0 h1 W
  rw [hp] at q2
  generalize (⟨(Lib.itoa n).toArray⟩ : ByteArray) = s at *
  have Q1 := hide q1
  have Q3 := hide q3
  clear q1 q3 hp h0 h1
  cases hi : inN n
  all_goals
    rw [hi] at q2
    have Q2 := hide q2
    clear q2
    go_enter Tryd.func6, Tryd.ntmps6
    go_wp2_with fail
    refine (Q1.out _ HW.out).mono ?_
    rintro e w1 ⟨rfl, hb1⟩
    have HW1 := hide (HW.out.keep hb1)
    go_wp2_with fail
    refine (Q2.out _ HW1.out).mono ?_
    rintro e w2 ⟨rfl, hb2⟩
    have HW2 := hide (HW1.out.keep hb2)
    go_wp2_with fail
    refine (awake_c _ HW2.out).mono ?_
    rintro e w3 ⟨rfl, hb3⟩
    go_wp2_with fail
    refine (Q3.out _).mono ?_
    rintro e w' ⟨rfl, k, rfl⟩
    go_wp2_with (first | (go_at_call 15; refine (in_c _ _).mono ?_; rintro e w' ⟨rfl, rfl⟩))
    go_ret
    exact ⟨rfl, Bel.drewN (Bel.then (Bel.then hb1 hb2) hb3) k⟩
end Go.Proofs.YtnkfimpfnofhnaaDoor
