/- The walk of NumReads. -/
import Derived.Test.YtnkfimpfnofhnaaDoorNumRd
namespace Go.Proofs.YtnkfimpfnofhnaaDoor
set_option linter.unusedVariables false
open Go.ChangeShapes Go.WideShapes Go.ChangeAt Go.RowKit

theorem rparse_c (s : ByteArray) (w : World) : Calls Tryd.prog 27 #[.string s] w fun e w' => e = .returned (.tuple #[.int .i64 (parseP s).1, .bool (parseP s).2]) ∧ ∃ k, w' = w.drewN k := by
  rw [← parse_same]
  by_cases h : s.size ≤ 17
  · exact rparse_short s h w
  · exact rparse_long s (by omega) w
theorem parse_told (s : ByteArray) : (parseP s).2 = false ∨ ∃ m, parseP s = (m, true) ∧ inN m = true ∧ Lib.itoa m = s.data.toList := by
  have e : s.toList = s.data.toList := ByteArray.toList_eq s
  unfold parseP
  cases h : Lib.atoiAll s.data.toList with
  | ok v =>
    simp only [e]
    by_cases h2 : (inN v && (Lib.itoa v == s.data.toList)) = true
    · rw [if_pos h2]
      simp only [Bool.and_eq_true, beq_iff_eq] at h2
      exact .inr ⟨v, rfl, h2⟩
    · rw [if_neg h2]; exact .inl rfl
  | _ => exact .inl rfl
set_option maxHeartbeats 1000000 in
theorem reads_w (s : ByteArray) (hl : s.size ≤ 1099511627776) (w : World) (hW : NumW w) : Calls Tryd.prog 7 #[.string s] w fun e w' => e = .returned (.bool true) ∧ Below w.heap.size w w' := by
  have HW := hide hW
  clear hW
  have t1 : ∀ b : Bool, (b == b) = true := fun b => by cases b <;> rfl
  have t2 : ∀ x : Int, decide (x = x) = true := fun x => by simp
  have t3 : ∀ x : Int, (x == x) = true := fun x => by simp
  have q1 := fun W => parse_c s hl W
  have q2 := fun W => rparse_c s W
  rcases parse_told s with ht | ⟨m, ht, hi, hs⟩
  · generalize parseP s = p at *
    obtain ⟨m, ok⟩ := p
    simp only at ht q1 q2
    subst ht
    have Q1 := hide q1
    have Q2 := hide q2
    clear q1 q2 hl
    go_enter Tryd.func7, Tryd.ntmps7
    go_wp2_with fail
    refine (Q1.out _ HW.out).mono ?_
    rintro e w1 ⟨rfl, hb1⟩
    have HW1 := hide (HW.out.keep hb1)
    go_wp2_with fail
    refine (Q2.out _).mono ?_
    rintro e w2 ⟨rfl, k, rfl⟩
    have HW2 := hide (HW1.out.keep (Bel.drewN (Below.refl w1.heap.size w1) k))
    go_wp2_with fail
    refine (awake_c _ HW2.out).mono ?_
    rintro e w3 ⟨rfl, hb3⟩
    go_wp2_with (first | (go_at_call 17; refine (same_c _ _ _ _ _).mono ?_; rintro e w' ⟨rfl, rfl⟩))
    go_ret
    exact ⟨rfl, Bel.then (Bel.drewN hb1 k) hb3⟩
  · have hb := (inN_iff m).1 hi
    rw [ht] at q1 q2
    have q3 := fun W => text_c m (by omega) (by omega) W
    have e : (⟨(Lib.itoa m).toArray⟩ : ByteArray) = s := by rw [hs]
    rw [e] at q3
    have Q1 := hide q1
    have Q2 := hide q2
    have Q3 := hide q3
    have HI := hide hi
    clear q1 q2 q3 hl ht hs e hi
    go_enter Tryd.func7, Tryd.ntmps7
    go_wp2_with fail
    refine (Q1.out _ HW.out).mono ?_
    rintro e w1 ⟨rfl, hb1⟩
    have HW1 := hide (HW.out.keep hb1)
    go_wp2_with fail
    refine (Q2.out _).mono ?_
    rintro e w2 ⟨rfl, k, rfl⟩
    have HW2 := hide (HW1.out.keep (Bel.drewN (Below.refl w1.heap.size w1) k))
    go_wp2_with fail
    refine (awake_c _ HW2.out).mono ?_
    rintro e w3 ⟨rfl, hb3⟩
    have HW3 := hide (HW2.out.keep hb3)
    go_wp2_with fail
    refine (same_c _ _ _ _ _).mono ?_
    rintro e w' ⟨rfl, rfl⟩
    go_wp2_with fail
    refine (Q3.out _ HW3.out).mono ?_
    rintro e w4 ⟨rfl, hb4⟩
    go_wp2_with (first | (go_at_call 15; refine (in_c _ _).mono ?_; rw [HI.out]; rintro e w' ⟨rfl, rfl⟩))
    go_ret
    exact ⟨rfl, Bel.then (Bel.then (Bel.drewN hb1 k) hb3) hb4⟩
end Go.Proofs.YtnkfimpfnofhnaaDoor
