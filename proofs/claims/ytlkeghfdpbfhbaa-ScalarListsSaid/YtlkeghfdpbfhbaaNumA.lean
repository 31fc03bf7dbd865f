/- Contracts of package num and of its reference. -/
import Derived.Test.YtlkeghfdpbfhbaaRows
import Derived.Test.YtlkeghfdpbfhbaaLib
import Derived.Test.YtlkeghfdpbfhbaaNumMath
namespace Go.Proofs.Ytlkeghfdpbfhbaa
set_option linter.unusedVariables false
open Go.ChangeShapes Go.WideShapes Go.ChangeAt Go.RowKit

theorem ret_pb {p q : Int × Bool} (h : p = q) : Ending.returned (.tuple #[.int .i64 p.1, .bool p.2]) = .returned (.tuple #[.int .i64 q.1, .bool q.2]) := by rw [h]
theorem ret_xb {x : Int} {b : Bool} {q : Int × Bool} (h : q = (x, b)) : Ending.returned (.tuple #[.int .i64 x, .bool b]) = .returned (.tuple #[.int .i64 q.1, .bool q.2]) := by rw [h]
theorem in_c (n : Int) (w : World) : Calls Try.prog 39 #[.int .i64 n] w fun e w' => e = .returned (.bool (inN n)) ∧ w = w' := by
  go_enter Try.func39, Try.ntmps39
  go_wp2
  all_goals (go_ret; refine ⟨ret_bool ?_, rfl⟩; unfold inN; rw [Bool.eq_iff_iff]; simp; try omega)
theorem rin_c (n : Int) (w : World) : Calls Try.prog 57 #[.int .i64 n] w fun e w' => e = .returned (.bool (inN n)) ∧ w = w' := by
  go_enter Try.func57, Try.ntmps57
  go_wp2
  all_goals (go_ret; refine ⟨ret_bool ?_, rfl⟩; unfold inN; rw [Bool.eq_iff_iff]; simp; try omega)
theorem bounded_c (n : Int) (w : World) : Calls Try.prog 90 #[.int .i64 n] w fun e w' => e = .returned (.tuple #[.int .i64 (bdP n).1, .bool (bdP n).2]) ∧ w = w' := by
  cases h : inN n
  · have HP := hide (bdP_out h)
    go_enter Try.func90, Try.ntmps90
    go_wp2_with (first | (go_at_call 39; refine (in_c _ _).mono ?_; rintro e w' ⟨rfl, rfl⟩))
    go_ret2
    exact ⟨ret_xb HP.out, rfl⟩
  · have HP := hide (bdP_in h)
    go_enter Try.func90, Try.ntmps90
    go_wp2_with (first | (go_at_call 39; refine (in_c _ _).mono ?_; rintro e w' ⟨rfl, rfl⟩))
    go_ret2
    exact ⟨ret_xb HP.out, rfl⟩
theorem told_c (n : Int) (w : World) : Calls Try.prog 95 #[.int .i64 n] w fun e w' => e = .returned (.tuple #[.int .i64 (bdP n).1, .bool (bdP n).2]) ∧ w = w' := by
  cases h : inN n
  · have HP := hide (bdP_out h)
    go_enter Try.func95, Try.ntmps95
    go_wp2_with (first | (go_at_call 57; refine (rin_c _ _).mono ?_; rintro e w' ⟨rfl, rfl⟩))
    go_ret2
    exact ⟨ret_xb HP.out, rfl⟩
  · have HP := hide (bdP_in h)
    go_enter Try.func95, Try.ntmps95
    go_wp2_with (first | (go_at_call 57; refine (rin_c _ _).mono ?_; rintro e w' ⟨rfl, rfl⟩))
    go_ret2
    exact ⟨ret_xb HP.out, rfl⟩
theorem size_c (n : Int) (w : World) (h : inN n = true) : Calls Try.prog 91 #[.int .i64 n] w fun e w' => e = .returned (.int .i64 (sizeI n)) ∧ w = w' := by
  have h' := (inN_iff n).1 h
  clear h
  unfold sizeI
  by_cases hn : n < 0
  · rw [if_pos hn]
    go_enter Try.func91, Try.ntmps91
    go_wp2
    go_ret
    exact ⟨rfl, rfl⟩
  · rw [if_neg hn]
    go_enter Try.func91, Try.ntmps91
    go_wp2
    go_ret
    exact ⟨rfl, rfl⟩
theorem rsize_c (n : Int) (w : World) (h : inN n = true) : Calls Try.prog 96 #[.int .i64 n] w fun e w' => e = .returned (.int .i64 (sizeI n)) ∧ w = w' := by
  have h' := (inN_iff n).1 h
  clear h
  unfold sizeI
  by_cases hn : n < 0
  · rw [if_pos hn]
    go_enter Try.func96, Try.ntmps96
    go_wp2
    go_ret
    exact ⟨rfl, rfl⟩
  · rw [if_neg hn]
    go_enter Try.func96, Try.ntmps96
    go_wp2
    go_ret
    exact ⟨rfl, rfl⟩
theorem both_c (a b : Int) (w : World) : Calls Try.prog 94 #[.int .i64 a, .int .i64 b] w fun e w' => e = .returned (.bool (both a b)) ∧ w = w' := by
  unfold both
  cases ha : inN a <;> cases hb : inN b
  all_goals
    go_enter Try.func94, Try.ntmps94
    go_wp2_with (first | (go_at_call 57; refine (rin_c _ _).mono ?_; rintro e w' ⟨rfl, rfl⟩))
    go_ret
    exact ⟨rfl, rfl⟩
theorem add_c (a b : Int) (w : World) : Calls Try.prog 71 #[.int .i64 a, .int .i64 b] w fun e w' => e = .returned (.tuple #[.int .i64 (addP a b).1, .bool (addP a b).2]) ∧ w = w' := by
  have hd : addP a b = if both a b then bdP (a + b) else (0, false) := rfl
  have HD := hide hd
  clear hd
  have hbo := both_iff a b
  cases h : both a b
  · have h2 : inN a = false ∨ (inN a = true ∧ inN b = false) := both_not h
    have HH := hide h
    clear hbo
    rcases h2 with ha | ⟨ha, hb⟩
    all_goals
      go_enter Try.func71, Try.ntmps71
      go_wp2_with (first | (go_at_call 39; refine (in_c _ _).mono ?_; rintro e w' ⟨rfl, rfl⟩) | (go_at_call 90; refine (bounded_c _ _).mono ?_; rintro e w' ⟨rfl, rfl⟩))
      go_ret2
      exact ⟨ret_xb (by rw [HD.out, HH.out]; rfl), rfl⟩
  · obtain ⟨ha, hb⟩ := hbo.1 h
    have h1 := (inN_iff a).1 ha
    have h2 := (inN_iff b).1 hb
    have HH := hide h
    clear hbo
    go_enter Try.func71, Try.ntmps71
    go_wp2_with (first | (go_at_call 39; refine (in_c _ _).mono ?_; rintro e w' ⟨rfl, rfl⟩) | (go_at_call 90; refine (bounded_c _ _).mono ?_; rintro e w' ⟨rfl, rfl⟩))
    go_ret2
    exact ⟨ret_pb (by rw [HD.out, HH.out]; rfl), rfl⟩
theorem radd_c (a b : Int) (w : World) : Calls Try.prog 82 #[.int .i64 a, .int .i64 b] w fun e w' => e = .returned (.tuple #[.int .i64 (addP a b).1, .bool (addP a b).2]) ∧ w = w' := by
  have hd : addP a b = if both a b then bdP (a + b) else (0, false) := rfl
  have HD := hide hd
  clear hd
  have hbo := both_iff a b
  cases h : both a b
  · have h2 : inN a = false ∨ (inN a = true ∧ inN b = false) := both_not h
    have HH := hide h
    clear hbo
    rcases h2 with ha | ⟨ha, hb⟩
    all_goals
      go_enter Try.func82, Try.ntmps82
      go_wp2_with (first | (go_at_call 94; refine (both_c _ _ _).mono ?_; (try rw [HH.out]); rintro e w' ⟨rfl, rfl⟩) | (go_at_call 95; refine (told_c _ _).mono ?_; rintro e w' ⟨rfl, rfl⟩))
      go_ret2
      exact ⟨ret_xb (by rw [HD.out, HH.out]; rfl), rfl⟩
  · obtain ⟨ha, hb⟩ := hbo.1 h
    have h1 := (inN_iff a).1 ha
    have h2 := (inN_iff b).1 hb
    have HH := hide h
    clear hbo
    go_enter Try.func82, Try.ntmps82
    go_wp2_with (first | (go_at_call 94; refine (both_c _ _ _).mono ?_; (try rw [HH.out]); rintro e w' ⟨rfl, rfl⟩) | (go_at_call 95; refine (told_c _ _).mono ?_; rintro e w' ⟨rfl, rfl⟩))
    go_ret2
    exact ⟨ret_pb (by rw [HD.out, HH.out]; rfl), rfl⟩
theorem sub_c (a b : Int) (w : World) : Calls Try.prog 72 #[.int .i64 a, .int .i64 b] w fun e w' => e = .returned (.tuple #[.int .i64 (subP a b).1, .bool (subP a b).2]) ∧ w = w' := by
  have hd : subP a b = if both a b then bdP (a - b) else (0, false) := rfl
  have HD := hide hd
  clear hd
  have hbo := both_iff a b
  cases h : both a b
  · have h2 : inN a = false ∨ (inN a = true ∧ inN b = false) := both_not h
    have HH := hide h
    clear hbo
    rcases h2 with ha | ⟨ha, hb⟩
    all_goals
      go_enter Try.func72, Try.ntmps72
      go_wp2_with (first | (go_at_call 39; refine (in_c _ _).mono ?_; rintro e w' ⟨rfl, rfl⟩) | (go_at_call 90; refine (bounded_c _ _).mono ?_; rintro e w' ⟨rfl, rfl⟩))
      go_ret2
      exact ⟨ret_xb (by rw [HD.out, HH.out]; rfl), rfl⟩
  · obtain ⟨ha, hb⟩ := hbo.1 h
    have h1 := (inN_iff a).1 ha
    have h2 := (inN_iff b).1 hb
    have HH := hide h
    clear hbo
    go_enter Try.func72, Try.ntmps72
    go_wp2_with (first | (go_at_call 39; refine (in_c _ _).mono ?_; rintro e w' ⟨rfl, rfl⟩) | (go_at_call 90; refine (bounded_c _ _).mono ?_; rintro e w' ⟨rfl, rfl⟩))
    go_ret2
    exact ⟨ret_pb (by rw [HD.out, HH.out]; rfl), rfl⟩
theorem rsub_c (a b : Int) (w : World) : Calls Try.prog 83 #[.int .i64 a, .int .i64 b] w fun e w' => e = .returned (.tuple #[.int .i64 (subP a b).1, .bool (subP a b).2]) ∧ w = w' := by
  have hd : subP a b = if both a b then bdP (a - b) else (0, false) := rfl
  have HD := hide hd
  clear hd
  have hbo := both_iff a b
  cases h : both a b
  · have h2 : inN a = false ∨ (inN a = true ∧ inN b = false) := both_not h
    have HH := hide h
    clear hbo
    rcases h2 with ha | ⟨ha, hb⟩
    all_goals
      go_enter Try.func83, Try.ntmps83
      go_wp2_with (first | (go_at_call 94; refine (both_c _ _ _).mono ?_; (try rw [HH.out]); rintro e w' ⟨rfl, rfl⟩) | (go_at_call 95; refine (told_c _ _).mono ?_; rintro e w' ⟨rfl, rfl⟩))
      go_ret2
      exact ⟨ret_xb (by rw [HD.out, HH.out]; rfl), rfl⟩
  · obtain ⟨ha, hb⟩ := hbo.1 h
    have h1 := (inN_iff a).1 ha
    have h2 := (inN_iff b).1 hb
    have HH := hide h
    clear hbo
    go_enter Try.func83, Try.ntmps83
    go_wp2_with (first | (go_at_call 94; refine (both_c _ _ _).mono ?_; (try rw [HH.out]); rintro e w' ⟨rfl, rfl⟩) | (go_at_call 95; refine (told_c _ _).mono ?_; rintro e w' ⟨rfl, rfl⟩))
    go_ret2
    exact ⟨ret_pb (by rw [HD.out, HH.out]; rfl), rfl⟩
set_option maxHeartbeats 800000 in
theorem mul_c (a b : Int) (w : World) : Calls Try.prog 73 #[.int .i64 a, .int .i64 b] w fun e w' => e = .returned (.tuple #[.int .i64 (mulP a b).1, .bool (mulP a b).2]) ∧ w = w' := by
  have hd : mulP a b = if both a b then bdP (a * b) else (0, false) := rfl
  have HD := hide hd
  clear hd
  have hbo := both_iff a b
  cases h : both a b
  · have h2 := both_not h
    have HH := hide h
    clear hbo
    rcases h2 with ha | ⟨ha, hb⟩
    all_goals
      go_enter Try.func73, Try.ntmps73
      go_wp2_with (first | (go_at_call 39; refine (in_c _ _).mono ?_; rintro e w' ⟨rfl, rfl⟩) | (go_at_call 91; refine (size_c _ _ (by first | exact HA.out | exact HB.out)).mono ?_; rintro e w' ⟨rfl, rfl⟩))
      go_ret2
      exact ⟨ret_xb (by rw [HD.out, HH.out]; rfl), rfl⟩
  · obtain ⟨ha, hb⟩ := hbo.1 h
    have sa := sizeI_bd ha
    have sb := sizeI_bd hb
    have HH := hide h
    have HA := hide ha
    have HB := hide hb
    clear hbo
    by_cases h0 : a = 0
    · subst h0
      go_enter Try.func73, Try.ntmps73
      go_wp2_with (first | (go_at_call 39; refine (in_c _ _).mono ?_; rintro e w' ⟨rfl, rfl⟩) | (go_at_call 91; refine (size_c _ _ (by first | exact HA.out | exact HB.out)).mono ?_; rintro e w' ⟨rfl, rfl⟩))
      go_ret2
      exact ⟨ret_xb (by rw [HD.out, HH.out]; simp [bdP, inN]), rfl⟩
    · have t0 : (a != 0) = true := by simp [h0]
      have hsz : ¬ sizeI a = 0 := by rw [sizeI_abs]; omega
      have t1 : (sizeI a == 0) = false := by simp [hsz]
      by_cases hq : 1000000000000000 / sizeI a < sizeI b
      · have HP := hide (bdP_out (mul_out h0 hq))
        go_enter Try.func73, Try.ntmps73
        go_wp2_with (first | (go_at_call 39; refine (in_c _ _).mono ?_; rintro e w' ⟨rfl, rfl⟩) | (go_at_call 91; refine (size_c _ _ (by first | exact HA.out | exact HB.out)).mono ?_; rintro e w' ⟨rfl, rfl⟩))
        go_ret2
        exact ⟨ret_xb (by rw [HD.out, HH.out]; exact HP.out), rfl⟩
      · have hi := mul_in h0 hq
        have HP := hide (bdP_in hi)
        have hr := (inN_iff _).1 hi
        clear hi
        go_enter Try.func73, Try.ntmps73
        go_wp2_with (first | (go_at_call 39; refine (in_c _ _).mono ?_; rintro e w' ⟨rfl, rfl⟩) | (go_at_call 91; refine (size_c _ _ (by first | exact HA.out | exact HB.out)).mono ?_; rintro e w' ⟨rfl, rfl⟩))
        go_ret2
        exact ⟨ret_xb (by rw [HD.out, HH.out]; exact HP.out), rfl⟩
set_option maxHeartbeats 800000 in
theorem rmul_c (a b : Int) (w : World) : Calls Try.prog 84 #[.int .i64 a, .int .i64 b] w fun e w' => e = .returned (.tuple #[.int .i64 (mulP a b).1, .bool (mulP a b).2]) ∧ w = w' := by
  have hd : mulP a b = if both a b then bdP (a * b) else (0, false) := rfl
  have HD := hide hd
  clear hd
  have hbo := both_iff a b
  cases h : both a b
  · have h2 := both_not h
    have HH := hide h
    clear hbo
    rcases h2 with ha | ⟨ha, hb⟩
    all_goals
      go_enter Try.func84, Try.ntmps84
      go_wp2_with (first | (go_at_call 94; refine (both_c _ _ _).mono ?_; (try rw [HH.out]); rintro e w' ⟨rfl, rfl⟩) | (go_at_call 96; refine (rsize_c _ _ (by first | exact HA.out | exact HB.out)).mono ?_; rintro e w' ⟨rfl, rfl⟩))
      go_ret2
      exact ⟨ret_xb (by rw [HD.out, HH.out]; rfl), rfl⟩
  · obtain ⟨ha, hb⟩ := hbo.1 h
    have sa := sizeI_bd ha
    have sb := sizeI_bd hb
    have HH := hide h
    have HA := hide ha
    have HB := hide hb
    clear hbo
    by_cases h0 : a = 0
    · subst h0
      go_enter Try.func84, Try.ntmps84
      go_wp2_with (first | (go_at_call 94; refine (both_c _ _ _).mono ?_; (try rw [HH.out]); rintro e w' ⟨rfl, rfl⟩) | (go_at_call 96; refine (rsize_c _ _ (by first | exact HA.out | exact HB.out)).mono ?_; rintro e w' ⟨rfl, rfl⟩))
      go_ret2
      exact ⟨ret_xb (by rw [HD.out, HH.out]; simp [bdP, inN]), rfl⟩
    · have t0 : (a != 0) = true := by simp [h0]
      have hsz : ¬ sizeI a = 0 := by rw [sizeI_abs]; omega
      have t1 : (sizeI a == 0) = false := by simp [hsz]
      by_cases hq : 1000000000000000 / sizeI a < sizeI b
      · have HP := hide (bdP_out (mul_out h0 hq))
        go_enter Try.func84, Try.ntmps84
        go_wp2_with (first | (go_at_call 94; refine (both_c _ _ _).mono ?_; (try rw [HH.out]); rintro e w' ⟨rfl, rfl⟩) | (go_at_call 96; refine (rsize_c _ _ (by first | exact HA.out | exact HB.out)).mono ?_; rintro e w' ⟨rfl, rfl⟩))
        go_ret2
        exact ⟨ret_xb (by rw [HD.out, HH.out]; exact HP.out), rfl⟩
      · have hi := mul_in h0 hq
        have HP := hide (bdP_in hi)
        have hr := (inN_iff _).1 hi
        clear hi
        go_enter Try.func84, Try.ntmps84
        go_wp2_with (first | (go_at_call 94; refine (both_c _ _ _).mono ?_; (try rw [HH.out]); rintro e w' ⟨rfl, rfl⟩) | (go_at_call 96; refine (rsize_c _ _ (by first | exact HA.out | exact HB.out)).mono ?_; rintro e w' ⟨rfl, rfl⟩))
        go_ret2
        exact ⟨ret_xb (by rw [HD.out, HH.out]; exact HP.out), rfl⟩
end Go.Proofs.Ytlkeghfdpbfhbaa
