/- Contracts of package num and of its reference: quotients and remainders. -/
import Derived.Test.YtlkeghfdpbfhbaaNumA
namespace Go.Proofs.Ytlkeghfdpbfhbaa
set_option linter.unusedVariables false
open Go.ChangeShapes Go.WideShapes Go.ChangeAt Go.RowKit
set_option maxHeartbeats 800000 in
theorem div_c (a b : Int) (w : World) : Calls Try.prog 74 #[.int .i64 a, .int .i64 b] w fun e w' => e = .returned (.tuple #[.int .i64 (divP a b).1, .bool (divP a b).2]) ∧ w = w' := by
  have hd : divP a b = if both a b && !(b == 0) then (a.tdiv b, true) else (0, false) := rfl
  have HD := hide hd
  clear hd
  have hbo := both_iff a b
  cases h : both a b
  · have h2 := both_not h
    have HH := hide h
    clear hbo
    rcases h2 with ha | ⟨ha, hb⟩
    all_goals
      go_enter Try.func74, Try.ntmps74
      go_wp2_with (first | (go_at_call 39; refine (in_c _ _).mono ?_; rintro e w' ⟨rfl, rfl⟩))
      go_ret2
      exact ⟨ret_xb (by rw [HD.out, HH.out]; rfl), rfl⟩
  · obtain ⟨ha, hb⟩ := hbo.1 h
    have ra := (inN_iff _).1 ha
    have rb := (inN_iff _).1 hb
    have sa := sizeI_bd ha
    have sb := sizeI_bd hb
    have HH := hide h
    have HA := hide ha
    have HB := hide hb
    clear hbo
    by_cases h0 : b = 0
    · subst h0
      go_enter Try.func74, Try.ntmps74
      go_wp2_with (first | (go_at_call 39; refine (in_c _ _).mono ?_; rintro e w' ⟨rfl, rfl⟩))
      go_ret2
      exact ⟨ret_xb (by rw [HD.out, HH.out]; rfl), rfl⟩
    · have t0 : (b == 0) = false := by simp [h0]
      have HE : Hid (divP a b = (a.tdiv b, true)) := by show divP a b = _; rw [HD.out, HH.out, t0]; rfl
      have hsz : ¬ sizeI b = 0 := by rw [sizeI_abs]; omega
      have t1 : (sizeI b == 0) = false := by simp [hsz]
      have hbd := div_bd ha hb h0
      go_enter Try.func74, Try.ntmps74
      go_wp2_with (first | (go_at_call 39; refine (in_c _ _).mono ?_; rintro e w' ⟨rfl, rfl⟩))
      go_ret2
      exact ⟨ret_xb HE.out, rfl⟩

set_option maxHeartbeats 800000 in
theorem rdiv_c (a b : Int) (w : World) : Calls Try.prog 85 #[.int .i64 a, .int .i64 b] w fun e w' => e = .returned (.tuple #[.int .i64 (divP a b).1, .bool (divP a b).2]) ∧ w = w' := by
  have hd : divP a b = if both a b && !(b == 0) then (a.tdiv b, true) else (0, false) := rfl
  have HD := hide hd
  clear hd
  have hbo := both_iff a b
  cases h : both a b
  · have h2 := both_not h
    have HH := hide h
    clear hbo
    rcases h2 with ha | ⟨ha, hb⟩
    all_goals
      go_enter Try.func85, Try.ntmps85
      go_wp2_with (first | (go_at_call 94; refine (both_c _ _ _).mono ?_; (try rw [HH.out]); rintro e w' ⟨rfl, rfl⟩))
      go_ret2
      exact ⟨ret_xb (by rw [HD.out, HH.out]; rfl), rfl⟩
  · obtain ⟨ha, hb⟩ := hbo.1 h
    have ra := (inN_iff _).1 ha
    have rb := (inN_iff _).1 hb
    have sa := sizeI_bd ha
    have sb := sizeI_bd hb
    have HH := hide h
    have HA := hide ha
    have HB := hide hb
    clear hbo
    by_cases h0 : b = 0
    · subst h0
      go_enter Try.func85, Try.ntmps85
      go_wp2_with (first | (go_at_call 94; refine (both_c _ _ _).mono ?_; (try rw [HH.out]); rintro e w' ⟨rfl, rfl⟩))
      go_ret2
      exact ⟨ret_xb (by rw [HD.out, HH.out]; rfl), rfl⟩
    · have t0 : (b == 0) = false := by simp [h0]
      have HE : Hid (divP a b = (a.tdiv b, true)) := by show divP a b = _; rw [HD.out, HH.out, t0]; rfl
      have hsz : ¬ sizeI b = 0 := by rw [sizeI_abs]; omega
      have t1 : (sizeI b == 0) = false := by simp [hsz]
      have hq := size_div_bd ha hb h0
      have HS := hide (tdiv_size a b)
      cases da : decide (a < 0) <;> cases db : decide (b < 0)
      all_goals
        have hab := HS.out
        first | simp [da, db] at hab | skip
        try simp [of_decide_eq_true da] at hab
        try simp [of_decide_eq_false da] at hab
        rw [hab] at HE
        clear hab
        go_enter Try.func85, Try.ntmps85
        go_wp2_with (first | (go_at_call 94; refine (both_c _ _ _).mono ?_; (try rw [HH.out]); rintro e w' ⟨rfl, rfl⟩) | (go_at_call 96; refine (rsize_c _ _ (by first | exact HA.out | exact HB.out)).mono ?_; rintro e w' ⟨rfl, rfl⟩))
        go_ret2
        exact ⟨ret_xb HE.out, rfl⟩

set_option maxHeartbeats 800000 in
theorem mod_c (a b : Int) (w : World) : Calls Try.prog 75 #[.int .i64 a, .int .i64 b] w fun e w' => e = .returned (.tuple #[.int .i64 (modP a b).1, .bool (modP a b).2]) ∧ w = w' := by
  have hd : modP a b = if both a b && !(b == 0) then (a.tmod b, true) else (0, false) := rfl
  have HD := hide hd
  clear hd
  have hbo := both_iff a b
  cases h : both a b
  · have h2 := both_not h
    have HH := hide h
    clear hbo
    rcases h2 with ha | ⟨ha, hb⟩
    all_goals
      go_enter Try.func75, Try.ntmps75
      go_wp2_with (first | (go_at_call 39; refine (in_c _ _).mono ?_; rintro e w' ⟨rfl, rfl⟩))
      go_ret2
      exact ⟨ret_xb (by rw [HD.out, HH.out]; rfl), rfl⟩
  · obtain ⟨ha, hb⟩ := hbo.1 h
    have ra := (inN_iff _).1 ha
    have rb := (inN_iff _).1 hb
    have sa := sizeI_bd ha
    have sb := sizeI_bd hb
    have HH := hide h
    have HA := hide ha
    have HB := hide hb
    clear hbo
    by_cases h0 : b = 0
    · subst h0
      go_enter Try.func75, Try.ntmps75
      go_wp2_with (first | (go_at_call 39; refine (in_c _ _).mono ?_; rintro e w' ⟨rfl, rfl⟩))
      go_ret2
      exact ⟨ret_xb (by rw [HD.out, HH.out]; rfl), rfl⟩
    · have t0 : (b == 0) = false := by simp [h0]
      have HE : Hid (modP a b = (a.tmod b, true)) := by show modP a b = _; rw [HD.out, HH.out, t0]; rfl
      have hsz : ¬ sizeI b = 0 := by rw [sizeI_abs]; omega
      have t1 : (sizeI b == 0) = false := by simp [hsz]
      have hbd := mod_bd ha hb h0
      go_enter Try.func75, Try.ntmps75
      go_wp2_with (first | (go_at_call 39; refine (in_c _ _).mono ?_; rintro e w' ⟨rfl, rfl⟩))
      go_ret2
      exact ⟨ret_xb HE.out, rfl⟩

set_option maxHeartbeats 800000 in
theorem rmod_c (a b : Int) (w : World) : Calls Try.prog 86 #[.int .i64 a, .int .i64 b] w fun e w' => e = .returned (.tuple #[.int .i64 (modP a b).1, .bool (modP a b).2]) ∧ w = w' := by
  have hd : modP a b = if both a b && !(b == 0) then (a.tmod b, true) else (0, false) := rfl
  have HD := hide hd
  clear hd
  have hbo := both_iff a b
  cases h : both a b
  · have h2 := both_not h
    have HH := hide h
    clear hbo
    rcases h2 with ha | ⟨ha, hb⟩
    all_goals
      go_enter Try.func86, Try.ntmps86
      go_wp2_with (first | (go_at_call 94; refine (both_c _ _ _).mono ?_; (try rw [HH.out]); rintro e w' ⟨rfl, rfl⟩))
      go_ret2
      exact ⟨ret_xb (by rw [HD.out, HH.out]; rfl), rfl⟩
  · obtain ⟨ha, hb⟩ := hbo.1 h
    have ra := (inN_iff _).1 ha
    have rb := (inN_iff _).1 hb
    have sa := sizeI_bd ha
    have sb := sizeI_bd hb
    have HH := hide h
    have HA := hide ha
    have HB := hide hb
    clear hbo
    by_cases h0 : b = 0
    · subst h0
      go_enter Try.func86, Try.ntmps86
      go_wp2_with (first | (go_at_call 94; refine (both_c _ _ _).mono ?_; (try rw [HH.out]); rintro e w' ⟨rfl, rfl⟩))
      go_ret2
      exact ⟨ret_xb (by rw [HD.out, HH.out]; rfl), rfl⟩
    · have t0 : (b == 0) = false := by simp [h0]
      have HE : Hid (modP a b = (a.tmod b, true)) := by show modP a b = _; rw [HD.out, HH.out, t0]; rfl
      have hsz : ¬ sizeI b = 0 := by rw [sizeI_abs]; omega
      have t1 : (sizeI b == 0) = false := by simp [hsz]
      have hq := size_mod_bd ha hb h0
      have HS := hide (tmod_size a b)
      cases da : decide (a < 0) <;> cases db : decide (b < 0)
      all_goals
        have hab := HS.out
        first | simp [da, db] at hab | skip
        try simp [of_decide_eq_true da] at hab
        try simp [of_decide_eq_false da] at hab
        rw [hab] at HE
        clear hab
        go_enter Try.func86, Try.ntmps86
        go_wp2_with (first | (go_at_call 94; refine (both_c _ _ _).mono ?_; (try rw [HH.out]); rintro e w' ⟨rfl, rfl⟩) | (go_at_call 96; refine (rsize_c _ _ (by first | exact HA.out | exact HB.out)).mono ?_; rintro e w' ⟨rfl, rfl⟩))
        go_ret2
        exact ⟨ret_xb HE.out, rfl⟩

theorem neg_c (a : Int) (w : World) : Calls Try.prog 46 #[.int .i64 a] w fun e w' => e = .returned (.tuple #[.int .i64 (negP a).1, .bool (negP a).2]) ∧ w = w' := by
  have HD : Hid (negP a = if inN a then (-a, true) else (0, false)) := rfl
  cases h : inN a
  · have HH := hide h
    go_enter Try.func46, Try.ntmps46
    go_wp2_with (first | (go_at_call 39; refine (in_c _ _).mono ?_; rintro e w' ⟨rfl, rfl⟩))
    go_ret2
    exact ⟨ret_xb (by rw [HD.out, HH.out]; rfl), rfl⟩
  · have ra := (inN_iff _).1 h
    have HH := hide h
    go_enter Try.func46, Try.ntmps46
    go_wp2_with (first | (go_at_call 39; refine (in_c _ _).mono ?_; rintro e w' ⟨rfl, rfl⟩))
    go_ret2
    exact ⟨ret_xb (by rw [HD.out, HH.out]; rfl), rfl⟩
theorem rneg_c (a : Int) (w : World) : Calls Try.prog 56 #[.int .i64 a] w fun e w' => e = .returned (.tuple #[.int .i64 (negP a).1, .bool (negP a).2]) ∧ w = w' := by
  have HD : Hid (negP a = if inN a then (-a, true) else (0, false)) := rfl
  cases h : inN a
  · have HH := hide h
    go_enter Try.func56, Try.ntmps56
    go_wp2_with (first | (go_at_call 57; refine (rin_c _ _).mono ?_; rintro e w' ⟨rfl, rfl⟩))
    go_ret2
    exact ⟨ret_xb (by rw [HD.out, HH.out]; rfl), rfl⟩
  · have ra := (inN_iff _).1 h
    have HH := hide h
    go_enter Try.func56, Try.ntmps56
    go_wp2_with (first | (go_at_call 57; refine (rin_c _ _).mono ?_; rintro e w' ⟨rfl, rfl⟩))
    go_ret2
    exact ⟨ret_xb (by rw [HD.out, HH.out]; rfl), rfl⟩
end Go.Proofs.Ytlkeghfdpbfhbaa
