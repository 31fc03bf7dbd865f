/- Contracts of package tri and of its reference, over this seat's translation. -/
import Derived.Test.YtlkeghfdpbfhbaaRows
import Derived.Test.YtlkeghfdpbfhbaaLib
namespace Go.Proofs.Ytlkeghfdpbfhbaa
set_option linter.unusedVariables false
open Go.ChangeShapes Go.WideShapes Go.ChangeAt Go.RowKit

def sureI (a : Int) : Int := if a = 0 ∨ a = 1 ∨ a = 2 then a else 1
theorem sureI_bd (a : Int) : 0 ≤ sureI a ∧ sureI a ≤ 2 := by
  unfold sureI; split <;> omega
def andI (a b : Int) : Int := if sureI a < sureI b then sureI a else sureI b
def orI (a b : Int) : Int := if sureI b < sureI a then sureI a else sureI b
def notI (a : Int) : Int := 2 - sureI a
def valueV (a : Int) : Value := .agg #[.int .i64 (if sureI a = 1 then 0 else 1), .int .i64 (if sureI a = 2 then 1 else 0), .string ⟨#[]⟩]

theorem is8 (a : Int) (w : World) : Calls Try.prog 69 #[.int .i64 a] w fun e w' => e = .returned (.bool (decide (a = 0 ∨ a = 1 ∨ a = 2))) ∧ w = w' := by
  go_enter Try.func69, Try.ntmps69
  go_wp2
  all_goals (go_ret; refine ⟨ret_bool ?_, rfl⟩; rw [Bool.eq_iff_iff]; simp_all; done)
theorem is9 (a : Int) (w : World) : Calls Try.prog 81 #[.int .i64 a] w fun e w' => e = .returned (.bool (decide (a = 0 ∨ a = 1 ∨ a = 2))) ∧ w = w' := by
  go_enter Try.func81, Try.ntmps81
  go_wp2
  all_goals (go_ret; refine ⟨ret_bool ?_, rfl⟩; rw [Bool.eq_iff_iff]; simp_all; done)
theorem sure26 (a : Int) (w : World) : Calls Try.prog 42 #[.int .i64 a] w fun e w' => e = .returned (.int .i64 (sureI a)) ∧ w = w' := by
  go_enter Try.func42, Try.ntmps42
  go_wp2_with (go_at_call 69; refine (is8 _ _).mono ?_; rintro e w' ⟨rfl, rfl⟩)
  all_goals (go_ret; refine ⟨ret_int ?_, rfl⟩; simp_all [sureI]; done)
theorem sure27 (a : Int) (w : World) : Calls Try.prog 62 #[.int .i64 a] w fun e w' => e = .returned (.int .i64 (sureI a)) ∧ w = w' := by
  go_enter Try.func62, Try.ntmps62
  go_wp2_with (go_at_call 81; refine (is9 _ _).mono ?_; rintro e w' ⟨rfl, rfl⟩)
  all_goals (go_ret; refine ⟨ret_int ?_, rfl⟩; simp_all [sureI]; done)
theorem not12 (a : Int) (w : World) : Calls Try.prog 44 #[.int .i64 a] w fun e w' => e = .returned (.int .i64 (notI a)) ∧ w = w' := by
  have := sureI_bd a
  go_enter Try.func44, Try.ntmps44
  go_wp2_with (go_at_call 42; refine (sure26 _ _).mono ?_; rintro e w' ⟨rfl, rfl⟩)
  all_goals (go_ret; exact ⟨rfl, rfl⟩)
theorem not13 (a : Int) (w : World) : Calls Try.prog 63 #[.int .i64 a] w fun e w' => e = .returned (.int .i64 (notI a)) ∧ w = w' := by
  have := sureI_bd a
  go_enter Try.func63, Try.ntmps63
  go_wp2_with (go_at_call 62; refine (sure27 _ _).mono ?_; rintro e w' ⟨rfl, rfl⟩)
  all_goals (go_ret; exact ⟨rfl, rfl⟩)
theorem and14 (a b : Int) (w : World) : Calls Try.prog 21 #[.int .i64 a, .int .i64 b] w fun e w' => e = .returned (.int .i64 (andI a b)) ∧ w = w' := by
  have := sureI_bd a
  have := sureI_bd b
  go_enter Try.func21, Try.ntmps21
  go_wp2_with (go_at_call 42; refine (sure26 _ _).mono ?_; rintro e w' ⟨rfl, rfl⟩)
  all_goals (go_ret; refine ⟨ret_int ?_, rfl⟩; unfold andI; split <;> omega)
theorem or16 (a b : Int) (w : World) : Calls Try.prog 47 #[.int .i64 a, .int .i64 b] w fun e w' => e = .returned (.int .i64 (orI a b)) ∧ w = w' := by
  have := sureI_bd a
  have := sureI_bd b
  go_enter Try.func47, Try.ntmps47
  go_wp2_with (go_at_call 42; refine (sure26 _ _).mono ?_; rintro e w' ⟨rfl, rfl⟩)
  all_goals (go_ret; refine ⟨ret_int ?_, rfl⟩; unfold orI; split <;> omega)
theorem and15 (a b : Int) (w : World) : Calls Try.prog 35 #[.int .i64 a, .int .i64 b] w fun e w' => e = .returned (.int .i64 (andI a b)) ∧ w = w' := by
  have := sureI_bd a
  have := sureI_bd b
  go_enter Try.func35, Try.ntmps35
  go_wp2_with (go_at_call 62; refine (sure27 _ _).mono ?_; rintro e w' ⟨rfl, rfl⟩)
  all_goals (go_ret; refine ⟨ret_int ?_, rfl⟩; unfold andI; split <;> omega)
theorem or17 (a b : Int) (w : World) : Calls Try.prog 60 #[.int .i64 a, .int .i64 b] w fun e w' => e = .returned (.int .i64 (orI a b)) ∧ w = w' := by
  have := sureI_bd a
  have := sureI_bd b
  go_enter Try.func60, Try.ntmps60
  go_wp2_with (go_at_call 62; refine (sure27 _ _).mono ?_; rintro e w' ⟨rfl, rfl⟩)
  all_goals (go_ret; refine ⟨ret_int ?_, rfl⟩; unfold orI; split <;> omega)
def ofI (b : Bool) : Int := if b then 2 else 0
theorem of10 (b : Bool) (w : World) : Calls Try.prog 41 #[.bool b] w fun e w' => e = .returned (.int .i64 (ofI b)) ∧ w = w' := by
  cases b <;> (go_enter Try.func41, Try.ntmps41; go_wp2; go_ret; exact ⟨rfl, rfl⟩)
theorem value18 (a : Int) (w : World) : Calls Try.prog 43 #[.int .i64 a] w fun e w' => e = .returned (valueV a) ∧ Below w.heap.size w w' := by
  have hb := sureI_bd a
  unfold valueV
  have hc : sureI a = 0 ∨ sureI a = 1 ∨ sureI a = 2 := by omega
  generalize hs : sureI a = s at *
  have HS := Lib.hid hs
  clear hs
  rcases hc with rfl | rfl | rfl
  all_goals
    go_enter Try.func43, Try.ntmps43
    go_wp2_with (go_at_call 42; refine (sure26 _ _).mono ?_; rw [HS.out]; rintro e w' ⟨rfl, rfl⟩)
    refine bodyPost_ret ?_ rfl ⟨rfl, ?_⟩
    · simp [results, Try.results43, go_sem]
    · exact (Below.refl _ _).alloc (Nat.le_refl _) _
theorem value19 (a : Int) (w : World) : Calls Try.prog 34 #[.int .i64 a] w fun e w' => e = .returned (valueV a) ∧ Below w.heap.size w w' := by
  have hb := sureI_bd a
  unfold valueV
  have hc : sureI a = 0 ∨ sureI a = 1 ∨ sureI a = 2 := by omega
  generalize hs : sureI a = s at *
  have HS := Lib.hid hs
  clear hs
  rcases hc with rfl | rfl | rfl
  all_goals
    go_enter Try.func34, Try.ntmps34
    go_wp2_with (go_at_call 62; refine (sure27 _ _).mono ?_; rw [HS.out]; rintro e w' ⟨rfl, rfl⟩)
    refine bodyPost_ret ?_ rfl ⟨rfl, ?_⟩
    · simp [results, Try.results34, go_sem]
    · exact (Below.refl _ _).alloc (Nat.le_refl _) _
def fromI (k n : Int) : Int := if k = 1 then (if n = 0 then 0 else 2) else 1
theorem fromI_1 {k : Int} (n : Int) (h : ¬ k = 1) : 1 = fromI k n := by simp [fromI, h]
theorem fromI_0 : 0 = fromI 1 0 := by simp [fromI]
theorem fromI_2 {n : Int} (h : ¬ n = 0) : 2 = fromI 1 n := by simp [fromI, h]
theorem from20 (k n : Int) (s : ByteArray) (w : World) : Calls Try.prog 20 #[.agg #[.int .i64 k, .int .i64 n, .string s]] w fun e w' => e = .returned (.int .i64 (fromI k n)) ∧ Below w.heap.size w w' := by
  have o1 : ofI true = 2 := rfl
  have o0 : ofI false = 0 := rfl
  by_cases hk : k = 1
  · subst hk
    by_cases hn : n = 0
    · subst hn
      go_enter Try.func20, Try.ntmps20
      go_wp2_with (go_at_call 41; refine (of10 _ _).mono ?_; rintro e w' ⟨rfl, rfl⟩)
      go_ret
      exact ⟨ret_int fromI_0, (Below.refl _ _).alloc (Nat.le_refl _) _⟩
    · have hn' : (n != 0) = true := by simp [hn]
      go_enter Try.func20, Try.ntmps20
      go_wp2_with (go_at_call 41; refine (of10 _ _).mono ?_; rintro e w' ⟨rfl, rfl⟩)
      go_ret
      exact ⟨ret_int (fromI_2 hn), (Below.refl _ _).alloc (Nat.le_refl _) _⟩
  · have hk' : (k != 1) = true := by simp [hk]
    go_enter Try.func20, Try.ntmps20
    go_wp2_with fail
    go_ret
    exact ⟨ret_int (fromI_1 n hk), (Below.refl _ _).alloc (Nat.le_refl _) _⟩
theorem from21 (k n : Int) (s : ByteArray) (w : World) : Calls Try.prog 36 #[.agg #[.int .i64 k, .int .i64 n, .string s]] w fun e w' => e = .returned (.int .i64 (fromI k n)) ∧ Below w.heap.size w w' := by
  by_cases hk : k = 1
  · subst hk
    by_cases hn : n = 0
    · subst hn
      go_enter Try.func36, Try.ntmps36
      go_wp2
      go_ret
      exact ⟨ret_int fromI_0, (Below.refl _ _).alloc (Nat.le_refl _) _⟩
    · have hn' : (n == 0) = false := by simp [hn]
      go_enter Try.func36, Try.ntmps36
      go_wp2
      go_ret
      exact ⟨ret_int (fromI_2 hn), (Below.refl _ _).alloc (Nat.le_refl _) _⟩
  · have hk' : (k != 1) = true := by simp [hk]
    go_enter Try.func36, Try.ntmps36
    go_wp2_with fail
    go_ret
    exact ⟨ret_int (fromI_1 n hk), (Below.refl _ _).alloc (Nat.le_refl _) _⟩
theorem valueV2 : valueV 2 = .agg #[.int .i64 1, .int .i64 1, .string ⟨#[]⟩] := rfl
end Go.Proofs.Ytlkeghfdpbfhbaa
