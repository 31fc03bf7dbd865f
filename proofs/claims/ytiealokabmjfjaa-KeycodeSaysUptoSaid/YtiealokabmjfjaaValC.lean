/- Contracts of Compare and Order, and of their references. -/
import Derived.Test.YtiealokabmjfjaaValM
import Derived.Test.YtiealokabmjfjaaShelf
namespace Go.Proofs.Ytiealokabmjfjaa
set_option linter.unusedVariables false
open Go.ChangeShapes Go.WideShapes Go.ChangeAt Go.RowKit

/-- A pure call in a second region that draws. -/
theorem quiet_l2 {P : Program} {f : FuncId} {args : Array Value} {w : World} {a n : Nat} {v : Value} (h : Calls P f args (w.drewN (a + n)) fun e w' => e = .returned v ∧ w.drewN (a + n) = w') :
    Calls P f args (w.drewN (a + n)) fun e w'' => e = .returned v ∧ ∃ m, w'' = w.drewN (a + m) := h.mono fun _ _ ⟨he, hm⟩ => ⟨he, n, hm.symm⟩
theorem nan_c (a : Int) (w : World) : Calls Try.prog 47 #[.int .i64 a] w fun e w' => e = .returned (.bool false) ∧ w = w' := by
  have h : (a != a) = false := by simp
  go_enter Try.func47, Try.ntmps47
  go_wp2
  go_ret
  exact ⟨rfl, rfl⟩
theorem cmp_c (a b : Int) (w : World) : Calls Try.prog 43 #[.int .i64 a, .int .i64 b] w fun e w' => e = .returned (.int .i64 (cmpI a b)) ∧ w = w' := by
  unfold cmpI
  rcases Int.lt_trichotomy a b with h | h | h
  · rw [if_pos h]
    go_enter Try.func43, Try.ntmps43
    go_wp2_with (go_at_call 47; refine (nan_c _ _).mono ?_; rintro e w' ⟨rfl, rfl⟩)
    go_ret
    exact ⟨rfl, rfl⟩
  · subst h
    rw [if_neg (by omega), if_neg (by omega)]
    go_enter Try.func43, Try.ntmps43
    go_wp2_with (go_at_call 47; refine (nan_c _ _).mono ?_; rintro e w' ⟨rfl, rfl⟩)
    go_ret
    exact ⟨rfl, rfl⟩
  · rw [if_neg (by omega), if_pos h]
    have h2 : b ≤ a := by omega
    go_enter Try.func43, Try.ntmps43
    go_wp2_with (go_at_call 47; refine (nan_c _ _).mono ?_; rintro e w' ⟨rfl, rfl⟩)
    go_ret
    exact ⟨rfl, rfl⟩
theorem scmp_c (a b : ByteArray) (w : World) : Calls Try.prog 44 #[.string a, .string b] w fun e w' => e = .returned (.int .i64 (cmpT a b)) ∧ w = w' :=
  (Try.strings_Compare a b w).mono fun e w' ⟨h1, h2⟩ => ⟨h1, h2.symm⟩
theorem cb_at (s t : ByteArray) (k : Nat) (h1 : k < s.size) (h2 : k < t.size) : Lib.compareBytes (s.data.toList.drop k) (t.data.toList.drop k) = if s[k] = t[k] then Lib.compareBytes (s.data.toList.drop (k + 1)) (t.data.toList.drop (k + 1)) else cmpI s[k].toNat t[k].toNat := by
  have e1 : s.data.toList.drop k = s[k] :: s.data.toList.drop (k + 1) := List.drop_eq_getElem_cons (by rw [str_len]; exact h1)
  have e2 : t.data.toList.drop k = t[k] :: t.data.toList.drop (k + 1) := List.drop_eq_getElem_cons (by rw [str_len]; exact h2)
  rw [e1, e2]
  simp only [Lib.compareBytes]
  generalize s[k] = a
  generalize t[k] = b
  by_cases g1 : a < b
  · have := UInt8.lt_iff_toNat_lt.1 g1
    rw [if_pos g1, if_neg (UInt8.ne_of_lt g1)]
    unfold cmpI
    rw [if_pos (by omega)]
  · by_cases g2 : b < a
    · have := UInt8.lt_iff_toNat_lt.1 g2
      rw [if_neg g1, if_pos g2, if_neg (UInt8.ne_of_lt g2).symm]
      unfold cmpI
      rw [if_neg (by omega), if_pos (by omega)]
    · rw [if_neg g1, if_neg g2, if_pos (UInt8.le_antisymm (UInt8.not_lt.1 g2) (UInt8.not_lt.1 g1))]
theorem cb_end (s t : ByteArray) (k : Nat) (h1 : k ≤ s.size) (h2 : k ≤ t.size) (h : k = s.size ∨ k = t.size) : Lib.compareBytes (s.data.toList.drop k) (t.data.toList.drop k) = cmpI s.size t.size := by
  have l1 := str_len s
  have l2 := str_len t
  by_cases a : k = s.size
  · rw [List.drop_of_length_le (l := s.data.toList) (by omega)]
    by_cases b : k = t.size
    · rw [List.drop_of_length_le (by omega), cmpI_zero.2 (by omega)]; rfl
    · rw [List.drop_eq_getElem_cons (l := t.data.toList) (by omega)]
      unfold cmpI
      rw [if_pos (by omega)]
      rfl
  · rw [List.drop_of_length_le (l := t.data.toList) (by omega), List.drop_eq_getElem_cons (l := s.data.toList) (by omega)]
    unfold cmpI
    rw [if_neg (by omega), if_pos (by omega)]
    rfl
theorem order_c (a b : ValV) (w : World) : Calls Try.prog 29 #[valAgg a, valAgg b] w fun e w' => e = .returned (.int .i64 (cmpV a b)) ∧ Below w.heap.size w w' := by
  obtain ⟨k, n, s⟩ := a
  obtain ⟨k2, n2, s2⟩ := b
  unfold valAgg cmpV
  simp only
  have hB := ((Below.refl w.heap.size w).alloc (Nat.le_refl _) (.cells #[.int .i64 k, .int .i64 n, .string s] 39)).alloc (by simp) (.cells #[.int .i64 k2, .int .i64 n2, .string s2] 39)
  have HB := hide hB
  clear hB
  have q1 := fun W => cmp_c k k2 W
  have q2 := fun W => cmp_c n n2 W
  generalize cmpI k k2 = c1 at *
  generalize cmpI n n2 = c2 at *
  have Q1 := hide q1
  have Q2 := hide q2
  clear q1 q2
  by_cases h1 : c1 = 0
  · subst h1
    rw [if_pos rfl]
    by_cases h2 : c2 = 0
    · subst h2
      rw [if_pos rfl]
      go_enter Try.func29, Try.ntmps29
      go_wp2_with fail
      refine (Q1.out _).mono ?_
      rintro e w' ⟨rfl, rfl⟩
      go_wp2_with fail
      refine (Q2.out _).mono ?_
      rintro e w' ⟨rfl, rfl⟩
      go_wp2_with (go_at_call 44; refine (scmp_c _ _ _).mono ?_; rintro e w' ⟨rfl, rfl⟩)
      go_ret
      exact ⟨rfl, HB.out⟩
    · rw [if_neg h2]
      have f2 : (c2 != 0) = true := by simp [h2]
      clear h2
      go_enter Try.func29, Try.ntmps29
      go_wp2_with fail
      refine (Q1.out _).mono ?_
      rintro e w' ⟨rfl, rfl⟩
      go_wp2_with fail
      refine (Q2.out _).mono ?_
      rintro e w' ⟨rfl, rfl⟩
      go_wp2
      go_ret
      exact ⟨rfl, HB.out⟩
  · rw [if_neg h1]
    have f1 : (c1 != 0) = true := by simp [h1]
    clear h1
    go_enter Try.func29, Try.ntmps29
    go_wp2_with fail
    refine (Q1.out _).mono ?_
    rintro e w' ⟨rfl, rfl⟩
    go_wp2
    go_ret
    exact ⟨rfl, HB.out⟩
end Go.Proofs.Ytiealokabmjfjaa
