/- Contracts of Compare and Order, and of their references. -/
import Derived.Test.YtlkeghfdpbfhbaaValM
import Derived.Test.YtlkeghfdpbfhbaaShelf
namespace Go.Proofs.Ytlkeghfdpbfhbaa
set_option linter.unusedVariables false
open Go.ChangeShapes Go.WideShapes Go.ChangeAt Go.RowKit

/-- A pure call in a second region that draws. -/
theorem quiet_l2 {P : Program} {f : FuncId} {args : Array Value} {w : World} {a n : Nat} {v : Value} (h : Calls P f args (w.drewN (a + n)) fun e w' => e = .returned v ∧ w.drewN (a + n) = w') :
    Calls P f args (w.drewN (a + n)) fun e w'' => e = .returned v ∧ ∃ m, w'' = w.drewN (a + m) := h.mono fun _ _ ⟨he, hm⟩ => ⟨he, n, hm.symm⟩
theorem nan_c (a : Int) (w : World) : Calls Try.prog 92 #[.int .i64 a] w fun e w' => e = .returned (.bool false) ∧ w = w' := by
  have h : (a != a) = false := by simp
  go_enter Try.func92, Try.ntmps92
  go_wp2
  go_ret
  exact ⟨rfl, rfl⟩
theorem cmp_c (a b : Int) (w : World) : Calls Try.prog 76 #[.int .i64 a, .int .i64 b] w fun e w' => e = .returned (.int .i64 (cmpI a b)) ∧ w = w' := by
  unfold cmpI
  rcases Int.lt_trichotomy a b with h | h | h
  · rw [if_pos h]
    go_enter Try.func76, Try.ntmps76
    go_wp2_with (go_at_call 92; refine (nan_c _ _).mono ?_; rintro e w' ⟨rfl, rfl⟩)
    go_ret
    exact ⟨rfl, rfl⟩
  · subst h
    rw [if_neg (by omega), if_neg (by omega)]
    go_enter Try.func76, Try.ntmps76
    go_wp2_with (go_at_call 92; refine (nan_c _ _).mono ?_; rintro e w' ⟨rfl, rfl⟩)
    go_ret
    exact ⟨rfl, rfl⟩
  · rw [if_neg (by omega), if_pos h]
    have h2 : b ≤ a := by omega
    go_enter Try.func76, Try.ntmps76
    go_wp2_with (go_at_call 92; refine (nan_c _ _).mono ?_; rintro e w' ⟨rfl, rfl⟩)
    go_ret
    exact ⟨rfl, rfl⟩
theorem ints_c (a b : Int) (w : World) : Calls Try.prog 79 #[.int .i64 a, .int .i64 b] w fun e w' => e = .returned (.int .i64 (cmpI a b)) ∧ w = w' := by
  unfold cmpI
  rcases Int.lt_trichotomy a b with h | h | h
  · rw [if_pos h]
    go_enter Try.func79, Try.ntmps79
    go_wp2
    go_ret
    exact ⟨rfl, rfl⟩
  · subst h
    rw [if_neg (by omega), if_neg (by omega)]
    go_enter Try.func79, Try.ntmps79
    go_wp2
    go_ret
    exact ⟨rfl, rfl⟩
  · rw [if_neg (by omega), if_pos h]
    have h2 : b ≤ a := by omega
    go_enter Try.func79, Try.ntmps79
    go_wp2
    go_ret
    exact ⟨rfl, rfl⟩
theorem scmp_c (a b : ByteArray) (w : World) : Calls Try.prog 77 #[.string a, .string b] w fun e w' => e = .returned (.int .i64 (cmpT a b)) ∧ w = w' :=
  (Try.strings_Compare a b w).mono fun e w' ⟨h1, h2⟩ => ⟨h1, h2.symm⟩
theorem cb_at (s t : ByteArray) (k : Nat) (h1 : k < s.size) (h2 : k < t.size) : Lib.compareBytes (s.data.toList.drop k) (t.data.toList.drop k) = if s[k] = t[k] then Lib.compareBytes (s.data.toList.drop (k + 1)) (t.data.toList.drop (k + 1)) else cmpI s[k].toNat t[k].toNat := by
  have e1 : s.data.toList.drop k = s[k] :: s.data.toList.drop (k + 1) := List.drop_eq_getElem_cons (by rw [str_len]; exact h1)
  have e2 : t.data.toList.drop k = t[k] :: t.data.toList.drop (k + 1) := List.drop_eq_getElem_cons (by rw [str_len]; exact h2)
  rw [e1, e2]
  simp only [Lib.compareBytes]
  generalize s[k] = a
  generalize t[k] = b
  by_cases g1 : a < b
  · have := UInt8.lt_iff_toNat_lt.1 g1
    rw [if_pos g1, if_neg (UInt8.ne_of_lt g1)]
    unfold cmpI
    rw [if_pos (by omega)]
  · by_cases g2 : b < a
    · have := UInt8.lt_iff_toNat_lt.1 g2
      rw [if_neg g1, if_pos g2, if_neg (UInt8.ne_of_lt g2).symm]
      unfold cmpI
      rw [if_neg (by omega), if_pos (by omega)]
    · rw [if_neg g1, if_neg g2, if_pos (UInt8.le_antisymm (UInt8.not_lt.1 g2) (UInt8.not_lt.1 g1))]
theorem cb_end (s t : ByteArray) (k : Nat) (h1 : k ≤ s.size) (h2 : k ≤ t.size) (h : k = s.size ∨ k = t.size) : Lib.compareBytes (s.data.toList.drop k) (t.data.toList.drop k) = cmpI s.size t.size := by
  have l1 := str_len s
  have l2 := str_len t
  by_cases a : k = s.size
  · rw [List.drop_of_length_le (l := s.data.toList) (by omega)]
    by_cases b : k = t.size
    · rw [List.drop_of_length_le (by omega), cmpI_zero.2 (by omega)]; rfl
    · rw [List.drop_eq_getElem_cons (l := t.data.toList) (by omega)]
      unfold cmpI
      rw [if_pos (by omega)]
      rfl
  · rw [List.drop_of_length_le (l := t.data.toList) (by omega), List.drop_eq_getElem_cons (l := s.data.toList) (by omega)]
    unfold cmpI
    rw [if_neg (by omega), if_pos (by omega)]
    rfl
set_option maxHeartbeats 1000000 in
theorem texts_c (s t : ByteArray) (w : World) (hs : s.size ≤ 9223372036854775807) (ht : t.size ≤ 9223372036854775807) : Calls Try.prog 80 #[.string s, .string t] w fun e w' => e = .returned (.int .i64 (cmpT s t)) ∧ ∃ n, w' = w.drewN n := by
  go_enter Try.func80, Try.ntmps80
  go_wp2
  go_loopw [5] (fun i wr => ∃ k m : Nat, k ≤ s.size ∧ k ≤ t.size ∧ i = .int .i64 k ∧ wr = w.drewN m ∧ Hid (Lib.compareBytes (s.data.toList.drop k) (t.data.toList.drop k) = cmpT s t)) (fun i _ => s.size - (intOf i).toNat)
  case atStart => exact ⟨0, 0, Nat.zero_le _, Nat.zero_le _, rfl, rfl, rfl⟩
  case round =>
    obtain ⟨k, m, hk, hk2, rfl, rfl, HR⟩ := hrel
    by_cases hgo : k < s.size ∧ k < t.size
    · obtain ⟨h1, h2⟩ := hgo
      have hst := HR.out.symm.trans (cb_at s t k h1 h2)
      by_cases he : s[k] = t[k]
      · rw [if_pos he] at hst
        have HS := hide hst
        have hb : ((s[k].toNat : Int) != (t[k].toNat : Int)) = false := by simp [he]
        clear hst he
        go_wp2_with fail
        go_quiet (fail)
        go_wp2_with fail
        go_roundw
        case rel => exact ⟨k + 1, _, by omega, by omega, by go_num, rfl, HS.out.symm⟩
        case measure => simp [intOf]; omega
      · rw [if_neg he] at hst
        have hb : ((s[k].toNat : Int) != (t[k].toNat : Int)) = true := by
          have : s[k].toNat ≠ t[k].toNat := fun e => he (UInt8.toNat_inj.1 e)
          simp; omega
        have HS := hide hst
        have b1 := s[k].toNat_lt
        have b2 := t[k].toNat_lt
        have w1 : IntKind.i64.wrap (s[k].toNat : Int) = s[k].toNat := IntWalk.i64_in _ (by omega)
        have w2 : IntKind.i64.wrap (t[k].toNat : Int) = t[k].toNat := IntWalk.i64_in _ (by omega)
        clear hst he
        go_wp2_with fail
        go_quiet (fail)
        go_wp2_with fail
        go_quiet ((go_at_call 79; exact quiet_l2 (ints_c _ _ _)))
        go_wp2_with fail
        go_ret
        refine ⟨ret_int HS.out.symm, ?_⟩
        simp only [World.drewN_drewN]
        exact ⟨_, rfl⟩
    · have hst := HR.out.symm.trans (cb_end s t k hk hk2 (by omega))
      have HS := hide hst
      clear hst
      rcases (show ¬ k < s.size ∨ (k < s.size ∧ ¬ k < t.size) by omega) with h1 | ⟨h1, h2⟩
      all_goals
        clear hgo
        go_wp2_with (go_at_call 79; refine (ints_c _ _ _).mono ?_; rintro e w' ⟨rfl, rfl⟩)
        go_ret
        exact ⟨ret_int HS.out.symm, _, rfl⟩
theorem compare_c (a b : ValV) (w : World) : Calls Try.prog 52 #[valAgg a, valAgg b] w fun e w' => e = .returned (.tuple #[.int .i64 (compV a b).1, .bool (compV a b).2]) ∧ Below w.heap.size w w' := by
  obtain ⟨k, n, s⟩ := a
  obtain ⟨k2, n2, s2⟩ := b
  unfold valAgg
  simp only
  have hB := ((Below.refl w.heap.size w).alloc (Nat.le_refl _) (.cells #[.int .i64 k, .int .i64 n, .string s] 26)).alloc (by simp) (.cells #[.int .i64 k2, .int .i64 n2, .string s2] 26)
  have HB := hide hB
  clear hB
  by_cases h : k = k2
  · subst h
    have hc : compV ⟨k, n, s⟩ ⟨k, n2, s2⟩ = (if k = 1 ∨ k = 2 then (cmpI n n2, true) else if k = 3 then (cmpT s s2, true) else (0, false)) := by unfold compV; rw [if_pos rfl]
    rw [hc]
    clear hc
    rcases (show k = 1 ∨ k = 2 ∨ k = 3 ∨ (¬ k = 1 ∧ ¬ k = 2 ∧ ¬ k = 3) by omega) with rfl | rfl | rfl | ⟨g1, g2, g3⟩
    · rw [if_pos (.inl rfl)]
      go_enter Try.func52, Try.ntmps52
      go_wp2_with (go_at_call 76; refine (cmp_c _ _ _).mono ?_; rintro e w' ⟨rfl, rfl⟩)
      go_ret2
      exact ⟨rfl, HB.out⟩
    · rw [if_pos (.inr rfl)]
      go_enter Try.func52, Try.ntmps52
      go_wp2_with (go_at_call 76; refine (cmp_c _ _ _).mono ?_; rintro e w' ⟨rfl, rfl⟩)
      go_ret2
      exact ⟨rfl, HB.out⟩
    · rw [if_neg (by omega), if_pos rfl]
      go_enter Try.func52, Try.ntmps52
      go_wp2_with (go_at_call 77; refine (scmp_c _ _ _).mono ?_; rintro e w' ⟨rfl, rfl⟩)
      go_ret2
      exact ⟨rfl, HB.out⟩
    · rw [if_neg (by omega), if_neg g3]
      have f1 : (k == 1) = false := by simp [g1]
      have f2 : (k == 2) = false := by simp [g2]
      have f3 : (k == 3) = false := by simp [g3]
      clear g1 g2 g3
      go_enter Try.func52, Try.ntmps52
      go_wp2
      go_ret2
      exact ⟨rfl, HB.out⟩
  · have hc : compV ⟨k, n, s⟩ ⟨k2, n2, s2⟩ = (0, false) := by unfold compV; rw [if_neg h]
    rw [hc]
    have f1 : (k != k2) = true := by simp [h]
    clear hc h
    go_enter Try.func52, Try.ntmps52
    go_wp2
    go_ret2
    exact ⟨rfl, HB.out⟩
theorem rcompare_c (a b : ValV) (w : World) (ha : a.str.size ≤ 9223372036854775807) (hb : b.str.size ≤ 9223372036854775807) : Calls Try.prog 54 #[valAgg a, valAgg b] w fun e w' => e = .returned (.tuple #[.int .i64 (compV a b).1, .bool (compV a b).2]) ∧ Below w.heap.size w w' := by
  obtain ⟨k, n, s⟩ := a
  obtain ⟨k2, n2, s2⟩ := b
  unfold valAgg
  simp only at *
  have hB := ((Below.refl w.heap.size w).alloc (Nat.le_refl _) (.cells #[.int .i64 k, .int .i64 n, .string s] 26)).alloc (by simp) (.cells #[.int .i64 k2, .int .i64 n2, .string s2] 26)
  have HB := hide hB
  clear hB
  by_cases h : k = k2
  · subst h
    have hc : compV ⟨k, n, s⟩ ⟨k, n2, s2⟩ = (if k = 1 ∨ k = 2 then (cmpI n n2, true) else if k = 3 then (cmpT s s2, true) else (0, false)) := by unfold compV; rw [if_pos rfl]
    rw [hc]
    clear hc
    rcases (show k = 1 ∨ k = 2 ∨ k = 3 ∨ (¬ k = 1 ∧ ¬ k = 2 ∧ ¬ k = 3) by omega) with rfl | rfl | rfl | ⟨g1, g2, g3⟩
    · rw [if_pos (.inl rfl)]
      go_enter Try.func54, Try.ntmps54
      go_wp2_with (go_at_call 79; refine (ints_c _ _ _).mono ?_; rintro e w' ⟨rfl, rfl⟩)
      go_ret2
      exact ⟨rfl, HB.out⟩
    · rw [if_pos (.inr rfl)]
      go_enter Try.func54, Try.ntmps54
      go_wp2_with (go_at_call 79; refine (ints_c _ _ _).mono ?_; rintro e w' ⟨rfl, rfl⟩)
      go_ret2
      exact ⟨rfl, HB.out⟩
    · rw [if_neg (by omega), if_pos rfl]
      go_enter Try.func54, Try.ntmps54
      go_wp2_with (go_at_call 80; refine (texts_c _ _ _ ha hb).mono ?_; rintro e w' ⟨rfl, nq, rfl⟩)
      go_ret2
      exact ⟨rfl, Bel.drewN HB.out _⟩
    · rw [if_neg (by omega), if_neg g3]
      have f1 : (k == 1) = false := by simp [g1]
      have f2 : (k == 2) = false := by simp [g2]
      have f3 : (k == 3) = false := by simp [g3]
      clear g1 g2 g3
      go_enter Try.func54, Try.ntmps54
      go_wp2
      go_ret2
      exact ⟨rfl, HB.out⟩
  · have hc : compV ⟨k, n, s⟩ ⟨k2, n2, s2⟩ = (0, false) := by unfold compV; rw [if_neg h]
    rw [hc]
    have f1 : (k != k2) = true := by simp [h]
    clear hc h
    go_enter Try.func54, Try.ntmps54
    go_wp2
    go_ret2
    exact ⟨rfl, HB.out⟩
end Go.Proofs.Ytlkeghfdpbfhbaa
