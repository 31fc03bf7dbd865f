/- Contracts of package types and of its reference. -/
import Derived.Test.YtiaolpeenbmidaaRows
import Derived.Test.YtiaolpeenbmidaaLib
import Derived.Test.YtiaolpeenbmidaaTypesMath
namespace Go.Proofs.Ytiaolpeenbmidaa
set_option linter.unusedVariables false
open Go.ChangeShapes Go.WideShapes Go.ChangeAt Go.RowKit

theorem ret_ib {x y : Int} {a b : Bool} (h : x = y) (k : a = b) : Ending.returned (.tuple #[.int .i64 x, .bool a]) = .returned (.tuple #[.int .i64 y, .bool b]) := by rw [h, k]
theorem ret_ii {x y a b : Int} (h : x = y) (k : a = b) : Ending.returned (.tuple #[.int .i64 x, .int .i64 a]) = .returned (.tuple #[.int .i64 y, .int .i64 b]) := by rw [h, k]
theorem ret_p {x y : Int} {q : Int × Int} (h : q = (x, y)) : Ending.returned (.tuple #[.int .i64 x, .int .i64 y]) = .returned (.tuple #[.int .i64 q.1, .int .i64 q.2]) := by rw [h]

theorem isKind_c (k : Int) (w : World) : Calls Try.prog 22 #[.int .i64 k] w fun e w' => e = .returned (.bool (isK k)) ∧ w = w' := by
  go_enter Try.func22, Try.ntmps22
  go_wp2
  all_goals (go_ret; refine ⟨ret_bool ?_, rfl⟩; rw [Bool.eq_iff_iff, isK_iff]; simp; try omega)
theorem kind_c (k : Int) (w : World) : Calls Try.prog 29 #[.int .i64 k] w fun e w' => e = .returned (.bool (isK k)) ∧ w = w' := by
  go_enter Try.func29, Try.ntmps29
  go_wp2
  all_goals (go_ret; refine ⟨ret_bool ?_, rfl⟩; rw [Bool.eq_iff_iff, isK_iff]; simp; try omega)
theorem rfits_c (a b : Int) (w : World) : Calls Try.prog 31 #[.int .i64 a, .int .i64 b] w fun e w' => e = .returned (.bool (joinB a b)) ∧ w = w' := by
  have h1 := joinB_iff a b
  have H1 := hide h1
  have ka := isK_iff a
  have kb := isK_iff b
  clear h1
  cases ea : isK a <;> cases eb : isK b <;> simp only [ea, eb, true_iff, Bool.false_eq_true, false_iff] at ka kb
  all_goals
    go_enter Try.func31, Try.ntmps31
    go_wp2_with (first | (go_at_call 29; refine (kind_c _ _).mono ?_; rintro e w' ⟨rfl, rfl⟩))
    all_goals (go_ret; refine ⟨ret_bool ?_, rfl⟩; rw [Bool.eq_iff_iff, H1.out]; simp; try omega)
theorem join_cases (a b : Int) : (joinB a b = true ∧ isK a = true ∧ isK b = true ∧ ((a = b ∧ joinV a b = a) ∨ (¬ a = b ∧ a = 0 ∧ joinV a b = b ∧ 0 < b) ∨ (¬ a = b ∧ ¬ a = 0 ∧ b = 0 ∧ joinV a b = a ∧ 0 < a))) ∨
    (joinB a b = false ∧ joinV a b = 0 ∧ (isK a = false ∨ (isK a = true ∧ isK b = false) ∨ (isK a = true ∧ isK b = true ∧ ¬ a = b ∧ ¬ a = 0 ∧ ¬ b = 0))) := by
  have h1 := joinB_iff a b
  have ka := isK_iff a
  have kb := isK_iff b
  cases e : joinB a b
  · right
    rw [e] at h1
    refine ⟨rfl, joinV_not e, ?_⟩
    cases ea : isK a <;> cases eb : isK b <;> rw [ea] at ka <;> rw [eb] at kb <;> simp at ka kb h1 ⊢
    have := h1 ka.1 ka.2 kb.1 kb.2
    omega
  · left
    rw [e] at h1
    have h2 := joinV_of e
    have h1 := h1.1 rfl
    refine ⟨rfl, ka.2 (by omega), kb.2 (by omega), ?_⟩
    by_cases h : a = b
    · left; refine ⟨h, ?_⟩; by_cases h0 : a = 0
      · rw [h2.1 h0]; omega
      · exact h2.2 h0
    · right
      by_cases h0 : a = 0
      · left; exact ⟨h, h0, h2.1 h0, by omega⟩
      · right; exact ⟨h, h0, by omega, h2.2 h0, by omega⟩
theorem join_c (a b : Int) (w : World) : Calls Try.prog 11 #[.int .i64 a, .int .i64 b] w fun e w' => e = .returned (.tuple #[.int .i64 (joinV a b), .bool (joinB a b)]) ∧ w = w' := by
  have hc := join_cases a b
  generalize joinV a b = v at *
  generalize joinB a b = j at *
  rcases hc with ⟨rfl, ka, kb, ⟨rfl, rfl⟩ | ⟨h, rfl, rfl, hp⟩ | ⟨h, h0, rfl, rfl, hp⟩⟩ | ⟨rfl, rfl, ka | ⟨ka, kb⟩ | ⟨ka, kb, h, h0, h00⟩⟩
  case inr.inr.inr =>
    have t1 : (a != b) = true := by simp [h]
    have t2 : (a != 0) = true := by simp [h0]
    have t3 : (b != 0) = true := by simp [h00]
    go_enter Try.func11, Try.ntmps11
    go_wp2_with (first | (go_at_call 22; refine (isKind_c _ _).mono ?_; rintro e w' ⟨rfl, rfl⟩))
    go_ret2
    exact ⟨rfl, rfl⟩
  case inl.inr.inl =>
    have t1 : ((0 : Int) != v) = true := by simp; omega
    go_enter Try.func11, Try.ntmps11
    go_wp2_with (first | (go_at_call 22; refine (isKind_c _ _).mono ?_; rintro e w' ⟨rfl, rfl⟩))
    go_ret2
    exact ⟨rfl, rfl⟩
  case inl.inr.inr =>
    have t1 : (v != 0) = true := by simp [h0]
    go_enter Try.func11, Try.ntmps11
    go_wp2_with (first | (go_at_call 22; refine (isKind_c _ _).mono ?_; rintro e w' ⟨rfl, rfl⟩))
    go_ret2
    exact ⟨rfl, rfl⟩
  all_goals
    go_enter Try.func11, Try.ntmps11
    go_wp2_with (first | (go_at_call 22; refine (isKind_c _ _).mono ?_; rintro e w' ⟨rfl, rfl⟩))
    go_ret2
    exact ⟨rfl, rfl⟩
theorem rjoin_c (a b : Int) (w : World) : Calls Try.prog 12 #[.int .i64 a, .int .i64 b] w fun e w' => e = .returned (.tuple #[.int .i64 (joinV a b), .bool (joinB a b)]) ∧ w = w' := by
  have hc := join_cases a b
  generalize e : joinB a b = j at *
  have E := hide e
  clear e
  generalize joinV a b = v at *
  rcases hc with ⟨rfl, ka, kb, ⟨rfl, rfl⟩ | ⟨h, rfl, rfl, hp⟩ | ⟨h, h0, rfl, rfl, hp⟩⟩ | ⟨rfl, rfl, _⟩
  case inl.inl =>
    by_cases h0 : v = 0
    · subst h0
      go_enter Try.func12, Try.ntmps12
      go_wp2_with (first | (go_at_call 31; refine (rfits_c _ _ _).mono ?_; rw [E.out]; rintro e w' ⟨rfl, rfl⟩))
      go_ret2
      exact ⟨rfl, rfl⟩
    · have t1 : (v == 0) = false := by simp [h0]
      go_enter Try.func12, Try.ntmps12
      go_wp2_with (first | (go_at_call 31; refine (rfits_c _ _ _).mono ?_; rw [E.out]; rintro e w' ⟨rfl, rfl⟩))
      go_ret2
      exact ⟨rfl, rfl⟩
  case inl.inr.inr =>
    have t1 : (v == 0) = false := by simp [h0]
    go_enter Try.func12, Try.ntmps12
    go_wp2_with (first | (go_at_call 31; refine (rfits_c _ _ _).mono ?_; rw [E.out]; rintro e w' ⟨rfl, rfl⟩))
    go_ret2
    exact ⟨rfl, rfl⟩
  all_goals
    go_enter Try.func12, Try.ntmps12
    go_wp2_with (first | (go_at_call 31; refine (rfits_c _ _ _).mono ?_; rw [E.out]; rintro e w' ⟨rfl, rfl⟩))
    go_ret2
    exact ⟨rfl, rfl⟩
theorem result_c (k : Int) (b : Bool) (w : World) : Calls Try.prog 20 #[.int .i64 k, .bool b] w fun e w' => e = .returned (.tuple #[.int .i64 (resI k b).1, .int .i64 (resI k b).2]) ∧ w = w' := by
  cases b
  all_goals
    go_enter Try.func20, Try.ntmps20
    go_wp2
    go_ret2
    exact ⟨rfl, rfl⟩
theorem makes_c (k : Int) (b : Bool) (w : World) : Calls Try.prog 27 #[.int .i64 k, .bool b] w fun e w' => e = .returned (.tuple #[.int .i64 (resI k b).1, .int .i64 (resI k b).2]) ∧ w = w' := by
  cases b
  all_goals
    go_enter Try.func27, Try.ntmps27
    go_wp2
    go_ret2
    exact ⟨rfl, rfl⟩

theorem fits_c (kk : Int) (A : Option Addr) (n c : Nat) (zs : List Int) (B : Nat) (w : World) (hz : Ints w B A n zs) (hm : n ≤ 1048576) :
    Calls Try.prog 21 #[.int .i64 kk, .slice A n c] w fun e w' => e = .returned (.bool (fitsL kk zs)) ∧ w = w' := by
  have HL := hide hz.1
  have HZ := hide hz
  clear hz
  go_enter Try.func21, Try.ntmps21
  go_wp2
  go_loop [6, 7, 8, 11] (fun _ _ _ i => ∃ k : Nat, k ≤ n ∧ i = .int .i64 k ∧ Hid (fitsL kk (zs.take k) = true)) (fun _ _ _ i => n - (intOf i).toNat)
  case atStart => exact ⟨0, Nat.zero_le _, rfl, by show fitsL kk (zs.take 0) = true; simp [fitsL]⟩
  case round =>
    obtain ⟨k, hk, rfl, HR⟩ := hrel
    by_cases hlt : k < n
    · obtain ⟨b, off, z, rfl, hb, hck, HT, _⟩ := HZ.out.get hlt
      cases hj : joinB kk z
      · have HJ := hide hj
        clear hj
        go_wp2_with (first | (go_at_call 11; refine (join_c _ _ _).mono ?_; rw [HJ.out]; rintro e w' ⟨rfl, rfl⟩))
        go_ret
        exact ⟨ret_bool (fitsL_stop HT.out HJ.out).symm, rfl⟩
      · have HJ := hide hj
        clear hj
        go_wp2_with (first | (go_at_call 11; refine (join_c _ _ _).mono ?_; rw [HJ.out]; rintro e w' ⟨rfl, rfl⟩))
        go_round
        case rel => exact ⟨k + 1, by omega, by go_num, fitsL_go HT.out HR.out HJ.out⟩
        case measure => simp [intOf]; omega
    · go_wp2_with (first | (go_at_call 11; refine (join_c _ _ _).mono ?_; rintro e w' ⟨rfl, rfl⟩))
      go_ret
      refine ⟨ret_bool ?_, rfl⟩
      have h := HR.out
      rw [List.take_of_length_le (by rw [HL.out]; omega)] at h
      exact h.symm
theorem each_c (kk : Int) (A : Option Addr) (n c : Nat) (zs : List Int) (B : Nat) (w : World) (hz : Ints w B A n zs) (hm : n ≤ 1048576) :
    Calls Try.prog 28 #[.slice A n c, .int .i64 kk] w fun e w' => e = .returned (.bool (fitsL kk zs)) ∧ w = w' := by
  have HL := hide hz.1
  have HZ := hide hz
  clear hz
  go_enter Try.func28, Try.ntmps28
  go_wp2
  go_loop [5] (fun i => ∃ k : Nat, k ≤ n ∧ i = .int .i64 k ∧ Hid (fitsL kk (zs.take k) = true)) (fun i => n - (intOf i).toNat)
  case atStart => exact ⟨0, Nat.zero_le _, rfl, by show fitsL kk (zs.take 0) = true; simp [fitsL]⟩
  case round =>
    obtain ⟨k, hk, rfl, HR⟩ := hrel
    by_cases hlt : k < n
    · obtain ⟨b, off, z, rfl, hb, hck, HT, _⟩ := HZ.out.get hlt
      cases hj : joinB kk z
      · have HJ := hide hj
        clear hj
        go_wp2_with (first | (go_at_call 31; refine (rfits_c _ _ _).mono ?_; rw [joinB_comm, HJ.out]; rintro e w' ⟨rfl, rfl⟩))
        go_ret
        exact ⟨ret_bool (fitsL_stop HT.out HJ.out).symm, rfl⟩
      · have HJ := hide hj
        clear hj
        go_wp2_with (first | (go_at_call 31; refine (rfits_c _ _ _).mono ?_; rw [joinB_comm, HJ.out]; rintro e w' ⟨rfl, rfl⟩))
        go_round
        case rel => exact ⟨k + 1, by omega, by go_num, fitsL_go HT.out HR.out HJ.out⟩
        case measure => simp [intOf]; omega
    · go_wp2_with (first | (go_at_call 31; refine (rfits_c _ _ _).mono ?_; rintro e w' ⟨rfl, rfl⟩))
      go_ret
      refine ⟨ret_bool ?_, rfl⟩
      have h := HR.out
      rw [List.take_of_length_le (by rw [HL.out]; omega)] at h
      exact h.symm
theorem joinAll_c (A : Option Addr) (n c : Nat) (zs : List Int) (B : Nat) (w : World) (hz : Ints w B A n zs) (hm : n ≤ 1048576) :
    Calls Try.prog 35 #[.slice A n c] w fun e w' => e = .returned (.tuple #[.int .i64 (joinAll zs).1, .bool (joinAll zs).2]) ∧ w = w' := by
  have HL := hide hz.1
  have HZ := hide hz
  clear hz
  go_enter Try.func35, Try.ntmps35
  go_wp2
  go_loop [4, 5, 7, 10] (fun a o _ i => ∃ k : Nat, k ≤ n ∧ i = .int .i64 k ∧ a = .int .i64 (joinAll (zs.take k)).1 ∧ o = .bool true ∧ Hid ((joinAll (zs.take k)).2 = true)) (fun _ _ _ i => n - (intOf i).toNat)
  case atStart => exact ⟨0, Nat.zero_le _, rfl, rfl, rfl, by show (joinAll (zs.take 0)).2 = true; simp [joinAll]⟩
  case round =>
    obtain ⟨k, hk, rfl, rfl, rfl, HR⟩ := hrel
    by_cases hlt : k < n
    · obtain ⟨b, off, z, rfl, hb, hck, HT, _⟩ := HZ.out.get hlt
      cases hj : joinB (joinAll (zs.take k)).1 z
      · have HJ := hide hj
        clear hj
        go_wp2_with (first | (go_at_call 11; refine (join_c _ _ _).mono ?_; rw [HJ.out]; rintro e w' ⟨rfl, rfl⟩))
        go_ret2
        have h := joinAll_stop HT.out HR.out HJ.out
        exact ⟨ret_ib (by rw [h]) (by rw [h]), rfl⟩
      · have HJ := hide hj
        clear hj
        go_wp2_with (first | (go_at_call 11; refine (join_c _ _ _).mono ?_; rw [HJ.out]; rintro e w' ⟨rfl, rfl⟩))
        go_round
        case rel => exact ⟨k + 1, by omega, by go_num, by rw [(joinAll_go HT.out HR.out HJ.out).1], rfl, (joinAll_go HT.out HR.out HJ.out).2⟩
        case measure => simp [intOf]; omega
    · go_wp2_with (first | (go_at_call 11; refine (join_c _ _ _).mono ?_; rintro e w' ⟨rfl, rfl⟩))
      go_ret2
      have h := HR.out
      rw [List.take_of_length_le (by rw [HL.out]; omega)] at h
      exact ⟨ret_ib (by rw [List.take_of_length_le (by rw [HL.out]; omega)]) h.symm, rfl⟩
theorem rjoined_c (A : Option Addr) (n c : Nat) (zs : List Int) (B : Nat) (w : World) (hz : Ints w B A n zs) (hm : n ≤ 1048576) :
    Calls Try.prog 26 #[.slice A n c] w fun e w' => e = .returned (.tuple #[.int .i64 (joinAll zs).1, .bool (joinAll zs).2]) ∧ w = w' := by
  have HL := hide hz.1
  have HZ := hide hz
  clear hz
  go_enter Try.func26, Try.ntmps26
  go_wp2
  go_loop [4, 5] (fun a i => ∃ k : Nat, k ≤ n ∧ i = .int .i64 k ∧ a = .int .i64 (joinAll (zs.take k)).1 ∧ Hid ((joinAll (zs.take k)).2 = true)) (fun _ i => n - (intOf i).toNat)
  case atStart => exact ⟨0, Nat.zero_le _, rfl, rfl, by show (joinAll (zs.take 0)).2 = true; simp [joinAll]⟩
  case round =>
    obtain ⟨k, hk, rfl, rfl, HR⟩ := hrel
    by_cases hlt : k < n
    · obtain ⟨b, off, z, rfl, hb, hck, HT, _⟩ := HZ.out.get hlt
      cases hj : joinB (joinAll (zs.take k)).1 z
      · have HJ := hide hj
        clear hj
        go_wp2_with (first | (go_at_call 12; refine (rjoin_c _ _ _).mono ?_; rw [HJ.out]; rintro e w' ⟨rfl, rfl⟩))
        go_ret2
        have h := joinAll_stop HT.out HR.out HJ.out
        exact ⟨ret_ib (by rw [h]) (by rw [h]), rfl⟩
      · have HJ := hide hj
        clear hj
        go_wp2_with (first | (go_at_call 12; refine (rjoin_c _ _ _).mono ?_; rw [HJ.out]; rintro e w' ⟨rfl, rfl⟩))
        go_round
        case rel => exact ⟨k + 1, by omega, by go_num, by rw [(joinAll_go HT.out HR.out HJ.out).1], (joinAll_go HT.out HR.out HJ.out).2⟩
        case measure => simp [intOf]; omega
    · go_wp2_with (first | (go_at_call 12; refine (rjoin_c _ _ _).mono ?_; rintro e w' ⟨rfl, rfl⟩))
      go_ret2
      have h := HR.out
      rw [List.take_of_length_le (by rw [HL.out]; omega)] at h
      exact ⟨ret_ib (by rw [List.take_of_length_le (by rw [HL.out]; omega)]) h.symm, rfl⟩
end Go.Proofs.Ytiaolpeenbmidaa
