/- The reference's Parse, and the walk of NumReads. -/
import Derived.Test.YtnkfimpfnofhnaaDoorNumTx
namespace Go.Proofs.YtnkfimpfnofhnaaDoor
set_option linter.unusedVariables false
open Go.ChangeShapes Go.WideShapes Go.ChangeAt Go.RowKit

theorem rparse_long (s : ByteArray) (h : 17 < s.size) (w : World) : Calls Tryd.prog 27 #[.string s] w fun e w' => e = .returned (.tuple #[.int .i64 (rparseP s).1, .bool (rparseP s).2]) ∧ ∃ k, w' = w.drewN k := by
  have hp : rparseP s = (0, false) := by unfold rparseP; rw [if_pos h]
  rw [hp]
  have h1 : (17 : Int) < s.size := by omega
  clear hp
  go_enter Tryd.func27, Tryd.ntmps27
  go_wp2_with fail
  go_ret2
  exact ⟨rfl, 0, rfl⟩
theorem str_take (s : ByteArray) (k : Nat) (h : k < s.size) : s.data.toList.take (k + 1) = s.data.toList.take k ++ [s[k]] := by
  rw [List.take_succ_eq_append_getElem (by simpa using h)]; rfl
theorem str_len (s : ByteArray) : s.data.toList.length = s.size := by rw [Array.length_toList]; rfl
theorem fold_take (s : ByteArray) (k : Nat) (h : k < s.size) : foldD (s.data.toList.take (k + 1)) = stepD (foldD (s.data.toList.take k)) s[k] := by
  rw [str_take s k h]
  unfold foldD
  rw [List.foldl_append]
  rfl
theorem take_range (s : ByteArray) (h : s.size ≤ 17) (k : Nat) : 0 ≤ foldD (s.data.toList.take k) ∧ foldD (s.data.toList.take k) ≤ 99999999999999999 := by
  refine foldD_range _ ?_
  rw [List.length_take, str_len]; omega
theorem head_at (s : ByteArray) : (s.size = 0 ∧ tryD s.data.toList = foldD s.data.toList) ∨ (∃ h : 0 < s.size, ((s[0].toNat : Int) == 45) = true ∧ tryD s.data.toList = -foldD s.data.toList) ∨ (∃ h : 0 < s.size, ((s[0].toNat : Int) == 45) = false ∧ tryD s.data.toList = foldD s.data.toList) := by
  have hl := str_len s
  rcases Nat.eq_zero_or_pos s.size with h0 | h0
  · left
    rw [h0] at hl
    rw [List.eq_nil_of_length_eq_zero hl]
    exact ⟨h0, rfl⟩
  · right
    have hh : s.data.toList.head? = some s[0] := by
      rw [List.head?_eq_getElem?, List.getElem?_eq_getElem (by omega)]; rfl
    unfold tryD
    rw [hh]
    by_cases h : s[0] = 45
    · exact .inl ⟨h0, by rw [h]; rfl, by rw [h]; rfl⟩
    · exact .inr ⟨h0, by rw [beq_eq_false_iff_ne]; intro he; exact h (UInt8.toNat_inj.1 (by rw [show (45 : UInt8).toNat = 45 from rfl]; omega)), by rw [if_neg (by simp [h])]⟩
theorem step_cases (n : Int) (c : UInt8) : (48 ≤ (c.toNat : Int) ∧ (c.toNat : Int) ≤ 57 ∧ stepD n c = 10 * n + c.toNat - 48) ∨ ((c.toNat : Int) < 48 ∧ stepD n c = n) ∨ (48 ≤ (c.toNat : Int) ∧ 57 < (c.toNat : Int) ∧ stepD n c = n) := by
  unfold stepD
  by_cases h1 : 48 ≤ c.toNat <;> by_cases h2 : c.toNat ≤ 57 <;> simp [h1, h2] <;> omega
set_option maxHeartbeats 1000000 in
theorem rparse_short (s : ByteArray) (h : s.size ≤ 17) (w : World) : Calls Tryd.prog 27 #[.string s] w fun e w' => e = .returned (.tuple #[.int .i64 (rparseP s).1, .bool (rparseP s).2]) ∧ ∃ k, w' = w.drewN k := by
  have HP : Hid (rparseP s = if inN (tryD s.data.toList) && (Lib.itoa (tryD s.data.toList) == s.toList) then (tryD s.data.toList, true) else (0, false)) := by
    show rparseP s = _
    unfold rparseP; rw [if_neg (by omega), ByteArray.toList_eq]
  have HRG := hide (take_range s h)
  go_enter Tryd.func27, Tryd.ntmps27
  go_wp2_with fail
  go_loop [4, 5] (fun a i => ∃ k : Nat, k ≤ s.size ∧ i = .int .i64 k ∧ a = .int .i64 (foldD (s.data.toList.take k))) (fun _ i => s.size - (intOf i).toNat)
  case atStart => exact ⟨0, Nat.zero_le _, rfl, rfl⟩
  case round =>
    obtain ⟨k, hk, rfl, rfl⟩ := hrel
    by_cases hlt : k < s.size
    · have hst := fold_take s k hlt
      have hb := HRG.out k
      generalize foldD (s.data.toList.take k) = n at *
      generalize hn : foldD (s.data.toList.take (k + 1)) = m at *
      rcases step_cases n s[k] with ⟨h1, h2, h3⟩ | ⟨h1, h3⟩ | ⟨h1, h2, h3⟩
      all_goals
        rw [h3] at hst
        have HS := hide hst
        have HN := hide hn
        clear hst hn h3
        go_wp2_with fail
        go_round
        case rel =>
          refine ⟨k + 1, by omega, by go_num, ?_⟩
          rw [HN.out, HS.out]
        case measure => simp [intOf]; omega
    · have e : s.data.toList.take k = s.data.toList := List.take_of_length_le (by rw [str_len]; omega)
      have hb := HRG.out k
      rw [e] at hb ⊢
      have hh := head_at s
      generalize foldD s.data.toList = n at *
      generalize tryD s.data.toList = m at *
      rcases hh with ⟨h0, hm⟩ | ⟨h0, h1, hm⟩ | ⟨h0, h1, hm⟩
      all_goals
        have hm2 : -9223372036854775808 ≤ m ∧ m ≤ 9223372036854775807 := by omega
        have Q := hide (fun W => rtext_c m hm2.1 hm2.2 W)
        have I := hide (fun W => rin_c m W)
        have HM := hide hm
        clear hm2 HRG e
        cases hi : inN m
        · have HI := hide hi
          clear hi
          have I2 := I.out
          rw [HI.out] at I2
          have I3 := hide I2
          clear I2 I
          first | subst m | skip
          go_wp2_with fail
          refine (I3.out _).mono ?_
          rintro e w' ⟨rfl, rfl⟩
          go_wp2_with fail
          go_ret2
          exact ⟨ret_xb (by rw [HP.out, HI.out]; rfl), 0, rfl⟩
        · have HI := hide hi
          clear hi
          have I2 := I.out
          rw [HI.out] at I2
          have I3 := hide I2
          clear I2 I
          cases he : Lib.itoa m == s.toList
          all_goals
            have HE := hide he
            first | subst m | skip
            go_wp2_with fail
            refine (I3.out _).mono ?_
            rintro e w' ⟨rfl, rfl⟩
            go_wp2_with fail
            refine (Q.out _).mono ?_
            rintro e w' ⟨rfl, k2, rfl⟩
            go_wp2_with fail
            go_ret2
            exact ⟨ret_xb (by rw [HP.out, HI.out, HE.out]; rfl), k2, rfl⟩
end Go.Proofs.YtnkfimpfnofhnaaDoor
