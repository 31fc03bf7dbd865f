/- Which values are valid: contracts of value.Right and of its reference. -/
import Derived.Test.YtlkeghfdpbfhbaaRows
import Derived.Test.YtlkeghfdpbfhbaaLib
namespace Go.Proofs.Ytlkeghfdpbfhbaa
set_option linter.unusedVariables false
open Go.ChangeShapes Go.WideShapes Go.ChangeAt Go.RowKit

def inN (n : Int) : Bool := decide (-1000000000000000 ≤ n) && decide (n ≤ 1000000000000000)
def okByte (c : UInt8) : Bool := decide (32 ≤ c.toNat) && decide (c.toNat ≤ 126)
def plainS (s : ByteArray) : Bool := decide (s.size ≤ 100) && s.data.toList.all okByte
def rightV (k n : Int) (s : ByteArray) : Bool :=
  if k = 0 then decide (n = 0) && s.toList.isEmpty
  else if k = 1 then (decide (n = 0) || decide (n = 1)) && s.toList.isEmpty
  else if k = 2 then inN n && s.toList.isEmpty
  else if k = 3 then decide (n = 0) && plainS s else false

theorem numIn_c (n : Int) (w : World) : Calls Try.prog 39 #[.int .i64 n] w fun e w' => e = .returned (.bool (inN n)) ∧ w = w' := by
  go_enter Try.func39, Try.ntmps39
  go_wp2
  all_goals (go_ret; refine ⟨ret_bool ?_, rfl⟩; unfold inN; rw [Bool.eq_iff_iff]; simp; try omega)
theorem rnumIn_c (n : Int) (w : World) : Calls Try.prog 57 #[.int .i64 n] w fun e w' => e = .returned (.bool (inN n)) ∧ w = w' := by
  go_enter Try.func57, Try.ntmps57
  go_wp2
  all_goals (go_ret; refine ⟨ret_bool ?_, rfl⟩; unfold inN; rw [Bool.eq_iff_iff]; simp; try omega)
theorem str_take (s : ByteArray) (k : Nat) (h : k < s.size) : s.data.toList.take (k + 1) = s.data.toList.take k ++ [s[k]] := by
  rw [List.take_succ_eq_append_getElem (by simpa using h)]; rfl
theorem str_len (s : ByteArray) : s.data.toList.length = s.size := by rw [Array.length_toList]; rfl
theorem all_stop {s : ByteArray} {k : Nat} (h : k < s.size) (hk : okByte s[k] = false) : s.data.toList.all okByte = false := by
  rw [← List.take_append_drop (k + 1) s.data.toList, str_take s k h]
  simp [hk]
theorem all_go {s : ByteArray} {k : Nat} (h : k < s.size) (ha : (s.data.toList.take k).all okByte = true) (hk : okByte s[k] = true) : (s.data.toList.take (k + 1)).all okByte = true := by
  rw [str_take s k h, List.all_append, ha]; simp [hk]
theorem okByte_cases (c : UInt8) : (okByte c = true ∧ 32 ≤ (c.toNat : Int) ∧ (c.toNat : Int) ≤ 126) ∨ (okByte c = false ∧ (c.toNat : Int) < 32) ∨ (okByte c = false ∧ 32 ≤ (c.toNat : Int) ∧ 126 < (c.toNat : Int)) := by
  unfold okByte
  by_cases h1 : 32 ≤ c.toNat <;> by_cases h2 : c.toNat ≤ 126 <;> simp [h1, h2] <;> omega
theorem rightText_c (s : ByteArray) (w : World) (hm : s.size ≤ maxLen) : Calls Try.prog 40 #[.string s] w fun e w' => e = .returned (.bool (plainS s)) ∧ w = w' := by
  unfold maxLen at hm
  by_cases hl : s.size ≤ 100
  · go_enter Try.func40, Try.ntmps40
    go_wp2
    go_loop [3] (fun i => ∃ k : Nat, k ≤ s.size ∧ i = .int .i64 k ∧ Hid ((s.data.toList.take k).all okByte = true)) (fun i => s.size - (intOf i).toNat)
    case atStart => exact ⟨0, Nat.zero_le _, rfl, by show (s.data.toList.take 0).all okByte = true; simp⟩
    case round =>
      obtain ⟨k, hk, rfl, HR⟩ := hrel
      by_cases hlt : k < s.size
      · rcases okByte_cases s[k] with ⟨h1, h2, h3⟩ | ⟨h1, h2⟩ | ⟨h1, h2, h3⟩
        · have H1 := hide h1
          clear h1
          go_wp2
          go_round
          case rel => exact ⟨k + 1, by omega, by go_num, all_go hlt HR.out H1.out⟩
          case measure => simp [intOf]; omega
        all_goals
          have H1 := hide h1
          clear h1
          go_wp2
          go_ret
          refine ⟨ret_bool ?_, rfl⟩
          unfold plainS
          rw [all_stop hlt H1.out]; simp
      · go_wp2
        go_ret
        refine ⟨ret_bool ?_, rfl⟩
        have h := HR.out
        rw [List.take_of_length_le (by rw [str_len]; omega)] at h
        unfold plainS
        rw [h]; simp [hl]
  · go_enter Try.func40, Try.ntmps40
    go_wp2
    go_ret
    refine ⟨ret_bool ?_, rfl⟩
    unfold plainS
    simp; omega
theorem right_cases (k n : Int) (s : ByteArray) : (k = 0 ∧ rightV k n s = (decide (n = 0) && s.toList.isEmpty)) ∨ (k = 1 ∧ rightV k n s = ((decide (n = 0) || decide (n = 1)) && s.toList.isEmpty)) ∨
    (k = 2 ∧ rightV k n s = (inN n && s.toList.isEmpty)) ∨ (k = 3 ∧ rightV k n s = (decide (n = 0) && plainS s)) ∨ ((k == 0) = false ∧ (k == 1) = false ∧ (k == 2) = false ∧ (k == 3) = false ∧ rightV k n s = false) := by
  unfold rightV
  by_cases h0 : k = 0
  · simp [h0]
  · by_cases h1 : k = 1
    · simp [h1]
    · by_cases h2 : k = 2
      · simp [h2]
      · by_cases h3 : k = 3
        · simp [h3]
        · simp [h0, h1, h2, h3]
theorem right_c (k n : Int) (s : ByteArray) (w : World) (hm : s.size ≤ maxLen) : Calls Try.prog 19 #[.agg #[.int .i64 k, .int .i64 n, .string s]] w fun e w' => e = .returned (.bool (rightV k n s)) ∧ Below w.heap.size w w' := by
  have hc := right_cases k n s
  generalize rightV k n s = b at *
  rcases hc with ⟨rfl, h⟩ | ⟨rfl, h⟩ | ⟨rfl, h⟩ | ⟨rfl, h⟩ | ⟨h0, h1, h2, h3, rfl⟩
  all_goals try (have HB := hide h; clear h)
  all_goals
    go_enter Try.func19, Try.ntmps19
    go_wp2_with (first | (go_at_call 39; refine (numIn_c _ _).mono ?_; rintro e w' ⟨rfl, rfl⟩) | (go_at_call 40; refine (rightText_c _ _ hm).mono ?_; rintro e w' ⟨rfl, rfl⟩))
    all_goals (go_ret; refine ⟨ret_bool ?_, Bel.one _ _⟩)
    all_goals first | rfl | (rw [HB.out]; simp [*]; done)
end Go.Proofs.Ytlkeghfdpbfhbaa
