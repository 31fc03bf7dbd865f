/- Which values are valid: contracts of value.Right and of its reference. -/
import Derived.Test.YtahdkfenpflahaaRows
import Derived.Test.YtahdkfenpflahaaLib
namespace Go.Proofs.Ytahdkfenpflahaa
set_option linter.unusedVariables false
open Go.ChangeShapes Go.WideShapes Go.ChangeAt Go.RowKit

def inN (n : Int) : Bool := decide (-1000000000000000 ≤ n) && decide (n ≤ 1000000000000000)
def okByte (c : UInt8) : Bool := decide (32 ≤ c.toNat) && decide (c.toNat ≤ 126)
def plainS (s : ByteArray) : Bool := decide (s.size ≤ 100) && s.data.toList.all okByte
def rightV (k n : Int) (s : ByteArray) : Bool :=
  if k = 0 then decide (n = 0) && s.toList.isEmpty
  else if k = 1 then (decide (n = 0) || decide (n = 1)) && s.toList.isEmpty
  else if k = 2 then inN n && s.toList.isEmpty
  else if k = 3 then decide (n = 0) && plainS s else false

theorem str_take (s : ByteArray) (k : Nat) (h : k < s.size) : s.data.toList.take (k + 1) = s.data.toList.take k ++ [s[k]] := by
  rw [List.take_succ_eq_append_getElem (by simpa using h)]; rfl
theorem str_len (s : ByteArray) : s.data.toList.length = s.size := by rw [Array.length_toList]; rfl
theorem all_stop {s : ByteArray} {k : Nat} (h : k < s.size) (hk : okByte s[k] = false) : s.data.toList.all okByte = false := by
  rw [← List.take_append_drop (k + 1) s.data.toList, str_take s k h]
  simp [hk]
theorem all_go {s : ByteArray} {k : Nat} (h : k < s.size) (ha : (s.data.toList.take k).all okByte = true) (hk : okByte s[k] = true) : (s.data.toList.take (k + 1)).all okByte = true := by
  rw [str_take s k h, List.all_append, ha]; simp [hk]
theorem okByte_cases (c : UInt8) : (okByte c = true ∧ 32 ≤ (c.toNat : Int) ∧ (c.toNat : Int) ≤ 126) ∨ (okByte c = false ∧ (c.toNat : Int) < 32) ∨ (okByte c = false ∧ 32 ≤ (c.toNat : Int) ∧ 126 < (c.toNat : Int)) := by
  unfold okByte
  by_cases h1 : 32 ≤ c.toNat <;> by_cases h2 : c.toNat ≤ 126 <;> simp [h1, h2] <;> omega
theorem right_cases (k n : Int) (s : ByteArray) : (k = 0 ∧ rightV k n s = (decide (n = 0) && s.toList.isEmpty)) ∨ (k = 1 ∧ rightV k n s = ((decide (n = 0) || decide (n = 1)) && s.toList.isEmpty)) ∨
    (k = 2 ∧ rightV k n s = (inN n && s.toList.isEmpty)) ∨ (k = 3 ∧ rightV k n s = (decide (n = 0) && plainS s)) ∨ ((k == 0) = false ∧ (k == 1) = false ∧ (k == 2) = false ∧ (k == 3) = false ∧ rightV k n s = false) := by
  unfold rightV
  by_cases h0 : k = 0
  · simp [h0]
  · by_cases h1 : k = 1
    · simp [h1]
    · by_cases h2 : k = 2
      · simp [h2]
      · by_cases h3 : k = 3
        · simp [h3]
        · simp [h0, h1, h2, h3]
end Go.Proofs.Ytahdkfenpflahaa
