/- Rows' key bytes. No walk. -/
import Derived.Test.YtiealokabmjfjaaRcM
namespace Go.Proofs.Ytiealokabmjfjaa
set_option linter.unusedVariables false
open Go.ChangeShapes Go.WideShapes Go.ChangeAt Go.RowKit

def key8 (n : Int) : List UInt8 := word8 (n + 9223372036854775808)
def encK (v : ValV) : List UInt8 := if v.kind = 0 then [0] else if v.kind = 1 then [1, byteOf v.num] else if v.kind = 2 then 2 :: key8 v.num else 3 :: (v.str.data.toList ++ [0])
def bytesK (r : List ValV) : List UInt8 := (r.map encK).flatten
def putK (r : List ValV) : List UInt8 := if r.all rightP then bytesK r else []
theorem bytesK_cons (v : ValV) (r : List ValV) : bytesK (v :: r) = encK v ++ bytesK r := by simp [bytesK]
theorem bytesK_snoc (r : List ValV) (v : ValV) : bytesK (r ++ [v]) = bytesK r ++ encK v := by simp [bytesK]
theorem ek_null : encK ⟨0, 0, .empty⟩ = [0] := rfl
theorem ek_false : encK ⟨1, 0, .empty⟩ = [1, 0] := by decide
theorem ek_true : encK ⟨1, 1, .empty⟩ = [1, 1] := by decide
theorem ek_num (n : Int) : encK ⟨2, n, .empty⟩ = 2 :: key8 n := rfl
theorem ek_text (s : ByteArray) : encK ⟨3, 0, s⟩ = 3 :: (s.data.toList ++ [0]) := rfl
theorem key8_len (n : Int) : (key8 n).length = 8 := word8_len _
theorem ek_len {v : ValV} (h : rightP v = true) : 1 ≤ (encK v).length ∧ (encK v).length ≤ 102 := by
  rcases right_kinds h with rfl | rfl | rfl | ⟨n, rfl, _⟩ | ⟨s, rfl, hs⟩
  · decide
  · decide
  · decide
  · rw [ek_num, List.length_cons, key8_len]; omega
  · have := (plain_iff.1 hs).1
    rw [ek_text, List.length_cons, List.length_append, str_len]
    simp
    omega
theorem bytesK_len : ∀ (r : List ValV), r.all rightP = true → (bytesK r).length ≤ 102 * r.length
  | [], _ => by simp [bytesK]
  | v :: r, h => by
    rw [List.all_cons, Bool.and_eq_true] at h
    have h1 := bytesK_len r h.2
    have h2 := (ek_len h.1).2
    rw [bytesK_cons, List.length_append, List.length_cons]
    omega
/-- The eight bytes, one by one. -/
theorem word8_all (u : Int) : word8 u = [byteOf (u / 72057594037927936 % 256), byteOf (u / 281474976710656 % 256), byteOf (u / 1099511627776 % 256), byteOf (u / 4294967296 % 256), byteOf (u / 16777216 % 256), byteOf (u / 65536 % 256), byteOf (u / 256 % 256), byteOf (u % 256)] := by
  have e : ∀ a b : Int, 0 ≤ a → u / a / b = u / (a * b) := fun a b h => Int.ediv_ediv_of_nonneg h
  simp only [word8, putL, List.nil_append, List.map_cons, List.map_nil, List.cons_append]
  simp only [e 256 256 (by omega), e 65536 256 (by omega), e 16777216 256 (by omega), e 4294967296 256 (by omega), e 1099511627776 256 (by omega), e 281474976710656 256 (by omega), Int.reduceMul]
theorem key8_u (n : Int) : word8 (IntKind.u64.wrap (IntKind.u64.wrap n + 9223372036854775808)) = key8 n := by
  have hw : ∀ z : Int, IntKind.u64.wrap z = z % 256 ^ 8 := fun z => by
    unfold IntKind.wrap
    simp [IntKind.bits, IntKind.signed]
  unfold key8 word8
  rw [hw, hw, ← putL_mod 8 8 (n + 9223372036854775808) (Nat.le_refl _), Int.emod_add_emod]
end Go.Proofs.Ytiealokabmjfjaa
