/- Contracts: a byte that a backslash may stand ahead of, in the program and in the reference. -/
import Derived.Test.YtlkeghfdpbfhbaaLkN
import Derived.Test.YtlkeghfdpbfhbaaValueA
import Derived.Test.YtlkeghfdpbfhbaaSl
namespace Go.Proofs.Ytlkeghfdpbfhbaa
set_option linter.unusedVariables false
open Go.ChangeShapes Go.WideShapes Go.ChangeAt Go.RowKit

theorem byte_eq (x : UInt8) (n : Nat) (h : n < 256) : (((x.toNat : Nat) : Int) == (n : Int)) = (x == UInt8.ofNat n) := by
  rw [Bool.eq_iff_iff, beq_iff_eq, beq_iff_eq]
  constructor
  · intro e
    have : x.toNat = n := by omega
    rw [← this, UInt8.ofNat_toNat]
  · intro e
    rw [e]
    have : (UInt8.ofNat n).toNat = n % 256 := rfl
    omega
theorem special_c (x : UInt8) (w : World) : Calls Try.prog 98 #[.int .u8 x.toNat] w fun e w' => e = .returned (.bool (specialB x)) ∧ w = w' := by
  have h1 : ((x.toNat : Int) == 37) = (x == UInt8.ofNat 37) := byte_eq x 37 (by omega)
  have h2 : ((x.toNat : Int) == 95) = (x == UInt8.ofNat 95) := byte_eq x 95 (by omega)
  have h3 : ((x.toNat : Int) == 92) = (x == UInt8.ofNat 92) := byte_eq x 92 (by omega)
  have hs : specialB x = (x == UInt8.ofNat 37 || x == UInt8.ofNat 95 || x == UInt8.ofNat 92) := rfl
  rw [hs]
  generalize (x == UInt8.ofNat 37) = a at *
  generalize (x == UInt8.ofNat 95) = b at *
  generalize (x == UInt8.ofNat 92) = c at *
  generalize x.toNat = z at *
  clear hs
  cases a <;> cases b <;> cases c
  all_goals
    go_enter Try.func98, Try.ntmps98
    go_wp2
    go_ret
    exact ⟨rfl, rfl⟩
theorem rspecial_c (x : UInt8) (w : World) : Calls Try.prog 97 #[.int .u8 x.toNat] w fun e w' => e = .returned (.bool (specialB x)) ∧ w = w' := by
  have h1 : ((x.toNat : Int) == 37) = (x == UInt8.ofNat 37) := byte_eq x 37 (by omega)
  have h2 : ((x.toNat : Int) == 95) = (x == UInt8.ofNat 95) := byte_eq x 95 (by omega)
  have h3 : ((x.toNat : Int) == 92) = (x == UInt8.ofNat 92) := byte_eq x 92 (by omega)
  have hs : specialB x = (x == UInt8.ofNat 37 || x == UInt8.ofNat 95 || x == UInt8.ofNat 92) := rfl
  rw [hs]
  generalize (x == UInt8.ofNat 37) = a at *
  generalize (x == UInt8.ofNat 95) = b at *
  generalize (x == UInt8.ofNat 92) = c at *
  generalize x.toNat = z at *
  clear hs
  cases a <;> cases b <;> cases c
  all_goals
    go_enter Try.func97, Try.ntmps97
    go_wp2
    go_ret
    exact ⟨rfl, rfl⟩
/-- A sign's cells. -/
def elC : Sg → List Value
  | .byte b => [.int .i64 0, .int .u8 b.toNat]
  | .one => [.int .i64 1, .int .u8 0]
  | .all => [.int .i64 2, .int .u8 0]
theorem elC_len (g : Sg) : (elC g).length = 2 := by cases g <;> rfl
/-- A slice of signs. -/
def GivesE (w : World) (l : List Sg) (e : Ending) (w' : World) : Prop := ∃ A c, e = .returned (.slice A l.length c) ∧ SlAt elC 2 w' w'.heap.size A l.length c l ∧ Below w.heap.size w w'
theorem el_info : (Try.prog.info? 80).map (fun i => (i.zero, i.size, i.bytes)) = some (some (.agg #[.int .i64 0, .int .u8 0]), 2, 16) := by kernel_rfl
end Go.Proofs.Ytlkeghfdpbfhbaa
