/- The contract of the reference's Sum: bit by bit. -/
import Derived.Test.YtlfgfjljddjncaaDoorPutM
import Derived.Handy
namespace Go.Proofs.YtlfgfjljddjncaaDoor
set_option linter.unusedVariables false
open Go.ChangeShapes Go.WideShapes Go.ChangeAt Go.RowKit

def stepR (u : Int) : Int := if bits BinOp.and IntKind.u64 u 1 = 1 then bits BinOp.xor IntKind.u64 (u / 2) 3988292384 else u / 2
theorem step_c (u : Int) (w : World) : Calls Tryd.prog 25 #[.int .u64 u] w fun e w' => e = .returned (.int .u64 (stepR u)) ∧ w = w' := by
  by_cases h : bits BinOp.and IntKind.u64 u 1 = 1
  · rw [show stepR u = bits BinOp.xor IntKind.u64 (u / 2) 3988292384 from if_pos h]
    go_enter Tryd.func25, Tryd.ntmps25
    go_wp2
    go_ret
    exact ⟨rfl, rfl⟩
  · rw [show stepR u = u / 2 from if_neg h]
    have h2 : (bits BinOp.and IntKind.u64 u 1 == 1) = false := by simp [h]
    clear h
    go_enter Tryd.func25, Tryd.ntmps25
    go_wp2
    go_ret
    exact ⟨rfl, rfl⟩
def stepsR (u : Int) : Nat → Int
  | 0 => u
  | k + 1 => stepR (stepsR u k)
def rin (z : Int) (c : UInt8) : Int := bits BinOp.xor IntKind.u64 z (IntKind.u64.wrap c.toNat)
def rstep (z : Int) (c : UInt8) : Int := stepsR (rin z c) 8
def rsumL (l : List UInt8) : Int := l.foldl rstep 4294967295
def rsumP (s : ByteArray) : Int := wrap64 (bits BinOp.xor IntKind.u64 (rsumL s.data.toList) 4294967295)
theorem rsum_take (s : ByteArray) (k : Nat) (h : k < s.size) : rsumL (s.data.toList.take (k + 1)) = rstep (rsumL (s.data.toList.take k)) s[k] := by
  rw [str_take s k h]
  unfold rsumL
  rw [List.foldl_append]
  rfl
set_option maxHeartbeats 1000000 in
theorem rsum_c (s : ByteArray) (hm : s.size ≤ 9223372036854775807) (w : World) :
    Calls Tryd.prog 21 #[.string s] w fun e w' => e = .returned (.int .i64 (rsumP s)) ∧ w = w' := by
  go_enter Tryd.func21, Tryd.ntmps21
  go_wp2
  go_loop [3, 4, 5] (fun n i _ => ∃ k : Nat, k ≤ s.size ∧ i = .int .i64 k ∧ n = .int .u64 (rsumL (s.data.toList.take k))) (fun _ i _ => s.size - (intOf i).toNat)
  case atStart => exact ⟨0, Nat.zero_le _, rfl, rfl⟩
  case round =>
    obtain ⟨k, hk, rfl, rfl⟩ := hrel
    by_cases hlt : k < s.size
    · have hst := rsum_take s k hlt
      generalize rsumL (s.data.toList.take k) = z at *
      generalize hn : rsumL (s.data.toList.take (k + 1)) = z4 at *
      unfold rstep at hst
      generalize hx : rin z s[k] = x at *
      unfold rin at hx
      have HN := hide hn
      have HS := hide hst
      clear hn hst
      go_wp2
      go_loop [3, 5] (fun n j => ∃ m : Nat, m ≤ 8 ∧ j = .int .i64 m ∧ n = .int .u64 (stepsR x m)) (fun _ j => 8 - (intOf j).toNat)
      case atStart => exact ⟨0, by omega, rfl, rfl⟩
      case round =>
        obtain ⟨m, hm8, rfl, rfl⟩ := hrel
        by_cases hlt2 : m < 8
        · have hs : stepsR x (m + 1) = stepR (stepsR x m) := rfl
          have q := fun W => step_c (stepsR x m) W
          rw [← hs] at q
          generalize stepsR x m = y at *
          generalize hy : stepsR x (m + 1) = y2 at *
          have HY := hide hy
          have Q := hide q
          clear hy q hs
          go_wp2_with fail
          refine (Q.out _).mono ?_
          rintro e w' ⟨rfl, rfl⟩
          go_wp2_with fail
          go_round
          case rel =>
            refine ⟨m + 1, by omega, by go_num, ?_⟩
            rw [HY.out]
          case measure => simp [intOf]; omega
        · obtain rfl : m = 8 := by omega
          generalize hy : stepsR x 8 = y at *
          have HY := hide hy
          clear hy
          go_wp2_with fail
          go_round
          case rel =>
            refine ⟨k + 1, by omega, by go_num, ?_⟩
            rw [HN.out, HS.out]
          case measure => simp [intOf]; omega
    · have e : s.data.toList.take k = s.data.toList := List.take_of_length_le (by rw [str_len]; omega)
      generalize hz : rsumL (s.data.toList.take k) = z at *
      have HZ := hide hz
      clear hz
      go_wp2
      go_ret
      refine ⟨ret_int ?_, rfl⟩
      unfold rsumP
      rw [← e, HZ.out]
end Go.Proofs.YtlfgfjljddjncaaDoor
