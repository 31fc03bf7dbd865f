/- The contract of octet.Sum: the checksum by its table. -/
import Derived.Test.YtlfgfjljddjncaaDoorOct
import Derived.Lib.LaidTab
namespace Go.Proofs.YtlfgfjljddjncaaDoor
set_option linter.unusedVariables false
open Go.ChangeShapes Go.WideShapes Go.ChangeAt Go.RowKit

def crcTab : List Int := [0x00000000, 0x1db71064, 0x3b6e20c8, 0x26d930ac, 0x76dc4190, 0x6b6b51f4, 0x4db26158, 0x5005713c, 0xedb88320, 0xf00f9344, 0xd6d6a3e8, 0xcb61b38c, 0x9b64c2b0, 0x86d3d2d4, 0xa00ae278, 0xbdbdf21c]
def tabAt (i : Int) : Int := crcTab.getD i.toNat 0
def nib (c : Int) : Int := bits BinOp.and IntKind.u32 c 15
def xin (z : Int) (c : UInt8) : Int := bits BinOp.xor IntKind.u32 z ((c.toNat : Int) % 4294967296)
def xup (y : Int) : Int := bits BinOp.xor IntKind.u32 (y / 16) (tabAt (nib y))
def stepS (z : Int) (c : UInt8) : Int := xup (xup (xin z c))
def sumL (l : List UInt8) : Int := l.foldl stepS 4294967295
theorem bits_and15 (c : Int) : 0 ≤ nib c ∧ nib c < 16 := by
  have h : (BitVec.ofInt 32 c &&& BitVec.ofInt 32 15).toNat ≤ 15 := by rw [BitVec.toNat_and]; exact Nat.and_le_right
  have e : nib c = IntKind.wrap .u32 ((BitVec.ofInt 32 c &&& BitVec.ofInt 32 15).toNat : Int) := rfl
  rw [e]
  generalize (BitVec.ofInt 32 c &&& BitVec.ofInt 32 15).toNat = n at *
  have e2 : IntKind.wrap .u32 (n : Int) = n := by
    unfold IntKind.wrap
    simp [IntKind.bits, IntKind.signed]
    omega
  rw [e2]
  omega
/-- What the walk is told of the table. -/
def TabW (w : World) : Prop := ∀ j : Nat, j < 16 → w.cell? ⟨0, j, none⟩ = some (.int .u32 (tabAt j))
theorem TabW.at {w : World} (h : TabW w) (y : Int) : w.cell? ⟨0, (nib y).toNat, none⟩ = some (.int .u32 (tabAt (nib y))) := by
  have hb := bits_and15 y
  have := h (nib y).toNat (by omega)
  rw [Int.toNat_of_nonneg hb.1] at this
  exact this
theorem sum_take (s : ByteArray) (k : Nat) (h : k < s.size) : sumL (s.data.toList.take (k + 1)) = stepS (sumL (s.data.toList.take k)) s[k] := by
  rw [str_take s k h]
  unfold sumL
  rw [List.foldl_append]
  rfl
def sumP (s : ByteArray) : Int := wrap64 (bits BinOp.xor IntKind.u32 IntKind.u32.max (sumL s.data.toList))
set_option maxHeartbeats 1000000 in
theorem sum_c (s : ByteArray) (hm : s.size ≤ 9223372036854775807) (w : World) (hT : TabW w) :
    Calls Tryd.prog 20 #[.string s] w fun e w' => e = .returned (.int .i64 (sumP s)) ∧ w = w' := by
  have HT := hide hT
  clear hT
  go_enter Tryd.func20, Tryd.ntmps20
  go_wp2
  go_loop [3, 4] (fun n i => ∃ k : Nat, k ≤ s.size ∧ i = .int .i64 k ∧ n = .int .u32 (sumL (s.data.toList.take k))) (fun _ i => s.size - (intOf i).toNat)
  case atStart => exact ⟨0, Nat.zero_le _, rfl, rfl⟩
  case round =>
    obtain ⟨k, hk, rfl, rfl⟩ := hrel
    by_cases hlt : k < s.size
    · have hst := sum_take s k hlt
      generalize sumL (s.data.toList.take k) = z at *
      generalize hn : sumL (s.data.toList.take (k + 1)) = z4 at *
      unfold stepS at hst
      generalize hx : xin z s[k] = x at *
      have c1 := HT.out.at x
      have b1 := bits_and15 x
      generalize hy : xup x = y at *
      have c2 := HT.out.at y
      have b2 := bits_and15 y
      unfold xin at hx
      unfold xup at hy hst
      generalize hi1 : nib x = i1 at *
      generalize hi2 : nib y = i2 at *
      generalize tabAt i1 = t1 at *
      generalize tabAt i2 = t2 at *
      unfold nib at hi1 hi2
      have HN := hide hn
      clear hn
      replace hst := hst.symm
      go_wp2
      go_round
      case rel =>
        refine ⟨k + 1, by omega, by go_num, ?_⟩
        rw [HN.out]
      case measure => simp [intOf]; omega
    · have e : s.data.toList.take k = s.data.toList := List.take_of_length_le (by rw [str_len]; omega)
      generalize hz : sumL (s.data.toList.take k) = z at *
      have hsg : IntKind.u32.signed = false := rfl
      have HZ := hide hz
      clear hz
      go_wp2
      go_ret
      refine ⟨ret_int ?_, rfl⟩
      unfold sumP
      rw [← e, HZ.out]
end Go.Proofs.YtlfgfjljddjncaaDoor
