/- Pages: what their bytes say. No walk. -/
import Derived.Test.YtfdedkcidemimaaDoorLibAll
import Derived.BigRegion
import Derived.BigQuiet
import Derived.Deep.Cut
import Derived.Deep.CutRange
import Derived.StillTailTactics
import Derived.Handy
namespace Go.Proofs.YtfdedkcidemimaaDoor
set_option linter.unusedVariables false
open Go.ChangeShapes Go.WideShapes Go.ChangeAt Go.RowKit

def bN (p : ByteArray) (i : Nat) : Nat := (byteAt p i).toNat
def shN (p : ByteArray) (i : Nat) : Nat := bN p i * 256 + bN p (i + 1)
theorem bN_lt (p : ByteArray) (i : Nat) : bN p i < 256 := (byteAt p i).toNat_lt
theorem shN_lt (p : ByteArray) (i : Nat) : shN p i < 65536 := by have := bN_lt p i; have := bN_lt p (i + 1); unfold shN; omega
theorem bN_in {p : ByteArray} {i : Nat} (h : i < p.size) : bN p i = (p[i]'h).toNat := by unfold bN; rw [byteAt_in h]
theorem or_bytes (a b : Nat) (ha : a < 256) (hb : b < 256) : bits BinOp.or IntKind.i64 ((a : Int) * 256) (b : Int) = ((a * 256 + b : Nat) : Int) := by
  have e : bits BinOp.or IntKind.i64 ((a : Int) * 256) (b : Int) = IntKind.wrap .i64 ((BitVec.ofInt 64 ((a : Int) * 256) ||| BitVec.ofInt 64 (b : Int)).toNat : Int) := rfl
  rw [e, BitVec.toNat_or, BitVec.toNat_ofInt, BitVec.toNat_ofInt]
  have e1 : (((a : Int) * 256) % ((2 : Nat) ^ 64 : Nat)).toNat = 2 ^ 8 * a := by omega
  have e2 : ((b : Int) % ((2 : Nat) ^ 64 : Nat)).toNat = b := by omega
  rw [e1, e2, ← Nat.two_pow_add_eq_or_of_lt (by omega) a, IntWalk.i64_in _ (by omega)]
  omega
set_option maxRecDepth 100000 in
theorem short_c (p : ByteArray) (i : Nat) (h : i + 1 < p.size) (hm : p.size ≤ 4000) (w : World) : Calls Tryd.prog 47 #[.string p, .int .i64 i] w fun e w' => e = .returned (.int .i64 (shN p i)) ∧ ∃ n, w' = w.drewN n := by
  obtain ⟨j, hj⟩ : ∃ j, i + 1 = j := ⟨_, rfl⟩
  have g1 : i < p.size := by omega
  have g2 : j < p.size := by omega
  have h1 : (i : Int) < p.size := by omega
  have h2 : (j : Int) < p.size := by omega
  have hw : IntKind.i64.wrap ((i : Int) + 1) = (j : Int) := by rw [IntWalk.i64_in _ (by omega)]; omega
  have b0 := bN_lt p i
  have b1 := bN_lt p j
  have HO := hide (or_bytes (bN p i) (bN p j) b0 b1)
  have HS : Hid (shN p i = bN p i * 256 + bN p j) := by show _ = _; rw [← hj]; rfl
  have ei : bN p i = (p[i]'g1).toNat := bN_in (by assumption)
  have ej : bN p j = (p[j]'g2).toNat := bN_in (by assumption)
  rw [ei] at b0
  rw [ej] at b1
  have w0 : IntKind.i64.wrap ((p[i]'g1).toNat : Int) = ((p[i]'g1).toNat : Int) := IntWalk.i64_in _ (by omega)
  have w1 : IntKind.i64.wrap ((p[j]'g2).toNat : Int) = ((p[j]'g2).toNat : Int) := IntWalk.i64_in _ (by omega)
  have hs : IntKind.i64.wrap (((p[i]'g1).toNat : Int) * 256) = ((p[i]'g1).toNat : Int) * 256 := IntWalk.i64_in _ (by omega)
  rw [ei, ej] at HO HS
  clear ei ej hj b0 b1 h
  go_enter Tryd.func47, Tryd.ntmps47
  go_upto_region 1 with (fail)
  go_quiet (fail)
  go_wp2_with fail
  go_ret
  exact ⟨by rw [HS.out]; exact congrArg (fun z => Ending.returned (.int .i64 z)) HO.out, _, rfl⟩
end Go.Proofs.YtfdedkcidemimaaDoor
