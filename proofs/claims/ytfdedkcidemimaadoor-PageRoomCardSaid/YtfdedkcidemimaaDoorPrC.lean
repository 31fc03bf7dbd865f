/- Pages of the reference: Lay. -/
import Derived.Test.YtfdedkcidemimaaDoorPrB
namespace Go.Proofs.YtfdedkcidemimaaDoor
set_option linter.unusedVariables false
set_option linter.unusedSimpArgs false
open Go.ChangeShapes Go.WideShapes Go.ChangeAt Go.RowKit

def layR (c : CtV) : ByteArray := if sizeN (trimmed c.recs) ≤ 512 then layL (withR c (trimmed c.recs)) else ⟨#[]⟩
theorem mkN (k : Nat) (hk : k ≤ 100000) (W : World) : (Instr.makeSlice 40 (.int .i64 k) (.int .i64 k)).run Tryd.prog W = .ok (.slice (some ⟨W.heap.size, 0, none⟩) k k) (W.alloc (.cells (madeCells #[.int .u8 0] k) 5)) :=
  run_make_row' (P := Tryd.prog) 40 5 (.int .u8 0) 1 Tryd.underlying40 u8_info rfl .i64 .i64 k (by omega) (by omega) W
theorem cvN (k : Nat) (W : World) : (convert 40 9 (.slice (some ⟨W.heap.size, 0, none⟩) k k)).run Tryd.prog (W.alloc (.cells (madeCells #[.int .u8 0] k) 5)) = .ok (.string (zrs k)) (W.alloc (.cells (madeCells #[.int .u8 0] k) 5)) := by
  rw [made_zeros]
  have h := cv_tail (a := []) (l := List.replicate k 0) (n := k) (g := W.heap.size) (RowB.new W (List.replicate k 0)) (List.length_replicate)
  have e : bytesOf (List.replicate k 0) = zrs k := rfl
  rw [e] at h
  exact h
def zero4 : ByteArray := ⟨#[0, 0, 0, 0]⟩
theorem put04 : putP 0 4 = ⟨#[0, 0, 0, 0]⟩ := by decide +kernel
theorem bytesOf_app (a b : List UInt8) : bytesOf a ++ bytesOf b = bytesOf (a ++ b) := by
  apply bl_ext
  rw [bl_app, bl_bytesOf, bl_bytesOf, bl_bytesOf]
theorem bytesOf_bl (a : ByteArray) : bytesOf a.data.toList = a := by
  apply bl_ext
  rw [bl_bytesOf]
theorem put2_hl {x : Nat} (h : x < 65536) : putP x 2 = bytesOf [hiB x, loB x] := by
  apply bl_ext
  rw [show ((2 : Int)) = ((2 : Nat) : Int) from rfl, putP_in _ 2 (by omega), hi_lo h, bl_bytesOf]
theorem put_kind {k : Int} (h : 0 ≤ k ∧ k ≤ 255) : putP k 1 ++ putP 0 1 = ⟨#[UInt8.ofNat k.toNat, 0]⟩ := by
  apply bl_ext
  rw [bl_app, show ((1 : Int)) = ((1 : Nat) : Int) from rfl, putP_in _ 1 (by omega), putP_in _ 1 (by omega), strOf_list, strOf_list]
  simp only [putL, List.nil_append, List.map_cons, List.map_nil]
  unfold byteOf
  rw [Int.emod_eq_of_lt h.1 (by omega)]
  rfl
theorem headR (c : CtV) (b : Nat) (hk : 0 ≤ c.kind ∧ c.kind ≤ 255) : (((((putP 0 4 ++ putP c.lsn 6) ++ putP c.kind 1) ++ putP 0 1) ++ putP c.link 3) ++ putP c.recs.length 2) ++ putP b 2 = headL c b := by
  unfold headL
  rw [ByteArray.append_assoc (a := putP 0 4 ++ putP c.lsn 6), put_kind hk, put04]
  rfl
end Go.Proofs.YtfdedkcidemimaaDoor
