/- The reference's decimal text of any int: the same digits as the library's numeral. -/
import Derived.Test.YtammpddkeinijaaDoorValNum
import Derived.Deep.QuietTactic
import Derived.IntWalk
namespace Go.Proofs.YtammpddkeinijaaDoor
set_option linter.unusedVariables false
open Go.ChangeShapes Go.WideShapes Go.ChangeAt Go.RowKit

def dig (i : Int) : UInt8 := UInt8.ofNat (48 + i.toNat)
theorem pick_c (i j : Int) (h0 : 0 ≤ i) (h1 : i < 10) (hj : j = i + 1) (W : World) : (Instr.slice 9 (.string { data := #[48, 49, 50, 51, 52, 53, 54, 55, 56, 57] }) (some (.int .i64 i)) (some (.int .i64 j)) none).run Tryd.prog W = .ok (.string { data := #[dig i] }) W := by
  subst hj
  rw [run_slice_string (P := Tryd.prog) W 9 _ .i64 .i64 i (i + 1) Tryd.underlying9 h0 (by omega) (by simp only [ByteArray.size, List.size_toArray, List.length_cons, List.length_nil]; omega)]
  obtain rfl | rfl | rfl | rfl | rfl | rfl | rfl | rfl | rfl | rfl : i = 0 ∨ i = 1 ∨ i = 2 ∨ i = 3 ∨ i = 4 ∨ i = 5 ∨ i = 6 ∨ i = 7 ∨ i = 8 ∨ i = 9 := by omega
  all_goals rfl
theorem itoa_small (n : Int) (h0 : 0 ≤ n) (h1 : n < 10) : Lib.itoa n = [dig n] := by
  unfold Lib.itoa
  rw [if_neg (by omega), Lib.decDigits_one (by omega), dig]
theorem itoa_low (n : Int) (h0 : n < 0) (h1 : -10 < n) : Lib.itoa n = [45, dig (-n)] := by
  unfold Lib.itoa
  rw [if_pos (by omega), Lib.decDigits_one (by omega), show n.natAbs = (-n).toNat by omega, dig]
theorem itoa_pos (n : Int) (h0 : 10 ≤ n) : Lib.itoa n = Lib.itoa (n / 10) ++ [dig (n % 10)] := by
  unfold Lib.itoa
  rw [if_neg (by omega), if_neg (by omega), Lib.decDigits, dif_neg (by omega), show n.toNat / 10 = (n / 10).toNat by omega, show n.toNat % 10 = (n % 10).toNat by omega, dig]
theorem itoa_neg (n : Int) (h0 : n ≤ -10) : Lib.itoa n = Lib.itoa (n.tdiv 10) ++ [dig (-(n.tmod 10))] := by
  have e1 : n.tdiv 10 = -((-n) / 10) := by rw [← Int.tdiv_eq_ediv_of_nonneg (by omega), Int.neg_tdiv]; omega
  have e2 : n.tmod 10 = -((-n) % 10) := by rw [← Int.tmod_eq_emod_of_nonneg (by omega), Int.neg_tmod]; omega
  rw [e1, e2]
  unfold Lib.itoa
  rw [if_pos (by omega), if_pos (by omega), Lib.decDigits, dif_neg (by omega), show n.natAbs / 10 = (-(-n / 10)).natAbs by omega, show n.natAbs % 10 = (- -(-n % 10)).toNat by omega, dig]
  rfl
theorem rtext_small (n : Int) (h0 : 0 ≤ n) (h1 : n < 10) (w : World) : Calls Tryd.prog 44 #[.int .i64 n] w fun e w' => e = .returned (.string ⟨(Lib.itoa n).toArray⟩) ∧ w = w' := by
  rw [itoa_small n h0 h1]
  have hp := pick_c n (n + 1) h0 h1 rfl
  go_enter Tryd.func44, Tryd.ntmps44
  go_wp2_with fail
  go_ret
  exact ⟨rfl, rfl⟩
theorem rtext_neg (n : Int) (h0 : n < 0) (h1 : -10 < n) (w : World) : Calls Tryd.prog 44 #[.int .i64 n] w fun e w' => e = .returned (.string ⟨(Lib.itoa n).toArray⟩) ∧ w = w' := by
  rw [itoa_low n h0 h1]
  have hp := pick_c (-n) (1 - n) (by omega) (by omega) (by omega)
  go_enter Tryd.func44, Tryd.ntmps44
  go_wp2_with fail
  go_ret
  exact ⟨rfl, rfl⟩
end Go.Proofs.YtammpddkeinijaaDoor
