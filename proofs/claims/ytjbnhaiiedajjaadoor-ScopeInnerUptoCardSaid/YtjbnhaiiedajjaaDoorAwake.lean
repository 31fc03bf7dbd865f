/- What is awake. -/
import Derived.Test.YtjbnhaiiedajjaaDoorROut
import Derived.MakeChecks
import Derived.Stop.LaidErr
namespace Go.Proofs.YtjbnhaiiedajjaaDoor
set_option linter.unusedVariables false
open Go.ChangeShapes Go.WideShapes Go.ChangeAt Go.RowKit

def awCols : List ColV := [⟨⟨#[116]⟩, ⟨#[97]⟩, 0⟩, ⟨⟨#[117]⟩, ⟨#[97]⟩, 0⟩]
theorem aw_find : findF ⟨#[]⟩ ⟨#[97]⟩ 0 [awCols] = (0, 0, 8) := by decide +kernel
theorem aw_find2 : findF ⟨#[117]⟩ ⟨#[97]⟩ 0 [[], awCols] = (1, 1, 0) := by decide +kernel
theorem aw_star : placesF (starB ⟨#[117]⟩) 0 awCols = [1] := by decide +kernel
theorem aw_ord : ordE awCols [⟨⟨#[]⟩, 2, true⟩] = 0 := by decide +kernel
theorem aw_key : keyF awCols ⟨⟨#[]⟩, 2, true⟩ = (1, 0) := by decide +kernel
theorem aw_ordL : ordL awCols [⟨⟨#[]⟩, 2, true⟩] = [[.int .i64 1, .bool true]] := by
  unfold ordL
  rw [aw_ord, if_pos rfl]
  simp [byCells, aw_key]
theorem aw_ord2 : ordE awCols [⟨⟨#[]⟩, 3, false⟩] = 11 := by decide +kernel
theorem aw_ordL2 : ordL awCols [⟨⟨#[]⟩, 3, false⟩] = [] := by
  unfold ordL
  rw [aw_ord2, if_neg (by decide)]
theorem aw_out (i : ItemV) (h1 : i.as_ = ⟨#[]⟩) (h2 : i.op = 5) : outP i 2 = ⟨#[99, 51]⟩ := by
  unfold outP
  rw [h1, h2]
  have : Lib.itoa (outNum 2) = [51] := by simp [outNum, inN, Lib.itoa, Lib.decDigits]
  rw [this, if_pos (by decide +kernel), if_neg (by decide)]
  rfl
theorem cols_lit (w : World) (t : TypeId) : ColsAt (w.alloc (.cells #[.string ⟨#[116]⟩, .string ⟨#[97]⟩, .int .i64 0, .string ⟨#[117]⟩, .string ⟨#[97]⟩, .int .i64 0] t)) (w.alloc (.cells #[.string ⟨#[116]⟩, .string ⟨#[97]⟩, .int .i64 0, .string ⟨#[117]⟩, .string ⟨#[97]⟩, .int .i64 0] t)).heap.size (some ⟨w.heap.size, 0, none⟩) 2 2 awCols := by
  rw [World.size_alloc]
  exact ⟨rfl, Nat.le_refl _, by simp [maxLen], by simp, by simp [awCols, colCells], cells_lit w _ t⟩
theorem ords_lit (w : World) (t : TypeId) (p : Int) (d : Bool) (hp : -9223372036854775808 ≤ p ∧ p ≤ 9223372036854775807) : OrdsAt (w.alloc (.cells #[.string ⟨#[]⟩, .int .i64 p, .bool d] t)) (w.heap.size + 1) (some ⟨w.heap.size, 0, none⟩) 1 1 [⟨⟨#[]⟩, p, d⟩] :=
  ⟨rfl, Nat.le_refl _, by simp [maxLen], by simp, ⟨by simp [ordCells], cells_lit w _ t⟩, by simpa using hp⟩
theorem env_two {w : World} {A : Option Addr} {n c : Nat} {cs : List ColV} (h : ColsAt w w.heap.size A n c cs) (t : TypeId) : EnvAt (w.alloc (.cells #[.slice none 0 0, .slice A n c] t)) (w.heap.size + 1) (some ⟨w.heap.size, 0, none⟩) 2 2 [[], cs] := by
  refine ⟨rfl, Nat.le_refl _, by simp [maxLen], by simp, [⟨none, 0, 0⟩, ⟨A, n, c⟩], rfl, ⟨by simp [listVal], ?_⟩, ?_⟩
  · exact cells_lit w #[.slice none 0 0, .slice A n c] t
  · intro i m xs h1 h2
    match i with
    | 0 =>
      simp at h1 h2
      subst h1 h2
      exact ⟨rfl, Nat.le_refl _, Nat.zero_le _, fun _ => rfl, ⟨by simp, Cells.none _ _ _⟩⟩
    | 1 =>
      simp at h1 h2
      subst h1 h2
      exact (h.below (Bel.one w _)).more (by omega)
    | i + 2 => simp at h1
set_option maxRecDepth 100000 in
set_option maxHeartbeats 4000000 in
theorem awake_c (w : World) (hW : NumW w) : Calls Tryd.prog 9 #[] w fun e w' => e = .returned (.bool true) ∧ Below w.heap.size w w' := by
  have HW := hide hW
  clear hW
  have HC0 := hide (cols_lit w 50)
  have HB0 := hide (Bel.one w (.cells #[.string ⟨#[116]⟩, .string ⟨#[97]⟩, .int .i64 0, .string ⟨#[117]⟩, .string ⟨#[97]⟩, .int .i64 0] 50))
  go_enter Tryd.func9, Tryd.ntmps9
  go_wp2_with fail
  refine (find_c _ _ _ [awCols] _ _ _ (by simpa using env_one HC0.out 28)).mono ?_
  rw [aw_find]
  rintro e w1 ⟨rfl, hb⟩
  have HC1 := hide ((HC0.out.kept (Bel.one _ _)).kept hb)
  have HB1 := hide (Bel.then (Bel.alloc HB0.out _) hb)
  clear hb HC0 HB0
  go_wp2_with fail
  refine (find_c _ _ _ [[], awCols] _ _ _ (by simpa using env_two HC1.out 28)).mono ?_
  rw [aw_find2]
  rintro e w2 ⟨rfl, hb⟩
  have HC2 := hide ((HC1.out.kept (Bel.one _ _)).kept hb)
  have HB2 := hide (Bel.then (Bel.alloc HB1.out _) hb)
  clear hb HC1 HB1
  go_wp2_with fail
  refine (star_c _ _ _ awCols _ _ HC2.out (by omega)).mono ?_
  rw [aw_star]
  rintro e w3 ⟨X, cx, rfl, hX, hcx, hb, _⟩
  have HC3 := hide (HC2.out.kept hb)
  have HB3 := hide (Bel.then HB2.out hb)
  have HX3 := hide hX
  clear hb hX HC2 HB2
  go_wp2_with fail
  refine (order_c _ _ _ _ _ _ awCols [⟨⟨#[]⟩, 2, true⟩] _ (by simpa using (HC3.out.kept (Bel.one _ _))) (by simpa using ords_lit w3 54 2 true (by omega)) (by omega)).mono ?_
  rw [aw_ord, aw_ordL]
  rintro e w4 ⟨Y, cy, rfl, hY, hb, _⟩
  have HC4 := hide ((HC3.out.kept (Bel.one _ _)).kept hb)
  have HB4 := hide (Bel.then (Bel.alloc HB3.out _) hb)
  have HX4 := hide ((HX3.out.kept (Bel.one _ _)).kept hb)
  have HY4 := hide hY
  clear hb hY HC3 HB3 HX3
  go_wp2_with fail
  refine (order_c _ _ _ _ _ _ awCols [⟨⟨#[]⟩, 3, false⟩] _ (by simpa using (HC4.out.kept (Bel.one _ _))) (by simpa using ords_lit w4 54 3 false (by omega)) (by omega)).mono ?_
  rw [aw_ord2, aw_ordL2]
  rintro e w5 ⟨Z, cz, rfl, _, hb, _⟩
  have HB5 := hide (Bel.then (Bel.alloc HB4.out _) hb)
  have HX5 := hide ((HX4.out.kept (Bel.one _ _)).kept hb)
  have HY5 := hide ((HY4.out.kept (Bel.one _ _)).kept hb)
  clear hb HC4 HB4 HX4 HY4
  simp only [List.length_nil]
  go_wp2_with fail
  refine (ints_c _ _ 1 _ _ [1] _ (by simpa using (HX5.out.kept (Bel.one _ _))) (by simpa using ints_lit w5 [1] 3 (cs := #[.int .i64 1]) rfl rfl) (by omega) (by omega) (by omega)).mono ?_
  rintro e w6 ⟨rfl, hb⟩
  have HB6 := hide (Bel.then (Bel.alloc HB5.out _) hb)
  have HY6 := hide ((HY5.out.kept (Bel.one _ _)).kept hb)
  clear hb HB5 HX5 HY5
  go_wp2_with fail
  refine (bys_c _ _ _ _ [[.int .i64 1, .bool true]] _ ?_ (by simpa using (HY6.out.kept (Bel.one _ _))) ?_ (by simp)).mono ?_
  · intro xs hx
    simp at hx
    exact ⟨1, true, hx⟩
  · have : Recs (w6.alloc (.cells #[.int .i64 1, .bool true] 56)) (w6.heap.size + 1) (some ⟨w6.heap.size, 0, none⟩) 2 [[.int .i64 1, .bool true]] := ⟨by simp, cells_lit w6 _ _⟩
    simpa using this
  rintro e w7 ⟨rfl, hb⟩
  have HB7 := hide (Bel.then (Bel.alloc HB6.out _) hb)
  clear hb HB6 HY6
  have q := out_c ⟨false, ⟨#[]⟩, 5, 0, 0, ⟨#[]⟩, ⟨#[]⟩, ⟨#[]⟩, false, .slice none 0 0, .slice none 0 0, ⟨#[]⟩⟩ 2 w7 (HW.out.keep HB7.out)
  rw [aw_out _ rfl rfl] at q
  unfold itemCells at q
  have HQ := hide q
  clear q
  go_wp2_with fail
  refine HQ.out.mono ?_
  rintro e w8 ⟨rfl, hb⟩
  have HB8 := hide (Bel.then HB7.out hb)
  clear hb HB7
  go_wp2_with fail
  go_ret
  exact ⟨rfl, HB8.out⟩
theorem numW_of {W : World} (h0 : laidMetH Tryd.prog [("math/bits.deBruijn32tab", Rows.laid_math_bits_deBruijn32tab), ("math/bits.deBruijn64tab", Rows.laid_math_bits_deBruijn64tab), ("internal/strconv.uint64pow10", Rows.laid_internal_strconv_uint64pow10)] W) : NumW W := by
  rw [MakeChecks.laidMetH_plain _ _ _ (by kernel_rfl)] at h0
  exact ⟨Lib.tabIs_of_head gPow tPow Tryd.underlying73 Tryd.underlying65 (by kernel_rfl) (by kernel_rfl) (h0.tail).tail⟩
end Go.Proofs.YtjbnhaiiedajjaaDoor
