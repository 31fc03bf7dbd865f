/- The contracts of the reference: Arm, Start. -/
import Derived.Test.YtdfpmjfnlcccaaaDkH
namespace Go.Proofs.Ytdfpmjfnlcccaaa
set_option linter.unusedVariables false
open Go.ChangeShapes Go.WideShapes Go.ChangeAt Go.RowKit

set_option maxRecDepth 100000 in
set_option maxHeartbeats 1000000 in
theorem rArm_c (A : Option Addr) (n c : Nat) (d : DiskV) (m : Int) (w : World) (h : SlAt stC 1 w w.heap.size A n c d.secs) :
    Calls Try.prog 21 #[diskAgg A n c d.left d.down, .int .i64 m] w (GivesO w (armD d m)) := by
  have HN := hide h.len
  have HT := hide (dbox_two w (.slice A n c) (.slice none 0 0) d.left 0 d.down false)
  have HB2 := hide (Bel.alloc (Bel.one w (.cells #[.slice A n c, .int .i64 d.left, .bool d.down] 25)) (.cells #[.slice none 0 0, .int .i64 0, .bool false] 25))
  have S0 := hide h
  clear h
  obtain ⟨ds, dl, dd⟩ := d
  simp only at *
  unfold diskAgg at *
  unfold GivesO diskAgg
  unfold armD
  simp only
  by_cases hm : m < 0
  · rw [if_pos hm]
    go_enter Try.func21, Try.ntmps21
    go_upto_region 1 with (fail)
    generalize (w.alloc (.cells #[.slice A n c, .int .i64 dl, .bool dd] 25)).alloc (.cells #[.slice none 0 0, .int .i64 0, .bool false] 25) = w2 at *
    have X2 := hide HT.out.1
    have R2 := hide HT.out.2
    obtain ⟨c0, c1, c2, f0, f1, f2⟩ := X2.out.cells
    obtain ⟨e0, e1, e2, k0, k1, k2⟩ := R2.out.cells
    go_upto_region 4 with (fail)
    have X3 := hide (X2.out.set1 (-1))
    have R3 := hide (R2.out.far (p := ⟨w.heap.size, 1, none⟩) (show w.heap.size + 1 ≠ w.heap.size by omega) (.int .i64 (-1)))
    have HB3 := hide (HB2.out.setCell (p := ⟨w.heap.size, 1, none⟩) (Nat.le_refl _) (.int .i64 (-1)))
    generalize w2.setCell ⟨w.heap.size, 1, none⟩ (.int .i64 (-1)) = w3 at *
    clear X2 R2 HB2
    clear c0 c1 c2 f0 f1 f2 e0 e1 e2 k0 k1 k2
    obtain ⟨c0, c1, c2, f0, f1, f2⟩ := X3.out.cells
    obtain ⟨e0, e1, e2, k0, k1, k2⟩ := R3.out.cells
    go_wp2_with fail
    have hfb := below_set3 (b := w.heap.size + 1) HB3.out (by omega) (.slice A n c) (.int .i64 (-1)) (.bool dd)
    exact end_disk Try.results21 rfl rfl (R3.out.set3 _ _ _) ⟨_, _, by rw [HN.out], by rw [HN.out]; exact sl_end S0.out hfb, hfb⟩
  · rw [if_neg hm]
    go_enter Try.func21, Try.ntmps21
    go_upto_region 1 with (fail)
    generalize (w.alloc (.cells #[.slice A n c, .int .i64 dl, .bool dd] 25)).alloc (.cells #[.slice none 0 0, .int .i64 0, .bool false] 25) = w2 at *
    have X2 := hide HT.out.1
    have R2 := hide HT.out.2
    obtain ⟨c0, c1, c2, f0, f1, f2⟩ := X2.out.cells
    obtain ⟨e0, e1, e2, k0, k1, k2⟩ := R2.out.cells
    go_upto_region 4 with (fail)
    have X3 := hide (X2.out.set1 m)
    have R3 := hide (R2.out.far (p := ⟨w.heap.size, 1, none⟩) (show w.heap.size + 1 ≠ w.heap.size by omega) (.int .i64 m))
    have HB3 := hide (HB2.out.setCell (p := ⟨w.heap.size, 1, none⟩) (Nat.le_refl _) (.int .i64 m))
    generalize w2.setCell ⟨w.heap.size, 1, none⟩ (.int .i64 m) = w3 at *
    clear X2 R2 HB2
    clear c0 c1 c2 f0 f1 f2 e0 e1 e2 k0 k1 k2
    obtain ⟨c0, c1, c2, f0, f1, f2⟩ := X3.out.cells
    obtain ⟨e0, e1, e2, k0, k1, k2⟩ := R3.out.cells
    go_wp2_with fail
    have hfb := below_set3 (b := w.heap.size + 1) HB3.out (by omega) (.slice A n c) (.int .i64 m) (.bool dd)
    exact end_disk Try.results21 rfl rfl (R3.out.set3 _ _ _) ⟨_, _, by rw [HN.out], by rw [HN.out]; exact sl_end S0.out hfb, hfb⟩
set_option maxRecDepth 100000 in
set_option maxHeartbeats 1000000 in
theorem rStart_c (A : Option Addr) (n c : Nat) (d : DiskV) (w : World) (h : SlAt stC 1 w w.heap.size A n c d.secs) :
    Calls Try.prog 23 #[diskAgg A n c d.left d.down] w (GivesO w (startD d)) := by
  have HN := hide h.len
  have HT := hide (dbox_two w (.slice A n c) (.slice none 0 0) d.left 0 d.down false)
  have HB2 := hide (Bel.alloc (Bel.one w (.cells #[.slice A n c, .int .i64 d.left, .bool d.down] 25)) (.cells #[.slice none 0 0, .int .i64 0, .bool false] 25))
  have S0 := hide h
  clear h
  obtain ⟨ds, dl, dd⟩ := d
  simp only at *
  unfold diskAgg at *
  unfold GivesO diskAgg
  unfold startD
  simp only
  go_enter Try.func23, Try.ntmps23
  go_upto_region 1 with (fail)
  generalize (w.alloc (.cells #[.slice A n c, .int .i64 dl, .bool dd] 25)).alloc (.cells #[.slice none 0 0, .int .i64 0, .bool false] 25) = w2 at *
  have X2 := hide HT.out.1
  have R2 := hide HT.out.2
  obtain ⟨c0, c1, c2, f0, f1, f2⟩ := X2.out.cells
  obtain ⟨e0, e1, e2, k0, k1, k2⟩ := R2.out.cells
  go_upto_region 2 with (fail)
  have X3 := hide (X2.out.set1 (-1))
  have R3 := hide (R2.out.far (p := ⟨w.heap.size, 1, none⟩) (show w.heap.size + 1 ≠ w.heap.size by omega) (.int .i64 (-1)))
  have HB3 := hide (HB2.out.setCell (p := ⟨w.heap.size, 1, none⟩) (Nat.le_refl _) (.int .i64 (-1)))
  generalize w2.setCell ⟨w.heap.size, 1, none⟩ (.int .i64 (-1)) = w3 at *
  clear X2 R2 HB2
  clear c0 c1 c2 f0 f1 f2 e0 e1 e2 k0 k1 k2
  obtain ⟨c0, c1, c2, f0, f1, f2⟩ := X3.out.cells
  obtain ⟨e0, e1, e2, k0, k1, k2⟩ := R3.out.cells
  go_upto_region 3 with (fail)
  have X4 := hide (X3.out.set2 false)
  have R4 := hide (R3.out.far (p := ⟨w.heap.size, 2, none⟩) (show w.heap.size + 1 ≠ w.heap.size by omega) (.bool false))
  have HB4 := hide (HB3.out.setCell (p := ⟨w.heap.size, 2, none⟩) (Nat.le_refl _) (.bool false))
  generalize w3.setCell ⟨w.heap.size, 2, none⟩ (.bool false) = w4 at *
  clear X3 R3 HB3
  clear c0 c1 c2 f0 f1 f2 e0 e1 e2 k0 k1 k2
  obtain ⟨c0, c1, c2, f0, f1, f2⟩ := X4.out.cells
  obtain ⟨e0, e1, e2, k0, k1, k2⟩ := R4.out.cells
  go_wp2_with fail
  have hfb := below_set3 (b := w.heap.size + 1) HB4.out (by omega) (.slice A n c) (.int .i64 (-1)) (.bool false)
  exact end_disk Try.results23 rfl rfl (R4.out.set3 _ _ _) ⟨_, _, by rw [HN.out], by rw [HN.out]; exact sl_end S0.out hfb, hfb⟩
end Go.Proofs.Ytdfpmjfnlcccaaa
