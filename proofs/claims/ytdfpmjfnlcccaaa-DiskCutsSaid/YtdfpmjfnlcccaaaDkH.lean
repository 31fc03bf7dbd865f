/- The contracts of the reference: Write, Arm, Start. -/
import Derived.Test.YtdfpmjfnlcccaaaDkG
namespace Go.Proofs.Ytdfpmjfnlcccaaa
set_option linter.unusedVariables false
open Go.ChangeShapes Go.WideShapes Go.ChangeAt Go.RowKit

theorem sl_end {w W : World} {A : Option Addr} {n c : Nat} {l : List ByteArray} (h : SlAt stC 1 w w.heap.size A n c l) (hb : Below w.heap.size w W) : SlAt stC 1 W W.heap.size A n c l := h.kept hb
set_option maxRecDepth 100000 in
set_option maxHeartbeats 2000000 in
theorem rWrite_c (A : Option Addr) (n c : Nat) (d : DiskV) (at' : Int) (b : ByteArray) (w : World) (h : SlAt stC 1 w w.heap.size A n c d.secs) (hn : n ≤ 1048576) (hl : Left64 d) :
    Calls Try.prog 12 #[diskAgg A n c d.left d.down, .int .i64 at', .string b] w (GivesV w (writeD d at' b)) := by
  have HN := hide h.len
  have HT := hide (dbox_two w (.slice A n c) (.slice none 0 0) d.left 0 d.down false)
  have HB2 := hide (Bel.alloc (Bel.one w (.cells #[.slice A n c, .int .i64 d.left, .bool d.down] 25)) (.cells #[.slice none 0 0, .int .i64 0, .bool false] 25))
  have QI := hide (fun W => Is_c A n c d.left d.down at' W hn)
  have S0 := hide h
  have QWi := hide (fun (x : Int) (y : Bool) (k : Nat) (W : World) hW hk => with_c A n c d.secs x y k b W hW hn hk)
  obtain ⟨l1, l2⟩ := hl
  obtain ⟨ds, dl, dd⟩ := d
  simp only at *
  unfold diskAgg at *
  unfold GivesV diskAgg
  rcases writeD_cases ⟨ds, dl, dd⟩ at' b with ⟨rfl, hr⟩ | ⟨rfl, h1, hr⟩ | ⟨rfl, h2, h3, h4, rfl, hr⟩ | ⟨rfl, h2, h3, h4, h5, hr⟩ | ⟨rfl, h2, h3, h4, h5, hr⟩
  · rw [hr]
    clear h hr QI QWi
    go_enter Try.func12, Try.ntmps12
    go_upto_region 1 with (fail)
    generalize (w.alloc (.cells #[.slice A n c, .int .i64 dl, .bool true] 25)).alloc (.cells #[.slice none 0 0, .int .i64 0, .bool false] 25) = w2 at *
    have X2 := hide HT.out.1
    have R2 := hide HT.out.2
    obtain ⟨c0, c1, c2, f0, f1, f2⟩ := X2.out.cells
    obtain ⟨e0, e1, e2, k0, k1, k2⟩ := R2.out.cells
    go_wp2_with fail
    have hfb := below_set3 (b := w.heap.size + 1) HB2.out (by omega) (.slice A n c) (.int .i64 dl) (.bool true)
    exact end_disk2 Try.results12 rfl rfl (R2.out.set3 _ _ _) rfl ⟨_, _, by rw [HN.out]; rfl, by rw [HN.out]; exact sl_end S0.out hfb, hfb⟩
  · rw [hr]
    simp only [HN.out] at h1
    rcases (show (¬ (0 ≤ at' ∧ at' < (n : Int))) ∨ ((0 ≤ at' ∧ at' < (n : Int)) ∧ ((b.size : Int) != 128) = true) by
      rw [bne_iff_ne]; omega) with g | ⟨g, g2⟩
    · rw [show decide (0 ≤ at' ∧ at' < (n : Int)) = false by simpa using g] at QI
      clear h hr QWi h1 g
      go_enter Try.func12, Try.ntmps12
      go_upto_region 1 with (fail)
      generalize (w.alloc (.cells #[.slice A n c, .int .i64 dl, .bool false] 25)).alloc (.cells #[.slice none 0 0, .int .i64 0, .bool false] 25) = w2 at *
      have X2 := hide HT.out.1
      have R2 := hide HT.out.2
      obtain ⟨c0, c1, c2, f0, f1, f2⟩ := X2.out.cells
      obtain ⟨e0, e1, e2, k0, k1, k2⟩ := R2.out.cells
      go_wp2_with fail
      refine (QI.out _).mono ?_
      rintro e w3 ⟨rfl, hb⟩
      have X3 := hide (X2.out.kept hb)
      have R3 := hide (R2.out.kept hb)
      have HB3 := hide (Bel.then HB2.out hb)
      clear hb QI X2 R2 HB2
      clear c0 c1 c2 f0 f1 f2 e0 e1 e2 k0 k1 k2
      obtain ⟨c0, c1, c2, f0, f1, f2⟩ := X3.out.cells
      obtain ⟨e0, e1, e2, k0, k1, k2⟩ := R3.out.cells
      go_wp2_with fail
      have hfb := below_set3 (b := w.heap.size + 1) HB3.out (by omega) (.slice A n c) (.int .i64 dl) (.bool false)
      exact end_disk2 Try.results12 rfl rfl (R3.out.set3 _ _ _) rfl ⟨_, _, by rw [HN.out]; rfl, by rw [HN.out]; exact sl_end S0.out hfb, hfb⟩
    · rw [show decide (0 ≤ at' ∧ at' < (n : Int)) = true by simpa using g] at QI
      clear h hr QWi h1 g
      go_enter Try.func12, Try.ntmps12
      go_upto_region 1 with (fail)
      generalize (w.alloc (.cells #[.slice A n c, .int .i64 dl, .bool false] 25)).alloc (.cells #[.slice none 0 0, .int .i64 0, .bool false] 25) = w2 at *
      have X2 := hide HT.out.1
      have R2 := hide HT.out.2
      obtain ⟨c0, c1, c2, f0, f1, f2⟩ := X2.out.cells
      obtain ⟨e0, e1, e2, k0, k1, k2⟩ := R2.out.cells
      go_wp2_with fail
      refine (QI.out _).mono ?_
      rintro e w3 ⟨rfl, hb⟩
      have X3 := hide (X2.out.kept hb)
      have R3 := hide (R2.out.kept hb)
      have HB3 := hide (Bel.then HB2.out hb)
      clear hb QI X2 R2 HB2
      clear c0 c1 c2 f0 f1 f2 e0 e1 e2 k0 k1 k2
      obtain ⟨c0, c1, c2, f0, f1, f2⟩ := X3.out.cells
      obtain ⟨e0, e1, e2, k0, k1, k2⟩ := R3.out.cells
      go_wp2_with fail
      have hfb := below_set3 (b := w.heap.size + 1) HB3.out (by omega) (.slice A n c) (.int .i64 dl) (.bool false)
      exact end_disk2 Try.results12 rfl rfl (R3.out.set3 _ _ _) rfl ⟨_, _, by rw [HN.out]; rfl, by rw [HN.out]; exact sl_end S0.out hfb, hfb⟩
  · rw [hr]
    simp only [HN.out] at h3
    have g2 : ((b.size : Int) != 128) = false := by rw [bne_eq_false_iff_eq]; omega
    rw [show decide (0 ≤ at' ∧ at' < (n : Int)) = true by simp; omega] at QI
    clear h hr QWi h2 h3 h4
    go_enter Try.func12, Try.ntmps12
    go_upto_region 1 with (fail)
    generalize (w.alloc (.cells #[.slice A n c, .int .i64 0, .bool false] 25)).alloc (.cells #[.slice none 0 0, .int .i64 0, .bool false] 25) = w2 at *
    have X2 := hide HT.out.1
    have R2 := hide HT.out.2
    obtain ⟨c0, c1, c2, f0, f1, f2⟩ := X2.out.cells
    obtain ⟨e0, e1, e2, k0, k1, k2⟩ := R2.out.cells
    go_wp2_with fail
    refine (QI.out _).mono ?_
    rintro e w3 ⟨rfl, hb⟩
    have X3 := hide (X2.out.kept hb)
    have R3 := hide (R2.out.kept hb)
    have HB3 := hide (Bel.then HB2.out hb)
    clear hb QI X2 R2 HB2
    clear c0 c1 c2 f0 f1 f2 e0 e1 e2 k0 k1 k2
    obtain ⟨c0, c1, c2, f0, f1, f2⟩ := X3.out.cells
    obtain ⟨e0, e1, e2, k0, k1, k2⟩ := R3.out.cells
    go_upto_region 7 with (fail)
    have X4 := hide (X3.out.set2 true)
    have R4 := hide (R3.out.far (p := ⟨w.heap.size, 2, none⟩) (show w.heap.size + 1 ≠ w.heap.size by omega) (.bool true))
    have HB4 := hide (HB3.out.setCell (p := ⟨w.heap.size, 2, none⟩) (Nat.le_refl _) (.bool true))
    generalize w3.setCell ⟨w.heap.size, 2, none⟩ (.bool true) = w4 at *
    clear X3 R3 HB3
    clear c0 c1 c2 f0 f1 f2 e0 e1 e2 k0 k1 k2
    obtain ⟨c0, c1, c2, f0, f1, f2⟩ := X4.out.cells
    obtain ⟨e0, e1, e2, k0, k1, k2⟩ := R4.out.cells
    go_wp2_with fail
    have hfb := below_set3 (b := w.heap.size + 1) HB4.out (by omega) (.slice A n c) (.int .i64 0) (.bool true)
    exact end_disk2 Try.results12 rfl rfl (R4.out.set3 _ _ _) rfl ⟨_, _, by rw [HN.out]; rfl, by rw [HN.out]; exact sl_end S0.out hfb, hfb⟩
  all_goals
    rw [hr]
    simp only [HN.out] at h3
    simp only at h5
    obtain ⟨k, rfl⟩ : ∃ k : Nat, at' = (k : Int) := ⟨at'.toNat, by omega⟩
    have hk : k < n := by omega
    have g2 : ((b.size : Int) != 128) = false := by rw [bne_eq_false_iff_eq]; omega
    have g3 : ((dl : Int) == 0) = false := by rw [beq_eq_false_iff_ne]; omega
    rw [show decide (0 ≤ (k : Int) ∧ (k : Int) < (n : Int)) = true by simp; omega] at QI
    rw [show (k : Int).toNat = k by omega]
    have QW2 := hide (fun x W hW => QWi.out x false k W hW hk)
    simp only
    generalize ds.set k b = l2 at *
    clear h hr h2 h3 h4 QWi
  · have hlw : IntKind.i64.wrap (dl - 1) = dl - 1 := IntWalk.i64_in _ (by omega)
    go_enter Try.func12, Try.ntmps12
    go_upto_region 1 with (fail)
    generalize (w.alloc (.cells #[.slice A n c, .int .i64 dl, .bool false] 25)).alloc (.cells #[.slice none 0 0, .int .i64 0, .bool false] 25) = w2 at *
    have X2 := hide HT.out.1
    have R2 := hide HT.out.2
    obtain ⟨c0, c1, c2, f0, f1, f2⟩ := X2.out.cells
    obtain ⟨e0, e1, e2, k0, k1, k2⟩ := R2.out.cells
    go_wp2_with fail
    refine (QI.out _).mono ?_
    rintro e w3 ⟨rfl, hb⟩
    have X3 := hide (X2.out.kept hb)
    have R3 := hide (R2.out.kept hb)
    have HB3 := hide (Bel.then HB2.out hb)
    clear hb QI X2 R2 HB2
    clear c0 c1 c2 f0 f1 f2 e0 e1 e2 k0 k1 k2
    obtain ⟨c0, c1, c2, f0, f1, f2⟩ := X3.out.cells
    obtain ⟨e0, e1, e2, k0, k1, k2⟩ := R3.out.cells
    go_upto_region 10 with (fail)
    have X4 := hide (X3.out.set1 (dl - 1))
    have R4 := hide (R3.out.far (p := ⟨w.heap.size, 1, none⟩) (show w.heap.size + 1 ≠ w.heap.size by omega) (.int .i64 (dl - 1)))
    have HB4 := hide (HB3.out.setCell (p := ⟨w.heap.size, 1, none⟩) (Nat.le_refl _) (.int .i64 (dl - 1)))
    generalize w3.setCell ⟨w.heap.size, 1, none⟩ (.int .i64 (dl - 1)) = w4 at *
    clear X3 R3 HB3
    clear c0 c1 c2 f0 f1 f2 e0 e1 e2 k0 k1 k2
    obtain ⟨c0, c1, c2, f0, f1, f2⟩ := X4.out.cells
    obtain ⟨e0, e1, e2, k0, k1, k2⟩ := R4.out.cells
    have QW := hide (QW2.out (dl - 1) w4 (S0.out.kept HB4.out))
    clear QW2
    go_wp2_with fail
    refine QW.out.mono ?_
    rintro e w9 ⟨v, rfl, ho, hb⟩
    obtain ⟨A1, cc1, rfl, hS⟩ := ho.sl
    have R9 := hide (R4.out.kept hb)
    have B9 := hide (Bel.then HB4.out hb)
    have O9 := hide (ho.more (B' := w.heap.size) HB4.out.size)
    clear hb ho hS QW c0 c1 c2 f0 f1 f2 e0 e1 e2 k0 k1 k2
    obtain ⟨e0, e1, e2, k0, k1, k2⟩ := R9.out.cells
    go_wp2_with fail
    refine end_disk2 Try.results12 rfl rfl (R9.out.set3 _ _ _) rfl ?_
    have hfo := O9.out.far3 R9.out (.slice A1 l2.length cc1) (dl - 1) false
    obtain ⟨A2, c2, hv, hS⟩ := hfo.sl
    injection hv with e1 e2 e3
    subst e1 e3
    exact ⟨_, _, rfl, hS, below_set3 B9.out (by omega) _ _ _⟩
  · have g4 : ¬ 0 < dl := by omega
    go_enter Try.func12, Try.ntmps12
    go_upto_region 1 with (fail)
    generalize (w.alloc (.cells #[.slice A n c, .int .i64 dl, .bool false] 25)).alloc (.cells #[.slice none 0 0, .int .i64 0, .bool false] 25) = w2 at *
    have X2 := hide HT.out.1
    have R2 := hide HT.out.2
    obtain ⟨c0, c1, c2, f0, f1, f2⟩ := X2.out.cells
    obtain ⟨e0, e1, e2, k0, k1, k2⟩ := R2.out.cells
    go_wp2_with fail
    refine (QI.out _).mono ?_
    rintro e w3 ⟨rfl, hb⟩
    have X3 := hide (X2.out.kept hb)
    have R3 := hide (R2.out.kept hb)
    have HB3 := hide (Bel.then HB2.out hb)
    clear hb QI X2 R2 HB2
    clear c0 c1 c2 f0 f1 f2 e0 e1 e2 k0 k1 k2
    obtain ⟨c0, c1, c2, f0, f1, f2⟩ := X3.out.cells
    obtain ⟨e0, e1, e2, k0, k1, k2⟩ := R3.out.cells
    have QW := hide (QW2.out (dl) w3 (S0.out.kept HB3.out))
    clear QW2
    go_wp2_with fail
    refine QW.out.mono ?_
    rintro e w9 ⟨v, rfl, ho, hb⟩
    obtain ⟨A1, cc1, rfl, hS⟩ := ho.sl
    have R9 := hide (R3.out.kept hb)
    have B9 := hide (Bel.then HB3.out hb)
    have O9 := hide (ho.more (B' := w.heap.size) HB3.out.size)
    clear hb ho hS QW c0 c1 c2 f0 f1 f2 e0 e1 e2 k0 k1 k2
    obtain ⟨e0, e1, e2, k0, k1, k2⟩ := R9.out.cells
    go_wp2_with fail
    refine end_disk2 Try.results12 rfl rfl (R9.out.set3 _ _ _) rfl ?_
    have hfo := O9.out.far3 R9.out (.slice A1 l2.length cc1) (dl) false
    obtain ⟨A2, c2, hv, hS⟩ := hfo.sl
    injection hv with e1 e2 e3
    subst e1 e3
    exact ⟨_, _, rfl, hS, below_set3 B9.out (by omega) _ _ _⟩
end Go.Proofs.Ytdfpmjfnlcccaaa
