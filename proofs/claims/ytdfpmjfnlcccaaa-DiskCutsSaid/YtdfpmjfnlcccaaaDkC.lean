/- The contracts of disk.Write, Read, Arm and Start. -/
import Derived.Test.YtdfpmjfnlcccaaaDkB
import Derived.Deep.Cut
namespace Go.Proofs.Ytdfpmjfnlcccaaa
set_option linter.unusedVariables false
open Go.ChangeShapes Go.WideShapes Go.ChangeAt Go.RowKit

theorem OwnS.far3 {w : World} {B g : Nat} {v : Value} {l : List ByteArray} {x : Value} {y : Int} {z : Bool} (h : OwnS w B v l) (hx : DBox w g x y z) (p : Value) (q : Int) (r : Bool) : OwnS (((w.setCell ⟨g, 0, none⟩ p).setCell ⟨g, 1, none⟩ (.int .i64 q)).setCell ⟨g, 2, none⟩ (.bool r)) B v l :=
  ((h.far (p := ⟨g, 0, none⟩) hx p).far (p := ⟨g, 1, none⟩) (hx.set0 p) (.int .i64 q)).far (p := ⟨g, 2, none⟩) ((hx.set0 p).set1 q) (.bool r)
theorem dbox_two (w : World) (v u : Value) (x y : Int) (b d : Bool) : DBox ((w.alloc (.cells #[v, .int .i64 x, .bool b] 25)).alloc (.cells #[u, .int .i64 y, .bool d] 25)) w.heap.size v x b ∧ DBox ((w.alloc (.cells #[v, .int .i64 x, .bool b] 25)).alloc (.cells #[u, .int .i64 y, .bool d] 25)) (w.heap.size + 1) u y d := by
  refine ⟨DBox.alloc (dbox_new w v x b) _, ?_⟩
  have := dbox_new (w.alloc (.cells #[v, .int .i64 x, .bool b] 25)) u y d
  rwa [World.size_alloc] at this
/-- A disk in new memory, and an error. -/
def GivesD (w : World) (x : DiskV × Int) (e : Ending) (w' : World) : Prop := ∃ v, e = .returned (.tuple #[.agg #[v, .int .i64 x.1.left, .bool x.1.down], .int .i64 x.2]) ∧ OwnS w' w.heap.size v x.1.secs ∧ Below w.heap.size w w'
def Left64 (d : DiskV) : Prop := -9223372036854775808 ≤ d.left ∧ d.left ≤ 9223372036854775807
theorem writeD_left {d : DiskV} (h : Left64 d) (a : Int) (b : ByteArray) : Left64 (writeD d a b).1 := by
  obtain ⟨h1, h2⟩ := h
  rcases writeD_cases d a b with ⟨_, hr⟩ | ⟨_, _, hr⟩ | ⟨_, _, _, _, _, hr⟩ | ⟨_, _, _, _, h5, hr⟩ | ⟨_, _, _, _, h5, hr⟩
  all_goals
    rw [hr]
    unfold Left64
    first
      | exact ⟨h1, h2⟩
      | (simp only; exact ⟨by omega, by omega⟩)
set_option maxRecDepth 100000 in
set_option maxHeartbeats 1000000 in
theorem Write_c (A : Option Addr) (n c : Nat) (d : DiskV) (at' : Int) (b : ByteArray) (w : World) (h : SlAt stC 1 w w.heap.size A n c d.secs) (hn : n ≤ 1048576) (hl : Left64 d) :
    Calls Try.prog 11 #[diskAgg A n c d.left d.down, .int .i64 at', .string b] w (GivesD w (writeD d at' b)) := by
  have hlen := h.len
  have HT := hide (dbox_two w (.slice A n c) (.slice none 0 0) d.left 0 d.down false)
  have HB2 := hide (Bel.alloc (Bel.one w (.cells #[.slice A n c, .int .i64 d.left, .bool d.down] 25)) (.cells #[.slice none 0 0, .int .i64 0, .bool false] 25))
  have QF := hide (fresh_c A n c d.secs d.left d.down _ (h.kept HB2.out) hn)
  have HLEN := hide (show d.secs.length ≤ 1048576 by omega)
  have HLL := hide hl
  clear h hlen hn hl
  unfold diskAgg at *
  have QW := hide (fun v W hx ho => write_c w.heap.size w.heap.size v d at' b W hx ho (Nat.le_refl _) HLEN.out HLL.out)
  generalize writeD d at' b = x at *
  obtain ⟨⟨xs, xl, xd⟩, xe⟩ := x
  obtain ⟨ds, dl, dd⟩ := d
  simp only at *
  go_enter Try.func11, Try.ntmps11
  go_wp2_with fail
  refine QF.out.mono ?_
  rintro e w3 ⟨v, rfl, ho, hb⟩
  obtain ⟨A1, cc1, rfl, _⟩ := ho.sl
  have D1 := hide (HT.out.1.kept hb)
  have D2 := hide (HT.out.2.kept hb)
  have HO := hide (ho.more (B' := w.heap.size) HB2.out.size)
  have HB3 := hide (Bel.then HB2.out hb)
  obtain ⟨c0, c1, c2, f0, f1, f2⟩ := D1.out.cells
  clear ho hb QF HT HB2
  go_wp2_with fail
  refine (QW.out _ _ (D1.out.set3 _ _ _) (HO.out.far3 D1.out _ _ _)).mono ?_
  rintro e w5 ⟨rfl, hx5, ho5, hb5, hk5⟩
  have X5 := hide hx5
  have O5 := hide ho5
  have B5 := hide ((below_set3 HB3.out (Nat.le_refl _) _ _ _).trans hb5)
  have R5 := hide (hk5 _ _ _ _ (far3 D2.out (by omega) _ _ _) (by omega))
  simp only at hx5
  obtain ⟨e0, e1, e2, k0, k1, k2⟩ := hx5.cells
  obtain ⟨r0, r1, r2, p0, p1, p2⟩ := R5.out.cells
  clear hx5 ho5 hb5 hk5 QW c0 c1 c2 f0 f1 f2 HO HB3
  go_wp2_with fail
  exact end_disk2 Try.results11 rfl rfl (R5.out.set3 _ _ _) rfl ⟨_, rfl, O5.out.far3 R5.out _ _ _, below_set3 B5.out (by omega) _ _ _⟩
set_option maxRecDepth 100000 in
set_option maxHeartbeats 1000000 in
theorem Arm_c (A : Option Addr) (n c : Nat) (d : DiskV) (m : Int) (w : World) (h : SlAt stC 1 w w.heap.size A n c d.secs) (hn : n ≤ 1048576) :
    Calls Try.prog 20 #[diskAgg A n c d.left d.down, .int .i64 m] w (GivesF w (armD d m).secs (armD d m).left (armD d m).down) := by
  have HT := hide (dbox_two w (.slice A n c) (.slice none 0 0) d.left 0 d.down false)
  have HB2 := hide (Bel.alloc (Bel.one w (.cells #[.slice A n c, .int .i64 d.left, .bool d.down] 25)) (.cells #[.slice none 0 0, .int .i64 0, .bool false] 25))
  have QF := hide (fresh_c A n c d.secs d.left d.down _ (h.kept HB2.out) hn)
  have hmax : (if m < -1 then (-1 : Int) else m) = (armD d m).left := by
    unfold armD
    simp only
    by_cases h1 : m < -1
    · rw [if_pos h1, if_pos (by omega)]
    · rw [if_neg h1]
      by_cases h2 : m < 0
      · rw [if_pos h2]; omega
      · rw [if_neg h2]
  have hsec : (armD d m).secs = d.secs := rfl
  have hdn : (armD d m).down = d.down := rfl
  rw [hsec, hdn]
  generalize (armD d m).left = y at *
  clear h hn hsec hdn
  unfold diskAgg at *
  obtain ⟨ds, dl, dd⟩ := d
  simp only at *
  go_enter Try.func20, Try.ntmps20
  go_wp2_with fail
  refine QF.out.mono ?_
  rintro e w3 ⟨v, rfl, ho, hb⟩
  obtain ⟨A1, cc1, rfl, _⟩ := ho.sl
  have D1 := hide (HT.out.1.kept hb)
  have D2 := hide (HT.out.2.kept hb)
  have HO := hide (ho.more (B' := w.heap.size) HB2.out.size)
  have HB3 := hide (Bel.then HB2.out hb)
  obtain ⟨c0, c1, c2, f0, f1, f2⟩ := D1.out.cells
  clear ho hb QF HT HB2
  go_upto_region 2 with (fail)
  have X4 := D1.out.set3 (.slice A1 ds.length cc1) dl dd
  have R4 := far3 D2.out (show w.heap.size + 1 ≠ w.heap.size by omega) (.slice A1 ds.length cc1) (.int .i64 dl) (.bool dd)
  have O4 := HO.out.far3 D1.out (.slice A1 ds.length cc1) dl dd
  have B4 := below_set3 HB3.out (Nat.le_refl w.heap.size) (.slice A1 ds.length cc1) (.int .i64 dl) (.bool dd)
  generalize (((w3.setCell ⟨w.heap.size, 0, none⟩ (.slice A1 ds.length cc1)).setCell ⟨w.heap.size, 1, none⟩ (.int .i64 dl)).setCell ⟨w.heap.size, 2, none⟩ (.bool dd)) = w4 at *
  clear c0 c1 c2 f0 f1 f2 D1 D2 HO HB3
  obtain ⟨c0, c1, c2, f0, f1, f2⟩ := X4.cells
  go_upto_region 3 with (fail)
  have X5 := X4.set1 y
  have R5 := R4.far (p := ⟨w.heap.size, 1, none⟩) (show w.heap.size + 1 ≠ w.heap.size by omega) (.int .i64 y)
  have O5 := O4.far (p := ⟨w.heap.size, 1, none⟩) X4 (.int .i64 y)
  have B5 := B4.setCell (p := ⟨w.heap.size, 1, none⟩) (Nat.le_refl _) (.int .i64 y)
  generalize w4.setCell ⟨w.heap.size, 1, none⟩ (.int .i64 y) = w5 at *
  clear X4 R4 O4 B4 c0 c1 c2 f0 f1 f2
  obtain ⟨c0, c1, c2, f0, f1, f2⟩ := X5.cells
  obtain ⟨r0, r1, r2, p0, p1, p2⟩ := R5.cells
  have XX := hide X5
  have RR := hide R5
  have OO := hide O5
  have BB := hide B5
  clear X5 R5 O5 B5
  go_wp2_with fail
  exact end_disk Try.results20 rfl rfl (RR.out.set3 _ _ _) ⟨_, rfl, OO.out.far3 RR.out _ _ _, below_set3 BB.out (by omega) _ _ _⟩
set_option maxRecDepth 100000 in
set_option maxHeartbeats 1000000 in
theorem Start_c (A : Option Addr) (n c : Nat) (d : DiskV) (w : World) (h : SlAt stC 1 w w.heap.size A n c d.secs) (hn : n ≤ 1048576) :
    Calls Try.prog 22 #[diskAgg A n c d.left d.down] w (GivesF w (startD d).secs (startD d).left (startD d).down) := by
  have HT := hide (dbox_two w (.slice A n c) (.slice none 0 0) d.left 0 d.down false)
  have HB2 := hide (Bel.alloc (Bel.one w (.cells #[.slice A n c, .int .i64 d.left, .bool d.down] 25)) (.cells #[.slice none 0 0, .int .i64 0, .bool false] 25))
  have QF := hide (fresh_c A n c d.secs d.left d.down _ (h.kept HB2.out) hn)
  clear h hn
  unfold diskAgg at *
  unfold startD
  obtain ⟨ds, dl, dd⟩ := d
  simp only at *
  go_enter Try.func22, Try.ntmps22
  go_wp2_with fail
  refine QF.out.mono ?_
  rintro e w3 ⟨v, rfl, ho, hb⟩
  obtain ⟨A1, cc1, rfl, _⟩ := ho.sl
  have D1 := hide (HT.out.1.kept hb)
  have D2 := hide (HT.out.2.kept hb)
  have HO := hide (ho.more (B' := w.heap.size) HB2.out.size)
  have HB3 := hide (Bel.then HB2.out hb)
  obtain ⟨c0, c1, c2, f0, f1, f2⟩ := D1.out.cells
  clear ho hb QF HT HB2
  go_upto_region 2 with (fail)
  have X4 := D1.out.set3 (.slice A1 ds.length cc1) dl dd
  have R4 := far3 D2.out (show w.heap.size + 1 ≠ w.heap.size by omega) (.slice A1 ds.length cc1) (.int .i64 dl) (.bool dd)
  have O4 := HO.out.far3 D1.out (.slice A1 ds.length cc1) dl dd
  have B4 := below_set3 HB3.out (Nat.le_refl w.heap.size) (.slice A1 ds.length cc1) (.int .i64 dl) (.bool dd)
  generalize (((w3.setCell ⟨w.heap.size, 0, none⟩ (.slice A1 ds.length cc1)).setCell ⟨w.heap.size, 1, none⟩ (.int .i64 dl)).setCell ⟨w.heap.size, 2, none⟩ (.bool dd)) = w4 at *
  clear c0 c1 c2 f0 f1 f2 D1 D2 HO HB3
  obtain ⟨c0, c1, c2, f0, f1, f2⟩ := X4.cells
  go_upto_region 3 with (fail)
  have X5 := X4.set1 (-1)
  have R5 := R4.far (p := ⟨w.heap.size, 1, none⟩) (show w.heap.size + 1 ≠ w.heap.size by omega) (.int .i64 (-1))
  have O5 := O4.far (p := ⟨w.heap.size, 1, none⟩) X4 (.int .i64 (-1))
  have B5 := B4.setCell (p := ⟨w.heap.size, 1, none⟩) (Nat.le_refl _) (.int .i64 (-1))
  generalize w4.setCell ⟨w.heap.size, 1, none⟩ (.int .i64 (-1)) = w5 at *
  clear X4 R4 O4 B4 c0 c1 c2 f0 f1 f2
  obtain ⟨c0, c1, c2, f0, f1, f2⟩ := X5.cells
  go_upto_region 4 with (fail)
  have X6 := X5.set2 false
  have R6 := R5.far (p := ⟨w.heap.size, 2, none⟩) (show w.heap.size + 1 ≠ w.heap.size by omega) (.bool false)
  have O6 := O5.far (p := ⟨w.heap.size, 2, none⟩) X5 (.bool false)
  have B6 := B5.setCell (p := ⟨w.heap.size, 2, none⟩) (Nat.le_refl _) (.bool false)
  generalize w5.setCell ⟨w.heap.size, 2, none⟩ (.bool false) = w6 at *
  clear X5 R5 O5 B5 c0 c1 c2 f0 f1 f2
  obtain ⟨c0, c1, c2, f0, f1, f2⟩ := X6.cells
  obtain ⟨r0, r1, r2, p0, p1, p2⟩ := R6.cells
  have XX := hide X6
  have RR := hide R6
  have OO := hide O6
  have BB := hide B6
  clear X6 R6 O6 B6
  go_wp2_with fail
  exact end_disk Try.results22 rfl rfl (RR.out.set3 _ _ _) ⟨_, rfl, OO.out.far3 RR.out _ _ _, below_set3 BB.out (by omega) _ _ _⟩
end Go.Proofs.Ytdfpmjfnlcccaaa
