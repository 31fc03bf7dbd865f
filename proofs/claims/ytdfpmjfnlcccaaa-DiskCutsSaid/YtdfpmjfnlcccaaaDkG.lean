/- The contracts of the reference: with, Write, Arm, Start. -/
import Derived.Test.YtdfpmjfnlcccaaaDkF
namespace Go.Proofs.Ytdfpmjfnlcccaaa
set_option linter.unusedVariables false
open Go.ChangeShapes Go.WideShapes Go.ChangeAt Go.RowKit

/-- A disk, and an error. -/
def GivesV (w : World) (x : DiskV × Int) (e : Ending) (w' : World) : Prop := ∃ A c, e = .returned (.tuple #[diskAgg A x.1.secs.length c x.1.left x.1.down, .int .i64 x.2]) ∧ SlAt stC 1 w' w'.heap.size A x.1.secs.length c x.1.secs ∧ Below w.heap.size w w'
def GivesO (w : World) (x : DiskV) (e : Ending) (w' : World) : Prop := ∃ A c, e = .returned (diskAgg A x.secs.length c x.left x.down) ∧ SlAt stC 1 w' w'.heap.size A x.secs.length c x.secs ∧ Below w.heap.size w w'
theorem GivesD.v {w w' : World} {x : DiskV × Int} {e : Ending} (h : GivesD w x e w') : GivesV w x e w' := by
  obtain ⟨v, rfl, ho, hb⟩ := h
  obtain ⟨A, c, rfl, hs⟩ := ho.sl
  exact ⟨A, c, rfl, hs, hb⟩
theorem GivesF.o {w w' : World} {x : DiskV} {e : Ending} (h : GivesF w x.secs x.left x.down e w') : GivesO w x e w' := by
  obtain ⟨v, rfl, ho, hb⟩ := h
  obtain ⟨A, c, rfl, hs⟩ := ho.sl
  exact ⟨A, c, rfl, hs, hb⟩
set_option maxRecDepth 100000 in
set_option maxHeartbeats 1000000 in
theorem with_c (A : Option Addr) (n c : Nat) (l : List ByteArray) (x : Int) (b : Bool) (k : Nat) (s : ByteArray) (w : World) (h : SlAt stC 1 w w.heap.size A n c l) (hn : n ≤ 1048576) (hk : k < n) :
    Calls Try.prog 29 #[diskAgg A n c x b, .int .i64 (k : Int), .string s] w (GivesF w (l.set k s) x b) := by
  obtain ⟨i0, hi0, hz0, hz1, hz2⟩ := info_parts str_info
  have hlen := h.len
  have hnil := h.nil
  have HL := hide (stC_flen l)
  rw [hlen] at HL
  have H1 := hide (stC_ones l)
  have HB2 := hide (Bel.alloc (Bel.one w (.cells #[.slice A n c, .int .i64 x, .bool b] 25)) (.cells #[.slice none 0 0, .int .i64 0, .bool false] 25))
  have HT := hide (dbox_two w (.slice A n c) (.slice none 0 0) x 0 b false)
  have HS := hide (h.kept (Bel.alloc HB2.out (.cells #[] 9)))
  have HLEN := hide hlen
  have HK := hide hk
  have HE := hide (show (((w.alloc (.cells #[.slice A n c, .int .i64 x, .bool b] 25)).alloc (.cells #[.slice none 0 0, .int .i64 0, .bool false] 25)).alloc (.cells #[] 9)).ownsRow w.heap.size 9 1 (.slice (some ⟨w.heap.size + 1 + 1, 0, none⟩) 0 0) 0 [] by
    have := World.ownsRow_lit ((w.alloc (.cells #[.slice A n c, .int .i64 x, .bool b] 25)).alloc (.cells #[.slice none 0 0, .int .i64 0, .bool false] 25)) (e := 9) (size := 1) #[] 0 HB2.out.size (by simp only [maxLen]; omega) rfl
    rwa [World.size_alloc, World.size_alloc] at this)
  clear h hlen
  unfold diskAgg
  go_enter Try.func29, Try.ntmps29
  go_upto_region 2 with (at_builtin; refine wpList_app rfl (.tmp 8) (.tmp 10) 23 rfl w.heap.size 9 i0 _ 1 16 Try.underlying23 hi0 hz0 hz1 hz2 rfl (by omega) _ 0 [] rfl HE.out _ A n c (l.map stC).flatten rfl HL.out HS.out.recs.2 H1.out (by simp only [maxLen]; omega) (by omega) (Bel.alloc HB2.out (.cells #[] 9)).size hnil ?_; intro v1 w2 hown1 hg0 _; have hg1 : World.grownBy _ w2 (some (w.heap.size + 1 + 1)) := hg0; have E1 := hide ((HT.out.1.alloc (.cells #[] 9)).grown hg1 (by simp; try omega)); have E2 := hide ((HT.out.2.alloc (.cells #[] 9)).grown hg1 (by simp; try omega)); have HB3 := hide (own_grown (Bel.alloc HB2.out (.cells #[] 9)) hg1 (by intro k hk; injection hk with hk; omega)); have HO := hide (show OwnS w2 w.heap.size v1 l by have := hown1; rw [Nat.zero_add, List.nil_append, ← HLEN.out] at this; exact this); clear hown1 hg1 hg0 HT HB2 HS; obtain ⟨gr, cr, rfl, hBr, hcr, hfr⟩ := HO.out.cells k (by rw [HLEN.out]; exact hk); obtain ⟨c0, c1, c2, f0, f1, f2⟩ := E1.out.cells; obtain ⟨e0, e1, e2, k0, k1, k2⟩ := E2.out.cells)
  have hk2 : k < l.length := by rw [HLEN.out]; exact hk
  have n1 : w.heap.size ≠ gr := box_row_ne HO.out E1.out
  have n2 : w.heap.size + 1 ≠ gr := box_row_ne HO.out E2.out
  go_upto_region 3 with (fail)
  have X3 := hide (E1.out.far (p := ⟨gr, k, none⟩) n1 (.string s))
  have R3 := hide (E2.out.far (p := ⟨gr, k, none⟩) n2 (.string s))
  have O3 := hide (HO.out.put hk2 s)
  have B3 := hide (HB3.out.setCell (p := ⟨gr, k, none⟩) hBr (.string s))
  generalize w2.setCell ⟨gr, k, none⟩ (.string s) = w3 at *
  clear c0 c1 c2 f0 f1 f2 e0 e1 e2 k0 k1 k2 hcr hfr E1 E2 HO HB3 n1 n2
  obtain ⟨c0, c1, c2, f0, f1, f2⟩ := X3.out.cells
  go_upto_region 4 with (fail)
  have X4 := hide (X3.out.set0 (.slice (some ⟨gr, 0, none⟩) l.length cr))
  have R4 := hide (R3.out.far (p := ⟨w.heap.size, 0, none⟩) (show w.heap.size + 1 ≠ w.heap.size by omega) (.slice (some ⟨gr, 0, none⟩) l.length cr))
  have O4 := hide (O3.out.far (p := ⟨w.heap.size, 0, none⟩) X3.out (.slice (some ⟨gr, 0, none⟩) l.length cr))
  have B4 := hide (B3.out.setCell (p := ⟨w.heap.size, 0, none⟩) (Nat.le_refl _) (.slice (some ⟨gr, 0, none⟩) l.length cr))
  generalize w3.setCell ⟨w.heap.size, 0, none⟩ (.slice (some ⟨gr, 0, none⟩) l.length cr) = w4 at *
  clear c0 c1 c2 f0 f1 f2 X3 R3 O3 B3
  obtain ⟨c0, c1, c2, f0, f1, f2⟩ := X4.out.cells
  obtain ⟨e0, e1, e2, k0, k1, k2⟩ := R4.out.cells
  go_wp2_with fail
  exact end_disk Try.results29 rfl rfl (R4.out.set3 _ _ _) ⟨_, rfl, O4.out.far3 R4.out _ _ _, below_set3 B4.out (by omega) _ _ _⟩
end Go.Proofs.Ytdfpmjfnlcccaaa
