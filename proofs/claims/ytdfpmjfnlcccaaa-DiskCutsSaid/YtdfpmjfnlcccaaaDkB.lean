/- The contracts of disk.fresh and disk.write. -/
import Derived.Test.YtdfpmjfnlcccaaaDkA
import Derived.BigRegion
namespace Go.Proofs.Ytdfpmjfnlcccaaa
set_option linter.unusedVariables false
open Go.ChangeShapes Go.WideShapes Go.ChangeAt Go.RowKit

set_option maxRecDepth 100000 in
set_option maxHeartbeats 1000000 in
theorem fresh_c (A : Option Addr) (n c : Nat) (l : List ByteArray) (x : Int) (b : Bool) (w : World) (h : SlAt stC 1 w w.heap.size A n c l) (hn : n ≤ 1048576) : Calls Try.prog 26 #[diskAgg A n c x b] w (GivesF w l x b) := by
  obtain ⟨i0, hi0, hz0, hz1, hz2⟩ := info_parts str_info
  have hlen := h.len
  have hnil := h.nil
  have HL := hide (stC_flen l)
  rw [hlen] at HL
  have H1 := hide (stC_ones l)
  have HB2 := hide (Bel.alloc (Bel.one w (.cells #[.slice A n c, .int .i64 x, .bool b] 25)) (.cells #[.slice none 0 0, .int .i64 0, .bool false] 25))
  have HS := hide (h.kept HB2.out)
  have D1 := hide (DBox.alloc (dbox_new w (.slice A n c) x b) (.cells #[.slice none 0 0, .int .i64 0, .bool false] 25))
  have D2 := hide (show DBox ((w.alloc (.cells #[.slice A n c, .int .i64 x, .bool b] 25)).alloc (.cells #[.slice none 0 0, .int .i64 0, .bool false] 25)) (w.heap.size + 1) (.slice none 0 0) 0 false by
    have := dbox_new (w.alloc (.cells #[.slice A n c, .int .i64 x, .bool b] 25)) (.slice none 0 0) 0 false
    rwa [World.size_alloc] at this)
  have HLEN := hide hlen
  clear h hlen
  unfold diskAgg
  go_enter Try.func26, Try.ntmps26
  go_wp2_with (at_builtin; refine wpList_app rfl (.const (.slice none 0 0)) (.tmp 4) 23 rfl w.heap.size 9 i0 _ 1 16 Try.underlying23 hi0 hz0 hz1 hz2 rfl (by omega) _ 0 _ rfl (World.ownsRow_nil _ _ _ _) _ A n c (l.map stC).flatten rfl HL.out HS.out.recs.2 H1.out (by simp only [maxLen]; omega) (by omega) HB2.out.size hnil ?_; intro v1 w2 hown1 hg0 _; have hg1 : World.grownBy _ w2 none := hg0; have E1 := hide (D1.out.grown hg1 (by simp)); have E2 := hide (D2.out.grown hg1 (by simp)); have HB3 := hide (own_grown HB2.out hg1 (by simp)); have HO := hide (show OwnS w2 w.heap.size v1 l by have := hown1; rw [Nat.zero_add, List.nil_append, ← HLEN.out] at this; exact this); obtain ⟨c0, c1, c2, f0, f1, f2⟩ := E1.out.cells; obtain ⟨e0, e1, e2, k0, k1, k2⟩ := E2.out.cells; clear hown1 hg1 hg0 D1 D2 HB2 HS; obtain ⟨A1, cc1, rfl, _⟩ := HO.out.sl)
  have G1 := E1.out.set0 (.slice A1 l.length cc1)
  have G2 := far3 (b := w.heap.size + 1) G1 (by omega) (.slice A1 l.length cc1) (.int .i64 x) (.bool b)
  have K2 := ((E2.out.far (p := ⟨w.heap.size, 0, none⟩) (show w.heap.size + 1 ≠ w.heap.size by omega) (.slice A1 l.length cc1)).set3 (.slice A1 l.length cc1) x b)
  have hbel := below_set3 (b := w.heap.size + 1) (HB3.out.setCell (p := ⟨w.heap.size, 0, none⟩) (Nat.le_refl _) (.slice A1 l.length cc1)) (by omega) (.slice A1 l.length cc1) (.int .i64 x) (.bool b)
  have hown := (((HO.out.far (p := ⟨w.heap.size, 0, none⟩) E1.out (.slice A1 l.length cc1)).far (p := ⟨w.heap.size + 1, 0, none⟩) (E2.out.far (p := ⟨w.heap.size, 0, none⟩) (show w.heap.size + 1 ≠ w.heap.size by omega) (.slice A1 l.length cc1)) (.slice A1 l.length cc1)).far (p := ⟨w.heap.size + 1, 1, none⟩) ((E2.out.far (p := ⟨w.heap.size, 0, none⟩) (show w.heap.size + 1 ≠ w.heap.size by omega) (.slice A1 l.length cc1)).set0 (.slice A1 l.length cc1)) (.int .i64 x)).far (p := ⟨w.heap.size + 1, 2, none⟩) (((E2.out.far (p := ⟨w.heap.size, 0, none⟩) (show w.heap.size + 1 ≠ w.heap.size by omega) (.slice A1 l.length cc1)).set0 (.slice A1 l.length cc1)).set1 x) (.bool b)
  exact end_disk Try.results26 rfl rfl K2 ⟨_, rfl, hown, hbel⟩
/-- What a write in place leaves. -/
def Writes (B g : Nat) (v : Value) (w : World) (x : DiskV × Int) (e : Ending) (w' : World) : Prop := e = .returned (.int .i64 x.2) ∧ DBox w' g v x.1.left x.1.down ∧ OwnS w' B v x.1.secs ∧ Below B w w' ∧ ∀ q u y z, DBox w q u y z → q ≠ g → DBox w' q u y z
theorem box_row_ne {w : World} {B q gr n c : Nat} {l : List ByteArray} {v : Value} {x : Int} {z : Bool} (ho : OwnS w B (.slice (some ⟨gr, 0, none⟩) n c) l) (hx : DBox w q v x z) : q ≠ gr := by
  intro e
  subst e
  rcases ho.2 with ⟨hv', _⟩ | ⟨g', cap, cur, hv', _, hh, _⟩
  · cases hv'
  · injection hv' with h1 _ _
    injection h1 with h1
    injection h1 with h1 _
    subst h1
    unfold DBox at hx
    rw [hx] at hh
    injection hh with hh
    injection hh with _ ht
    exact absurd ht (by decide)
set_option maxRecDepth 100000 in
set_option maxHeartbeats 1000000 in
theorem write_c (B g : Nat) (v : Value) (d : DiskV) (at' : Int) (b : ByteArray) (w : World) (hx : DBox w g v d.left d.down) (ho : OwnS w B v d.secs) (hB : B ≤ g) (hn : d.secs.length ≤ 1048576) (hl : -9223372036854775808 ≤ d.left ∧ d.left ≤ 9223372036854775807) :
    Calls Try.prog 27 #[.pointer (some ⟨g, 0, none⟩), .int .i64 at', .string b] w (Writes B g v w (writeD d at' b)) := by
  obtain ⟨secs, left, down⟩ := d
  simp only at hx ho hn hl
  obtain ⟨l1, l2⟩ := hl
  obtain ⟨A, c, rfl, _⟩ := ho.sl
  have HX := hide hx
  have HO := hide ho
  obtain ⟨c0, c1, c2, f0, f1, f2⟩ := hx.cells
  rcases writeD_cases ⟨secs, left, down⟩ at' b with ⟨rfl, hr⟩ | ⟨rfl, h1, hr⟩ | ⟨rfl, h2, h3, h4, rfl, hr⟩ | ⟨rfl, h2, h3, h4, h5, hr⟩ | ⟨rfl, h2, h3, h4, h5, hr⟩
  · rw [hr]
    clear hx ho hr
    go_enter Try.func27, Try.ntmps27
    go_wp2_with fail
    go_ret
    exact ⟨rfl, HX.out, HO.out, Below.refl _ _, fun _ _ _ _ h _ => h⟩
  · rw [hr]
    simp only at h1
    clear hx ho hr
    generalize hN : secs.length = n at *
    have HN := hide hN
    clear hN
    rcases (show at' < 0 ∨ (¬ at' < 0 ∧ (n : Int) ≤ at') ∨ (¬ at' < 0 ∧ ¬ (n : Int) ≤ at' ∧ ((b.size : Int) != 128) = true) by
      rcases h1 with h1 | h1 | h1
      · exact .inl h1
      · by_cases h0 : at' < 0
        · exact .inl h0
        · exact .inr (.inl ⟨h0, h1⟩)
      · by_cases h0 : at' < 0
        · exact .inl h0
        · by_cases h9 : (n : Int) ≤ at'
          · exact .inr (.inl ⟨h0, h9⟩)
          · exact .inr (.inr ⟨h0, h9, by rw [bne_iff_ne]; omega⟩)) with h | ⟨h, h'⟩ | ⟨h, h', h''⟩
    all_goals
      clear h1
      go_enter Try.func27, Try.ntmps27
      go_wp2_with fail
      go_ret
      exact ⟨rfl, HX.out, HO.out, Below.refl _ _, fun _ _ _ _ h _ => h⟩
  · rw [hr]
    simp only at h3
    have hb : ((b.size : Int) != 128) = false := by rw [bne_eq_false_iff_eq]; omega
    have n1 : ¬ at' < 0 := by omega
    have n2 : ¬ (secs.length : Int) ≤ at' := by omega
    generalize hN : secs.length = n at *
    have HN := hide hN
    clear hx ho hr h4 hN h2 h3
    go_enter Try.func27, Try.ntmps27
    go_wp2_with fail
    go_ret
    exact ⟨rfl, HX.out.set2 true, HO.out.far (p := ⟨g, 2, none⟩) HX.out _, (Below.refl _ _).setCell (p := ⟨g, 2, none⟩) hB _, fun q u y z h hq => h.far (p := ⟨g, 2, none⟩) hq _⟩
  all_goals
    rw [hr]
    simp only at h3 h5
    obtain ⟨k, rfl⟩ : ∃ k : Nat, at' = (k : Int) := ⟨at'.toNat, by omega⟩
    have hk : k < secs.length := by omega
    obtain ⟨gr, cr, hv, hBr, hc, hf⟩ := ho.cells k hk
    injection hv with e1 _ e3
    subst e1 e3
    have hne : gr ≠ g := fun e => box_row_ne ho hx e.symm
    have hb : ((b.size : Int) != 128) = false := by rw [bne_eq_false_iff_eq]; omega
    have n1 : ¬ (k : Int) < 0 := by omega
    have n2 : ¬ (secs.length : Int) ≤ k := by omega
    have n3 : ((left : Int) == 0) = false := by rw [beq_eq_false_iff_ne]; omega
    have hts : (k : Int).toNat = k := by omega
    rw [hts] at hr ⊢
    have HK := hide hk
    generalize secs[k] = z at hc
    simp only at hr ⊢
    clear hk
    generalize hN : secs.length = n at *
    have HN := hide hN
  · have hlw : IntKind.i64.wrap (left - 1) = left - 1 := IntWalk.i64_in _ (by omega)
    have hne2 : g ≠ gr := fun e => hne e.symm
    clear hx ho hr h4 hN h2 h3 hts
    go_enter Try.func27, Try.ntmps27
    go_wp2_with fail
    go_ret
    refine ⟨rfl, (HX.out.set1 (left - 1)).far (p := ⟨gr, k, none⟩) hne2 _, (HO.out.far (p := ⟨g, 1, none⟩) HX.out _).put (by rw [HN.out]; exact HK.out) b, ((Below.refl B w).setCell (p := ⟨g, 1, none⟩) hB _).setCell (p := ⟨gr, k, none⟩) hBr _, fun q u y z h hq => (h.far (p := ⟨g, 1, none⟩) hq _).far (p := ⟨gr, k, none⟩) (box_row_ne HO.out h) _⟩
  · have n4 : ¬ 0 < left := by omega
    have hne2 : g ≠ gr := fun e => hne e.symm
    clear hx ho hr h4 hN h2 h3 hts
    go_enter Try.func27, Try.ntmps27
    go_wp2_with fail
    go_ret
    refine ⟨rfl, HX.out.far (p := ⟨gr, k, none⟩) hne2 _, HO.out.put (by rw [HN.out]; exact HK.out) b, (Below.refl B w).setCell (p := ⟨gr, k, none⟩) hBr _, fun q u y z h hq => h.far (p := ⟨gr, k, none⟩) (box_row_ne HO.out h) _⟩
end Go.Proofs.Ytdfpmjfnlcccaaa
