/- The contract of the reference's WritePage. -/
import Derived.Test.YtdfpmjfnlcccaaaDkI
import Derived.Test.YtdfpmjfnlcccaaaNth
namespace Go.Proofs.Ytdfpmjfnlcccaaa
set_option linter.unusedVariables false
open Go.ChangeShapes Go.WideShapes Go.ChangeAt Go.RowKit

theorem sl_far {w : World} {B g n c : Nat} {A : Option Addr} {l : List ByteArray} {v : Value} {x : Int} {z : Bool} (h : SlAt stC 1 w B A n c l) (hx : DBox w g v x z) (hv : ∀ s, v ≠ .string s) (i : Nat) (u : Value) : SlAt stC 1 (w.setCell ⟨g, i, none⟩ u) B A n c l := by
  refine ⟨h.len, h.cap, h.max, h.nil, h.recs.1, fun hn => ?_⟩
  obtain ⟨b, off, e, hlt, hc⟩ := h.recs.2 hn
  have hne : b ≠ g := by
    intro e2
    subst e2
    have h0 : (l.map stC).flatten[0]? = some (((l.map stC).flatten)[0]'hn) := List.getElem?_eq_getElem hn
    have h1 := hc 0 _ h0
    have h2 := cell_of_row w b (off + 0) _ _ (0, 0) hx
    rw [h1] at h2
    have hm := List.getElem_mem hn
    obtain ⟨q, hq⟩ : ∃ q, ((l.map stC).flatten)[0]'hn = q := ⟨_, rfl⟩
    rw [hq] at h2 hm
    rw [stC_flat] at hm
    obtain ⟨s, _, hs⟩ := List.mem_map.1 hm
    rw [← hs] at h2
    match off, h2 with
    | 0, h2 => injection h2 with h2; exact hv s h2.symm
    | 1, h2 => injection h2 with h2; cases h2
    | 2, h2 => injection h2 with h2; cases h2
    | o + 3, h2 => simp at h2
  refine ⟨b, off, e, hlt, fun i' u' hu => ?_⟩
  rw [World.cell?_of_block (Below.heap_setCell w ⟨g, i, none⟩ u b hne)]
  exact hc i' u' hu
theorem sl_far3 {w : World} {B g n c : Nat} {A : Option Addr} {l : List ByteArray} {v : Value} {x : Int} {z : Bool} (h : SlAt stC 1 w B A n c l) (hx : DBox w g v x z) (hv : ∀ s, v ≠ .string s) (u : Value) (hu : ∀ s, u ≠ .string s) (y : Int) (b : Bool) : SlAt stC 1 (((w.setCell ⟨g, 0, none⟩ u).setCell ⟨g, 1, none⟩ (.int .i64 y)).setCell ⟨g, 2, none⟩ (.bool b)) B A n c l :=
  sl_far (sl_far (sl_far h hx hv 0 u) (hx.set0 u) hu 1 (.int .i64 y)) ((hx.set0 u).set1 y) hu 2 (.bool b)
set_option maxRecDepth 100000 in
set_option maxHeartbeats 2000000 in
theorem rWritePage_c (A : Option Addr) (n c : Nat) (d : DiskV) (at' : Int) (p : ByteArray) (w : World) (h : SlAt stC 1 w w.heap.size A n c d.secs) (hn : n ≤ 1048576) (hl : Left64 d) :
    Calls Try.prog 17 #[diskAgg A n c d.left d.down, .int .i64 at', .string p] w (GivesV w (writeP d at' p)) := by
  have HN := hide h.len
  have HT := hide (dbox_two w (.slice A n c) (.slice none 0 0) d.left 0 d.down false)
  have HB2 := hide (Bel.alloc (Bel.one w (.cells #[.slice A n c, .int .i64 d.left, .bool d.down] 25)) (.cells #[.slice none 0 0, .int .i64 0, .bool false] 25))
  have QI := hide (fun W => Is_c A n c d.left d.down at' W hn)
  have S0 := hide h
  have HST := hide (fun h0 h1 => @wp_start d at' p h0 h1 hl)
  have HSP := hide (fun k dk h hk => @wp_step d at' p k dk h hk)
  have HEN := hide (fun dk h => @wp_end d at' p dk h)
  have HCS : Hid ((d.down = true → writeP d at' p = (d, 20)) ∧ (d.down = false → (p.size ≠ 512 ∨ at' < 0 ∨ (d.secs.length : Int) - 4 < at') → writeP d at' p = (d, 1))) := by
    refine ⟨fun h0 => by unfold writeP; rw [if_pos h0], fun h0 h1 => by unfold writeP; rw [if_neg (by rw [h0]; simp), if_pos h1]⟩
  clear h hl
  generalize writeP d at' p = R at *
  obtain ⟨ds, dl, dd⟩ := d
  simp only at *
  unfold diskAgg at *
  unfold GivesV diskAgg
  cases dd with
  | true =>
    rw [HCS.out.1 rfl]
    clear HST HSP HEN HCS QI
    go_enter Try.func17, Try.ntmps17
    go_upto_region 1 with (fail)
    generalize (w.alloc (.cells #[.slice A n c, .int .i64 dl, .bool true] 25)).alloc (.cells #[.slice none 0 0, .int .i64 0, .bool false] 25) = w2 at *
    have X2 := hide HT.out.1
    have R2 := hide HT.out.2
    obtain ⟨c0, c1, c2, f0, f1, f2⟩ := X2.out.cells
    obtain ⟨e0, e1, e2, k0, k1, k2⟩ := R2.out.cells
    go_wp2_with fail
    have hfb := below_set3 (b := w.heap.size + 1) HB2.out (by omega) (.slice A n c) (.int .i64 dl) (.bool true)
    exact end_disk2 Try.results17 rfl rfl (R2.out.set3 _ _ _) rfl ⟨_, _, by rw [HN.out]; rfl, by rw [HN.out]; exact sl_end S0.out hfb, hfb⟩
  | false =>
    by_cases hbad : p.size ≠ 512 ∨ at' < 0 ∨ (ds.length : Int) - 4 < at'
    · rw [HCS.out.2 rfl hbad]
      rw [HN.out] at hbad
      have hw4 : IntKind.i64.wrap ((n : Int) - at') = (n : Int) - at' ∨ at' < 0 ∨ (n : Int) ≤ at' := by
        by_cases h1 : at' < 0
        · exact .inr (.inl h1)
        · by_cases h2 : (n : Int) ≤ at'
          · exact .inr (.inr h2)
          · exact .inl (IntWalk.i64_in _ (by omega))
      rcases (show ((p.size : Int) != 512) = true ∨ (((p.size : Int) != 512) = false ∧ ¬ (0 ≤ at' ∧ at' < (n : Int))) ∨ (((p.size : Int) != 512) = false ∧ (0 ≤ at' ∧ at' < (n : Int)) ∧ (n : Int) - at' < 4) by
        rw [bne_iff_ne, bne_eq_false_iff_eq]; omega) with g | ⟨g, g2⟩ | ⟨g, g2, g3⟩
      · clear HST HSP HEN HCS hbad hw4 QI
        go_enter Try.func17, Try.ntmps17
        go_upto_region 1 with (fail)
        generalize (w.alloc (.cells #[.slice A n c, .int .i64 dl, .bool false] 25)).alloc (.cells #[.slice none 0 0, .int .i64 0, .bool false] 25) = w2 at *
        have X2 := hide HT.out.1
        have R2 := hide HT.out.2
        obtain ⟨c0, c1, c2, f0, f1, f2⟩ := X2.out.cells
        obtain ⟨e0, e1, e2, k0, k1, k2⟩ := R2.out.cells
        go_wp2_with fail
        have hfb := below_set3 (b := w.heap.size + 1) HB2.out (by omega) (.slice A n c) (.int .i64 dl) (.bool false)
        exact end_disk2 Try.results17 rfl rfl (R2.out.set3 _ _ _) rfl ⟨_, _, by rw [HN.out]; rfl, by rw [HN.out]; exact sl_end S0.out hfb, hfb⟩
      · rw [show decide (0 ≤ at' ∧ at' < (n : Int)) = false by simpa using g2] at QI
        clear HST HSP HEN HCS hbad hw4 g2
        go_enter Try.func17, Try.ntmps17
        go_upto_region 1 with (fail)
        generalize (w.alloc (.cells #[.slice A n c, .int .i64 dl, .bool false] 25)).alloc (.cells #[.slice none 0 0, .int .i64 0, .bool false] 25) = w2 at *
        have X2 := hide HT.out.1
        have R2 := hide HT.out.2
        obtain ⟨c0, c1, c2, f0, f1, f2⟩ := X2.out.cells
        obtain ⟨e0, e1, e2, k0, k1, k2⟩ := R2.out.cells
        go_wp2_with fail
        refine (QI.out _).mono ?_
        rintro e w3 ⟨rfl, hb⟩
        have X3 := hide (X2.out.kept hb)
        have R3 := hide (R2.out.kept hb)
        have HB3 := hide (Bel.then HB2.out hb)
        clear hb QI X2 R2 HB2
        clear c0 c1 c2 f0 f1 f2 e0 e1 e2 k0 k1 k2
        obtain ⟨c0, c1, c2, f0, f1, f2⟩ := X3.out.cells
        obtain ⟨e0, e1, e2, k0, k1, k2⟩ := R3.out.cells
        go_wp2_with fail
        have hfb := below_set3 (b := w.heap.size + 1) HB3.out (by omega) (.slice A n c) (.int .i64 dl) (.bool false)
        exact end_disk2 Try.results17 rfl rfl (R3.out.set3 _ _ _) rfl ⟨_, _, by rw [HN.out]; rfl, by rw [HN.out]; exact sl_end S0.out hfb, hfb⟩
      · rw [show decide (0 ≤ at' ∧ at' < (n : Int)) = true by simpa using g2] at QI
        have hw5 : IntKind.i64.wrap ((n : Int) - at') = (n : Int) - at' := IntWalk.i64_in _ (by omega)
        clear HST HSP HEN HCS hbad hw4 g2
        go_enter Try.func17, Try.ntmps17
        go_upto_region 1 with (fail)
        generalize (w.alloc (.cells #[.slice A n c, .int .i64 dl, .bool false] 25)).alloc (.cells #[.slice none 0 0, .int .i64 0, .bool false] 25) = w2 at *
        have X2 := hide HT.out.1
        have R2 := hide HT.out.2
        obtain ⟨c0, c1, c2, f0, f1, f2⟩ := X2.out.cells
        obtain ⟨e0, e1, e2, k0, k1, k2⟩ := R2.out.cells
        go_wp2_with fail
        refine (QI.out _).mono ?_
        rintro e w3 ⟨rfl, hb⟩
        have X3 := hide (X2.out.kept hb)
        have R3 := hide (R2.out.kept hb)
        have HB3 := hide (Bel.then HB2.out hb)
        clear hb QI X2 R2 HB2
        clear c0 c1 c2 f0 f1 f2 e0 e1 e2 k0 k1 k2
        obtain ⟨c0, c1, c2, f0, f1, f2⟩ := X3.out.cells
        obtain ⟨e0, e1, e2, k0, k1, k2⟩ := R3.out.cells
        go_wp2_with fail
        have hfb := below_set3 (b := w.heap.size + 1) HB3.out (by omega) (.slice A n c) (.int .i64 dl) (.bool false)
        exact end_disk2 Try.results17 rfl rfl (R3.out.set3 _ _ _) rfl ⟨_, _, by rw [HN.out]; rfl, by rw [HN.out]; exact sl_end S0.out hfb, hfb⟩
    · have HW0 := hide (HST.out rfl hbad)
      rw [HN.out] at hbad
      have g : ((p.size : Int) != 512) = false := by rw [bne_eq_false_iff_eq]; omega
      have g3 : ¬ (n : Int) - at' < 4 := by omega
      have hw5 : IntKind.i64.wrap ((n : Int) - at') = (n : Int) - at' := IntWalk.i64_in _ (by omega)
      have HP := hide (show p.size = 512 by omega)
      have ha0 : 0 ≤ at' := by omega
      have ha1 : at' ≤ 1048576 := by omega
      rw [show decide (0 ≤ at' ∧ at' < (n : Int)) = true by simp; omega] at QI
      clear HST HCS hbad
      go_enter Try.func17, Try.ntmps17
      go_upto_region 1 with (fail)
      generalize (w.alloc (.cells #[.slice A n c, .int .i64 dl, .bool false] 25)).alloc (.cells #[.slice none 0 0, .int .i64 0, .bool false] 25) = w2 at *
      have X2 := hide HT.out.1
      have R2 := hide HT.out.2
      obtain ⟨c0, c1, c2, f0, f1, f2⟩ := X2.out.cells
      obtain ⟨e0, e1, e2, k0, k1, k2⟩ := R2.out.cells
      go_wp2_with fail
      refine (QI.out _).mono ?_
      rintro e w3 ⟨rfl, hb⟩
      have X3 := hide (X2.out.kept hb)
      have R3 := hide (R2.out.kept hb)
      have HB3 := hide (Bel.then HB2.out hb)
      clear hb QI X2 R2 HB2
      clear c0 c1 c2 f0 f1 f2 e0 e1 e2 k0 k1 k2
      obtain ⟨c0, c1, c2, f0, f1, f2⟩ := X3.out.cells
      obtain ⟨e0, e1, e2, k0, k1, k2⟩ := R3.out.cells
      have SL3 := hide (S0.out.kept HB3.out)
      go_wp2_with fail
      clear c0 c1 c2 f0 f1 f2 e0 e1 e2 k0 k1 k2 g g3 hw5
      go_loopw [8] (fun i wr => ∃ k : Nat, ∃ dk : DiskV, ∃ A2 : Option Addr, ∃ c2 : Nat, k ≤ 4 ∧ i = .int .i64 k ∧ Hid (DBox wr w.heap.size (.slice A2 n c2) dk.left dk.down) ∧ Hid (SlAt stC 1 wr wr.heap.size A2 n c2 dk.secs) ∧ Hid (DBox wr (w.heap.size + 1) (.slice none 0 0) 0 false) ∧ Hid (Below w.heap.size w wr) ∧ Hid (WpAt ⟨ds, dl, false⟩ at' p k dk)) (fun i _ => 4 - (intOf i).toNat)
      case atStart => exact ⟨0, ⟨ds, dl, false⟩, A, c, by omega, rfl, X3, SL3, R3, HB3, HW0⟩
      case round =>
        obtain ⟨k, dk, A2, c2, hk, rfl, HX, HS, HRb, HB, HW⟩ := hrel
        clear X3 SL3 R3 HB3 HW0
        obtain ⟨c0, c1, c2', f0, f1, f2⟩ := HX.out.cells
        obtain ⟨e0, e1, e2, k0, k1, k2⟩ := HRb.out.cells
        by_cases hlt : k < 4
        · have hlti : (k : Int) < 4 := by omega
          have hwk : IntKind.i64.wrap ((k : Int) + 1) = (k : Int) + 1 := IntWalk.i64_in _ (by omega)
          have hwa : IntKind.i64.wrap (at' + (k : Int)) = at' + k := IntWalk.i64_in _ (by omega)
          have hwm : IntKind.i64.wrap ((k : Int) * 128) = (k : Int) * 128 := IntWalk.i64_in _ (by omega)
          have hwn : IntKind.i64.wrap (((k : Int) + 1) * 128) = ((k : Int) + 1) * 128 := IntWalk.i64_in _ (by omega)
          have hsr := fun W => sec_run p k HP.out hlt W
          have Q := hide (fun W (hW : Below wr.heap.size wr W) => rWrite_c A2 n c2 dk (at' + k) (secOf p k) W (HS.out.kept hW) hn HW.out.left)
          have hxl : (writeD dk (at' + (k : Int)) (secOf p k)).1.secs.length = n := by rw [writeD_len, HW.out.len]; exact HN.out
          have hcase := HSP.out k dk HW.out hlt
          unfold diskAgg GivesV diskAgg at Q
          generalize writeD dk (at' + (k : Int)) (secOf p k) = x at *
          generalize secOf p k = sk at *
          obtain ⟨⟨xs, xl, xd⟩, xe⟩ := x
          simp only at *
          simp only [hxl] at Q
          have HC := hide hcase
          have HXL := hide hxl
          clear hcase hxl HSP HEN HW
          go_wp2_with fail
          refine wp_region_held_drew (S := (fun w' => DBox w' w.heap.size (.slice A2 n c2) dk.left dk.down ∧ DBox w' (w.heap.size + 1) (.slice none 0 0) 0 false ∧ Below w.heap.size w w' ∧ Below wr.heap.size wr w')) (by kernel_rfl) ⟨HX.out, HRb.out, HB.out.drew, (Below.refl _ _).drew⟩ (fun hHeld => ?_)
          first | (refine wpAnyH_take (i := 0) (v := ?_) nth0 (by kernel_rfl) (by kernel_rfl) (by kernel_rfl) (fun _ _ _ h => h) (Or.inl ⟨by rfl, ?_⟩) hHeld ?_; rotate_left; focus (intro wS hSw; obtain ⟨c0, c1, c2, f0, f1, f2⟩ := hSw.1.cells; go_simp; try with_reducible rfl; done)) | fail
          (try simp only [Act.put]); (try simp only [List.setIfInBounds_toArray]); (try simp only [List.set_cons_succ]); (try simp only [List.set_cons_zero])
          first | (refine wpAnyH_take (i := 1) (v := ?_) nth1 (by kernel_rfl) (by kernel_rfl) (by kernel_rfl) (fun _ _ _ h => h) (Or.inl ⟨by rfl, ?_⟩) hHeld ?_; rotate_left; focus (intro wS hSw; obtain ⟨c0, c1, c2, f0, f1, f2⟩ := hSw.1.cells; go_simp; try with_reducible rfl; done)) | fail
          (try simp only [Act.put]); (try simp only [List.setIfInBounds_toArray]); (try simp only [List.set_cons_succ]); (try simp only [List.set_cons_zero])
          first | (refine wpAnyH_take (i := 2) (v := ?_) nth2 (by kernel_rfl) (by kernel_rfl) (by kernel_rfl) (fun _ _ _ h => h) (Or.inl ⟨by rfl, ?_⟩) hHeld ?_; rotate_left; focus (intro wS hSw; obtain ⟨c0, c1, c2, f0, f1, f2⟩ := hSw.1.cells; go_simp; try with_reducible rfl; done)) | fail
          (try simp only [Act.put]); (try simp only [List.setIfInBounds_toArray]); (try simp only [List.set_cons_succ]); (try simp only [List.set_cons_zero])
          first | (refine wpAnyH_take (i := 3) (v := ?_) nth3 (by kernel_rfl) (by kernel_rfl) (by kernel_rfl) (fun _ _ _ h => h) (Or.inl ⟨by rfl, ?_⟩) hHeld ?_; rotate_left; focus (intro wS hSw; obtain ⟨c0, c1, c2, f0, f1, f2⟩ := hSw.1.cells; go_simp; try with_reducible rfl; done)) | fail
          (try simp only [Act.put]); (try simp only [List.setIfInBounds_toArray]); (try simp only [List.set_cons_succ]); (try simp only [List.set_cons_zero])
          first | (refine wpAnyH_take (i := 4) (v := ?_) nth4 (by kernel_rfl) (by kernel_rfl) (by kernel_rfl) (fun _ _ _ h => h) (Or.inl ⟨by rfl, ?_⟩) hHeld ?_; rotate_left; focus (intro wS hSw; obtain ⟨c0, c1, c2, f0, f1, f2⟩ := hSw.1.cells; go_simp; try with_reducible rfl; done)) | fail
          (try simp only [Act.put]); (try simp only [List.setIfInBounds_toArray]); (try simp only [List.set_cons_succ]); (try simp only [List.set_cons_zero])
          first | (refine wpAnyH_take (i := 5) (v := ?_) nth5 (by kernel_rfl) (by kernel_rfl) (by kernel_rfl) (fun _ _ _ h => h) (Or.inl ⟨by rfl, ?_⟩) hHeld ?_; rotate_left; focus (intro wS hSw; obtain ⟨c0, c1, c2, f0, f1, f2⟩ := hSw.1.cells; go_simp; try with_reducible rfl; done)) | fail
          (try simp only [Act.put]); (try simp only [List.setIfInBounds_toArray]); (try simp only [List.set_cons_succ]); (try simp only [List.set_cons_zero])
          first | (refine wpAnyH_take (i := 6) (v := ?_) nth6 (by kernel_rfl) (by kernel_rfl) (by kernel_rfl) (fun _ _ _ h => h) (Or.inl ⟨by rfl, ?_⟩) hHeld ?_; rotate_left; focus (intro wS hSw; obtain ⟨c0, c1, c2, f0, f1, f2⟩ := hSw.1.cells; go_simp; try with_reducible rfl; done)) | fail
          (try simp only [Act.put]); (try simp only [List.setIfInBounds_toArray]); (try simp only [List.set_cons_succ]); (try simp only [List.set_cons_zero])
          first | (refine wpAnyH_take (i := 7) (v := ?_) nth7 (by kernel_rfl) (by kernel_rfl) (by kernel_rfl) (fun _ _ _ h => h) (Or.inl ⟨by rfl, ?_⟩) hHeld ?_; rotate_left; focus (intro wS hSw; obtain ⟨c0, c1, c2, f0, f1, f2⟩ := hSw.1.cells; go_simp; try with_reducible rfl; done)) | fail
          (try simp only [Act.put]); (try simp only [List.setIfInBounds_toArray]); (try simp only [List.set_cons_succ]); (try simp only [List.set_cons_zero])
          first | (refine wpAnyH_take (i := 8) (v := ?_) nth8 (by kernel_rfl) (by kernel_rfl) (by kernel_rfl) (fun _ _ _ h => h) (Or.inl ⟨by rfl, ?_⟩) hHeld ?_; rotate_left; focus (intro wS hSw; obtain ⟨c0, c1, c2, f0, f1, f2⟩ := hSw.1.cells; go_simp; try with_reducible rfl; done)) | fail
          (try simp only [Act.put]); (try simp only [List.setIfInBounds_toArray]); (try simp only [List.set_cons_succ]); (try simp only [List.set_cons_zero])
          first | (refine wpAnyH_take (i := 9) (v := ?_) nth9 (by kernel_rfl) (by kernel_rfl) (by kernel_rfl) (fun _ _ _ h => h) (Or.inl ⟨by rfl, ?_⟩) hHeld ?_; rotate_left; focus (intro wS hSw; obtain ⟨c0, c1, c2, f0, f1, f2⟩ := hSw.1.cells; go_simp; try with_reducible rfl; done)) | fail
          (try simp only [Act.put]); (try simp only [List.setIfInBounds_toArray]); (try simp only [List.set_cons_succ]); (try simp only [List.set_cons_zero])
          first | (refine wpAnyH_take (i := 10) (v := ?_) nth10 (by kernel_rfl) (by kernel_rfl) (by kernel_rfl) (fun _ _ _ h => h) (Or.inl ⟨by rfl, ?_⟩) hHeld ?_; rotate_left; focus (intro wS hSw; obtain ⟨c0, c1, c2, f0, f1, f2⟩ := hSw.1.cells; go_simp; try with_reducible rfl; done)) | fail
          (try simp only [Act.put]); (try simp only [List.setIfInBounds_toArray]); (try simp only [List.set_cons_succ]); (try simp only [List.set_cons_zero])
          refine wpAnyH_ready (rs := [11, 15]) (by kernel_rfl) (by simp) ?_
          refine AllReadyH.cons nth11 (fun K hK => ?_) (AllReadyH.cons nth15 (fun K hK => ?_) AllReadyH.nil)
          · go_simp
            refine (Q.out _ hHeld.2.2.2).mono ?_
            rintro e w5 ⟨A5, c5, rfl, hS5, hb⟩
            have S5 := hide hS5
            refine hK.out _ _ ⟨hHeld.1.kept hb, hHeld.2.1.kept hb, Bel.then hHeld.2.2.1 hb, Bel.then hHeld.2.2.2 hb⟩ (fun hHeld => ?_)
            clear hK K hS5
            (try simp only [Act.put]); (try simp only [List.setIfInBounds_toArray]); (try simp only [List.set_cons_succ]); (try simp only [List.set_cons_zero])
            have HH5 := hide hHeld
            first | (refine wpAnyH_take (i := 12) (v := ?_) nth12 (by kernel_rfl) (by kernel_rfl) (by kernel_rfl) (fun _ _ _ h => h) (Or.inl ⟨by rfl, ?_⟩) hHeld ?_; rotate_left; focus (intro wS hSw; obtain ⟨c0, c1, c2, f0, f1, f2⟩ := hSw.1.cells; go_simp; try with_reducible rfl; done)) | fail
            (try simp only [Act.put]); (try simp only [List.setIfInBounds_toArray]); (try simp only [List.set_cons_succ]); (try simp only [List.set_cons_zero])
            first | (refine wpAnyH_take (i := 13) (v := ?_) nth13 (by kernel_rfl) (by kernel_rfl) (by kernel_rfl) (fun _ _ _ h => h) (Or.inl ⟨by rfl, ?_⟩) hHeld ?_; rotate_left; focus (intro wS hSw; obtain ⟨c0, c1, c2, f0, f1, f2⟩ := hSw.1.cells; go_simp; try with_reducible rfl; done)) | fail
            (try simp only [Act.put]); (try simp only [List.setIfInBounds_toArray]); (try simp only [List.set_cons_succ]); (try simp only [List.set_cons_zero])
            first | (refine wpAnyH_take (i := 14) (v := ?_) nth14 (by kernel_rfl) (by kernel_rfl) (by kernel_rfl) (fun _ _ _ h => h) (Or.inl ⟨by rfl, ?_⟩) hHeld ?_; rotate_left; focus (intro wS hSw; obtain ⟨c0, c1, c2, f0, f1, f2⟩ := hSw.1.cells; go_simp; try with_reducible rfl; done)) | fail
            (try simp only [Act.put]); (try simp only [List.setIfInBounds_toArray]); (try simp only [List.set_cons_succ]); (try simp only [List.set_cons_zero])
            refine wpAnyH_ready (rs := [15]) (by kernel_rfl) (by simp) ?_
            refine AllReadyH.cons nth15 (fun K hK => ?_) AllReadyH.nil
            go_simp
            refine hK.out _ _ ⟨hHeld.1.kept (Bel.one _ _), hHeld.2.1.kept (Bel.one _ _), Bel.then hHeld.2.2.1 (Bel.one _ _), Bel.then hHeld.2.2.2 (Bel.one _ _)⟩ (fun hHeld => ?_)
            clear hK K
            (try simp only [Act.put]); (try simp only [List.setIfInBounds_toArray]); (try simp only [List.set_cons_succ]); (try simp only [List.set_cons_zero])
            refine wpAnyH_ready (rs := [16]) (by kernel_rfl) (by simp) ?_
            refine AllReadyH.cons nth16 (fun K hK => ?_) AllReadyH.nil
            go_simp
            have hq1 := HH5.out.1.lt
            have hq2 := HH5.out.2.1.lt
            have hg1 : w.heap.size ≠ w5.heap.size := by omega
            have hg2 : w.heap.size + 1 ≠ w5.heap.size := by omega
            have hg3 : w.heap.size ≤ w5.heap.size := by omega
            have G7 := hide (dbox_new w5 (.slice A5 n c5) xl xd)
            have S7 := hide (S5.out.kept (Bel.one w5 (.cells #[.slice A5 n c5, .int .i64 xl, .bool xd] 25)))
            refine hK.out _ _ ⟨HH5.out.1.alloc _, HH5.out.2.1.alloc _, Bel.alloc HH5.out.2.2.1 _, Bel.alloc HH5.out.2.2.2 _⟩ (fun hHeld => ?_)
            clear hK K
            (try simp only [Act.put]); (try simp only [List.setIfInBounds_toArray]); (try simp only [List.set_cons_succ]); (try simp only [List.set_cons_zero])
            first | (refine wpAnyH_take (i := 17) (v := ?_) nth17 (by kernel_rfl) (by kernel_rfl) (by kernel_rfl) (fun _ _ _ h => h) (Or.inl ⟨by rfl, ?_⟩) hHeld ?_; rotate_left; focus (intro wS hSw; obtain ⟨c0, c1, c2, f0, f1, f2⟩ := hSw.1.cells; go_simp; try with_reducible rfl; done)) | fail
            (try simp only [Act.put]); (try simp only [List.setIfInBounds_toArray]); (try simp only [List.set_cons_succ]); (try simp only [List.set_cons_zero])
            refine wpAnyH_done (by kernel_rfl) ?_ _
            generalize w5.alloc (.cells #[.slice A5 n c5, .int .i64 xl, .bool xd] 25) = w7 at *
            have HH := hide hHeld
            obtain ⟨z0, z1, z2, y0, y1, y2⟩ := G7.out.cells
            clear c0 c1 c2' f0 f1 f2 e0 e1 e2 k0 k1 k2 Q hb hsr
            have HSLE := hide (fun (u : Value) (hu : ∀ s, u ≠ .string s) (y : Int) (b : Bool) => sl_far3 S7.out HH.out.2.1 (by intro s h; cases h) u hu y b)
            have HSLD := hide (fun (u : Value) (hu : ∀ s, u ≠ .string s) (y : Int) (b : Bool) => sl_far3 S7.out HH.out.1 (by intro s h; cases h) u hu y b)
            rcases HC.out with ⟨h1, h2⟩ | ⟨h1, h2⟩
            · have hne : (xe != 0) = true := by rw [bne_iff_ne]; exact h1
              have HR2 := hide h2
              obtain ⟨e0, e1, e2, k0, k1, k2⟩ := HH.out.2.1.cells
              clear h1 h2 HC
              go_wp2_with fail
              refine end_disk2 Try.results17 rfl rfl (HH.out.2.1.set3 _ _ _) rfl ?_
              rw [HR2.out]
              simp only [HXL.out]
              exact ⟨_, _, rfl, (HSLE.out _ (by intro s h; cases h) _ _).more (show _ ≤ _ by simp), below_set3 HH.out.2.2.1 (by omega) _ _ _⟩
            · subst h1
              have HW2 := hide h2
              obtain ⟨c0, c1, c2x, f0, f1, f2⟩ := HH.out.1.cells
              clear h2 HC
              go_wp2_with fail
              go_roundw
              case rel => exact ⟨k + 1, ⟨xs, xl, xd⟩, A5, c5, by omega, by go_num, HH.out.1.set3 _ _ _, (HSLD.out _ (by intro s h; cases h) _ _).more (show _ ≤ _ by simp), far3 HH.out.2.1 (by omega) _ _ _, below_set3 HH.out.2.2.1 (Nat.le_refl _) _ _ _, HW2⟩
              case measure => simp [intOf]; omega
          · go_simp
            refine hK.out _ _ ⟨hHeld.1.kept (Bel.one _ _), hHeld.2.1.kept (Bel.one _ _), Bel.then hHeld.2.2.1 (Bel.one _ _), Bel.then hHeld.2.2.2 (Bel.one _ _)⟩ (fun hHeld => ?_)
            clear hK K
            (try simp only [Act.put]); (try simp only [List.setIfInBounds_toArray]); (try simp only [List.set_cons_succ]); (try simp only [List.set_cons_zero])
            refine wpAnyH_ready (rs := [11]) (by kernel_rfl) (by simp) ?_
            refine AllReadyH.cons nth11 (fun K hK => ?_) AllReadyH.nil
            go_simp
            refine (Q.out _ hHeld.2.2.2).mono ?_
            rintro e w5 ⟨A5, c5, rfl, hS5, hb⟩
            have S5 := hide hS5
            refine hK.out _ _ ⟨hHeld.1.kept hb, hHeld.2.1.kept hb, Bel.then hHeld.2.2.1 hb, Bel.then hHeld.2.2.2 hb⟩ (fun hHeld => ?_)
            clear hK K hS5
            (try simp only [Act.put]); (try simp only [List.setIfInBounds_toArray]); (try simp only [List.set_cons_succ]); (try simp only [List.set_cons_zero])
            first | (refine wpAnyH_take (i := 12) (v := ?_) nth12 (by kernel_rfl) (by kernel_rfl) (by kernel_rfl) (fun _ _ _ h => h) (Or.inl ⟨by rfl, ?_⟩) hHeld ?_; rotate_left; focus (intro wS hSw; obtain ⟨c0, c1, c2, f0, f1, f2⟩ := hSw.1.cells; go_simp; try with_reducible rfl; done)) | fail
            (try simp only [Act.put]); (try simp only [List.setIfInBounds_toArray]); (try simp only [List.set_cons_succ]); (try simp only [List.set_cons_zero])
            first | (refine wpAnyH_take (i := 13) (v := ?_) nth13 (by kernel_rfl) (by kernel_rfl) (by kernel_rfl) (fun _ _ _ h => h) (Or.inl ⟨by rfl, ?_⟩) hHeld ?_; rotate_left; focus (intro wS hSw; obtain ⟨c0, c1, c2, f0, f1, f2⟩ := hSw.1.cells; go_simp; try with_reducible rfl; done)) | fail
            (try simp only [Act.put]); (try simp only [List.setIfInBounds_toArray]); (try simp only [List.set_cons_succ]); (try simp only [List.set_cons_zero])
            first | (refine wpAnyH_take (i := 14) (v := ?_) nth14 (by kernel_rfl) (by kernel_rfl) (by kernel_rfl) (fun _ _ _ h => h) (Or.inl ⟨by rfl, ?_⟩) hHeld ?_; rotate_left; focus (intro wS hSw; obtain ⟨c0, c1, c2, f0, f1, f2⟩ := hSw.1.cells; go_simp; try with_reducible rfl; done)) | fail
            (try simp only [Act.put]); (try simp only [List.setIfInBounds_toArray]); (try simp only [List.set_cons_succ]); (try simp only [List.set_cons_zero])
            have G6 := hide (show DBox w5 wr.heap.size (.slice none 0 0) 0 false from DBox.kept (dbox_new wr.drew (.slice none 0 0) 0 false) hb)
            have S6 := hide (S5.out)
            obtain ⟨z0, z1, z2, y0, y1, y2⟩ := G6.out.cells
            refine wpAnyH_ready (rs := [16]) (by kernel_rfl) (by simp) ?_
            refine AllReadyH.cons nth16 (fun K hK => ?_) AllReadyH.nil
            go_simp
            have hx1 := hHeld.1.lt
            have hx2 := hHeld.2.1.lt
            have hg1 : w.heap.size ≠ wr.heap.size := by have := HX.out.lt; omega
            have hg2 : w.heap.size + 1 ≠ wr.heap.size := by have := HRb.out.lt; omega
            have hg3 : w.heap.size ≤ wr.heap.size := by have := HX.out.lt; omega
            have hg4 : wr.heap.size ≤ wr.heap.size := by exact Nat.le_refl _
            have G7 := hide (G6.out.set3 (.slice A5 n c5) xl xd)
            have S7 := hide ((sl_far3 S6.out G6.out (by intro s h; cases h) (.slice A5 n c5) (by intro s h; cases h) xl xd))
            refine hK.out _ _ ⟨far3 hHeld.1 hg1 _ _ _, far3 hHeld.2.1 hg2 _ _ _, below_set3 hHeld.2.2.1 hg3 _ _ _, below_set3 hHeld.2.2.2 hg4 _ _ _⟩ (fun hHeld => ?_)
            clear hK K z0 z1 z2 y0 y1 y2
            (try simp only [Act.put]); (try simp only [List.setIfInBounds_toArray]); (try simp only [List.set_cons_succ]); (try simp only [List.set_cons_zero])
            first | (refine wpAnyH_take (i := 17) (v := ?_) nth17 (by kernel_rfl) (by kernel_rfl) (by kernel_rfl) (fun _ _ _ h => h) (Or.inl ⟨by rfl, ?_⟩) hHeld ?_; rotate_left; focus (intro wS hSw; obtain ⟨c0, c1, c2, f0, f1, f2⟩ := hSw.1.cells; go_simp; try with_reducible rfl; done)) | fail
            (try simp only [Act.put]); (try simp only [List.setIfInBounds_toArray]); (try simp only [List.set_cons_succ]); (try simp only [List.set_cons_zero])
            refine wpAnyH_done (by kernel_rfl) ?_ _
            have HH := hide hHeld
            obtain ⟨z0, z1, z2, y0, y1, y2⟩ := G7.out.cells
            clear c0 c1 c2' f0 f1 f2 e0 e1 e2 k0 k1 k2 Q hb hsr
            have HSLE := hide (fun (u : Value) (hu : ∀ s, u ≠ .string s) (y : Int) (b : Bool) => sl_far3 S7.out HH.out.2.1 (by intro s h; cases h) u hu y b)
            have HSLD := hide (fun (u : Value) (hu : ∀ s, u ≠ .string s) (y : Int) (b : Bool) => sl_far3 S7.out HH.out.1 (by intro s h; cases h) u hu y b)
            rcases HC.out with ⟨h1, h2⟩ | ⟨h1, h2⟩
            · have hne : (xe != 0) = true := by rw [bne_iff_ne]; exact h1
              have HR2 := hide h2
              obtain ⟨e0, e1, e2, k0, k1, k2⟩ := HH.out.2.1.cells
              clear h1 h2 HC
              go_wp2_with fail
              refine end_disk2 Try.results17 rfl rfl (HH.out.2.1.set3 _ _ _) rfl ?_
              rw [HR2.out]
              simp only [HXL.out]
              exact ⟨_, _, rfl, (HSLE.out _ (by intro s h; cases h) _ _).more (show _ ≤ _ by simp), below_set3 HH.out.2.2.1 (by omega) _ _ _⟩
            · subst h1
              have HW2 := hide h2
              obtain ⟨c0, c1, c2x, f0, f1, f2⟩ := HH.out.1.cells
              clear h2 HC
              go_wp2_with fail
              go_roundw
              case rel => exact ⟨k + 1, ⟨xs, xl, xd⟩, A5, c5, by omega, by go_num, HH.out.1.set3 _ _ _, (HSLD.out _ (by intro s h; cases h) _ _).more (show _ ≤ _ by simp), far3 HH.out.2.1 (by omega) _ _ _, below_set3 HH.out.2.2.1 (Nat.le_refl _) _ _ _, HW2⟩
              case measure => simp [intOf]; omega
        · obtain rfl : k = 4 := by omega
          have HR2 := hide (HEN.out dk HW.out)
          have hlti : ¬ ((4 : Nat) : Int) < 4 := by omega
          have hdl : dk.secs.length = n := by rw [HW.out.len]; exact HN.out
          have HDL := hide hdl
          clear HSP HEN HW hdl
          go_wp2_with fail
          refine end_disk2 Try.results17 rfl rfl (HRb.out.set3 _ _ _) rfl ?_
          rw [HR2.out]
          simp only [HDL.out]
          exact ⟨_, _, rfl, (sl_far3 HS.out HRb.out (by intro s h; cases h) _ (by intro s h; cases h) _ _).more (show _ ≤ _ by simp), below_set3 HB.out (by omega) _ _ _⟩
end Go.Proofs.Ytdfpmjfnlcccaaa
