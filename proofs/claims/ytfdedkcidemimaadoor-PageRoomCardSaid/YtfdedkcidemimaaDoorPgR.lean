/- Pages: read. -/
import Derived.Test.YtfdedkcidemimaaDoorPgS
namespace Go.Proofs.YtfdedkcidemimaaDoor
set_option linter.unusedVariables false
set_option linter.unusedSimpArgs false
open Go.ChangeShapes Go.WideShapes Go.ChangeAt Go.RowKit

set_option maxRecDepth 100000 in
set_option maxHeartbeats 4000000 in
theorem read_c2 (p : ByteArray) (hm : p.size ≤ 4000) (R : RightP p) (w : World) : Calls Tryd.prog 52 #[.string p] w (GivesC2 w (readC p)) := by
  obtain ⟨i0, hi0, hz0, hz1, hz2⟩ := info_parts str_info
  have g10 : 10 < p.size := by have := R.size; omega
  have b10 : bN p 10 = (p[10]'g10).toNat := bN_in g10
  have i10 : (10 : Int) < p.size := by omega
  have hb10 := bN_lt p 10
  have Q1 := hide (fun W => number_c p 4 6 hm W)
  have Q6 := hide (fun W => number_c p 12 3 hm W)
  have Q15 := hide (fun W => short_b p 15 (by have := R.size; omega) hm W)
  have QP := hide (fun i (hi : i < shN p 15) W => place_c p i (R.near hi) hm W)
  have HSZ := hide R.size
  have HSL := hide (fun i (hi : i < shN p 15) => R.slot hi)
  have hn : shN p 15 ≤ 123 := by have := R.gap; have := R.beg; omega
  obtain ⟨C, hC⟩ : ∃ C, readC p = C := ⟨_, rfl⟩
  have hC2 : C = ⟨(getP p 4 6).1, (bN p 10 : Int), (getP p 12 3).1, (List.range (shN p 15)).map (recAt p)⟩ := hC.symm
  rw [hC]
  rw [b10] at hC2
  obtain ⟨A2, hA2⟩ : ∃ A2 : Int, ((p[10]'g10).toNat : Int) = A2 := ⟨_, rfl⟩
  rw [hA2] at hC2
  have HC := hide hC2
  have wk : IntKind.i64.wrap ((p[10]'g10).toNat : Int) = A2 := by rw [← hA2, IntWalk.i64_in _ (by omega)]
  have hset := hide (fun k (h : k < shN p 15) => @recsTo_set (recAt p) (shN p 15) k h)
  have hend := hide (recsTo_end (recAt p) (shN p 15))
  have hlen := hide (fun k (h : k ≤ shN p 15) => @recsTo_len (recAt p) (shN p 15) k h)
  have hs0 : (madeCells (Value.string .empty).cells (shN p 15 * 1)).toList = ((recsTo (recAt p) (shN p 15) 0).map stC).flatten := by
    rw [stC_flat, Nat.mul_one]
    show (madeCells #[.string .empty] _).toList = _
    rw [toList_madeCells_one]
    unfold recsTo
    simp
  have HS0 := hide hs0
  clear hC hC2 b10 hs0 R hA2 hb10
  generalize (getP p 4 6) = a1 at *
  obtain ⟨A1, A1b⟩ := a1
  generalize (getP p 12 3) = a3 at *
  obtain ⟨A3, A3b⟩ := a3
  generalize shN p 15 = n at *
  have HR0 := hide (cbx_new w 0 0 0 (.slice none 0 0))
  have HB0 := hide (Bel.one w (.cells #[.int .i64 0, .int .i64 0, .int .i64 0, .slice none 0 0] 52))
  go_enter Tryd.func52, Tryd.ntmps52
  go_upto_region 1 with (fail)
  generalize w.alloc (.cells #[.int .i64 0, .int .i64 0, .int .i64 0, .slice none 0 0] 52) = w1 at *
  go_cut [3] from 7 to 14 (fun p wx => ∃ gx, p = .pointer (some ⟨gx, 0, none⟩) ∧ CBx wx gx A1 A2 A3 (.slice none 0 0) ∧ CBx wx w.heap.size 0 0 0 (.slice none 0 0) ∧ w.heap.size < gx ∧ Below w.heap.size w wx)
  case first =>
    refine wp_region_held_drew (S := fun _ => True) (by kernel_rfl) trivial (fun hHeld => ?_)
    have HR := hide (HR0.out.kept (Below.refl _ _).drew)
    have HB := hide (HB0.out.drew)
    generalize w1.drew = wd at *
    clear HR0 HB0 hHeld
    first | (refine wpAnyH_take (i := 0) (v := ?_) nth0 (by kernel_rfl) (by kernel_rfl) (by kernel_rfl) (fun _ _ _ h => h) (Or.inl ⟨by rfl, ?_⟩) trivial ?_; rotate_left; focus (intro wS hSw; go_simp; try with_reducible rfl; done)) | (refine wpAnyH_take (i := 0) (v := undef) nth0 (by kernel_rfl) (by kernel_rfl) (by kernel_rfl) (fun _ _ _ h => h) (Or.inr ⟨by rfl, rfl⟩) trivial ?_)
    (try simp only [Act.put]); (try simp only [List.setIfInBounds_toArray]); (try simp only [List.set_cons_succ]); (try simp only [List.set_cons_zero])
    first | (refine wpAnyH_take (i := 2) (v := ?_) nth2 (by kernel_rfl) (by kernel_rfl) (by kernel_rfl) (fun _ _ _ h => h) (Or.inl ⟨by rfl, ?_⟩) trivial ?_; rotate_left; focus (intro wS hSw; go_simp; try with_reducible rfl; done)) | (refine wpAnyH_take (i := 2) (v := undef) nth2 (by kernel_rfl) (by kernel_rfl) (by kernel_rfl) (fun _ _ _ h => h) (Or.inr ⟨by rfl, rfl⟩) trivial ?_)
    (try simp only [Act.put]); (try simp only [List.setIfInBounds_toArray]); (try simp only [List.set_cons_succ]); (try simp only [List.set_cons_zero])
    first | (refine wpAnyH_take (i := 3) (v := ?_) nth3 (by kernel_rfl) (by kernel_rfl) (by kernel_rfl) (fun _ _ _ h => h) (Or.inl ⟨by rfl, ?_⟩) trivial ?_; rotate_left; focus (intro wS hSw; go_simp; try with_reducible rfl; done)) | (refine wpAnyH_take (i := 3) (v := undef) nth3 (by kernel_rfl) (by kernel_rfl) (by kernel_rfl) (fun _ _ _ h => h) (Or.inr ⟨by rfl, rfl⟩) trivial ?_)
    (try simp only [Act.put]); (try simp only [List.setIfInBounds_toArray]); (try simp only [List.set_cons_succ]); (try simp only [List.set_cons_zero])
    first | (refine wpAnyH_take (i := 4) (v := ?_) nth4 (by kernel_rfl) (by kernel_rfl) (by kernel_rfl) (fun _ _ _ h => h) (Or.inl ⟨by rfl, ?_⟩) trivial ?_; rotate_left; focus (intro wS hSw; go_simp; try with_reducible rfl; done)) | (refine wpAnyH_take (i := 4) (v := undef) nth4 (by kernel_rfl) (by kernel_rfl) (by kernel_rfl) (fun _ _ _ h => h) (Or.inr ⟨by rfl, rfl⟩) trivial ?_)
    (try simp only [Act.put]); (try simp only [List.setIfInBounds_toArray]); (try simp only [List.set_cons_succ]); (try simp only [List.set_cons_zero])
    first | (refine wpAnyH_take (i := 5) (v := ?_) nth5 (by kernel_rfl) (by kernel_rfl) (by kernel_rfl) (fun _ _ _ h => h) (Or.inl ⟨by rfl, ?_⟩) trivial ?_; rotate_left; focus (intro wS hSw; go_simp; try with_reducible rfl; done)) | (refine wpAnyH_take (i := 5) (v := undef) nth5 (by kernel_rfl) (by kernel_rfl) (by kernel_rfl) (fun _ _ _ h => h) (Or.inr ⟨by rfl, rfl⟩) trivial ?_)
    (try simp only [Act.put]); (try simp only [List.setIfInBounds_toArray]); (try simp only [List.set_cons_succ]); (try simp only [List.set_cons_zero])
    refine wpAnyH_ready (rs := [1, 8]) (by kernel_rfl) (by simp) ?_
    refine (AllReadyH.cons nth1 (fun K hK => ?_) (AllReadyH.cons nth8 (fun K hK => ?_) AllReadyH.nil))
    · go_simp
      refine (Q1.out _).mono ?_
      rintro e wx1 ⟨rfl, rfl⟩
      refine hK.out _ _ trivial (fun _ => ?_)
      clear hK K
      (try simp only [Act.put]); (try simp only [List.setIfInBounds_toArray]); (try simp only [List.set_cons_succ]); (try simp only [List.set_cons_zero])
      refine wpAnyH_ready (rs := [6, 8]) (by kernel_rfl) (by simp) ?_
      refine (AllReadyH.cons nth6 (fun K hK => ?_) (AllReadyH.cons nth8 (fun K hK => ?_) AllReadyH.nil))
      · go_simp
        refine (Q6.out _).mono ?_
        rintro e wx2 ⟨rfl, rfl⟩
        refine hK.out _ _ trivial (fun _ => ?_)
        clear hK K
        (try simp only [Act.put]); (try simp only [List.setIfInBounds_toArray]); (try simp only [List.set_cons_succ]); (try simp only [List.set_cons_zero])
        first | (refine wpAnyH_take (i := 7) (v := ?_) nth7 (by kernel_rfl) (by kernel_rfl) (by kernel_rfl) (fun _ _ _ h => h) (Or.inl ⟨by rfl, ?_⟩) trivial ?_; rotate_left; focus (intro wS hSw; go_simp; try with_reducible rfl; done)) | (refine wpAnyH_take (i := 7) (v := undef) nth7 (by kernel_rfl) (by kernel_rfl) (by kernel_rfl) (fun _ _ _ h => h) (Or.inr ⟨by rfl, rfl⟩) trivial ?_)
        (try simp only [Act.put]); (try simp only [List.setIfInBounds_toArray]); (try simp only [List.set_cons_succ]); (try simp only [List.set_cons_zero])
        refine wpAnyH_ready (rs := [8]) (by kernel_rfl) (by simp) ?_
        refine (AllReadyH.cons nth8 (fun K hK => ?_) AllReadyH.nil)
        · go_simp
          refine hK.out _ _ trivial (fun _ => ?_)
          clear hK K
          (try simp only [Act.put]); (try simp only [List.setIfInBounds_toArray]); (try simp only [List.set_cons_succ]); (try simp only [List.set_cons_zero])
          have HX2 := hide (cbx_new wd 0 0 0 (.slice none 0 0))
          have HR2 := hide (HR.out.alloc (.cells #[.int .i64 0, .int .i64 0, .int .i64 0, .slice none 0 0] 52))
          have HB2 := hide (Bel.alloc HB.out (.cells #[.int .i64 0, .int .i64 0, .int .i64 0, .slice none 0 0] 52))
          have HLT := hide (show w.heap.size < wd.heap.size from HR.out.lt)
          generalize wd.alloc (.cells #[.int .i64 0, .int .i64 0, .int .i64 0, .slice none 0 0] 52) = wy at *
          generalize wd.heap.size = gx at *
          refine wpAnyH_ready (rs := [9]) (by kernel_rfl) (by simp) ?_
          refine (AllReadyH.cons nth9 (fun K hK => ?_) AllReadyH.nil)
          · have HX3 := hide (HX2.out.set4 A1 A2 A3 (.slice none 0 0))
            have HR3 := hide (HR2.out.far4 (b := gx) (Nat.ne_of_lt HLT.out) (.int .i64 A1) (.int .i64 A2) (.int .i64 A3) (.slice none 0 0))
            have HB3 := hide (below_set4 (b := gx) HB2.out (Nat.le_of_lt HLT.out) (.int .i64 A1) (.int .i64 A2) (.int .i64 A3) (.slice none 0 0))
            obtain ⟨c0, c1, c2, c3, f0, f1, f2, f3⟩ := HX2.out.cells
            go_simp
            refine hK.out _ _ trivial (fun _ => ?_)
            clear hK K
            (try simp only [Act.put]); (try simp only [List.setIfInBounds_toArray]); (try simp only [List.set_cons_succ]); (try simp only [List.set_cons_zero])
            refine wpAnyH_done (by kernel_rfl) ?_ _
            go_wp2_with fail
            go_meet
            case rel => exact ⟨_, rfl, HX3.out, HR3.out, HLT.out, HB3.out⟩
      · go_simp
        refine hK.out _ _ trivial (fun _ => ?_)
        clear hK K
        (try simp only [Act.put]); (try simp only [List.setIfInBounds_toArray]); (try simp only [List.set_cons_succ]); (try simp only [List.set_cons_zero])
        have HX2 := hide (cbx_new wd 0 0 0 (.slice none 0 0))
        have HR2 := hide (HR.out.alloc (.cells #[.int .i64 0, .int .i64 0, .int .i64 0, .slice none 0 0] 52))
        have HB2 := hide (Bel.alloc HB.out (.cells #[.int .i64 0, .int .i64 0, .int .i64 0, .slice none 0 0] 52))
        have HLT := hide (show w.heap.size < wd.heap.size from HR.out.lt)
        generalize wd.alloc (.cells #[.int .i64 0, .int .i64 0, .int .i64 0, .slice none 0 0] 52) = wy at *
        generalize wd.heap.size = gx at *
        refine wpAnyH_ready (rs := [6]) (by kernel_rfl) (by simp) ?_
        refine (AllReadyH.cons nth6 (fun K hK => ?_) AllReadyH.nil)
        · go_simp
          refine (Q6.out _).mono ?_
          rintro e wx3 ⟨rfl, rfl⟩
          refine hK.out _ _ trivial (fun _ => ?_)
          clear hK K
          (try simp only [Act.put]); (try simp only [List.setIfInBounds_toArray]); (try simp only [List.set_cons_succ]); (try simp only [List.set_cons_zero])
          first | (refine wpAnyH_take (i := 7) (v := ?_) nth7 (by kernel_rfl) (by kernel_rfl) (by kernel_rfl) (fun _ _ _ h => h) (Or.inl ⟨by rfl, ?_⟩) trivial ?_; rotate_left; focus (intro wS hSw; go_simp; try with_reducible rfl; done)) | (refine wpAnyH_take (i := 7) (v := undef) nth7 (by kernel_rfl) (by kernel_rfl) (by kernel_rfl) (fun _ _ _ h => h) (Or.inr ⟨by rfl, rfl⟩) trivial ?_)
          (try simp only [Act.put]); (try simp only [List.setIfInBounds_toArray]); (try simp only [List.set_cons_succ]); (try simp only [List.set_cons_zero])
          refine wpAnyH_ready (rs := [9]) (by kernel_rfl) (by simp) ?_
          refine (AllReadyH.cons nth9 (fun K hK => ?_) AllReadyH.nil)
          · have HX3 := hide (HX2.out.set4 A1 A2 A3 (.slice none 0 0))
            have HR3 := hide (HR2.out.far4 (b := gx) (Nat.ne_of_lt HLT.out) (.int .i64 A1) (.int .i64 A2) (.int .i64 A3) (.slice none 0 0))
            have HB3 := hide (below_set4 (b := gx) HB2.out (Nat.le_of_lt HLT.out) (.int .i64 A1) (.int .i64 A2) (.int .i64 A3) (.slice none 0 0))
            obtain ⟨c0, c1, c2, c3, f0, f1, f2, f3⟩ := HX2.out.cells
            go_simp
            refine hK.out _ _ trivial (fun _ => ?_)
            clear hK K
            (try simp only [Act.put]); (try simp only [List.setIfInBounds_toArray]); (try simp only [List.set_cons_succ]); (try simp only [List.set_cons_zero])
            refine wpAnyH_done (by kernel_rfl) ?_ _
            go_wp2_with fail
            go_meet
            case rel => exact ⟨_, rfl, HX3.out, HR3.out, HLT.out, HB3.out⟩
    · go_simp
      refine hK.out _ _ trivial (fun _ => ?_)
      clear hK K
      (try simp only [Act.put]); (try simp only [List.setIfInBounds_toArray]); (try simp only [List.set_cons_succ]); (try simp only [List.set_cons_zero])
      have HX2 := hide (cbx_new wd 0 0 0 (.slice none 0 0))
      have HR2 := hide (HR.out.alloc (.cells #[.int .i64 0, .int .i64 0, .int .i64 0, .slice none 0 0] 52))
      have HB2 := hide (Bel.alloc HB.out (.cells #[.int .i64 0, .int .i64 0, .int .i64 0, .slice none 0 0] 52))
      have HLT := hide (show w.heap.size < wd.heap.size from HR.out.lt)
      generalize wd.alloc (.cells #[.int .i64 0, .int .i64 0, .int .i64 0, .slice none 0 0] 52) = wy at *
      generalize wd.heap.size = gx at *
      refine wpAnyH_ready (rs := [1]) (by kernel_rfl) (by simp) ?_
      refine (AllReadyH.cons nth1 (fun K hK => ?_) AllReadyH.nil)
      · go_simp
        refine (Q1.out _).mono ?_
        rintro e wx4 ⟨rfl, rfl⟩
        refine hK.out _ _ trivial (fun _ => ?_)
        clear hK K
        (try simp only [Act.put]); (try simp only [List.setIfInBounds_toArray]); (try simp only [List.set_cons_succ]); (try simp only [List.set_cons_zero])
        refine wpAnyH_ready (rs := [6]) (by kernel_rfl) (by simp) ?_
        refine (AllReadyH.cons nth6 (fun K hK => ?_) AllReadyH.nil)
        · go_simp
          refine (Q6.out _).mono ?_
          rintro e wx5 ⟨rfl, rfl⟩
          refine hK.out _ _ trivial (fun _ => ?_)
          clear hK K
          (try simp only [Act.put]); (try simp only [List.setIfInBounds_toArray]); (try simp only [List.set_cons_succ]); (try simp only [List.set_cons_zero])
          first | (refine wpAnyH_take (i := 7) (v := ?_) nth7 (by kernel_rfl) (by kernel_rfl) (by kernel_rfl) (fun _ _ _ h => h) (Or.inl ⟨by rfl, ?_⟩) trivial ?_; rotate_left; focus (intro wS hSw; go_simp; try with_reducible rfl; done)) | (refine wpAnyH_take (i := 7) (v := undef) nth7 (by kernel_rfl) (by kernel_rfl) (by kernel_rfl) (fun _ _ _ h => h) (Or.inr ⟨by rfl, rfl⟩) trivial ?_)
          (try simp only [Act.put]); (try simp only [List.setIfInBounds_toArray]); (try simp only [List.set_cons_succ]); (try simp only [List.set_cons_zero])
          refine wpAnyH_ready (rs := [9]) (by kernel_rfl) (by simp) ?_
          refine (AllReadyH.cons nth9 (fun K hK => ?_) AllReadyH.nil)
          · have HX3 := hide (HX2.out.set4 A1 A2 A3 (.slice none 0 0))
            have HR3 := hide (HR2.out.far4 (b := gx) (Nat.ne_of_lt HLT.out) (.int .i64 A1) (.int .i64 A2) (.int .i64 A3) (.slice none 0 0))
            have HB3 := hide (below_set4 (b := gx) HB2.out (Nat.le_of_lt HLT.out) (.int .i64 A1) (.int .i64 A2) (.int .i64 A3) (.slice none 0 0))
            obtain ⟨c0, c1, c2, c3, f0, f1, f2, f3⟩ := HX2.out.cells
            go_simp
            refine hK.out _ _ trivial (fun _ => ?_)
            clear hK K
            (try simp only [Act.put]); (try simp only [List.setIfInBounds_toArray]); (try simp only [List.set_cons_succ]); (try simp only [List.set_cons_zero])
            refine wpAnyH_done (by kernel_rfl) ?_ _
            go_wp2_with fail
            go_meet
            case rel => exact ⟨_, rfl, HX3.out, HR3.out, HLT.out, HB3.out⟩
  case rest =>
    clear HR0 HB0 Q1 Q6 wk i10
    obtain ⟨gx, rfl, hx, hr, hlt0, hb⟩ := hcut
    have HX := hide hx
    have HR := hide hr
    have HLT := hide hlt0
    have HB := hide hb
    clear hx hr hlt0 hb
    go_wp2_with fail
    refine (Q15.out _).mono ?_
    rintro e w3 ⟨rfl, hb⟩
    replace HX := hide (HX.out.kept hb)
    replace HR := hide (HR.out.kept hb)
    replace HB := hide (Bel.then HB.out hb)
    clear hb Q15
    have hgx : gx < w3.heap.size := HX.out.lt
    go_upto_region 3 with (at_make; refine wpList_make_full _ rfl (.tmp 16) (.tmp 16) 37 rfl w.heap.size 9 i0 _ 1 Tryd.underlying37 hi0 hz0 hz1 .i64 .i64 n n n rfl rfl rfl rfl (by rw [hz2]; omega) (by unfold maxLen; omega) (Nat.le_of_lt (Nat.lt_trans HLT.out HX.out.lt)) ?_; intro w4 hown hg; have HX4 := hide (HX.out.grown hg (by simp)); have HR4 := hide (HR.out.grown hg (by simp)); have HB4 := hide (own_grown HB.out hg (by simp)); have HO4 := hide hown; clear hown hg HX HR HB; obtain ⟨c0, c1, c2, c3, f0, f1, f2, f3⟩ := HX4.out.cells)
    have hO := HO4.out
    rw [HS0.out] at hO
    have hO2 : OwnS w4 w.heap.size (.slice (some ⟨w3.heap.size, 0, none⟩) n n) (recsTo (recAt p) n 0) := by
      unfold OwnS
      rw [hlen.out 0 (by omega)]
      exact hO
    have HO := hide (hO2.far (p := ⟨gx, 3, none⟩) HX4.out (.slice (some ⟨w3.heap.size, 0, none⟩) n n))
    have HX := hide (HX4.out.set3 (.slice (some ⟨w3.heap.size, 0, none⟩) n n))
    have HR := hide (HR4.out.far (p := ⟨gx, 3, none⟩) (Nat.ne_of_lt HLT.out) (.slice (some ⟨w3.heap.size, 0, none⟩) n n))
    have HB := hide (HB4.out.setCell (p := ⟨gx, 3, none⟩) (Nat.le_of_lt HLT.out) (.slice (some ⟨w3.heap.size, 0, none⟩) n n))
    clear hO hO2 HO4 HX4 HR4 HB4 c0 c1 c2 c3 f0 f1 f2 f3 HS0
    generalize w4.setCell ⟨gx, 3, none⟩ (.slice (some ⟨w3.heap.size, 0, none⟩) n n) = w5 at *
    generalize w3.heap.size = gs at *
    clear hgx
    obtain ⟨c0, c1, c2, c3, f0, f1, f2, f3⟩ := HX.out.cells
    go_wp2_with fail
    clear c0 c1 c2 c3 f0 f1 f2 f3
    go_loopw [4, 5, 6, 22] (fun _ _ _ i wr => ∃ k : Nat, k ≤ n ∧ i = .int .i64 k ∧ Hid (CBx wr gx A1 A2 A3 (.slice (some ⟨gs, 0, none⟩) n n)) ∧ Hid (OwnS wr w.heap.size (.slice (some ⟨gs, 0, none⟩) n n) (recsTo (recAt p) n k)) ∧ Hid (CBx wr w.heap.size 0 0 0 (.slice none 0 0)) ∧ Hid (Below w.heap.size w wr)) (fun _ _ _ i _ => n - (intOf i).toNat)
    case atStart => exact ⟨0, Nat.zero_le _, rfl, HX, HO, HR, HB⟩
    case round =>
      clear HX HO HR HB
      obtain ⟨k, hk, rfl, HX, HO, HR, HB⟩ := hrel
      by_cases hlt : k < n
      · have hlti : (k : Int) < n := by omega
        have hwk : IntKind.i64.wrap ((k : Int) + 1) = (k : Int) + 1 := IntWalk.i64_in _ (by omega)
        have Q := hide (fun W => QP.out k hlt W)
        have hsl := HSL.out k hlt
        have hps : p.size = 512 := HSZ.out
        obtain ⟨u, hu⟩ : ∃ u, recAt p k = u := ⟨_, rfl⟩
        have hput := hide (fun W (h : OwnS W w.heap.size (.slice (some ⟨gs, 0, none⟩) n n) (recsTo (recAt p) n k)) => (show OwnS (W.setCell ⟨gs, k, none⟩ (.string u)) w.heap.size (.slice (some ⟨gs, 0, none⟩) n n) (recsTo (recAt p) n (k + 1)) by
          rw [← hset.out k hlt, hu]
          exact h.put (by rw [hlen.out k hk]; exact hlt) u))
        have hcell := hide (fun W (h : OwnS W w.heap.size (.slice (some ⟨gs, 0, none⟩) n n) (recsTo (recAt p) n k)) => h.cell (i := k) (by rw [hlen.out k hk]; exact hlt))
        have hu2 : p.extract (shN p (19 + 4 * k)) (shN p (19 + 4 * k) + shN p (21 + 4 * k)) = u := hu
        generalize shN p (19 + 4 * k) = a at *
        generalize shN p (21 + 4 * k) = z at *
        obtain ⟨ab, hab⟩ : ∃ ab, a + z = ab := ⟨_, rfl⟩
        rw [hab] at hu2
        have w1' : IntKind.i64.wrap ((a : Int) + (z : Int)) = (ab : Int) := by rw [IntWalk.i64_in _ (by omega)]; omega
        have s1 := fun W => cut_str p a ab (by omega) (by omega) W
        rw [hu2] at s1
        have HU := hide hu
        clear hu hu2 hab hsl
        go_wp2_with fail
        refine (Q.out _).mono ?_
        rintro e w6 ⟨rfl, hb⟩
        replace HX := hide (HX.out.kept hb)
        replace HR := hide (HR.out.kept hb)
        replace HO := hide (HO.out.kept hb)
        replace HB := hide (Bel.then HB.out hb)
        clear hb Q
        go_upto_region 7 with (fail)
        refine wp_region_held_drew (S := (fun w' => CBx w' gx A1 A2 A3 (.slice (some ⟨gs, 0, none⟩) n n) ∧ (∃ j, OwnS w' w.heap.size (.slice (some ⟨gs, 0, none⟩) n n) (recsTo (recAt p) n j)) ∧ CBx w' w.heap.size 0 0 0 (.slice none 0 0) ∧ Below w.heap.size w w')) (by kernel_rfl) (⟨HX.out.kept (Below.refl _ _).drew, ⟨_, HO.out.kept (Below.refl _ _).drew⟩, HR.out.kept (Below.refl _ _).drew, HB.out.drew⟩) (fun hHeld => ?_)
        first | (refine wpAnyH_take (i := 0) (v := ?_) nth0 (by kernel_rfl) (by kernel_rfl) (by kernel_rfl) (fun _ _ _ h => h) (Or.inl ⟨by rfl, ?_⟩) hHeld ?_; rotate_left; focus (intro wS hSw; (obtain ⟨c0, c1, c2, c3, f0, f1, f2, f3⟩ := hSw.1.cells); go_simp; try with_reducible rfl; done)) | (refine wpAnyH_take (i := 0) (v := undef) nth0 (by kernel_rfl) (by kernel_rfl) (by kernel_rfl) (fun _ _ _ h => h) (Or.inr ⟨by rfl, rfl⟩) hHeld ?_)
        (try simp only [Act.put]); (try simp only [List.setIfInBounds_toArray]); (try simp only [List.set_cons_succ]); (try simp only [List.set_cons_zero])
        first | (refine wpAnyH_take (i := 1) (v := ?_) nth1 (by kernel_rfl) (by kernel_rfl) (by kernel_rfl) (fun _ _ _ h => h) (Or.inl ⟨by rfl, ?_⟩) hHeld ?_; rotate_left; focus (intro wS hSw; (obtain ⟨c0, c1, c2, c3, f0, f1, f2, f3⟩ := hSw.1.cells); go_simp; try with_reducible rfl; done)) | (refine wpAnyH_take (i := 1) (v := undef) nth1 (by kernel_rfl) (by kernel_rfl) (by kernel_rfl) (fun _ _ _ h => h) (Or.inr ⟨by rfl, rfl⟩) hHeld ?_)
        (try simp only [Act.put]); (try simp only [List.setIfInBounds_toArray]); (try simp only [List.set_cons_succ]); (try simp only [List.set_cons_zero])
        first | (refine wpAnyH_take (i := 2) (v := ?_) nth2 (by kernel_rfl) (by kernel_rfl) (by kernel_rfl) (fun _ _ _ h => h) (Or.inl ⟨by rfl, ?_⟩) hHeld ?_; rotate_left; focus (intro wS hSw; (obtain ⟨c0, c1, c2, c3, f0, f1, f2, f3⟩ := hSw.1.cells); go_simp; try with_reducible rfl; done)) | (refine wpAnyH_take (i := 2) (v := undef) nth2 (by kernel_rfl) (by kernel_rfl) (by kernel_rfl) (fun _ _ _ h => h) (Or.inr ⟨by rfl, rfl⟩) hHeld ?_)
        (try simp only [Act.put]); (try simp only [List.setIfInBounds_toArray]); (try simp only [List.set_cons_succ]); (try simp only [List.set_cons_zero])
        first | (refine wpAnyH_take (i := 3) (v := ?_) nth3 (by kernel_rfl) (by kernel_rfl) (by kernel_rfl) (fun _ _ _ h => h) (Or.inl ⟨by rfl, ?_⟩) hHeld ?_; rotate_left; focus (intro wS hSw; (obtain ⟨c0, c1, c2, c3, f0, f1, f2, f3⟩ := hSw.1.cells); go_simp; try with_reducible rfl; done)) | (refine wpAnyH_take (i := 3) (v := undef) nth3 (by kernel_rfl) (by kernel_rfl) (by kernel_rfl) (fun _ _ _ h => h) (Or.inr ⟨by rfl, rfl⟩) hHeld ?_)
        (try simp only [Act.put]); (try simp only [List.setIfInBounds_toArray]); (try simp only [List.set_cons_succ]); (try simp only [List.set_cons_zero])
        first | (refine wpAnyH_take (i := 4) (v := ?_) nth4 (by kernel_rfl) (by kernel_rfl) (by kernel_rfl) (fun _ _ _ h => h) (Or.inl ⟨by rfl, ?_⟩) hHeld ?_; rotate_left; focus (intro wS hSw; (obtain ⟨c0, c1, c2, c3, f0, f1, f2, f3⟩ := hSw.1.cells); go_simp; try with_reducible rfl; done)) | (refine wpAnyH_take (i := 4) (v := undef) nth4 (by kernel_rfl) (by kernel_rfl) (by kernel_rfl) (fun _ _ _ h => h) (Or.inr ⟨by rfl, rfl⟩) hHeld ?_)
        (try simp only [Act.put]); (try simp only [List.setIfInBounds_toArray]); (try simp only [List.set_cons_succ]); (try simp only [List.set_cons_zero])
        first | (refine wpAnyH_take (i := 5) (v := ?_) nth5 (by kernel_rfl) (by kernel_rfl) (by kernel_rfl) (fun _ _ _ h => h) (Or.inl ⟨by rfl, ?_⟩) hHeld ?_; rotate_left; focus (intro wS hSw; (obtain ⟨c0, c1, c2, c3, f0, f1, f2, f3⟩ := hSw.1.cells); go_simp; try with_reducible rfl; done)) | (refine wpAnyH_take (i := 5) (v := undef) nth5 (by kernel_rfl) (by kernel_rfl) (by kernel_rfl) (fun _ _ _ h => h) (Or.inr ⟨by rfl, rfl⟩) hHeld ?_)
        (try simp only [Act.put]); (try simp only [List.setIfInBounds_toArray]); (try simp only [List.set_cons_succ]); (try simp only [List.set_cons_zero])
        first | (refine wpAnyH_take (i := 6) (v := ?_) nth6 (by kernel_rfl) (by kernel_rfl) (by kernel_rfl) (fun _ _ _ h => h) (Or.inl ⟨by rfl, ?_⟩) hHeld ?_; rotate_left; focus (intro wS hSw; (obtain ⟨c0, c1, c2, c3, f0, f1, f2, f3⟩ := hSw.1.cells); go_simp; try with_reducible rfl; done)) | (refine wpAnyH_take (i := 6) (v := undef) nth6 (by kernel_rfl) (by kernel_rfl) (by kernel_rfl) (fun _ _ _ h => h) (Or.inr ⟨by rfl, rfl⟩) hHeld ?_)
        (try simp only [Act.put]); (try simp only [List.setIfInBounds_toArray]); (try simp only [List.set_cons_succ]); (try simp only [List.set_cons_zero])
        first | (refine wpAnyH_take (i := 7) (v := ?_) nth7 (by kernel_rfl) (by kernel_rfl) (by kernel_rfl) (fun _ _ _ h => h) (Or.inl ⟨by rfl, ?_⟩) hHeld ?_; rotate_left; focus (intro wS hSw; (obtain ⟨c0, c1, c2, c3, f0, f1, f2, f3⟩ := hSw.1.cells); go_simp; try with_reducible rfl; done)) | (refine wpAnyH_take (i := 7) (v := undef) nth7 (by kernel_rfl) (by kernel_rfl) (by kernel_rfl) (fun _ _ _ h => h) (Or.inr ⟨by rfl, rfl⟩) hHeld ?_)
        (try simp only [Act.put]); (try simp only [List.setIfInBounds_toArray]); (try simp only [List.set_cons_succ]); (try simp only [List.set_cons_zero])
        first | (refine wpAnyH_take (i := 8) (v := ?_) nth8 (by kernel_rfl) (by kernel_rfl) (by kernel_rfl) (fun _ _ _ h => h) (Or.inl ⟨by rfl, ?_⟩) hHeld ?_; rotate_left; focus (intro wS hSw; (obtain ⟨c0, c1, c2, c3, f0, f1, f2, f3⟩ := hSw.1.cells); go_simp; try with_reducible rfl; done)) | (refine wpAnyH_take (i := 8) (v := undef) nth8 (by kernel_rfl) (by kernel_rfl) (by kernel_rfl) (fun _ _ _ h => h) (Or.inr ⟨by rfl, rfl⟩) hHeld ?_)
        (try simp only [Act.put]); (try simp only [List.setIfInBounds_toArray]); (try simp only [List.set_cons_succ]); (try simp only [List.set_cons_zero])
        first | (refine wpAnyH_take (i := 9) (v := ?_) nth9 (by kernel_rfl) (by kernel_rfl) (by kernel_rfl) (fun _ _ _ h => h) (Or.inl ⟨by rfl, ?_⟩) hHeld ?_; rotate_left; focus (intro wS hSw; (obtain ⟨c0, c1, c2, c3, f0, f1, f2, f3⟩ := hSw.1.cells); go_simp; try with_reducible rfl; done)) | (refine wpAnyH_take (i := 9) (v := undef) nth9 (by kernel_rfl) (by kernel_rfl) (by kernel_rfl) (fun _ _ _ h => h) (Or.inr ⟨by rfl, rfl⟩) hHeld ?_)
        (try simp only [Act.put]); (try simp only [List.setIfInBounds_toArray]); (try simp only [List.set_cons_succ]); (try simp only [List.set_cons_zero])
        refine wpAnyH_ready (rs := [10]) (by kernel_rfl) (by simp) ?_
        refine AllReadyH.cons nth10 (fun K hK => ?_) AllReadyH.nil
        have HOd := HO.out.kept (Below.refl w6.heap.size w6).drew
        obtain ⟨q0, q1, q2⟩ := hcell.out _ HOd
        have HS2 := hide (hput.out _ HOd)
        have HX2 := hide (hHeld.1.far (p := ⟨gs, k, none⟩) (box_row_ne HOd hHeld.1) (.string u))
        have HR2 := hide (hHeld.2.2.1.far (p := ⟨gs, k, none⟩) (box_row_ne HOd hHeld.2.2.1) (.string u))
        have HB2 := hide (hHeld.2.2.2.setCell (p := ⟨gs, k, none⟩) q2 (.string u))
        go_simp
        refine hK.out _ _ (⟨HX2.out, ⟨_, HS2.out⟩, HR2.out, HB2.out⟩) (fun hHeld => ?_)
        clear hK K
        (try simp only [Act.put]); (try simp only [List.setIfInBounds_toArray]); (try simp only [List.set_cons_succ]); (try simp only [List.set_cons_zero])
        refine wpAnyH_done (by kernel_rfl) ?_ _
        clear hHeld
        go_wp2_with fail
        go_roundw
        case rel => exact ⟨k + 1, by omega, by go_num, HX2, HS2, HR2, HB2⟩
        case measure => simp [intOf]; omega
      · have hlti : ¬ (k : Int) < n := by omega
        obtain rfl : k = n := by omega
        obtain ⟨c0, c1, c2, c3, f0, f1, f2, f3⟩ := HX.out.cells
        obtain ⟨d0, d1, d2, d3, y0, y1, y2, y3⟩ := HR.out.cells
        have hO := HO.out
        rw [hend.out] at hO
        have HO2 := hide (hO.far4 HR.out A1 A2 A3 (.slice (some ⟨gs, 0, none⟩) k k))
        clear hO HO
        go_wp2_with fail
        refine end_ct Tryd.results52 rfl rfl (HR.out.set4 _ _ _ _) ?_
        have hC := HC.out
        subst hC
        exact ⟨_, rfl, HO2.out, below_set4 HB.out (Nat.le_refl _) _ _ _ _, gs, by simp⟩
theorem read_c (p : ByteArray) (hm : p.size ≤ 4000) (R : RightP p) (w : World) : Calls Tryd.prog 52 #[.string p] w (GivesC w (readC p)) :=
  (read_c2 p hm R w).mono fun _ _ ⟨v, h1, h2, h3, _⟩ => ⟨v, h1, h2, h3⟩
end Go.Proofs.YtfdedkcidemimaaDoor
