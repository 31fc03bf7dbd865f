/- The reference's two, called. -/
import Derived.Test.YtlkeghfdpbfhbaaScT
namespace Go.Proofs.Ytlkeghfdpbfhbaa
set_option linter.unusedVariables false
open Go.ChangeShapes Go.WideShapes Go.ChangeAt Go.RowKit

set_option maxRecDepth 100000 in
set_option maxHeartbeats 4000000 in
theorem rtwoN_c (op : Int) (hop : 5 ≤ op ∧ op ≤ 9) (a b : ValV) (A : Option Addr) (c : Nat) (w : World) (h : RowV w w.heap.size A 2 c [a, b]) : Calls Try.prog 38 #[.int .i64 op, .slice A 2 c] w (GivesV w (if (a.kind == 2 && b.kind == 2) = true then toldV (arP op a.num b.num) else nullV)) := by
  obtain ⟨blk, off, rfl, hlt, hcc⟩ := row_get h (by omega)
  have hc0 := hcc 0 _ rfl
  have hc1 := hcc 1 _ rfl
  have l0 := hc0 0 _ rfl
  have l1 := hc0 1 _ rfl
  have l2 := hc0 2 _ rfl
  simp only [Nat.zero_mul, Nat.zero_add, Nat.add_zero] at l0 l1 l2
  have m0 := hc1 0 _ rfl
  have m1 := hc1 1 _ rfl
  have m2 := hc1 2 _ rfl
  simp only [Nat.one_mul, Nat.add_zero, Nat.reduceAdd] at m0 m1 m2
  have C0 := hide (Cl.kept (show Cl w blk off a.kind a.num a.str from ⟨hlt, l0, l1, l2⟩) (Bel.one w zO))
  have C1 := hide (Cl.kept (show Cl w blk (off + 3) b.kind b.num b.str from ⟨hlt, m0, m1, m2⟩) (Bel.one w zO))
  have HX := hide (vb_one w)
  have HB := hide (Bel.one w zO)
  have HR := hide (h.kept (Bel.one w zO))
  clear hcc hc0 hc1 hlt l0 l1 l2 m0 m1 m2 h
  have QI := hide (fun W h => rints_c a b (some ⟨blk, off, none⟩) c W h)
  have Q := hide (fun W => rarith_c op a.num b.num W)
  generalize toldV (arP op a.num b.num) = r at *
  generalize (a.kind == 2 && b.kind == 2) = q at *
  obtain ⟨k, n, s⟩ := a
  obtain ⟨k2, n2, s2⟩ := b
  simp only at Q C0 C1
  cases q with
  | false =>
    rw [if_neg (by simp)]
    rcases (show op = 5 ∨ op = 6 ∨ op = 7 ∨ op = 8 ∨ op = 9 by omega) with rfl | rfl | rfl | rfl | rfl
    all_goals
      clear hop Q C0 C1
      go_enter Try.func38, Try.ntmps38
      go_upto_region 1 with (fail)
      generalize w.alloc (.cells #[.int .i64 0, .int .i64 0, .string { data := #[] }] 26) = w1 at *
      go_wp2_with fail
      refine (QI.out _ HR.out).mono ?_
      rintro e w2 ⟨rfl, rfl⟩
      obtain ⟨⟨c0, c1, c2⟩, ⟨y0, y1, y2⟩⟩ := HX.out.all
      have HS := hide (HX.out.set3 nullV)
      have HBS := hide (below_setV HB.out (Nat.le_refl _) nullV)
      clear HX HB
      go_wp2_with fail
      exact end_v Try.results38 rfl rfl HS.out ⟨rfl, HBS.out⟩
  | true =>
    rw [if_pos rfl]
    rcases (show op = 5 ∨ op = 6 ∨ op = 7 ∨ op = 8 ∨ op = 9 by omega) with rfl | rfl | rfl | rfl | rfl
    all_goals
      clear hop
      go_enter Try.func38, Try.ntmps38
      go_upto_region 1 with (fail)
      generalize w.alloc (.cells #[.int .i64 0, .int .i64 0, .string { data := #[] }] 26) = w1 at *
      go_wp2_with fail
      refine (QI.out _ HR.out).mono ?_
      rintro e w2 ⟨rfl, rfl⟩
      go_upto_region 8 with (fail)
      obtain ⟨_, l0, l1, l2⟩ := C0.out
      obtain ⟨_, m0, m1, m2⟩ := C1.out
      go_still_tail 9, (by kernel_rfl)
      go_wp2_with fail
      refine (Q.out _).mono ?_
      rintro e w3 ⟨rfl, hb⟩
      replace HX := hide (VB.kept (show VB w1.drew w.heap.size nullV from HX.out) hb)
      replace HB := hide (Bel.then HB.out.drew hb)
      clear hb
      clear l0 l1 l2 m0 m1 m2 C0 C1
      obtain ⟨⟨c0, c1, c2⟩, ⟨y0, y1, y2⟩⟩ := HX.out.all
      have HS := hide (HX.out.set3 (r))
      have HBS := hide (below_setV HB.out (Nat.le_refl _) (r))
      clear HX HB 
      unfold valAgg
      go_wp2_with fail
      exact end_v Try.results38 rfl rfl HS.out ⟨rfl, HBS.out⟩
set_option maxRecDepth 100000 in
set_option maxHeartbeats 4000000 in
theorem rtwoL_c (a b : ValV) (A : Option Addr) (c : Nat) (w : World) (h : RowV w w.heap.size A 2 c [a, b]) (ha : a.str.size ≤ 1048576) (hb : b.str.size ≤ 1048576) : Calls Try.prog 38 #[.int .i64 20, .slice A 2 c] w (GivesV w (if (a.kind == 3 && b.kind == 3) = true then boolV (matchB a.str b.str) else nullV)) := by
  obtain ⟨blk, off, rfl, hlt, hcc⟩ := row_get h (by omega)
  have hc0 := hcc 0 _ rfl
  have hc1 := hcc 1 _ rfl
  have l0 := hc0 0 _ rfl
  have l1 := hc0 1 _ rfl
  have l2 := hc0 2 _ rfl
  simp only [Nat.zero_mul, Nat.zero_add, Nat.add_zero] at l0 l1 l2
  have m0 := hc1 0 _ rfl
  have m1 := hc1 1 _ rfl
  have m2 := hc1 2 _ rfl
  simp only [Nat.one_mul, Nat.add_zero, Nat.reduceAdd] at m0 m1 m2
  have C0 := hide (Cl.kept (show Cl w blk off a.kind a.num a.str from ⟨hlt, l0, l1, l2⟩) (Bel.one w zO))
  have C1 := hide (Cl.kept (show Cl w blk (off + 3) b.kind b.num b.str from ⟨hlt, m0, m1, m2⟩) (Bel.one w zO))
  have HX := hide (vb_one w)
  have HB := hide (Bel.one w zO)
  have HR := hide (h.kept (Bel.one w zO))
  clear hcc hc0 hc1 hlt l0 l1 l2 m0 m1 m2 h
  have QI := hide (fun W h => rtexts_c a b (some ⟨blk, off, none⟩) c W h)
  have Q := hide (fun W => rmatch_c a.str b.str W ha hb)
  have QB := hide (fun q W => rboolv_c q W)
  generalize matchB a.str b.str = z at *
  generalize (a.kind == 3 && b.kind == 3) = q at *
  obtain ⟨k, n, s⟩ := a
  obtain ⟨k2, n2, s2⟩ := b
  simp only at Q C0 C1 ha hb
  clear ha hb
  cases q with
  | false =>
    rw [if_neg (by simp)]
    clear Q C0 C1
    go_enter Try.func38, Try.ntmps38
    go_upto_region 1 with (fail)
    generalize w.alloc (.cells #[.int .i64 0, .int .i64 0, .string { data := #[] }] 26) = w1 at *
    go_wp2_with fail
    refine (QI.out _ HR.out).mono ?_
    rintro e w2 ⟨rfl, rfl⟩
    obtain ⟨⟨c0, c1, c2⟩, ⟨y0, y1, y2⟩⟩ := HX.out.all
    have HS := hide (HX.out.set3 nullV)
    have HBS := hide (below_setV HB.out (Nat.le_refl _) nullV)
    clear HX HB
    go_wp2_with fail
    exact end_v Try.results38 rfl rfl HS.out ⟨rfl, HBS.out⟩
  | true =>
    rw [if_pos rfl]
    go_enter Try.func38, Try.ntmps38
    go_upto_region 1 with (fail)
    generalize w.alloc (.cells #[.int .i64 0, .int .i64 0, .string { data := #[] }] 26) = w1 at *
    go_wp2_with fail
    refine (QI.out _ HR.out).mono ?_
    rintro e w2 ⟨rfl, rfl⟩
    go_upto_region 25 with (fail)
    obtain ⟨_, l0, l1, l2⟩ := C0.out
    obtain ⟨_, m0, m1, m2⟩ := C1.out
    go_still_tail 8, (by kernel_rfl)
    go_wp2_with fail
    refine (Q.out _).mono ?_
    rintro e w3 ⟨rfl, hb⟩
    replace HX := hide (VB.kept (show VB w1.drew w.heap.size nullV from HX.out) hb)
    replace HB := hide (Bel.then HB.out.drew hb)
    clear hb
    clear l0 l1 l2 m0 m1 m2 C0 C1
    go_wp2_with fail
    refine (QB.out _ _).mono ?_
    rintro e w4 ⟨rfl, hb⟩
    replace HX := hide (HX.out.kept hb)
    replace HB := hide (Bel.then HB.out hb)
    clear hb
    generalize boolV _ = r at *
    obtain ⟨⟨c0, c1, c2⟩, ⟨y0, y1, y2⟩⟩ := HX.out.all
    have HS := hide (HX.out.set3 (r))
    have HBS := hide (below_setV HB.out (Nat.le_refl _) (r))
    clear HX HB 
    unfold valAgg
    go_wp2_with fail
    exact end_v Try.results38 rfl rfl HS.out ⟨rfl, HBS.out⟩
set_option maxRecDepth 100000 in
set_option maxHeartbeats 4000000 in
theorem rtwoC_c (op : Int) (hop : 11 ≤ op ∧ op ≤ 16) (a b : ValV) (A : Option Addr) (c : Nat) (w : World) (h : RowV w w.heap.size A 2 c [a, b]) (ha : a.str.size ≤ 1048576) (hb : b.str.size ≤ 1048576) : Calls Try.prog 38 #[.int .i64 op, .slice A 2 c] w (GivesV w (cmpOpV op a b)) := by
  obtain ⟨blk, off, rfl, hlt, hcc⟩ := row_get h (by omega)
  have hc0 := hcc 0 _ rfl
  have hc1 := hcc 1 _ rfl
  have l0 := hc0 0 _ rfl
  have l1 := hc0 1 _ rfl
  have l2 := hc0 2 _ rfl
  simp only [Nat.zero_mul, Nat.zero_add, Nat.add_zero] at l0 l1 l2
  have m0 := hc1 0 _ rfl
  have m1 := hc1 1 _ rfl
  have m2 := hc1 2 _ rfl
  simp only [Nat.one_mul, Nat.add_zero, Nat.reduceAdd] at m0 m1 m2
  have C0 := hide (Cl.kept (show Cl w blk off a.kind a.num a.str from ⟨hlt, l0, l1, l2⟩) (Bel.one w zO))
  have C1 := hide (Cl.kept (show Cl w blk (off + 3) b.kind b.num b.str from ⟨hlt, m0, m1, m2⟩) (Bel.one w zO))
  have HX := hide (vb_one w)
  have HB := hide (Bel.one w zO)
  have HR := hide (h.kept (Bel.one w zO))
  clear hcc hc0 hc1 hlt l0 l1 l2 m0 m1 m2 h
  have Q := hide (fun W => rcmpop_c op a b W ha hb)
  generalize cmpOpV op a b = r at *
  clear ha hb
  unfold GivesV valAgg at Q
  obtain ⟨k, n, s⟩ := a
  obtain ⟨k2, n2, s2⟩ := b
  simp only at Q C0 C1
  rcases (show op = 11 ∨ op = 12 ∨ op = 13 ∨ op = 14 ∨ op = 15 ∨ op = 16 by omega) with rfl | rfl | rfl | rfl | rfl | rfl
  all_goals
    clear hop HR
    go_enter Try.func38, Try.ntmps38
    go_upto_region 1 with (fail)
    generalize w.alloc (.cells #[.int .i64 0, .int .i64 0, .string { data := #[] }] 26) = w1 at *
    go_upto_region 18 with (fail)
    obtain ⟨_, l0, l1, l2⟩ := C0.out
    obtain ⟨_, m0, m1, m2⟩ := C1.out
    go_still_tail 7, (by kernel_rfl)
    go_wp2_with fail
    refine (Q.out _).mono ?_
    rintro e w3 ⟨rfl, hb⟩
    replace HX := hide (VB.kept (show VB w1.drew w.heap.size nullV from HX.out) hb)
    replace HB := hide (Bel.then HB.out.drew hb)
    clear hb
    clear l0 l1 l2 m0 m1 m2 C0 C1
    obtain ⟨⟨c0, c1, c2⟩, ⟨y0, y1, y2⟩⟩ := HX.out.all
    have HS := hide (HX.out.set3 (r))
    have HBS := hide (below_setV HB.out (Nat.le_refl _) (r))
    clear HX HB 
    go_wp2_with fail
    exact end_v Try.results38 rfl rfl HS.out ⟨rfl, HBS.out⟩
set_option maxRecDepth 100000 in
set_option maxHeartbeats 4000000 in
theorem rtwo17_c (a b : ValV) (A : Option Addr) (c : Nat) (w : World) (h : RowV w w.heap.size A 2 c [a, b]) : Calls Try.prog 38 #[.int .i64 17, .slice A 2 c] w (GivesV w (trV (andI (frV a) (frV b)))) := by
  obtain ⟨blk, off, rfl, hlt, hcc⟩ := row_get h (by omega)
  have hc0 := hcc 0 _ rfl
  have hc1 := hcc 1 _ rfl
  have l0 := hc0 0 _ rfl
  have l1 := hc0 1 _ rfl
  have l2 := hc0 2 _ rfl
  simp only [Nat.zero_mul, Nat.zero_add, Nat.add_zero] at l0 l1 l2
  have m0 := hc1 0 _ rfl
  have m1 := hc1 1 _ rfl
  have m2 := hc1 2 _ rfl
  simp only [Nat.one_mul, Nat.add_zero, Nat.reduceAdd] at m0 m1 m2
  have C0 := hide (Cl.kept (show Cl w blk off a.kind a.num a.str from ⟨hlt, l0, l1, l2⟩) (Bel.one w zO))
  have C1 := hide (Cl.kept (show Cl w blk (off + 3) b.kind b.num b.str from ⟨hlt, m0, m1, m2⟩) (Bel.one w zO))
  have HNB : Hid (w.heap.size ≠ blk) := Nat.ne_of_gt hlt
  have HX := hide (vb_one w)
  have HB := hide (Bel.one w zO)
  have HR := hide (h.kept (Bel.one w zO))
  clear hcc hc0 hc1 hlt l0 l1 l2 m0 m1 m2 h
  have QF1 := hide (fun W => rfromv_c a W)
  have QF2 := hide (fun W => rfromv_c b W)
  unfold valAgg at QF1 QF2
  obtain ⟨k, n, s⟩ := a
  obtain ⟨k2, n2, s2⟩ := b
  simp only at QF1 QF2 C0 C1
  generalize frV ⟨k, n, s⟩ = f1 at *
  generalize frV ⟨k2, n2, s2⟩ = f2 at *
  obtain ⟨x, hx⟩ : ∃ x, andI f1 f2 = x := ⟨_, rfl⟩
  have QA := hide (fun W => and15 f1 f2 W)
  rw [hx] at QA ⊢
  have QV := hide (fun W => rtriv_c x W)
  generalize trV x = R at *
  clear hx HR
  go_enter Try.func38, Try.ntmps38
  go_upto_region 1 with (fail)
  generalize w.alloc (.cells #[.int .i64 0, .int .i64 0, .string { data := #[] }] 26) = w1 at *
  go_upto_region 20 with (fail)
  refine wp_region_held_drew (S := (fun w' => Cl w' blk off k n s ∧ Cl w' blk (off + 3) k2 n2 s2 ∧ (∃ u, VB w' w.heap.size u) ∧ Below w.heap.size w w')) (by kernel_rfl) (⟨C0.out.kept (Below.refl _ _).drew, C1.out.kept (Below.refl _ _).drew, ⟨_, HX.out.kept (Below.refl _ _).drew⟩, HB.out.drew⟩) (fun hHeld => ?_)
  first | (refine wpAnyH_take (i := 0) (v := ?_) nth0 (by kernel_rfl) (by kernel_rfl) (by kernel_rfl) (fun _ _ _ h => h) (Or.inl ⟨by rfl, ?_⟩) hHeld ?_; rotate_left; focus (intro wS hSw; (obtain ⟨_, _, _, _⟩ := hSw.1; obtain ⟨_, _, _, _⟩ := hSw.2.1); go_simp; try with_reducible rfl; done)) | (refine wpAnyH_take (i := 0) (v := undef) nth0 (by kernel_rfl) (by kernel_rfl) (by kernel_rfl) (fun _ _ _ h => h) (Or.inr ⟨by rfl, rfl⟩) hHeld ?_)
  (try simp only [Act.put]); (try simp only [List.setIfInBounds_toArray]); (try simp only [List.set_cons_succ]); (try simp only [List.set_cons_zero])
  first | (refine wpAnyH_take (i := 1) (v := ?_) nth1 (by kernel_rfl) (by kernel_rfl) (by kernel_rfl) (fun _ _ _ h => h) (Or.inl ⟨by rfl, ?_⟩) hHeld ?_; rotate_left; focus (intro wS hSw; (obtain ⟨_, _, _, _⟩ := hSw.1; obtain ⟨_, _, _, _⟩ := hSw.2.1); go_simp; try with_reducible rfl; done)) | (refine wpAnyH_take (i := 1) (v := undef) nth1 (by kernel_rfl) (by kernel_rfl) (by kernel_rfl) (fun _ _ _ h => h) (Or.inr ⟨by rfl, rfl⟩) hHeld ?_)
  (try simp only [Act.put]); (try simp only [List.setIfInBounds_toArray]); (try simp only [List.set_cons_succ]); (try simp only [List.set_cons_zero])
  first | (refine wpAnyH_take (i := 2) (v := ?_) nth2 (by kernel_rfl) (by kernel_rfl) (by kernel_rfl) (fun _ _ _ h => h) (Or.inl ⟨by rfl, ?_⟩) hHeld ?_; rotate_left; focus (intro wS hSw; (obtain ⟨_, _, _, _⟩ := hSw.1; obtain ⟨_, _, _, _⟩ := hSw.2.1); go_simp; try with_reducible rfl; done)) | (refine wpAnyH_take (i := 2) (v := undef) nth2 (by kernel_rfl) (by kernel_rfl) (by kernel_rfl) (fun _ _ _ h => h) (Or.inr ⟨by rfl, rfl⟩) hHeld ?_)
  (try simp only [Act.put]); (try simp only [List.setIfInBounds_toArray]); (try simp only [List.set_cons_succ]); (try simp only [List.set_cons_zero])
  first | (refine wpAnyH_take (i := 4) (v := ?_) nth4 (by kernel_rfl) (by kernel_rfl) (by kernel_rfl) (fun _ _ _ h => h) (Or.inl ⟨by rfl, ?_⟩) hHeld ?_; rotate_left; focus (intro wS hSw; (obtain ⟨_, _, _, _⟩ := hSw.1; obtain ⟨_, _, _, _⟩ := hSw.2.1); go_simp; try with_reducible rfl; done)) | (refine wpAnyH_take (i := 4) (v := undef) nth4 (by kernel_rfl) (by kernel_rfl) (by kernel_rfl) (fun _ _ _ h => h) (Or.inr ⟨by rfl, rfl⟩) hHeld ?_)
  (try simp only [Act.put]); (try simp only [List.setIfInBounds_toArray]); (try simp only [List.set_cons_succ]); (try simp only [List.set_cons_zero])
  first | (refine wpAnyH_take (i := 5) (v := ?_) nth5 (by kernel_rfl) (by kernel_rfl) (by kernel_rfl) (fun _ _ _ h => h) (Or.inl ⟨by rfl, ?_⟩) hHeld ?_; rotate_left; focus (intro wS hSw; (obtain ⟨_, _, _, _⟩ := hSw.1; obtain ⟨_, _, _, _⟩ := hSw.2.1); go_simp; try with_reducible rfl; done)) | (refine wpAnyH_take (i := 5) (v := undef) nth5 (by kernel_rfl) (by kernel_rfl) (by kernel_rfl) (fun _ _ _ h => h) (Or.inr ⟨by rfl, rfl⟩) hHeld ?_)
  (try simp only [Act.put]); (try simp only [List.setIfInBounds_toArray]); (try simp only [List.set_cons_succ]); (try simp only [List.set_cons_zero])
  first | (refine wpAnyH_take (i := 6) (v := ?_) nth6 (by kernel_rfl) (by kernel_rfl) (by kernel_rfl) (fun _ _ _ h => h) (Or.inl ⟨by rfl, ?_⟩) hHeld ?_; rotate_left; focus (intro wS hSw; (obtain ⟨_, _, _, _⟩ := hSw.1; obtain ⟨_, _, _, _⟩ := hSw.2.1); go_simp; try with_reducible rfl; done)) | (refine wpAnyH_take (i := 6) (v := undef) nth6 (by kernel_rfl) (by kernel_rfl) (by kernel_rfl) (fun _ _ _ h => h) (Or.inr ⟨by rfl, rfl⟩) hHeld ?_)
  (try simp only [Act.put]); (try simp only [List.setIfInBounds_toArray]); (try simp only [List.set_cons_succ]); (try simp only [List.set_cons_zero])
  refine wpAnyH_ready (rs := [3]) (by kernel_rfl) (by simp) ?_
  refine AllReadyH.cons nth3 (fun K hK => ?_) AllReadyH.nil
  go_simp
  (first | (go_at_call 36; with_reducible refine (QF1.out _).mono ?_; rintro e w' ⟨rfl, hb⟩) | (go_at_call 36; with_reducible refine (QF2.out _).mono ?_; rintro e w' ⟨rfl, hb⟩) | (go_at_call 35; refine (QA.out _).mono ?_; rintro e w' ⟨rfl, hw⟩; have hb := bel_eq hw; clear hw) | (go_at_call 34; refine (QV.out _).mono ?_; rintro e w' ⟨rfl, hb⟩; simp only [valAgg]))
  refine hK.out _ _ (⟨hHeld.1.kept hb, hHeld.2.1.kept hb, ⟨_, hHeld.2.2.1.choose_spec.kept hb⟩, Bel.then hHeld.2.2.2 hb⟩) (fun hHeld => ?_)
  clear hK K
  (try simp only [Act.put]); (try simp only [List.setIfInBounds_toArray]); (try simp only [List.set_cons_succ]); (try simp only [List.set_cons_zero])
  refine wpAnyH_ready (rs := [7]) (by kernel_rfl) (by simp) ?_
  refine AllReadyH.cons nth7 (fun K hK => ?_) AllReadyH.nil
  go_simp
  (first | (go_at_call 36; with_reducible refine (QF1.out _).mono ?_; rintro e w' ⟨rfl, hb⟩) | (go_at_call 36; with_reducible refine (QF2.out _).mono ?_; rintro e w' ⟨rfl, hb⟩) | (go_at_call 35; refine (QA.out _).mono ?_; rintro e w' ⟨rfl, hw⟩; have hb := bel_eq hw; clear hw) | (go_at_call 34; refine (QV.out _).mono ?_; rintro e w' ⟨rfl, hb⟩; simp only [valAgg]))
  refine hK.out _ _ (⟨hHeld.1.kept hb, hHeld.2.1.kept hb, ⟨_, hHeld.2.2.1.choose_spec.kept hb⟩, Bel.then hHeld.2.2.2 hb⟩) (fun hHeld => ?_)
  clear hK K
  (try simp only [Act.put]); (try simp only [List.setIfInBounds_toArray]); (try simp only [List.set_cons_succ]); (try simp only [List.set_cons_zero])
  refine wpAnyH_ready (rs := [8]) (by kernel_rfl) (by simp) ?_
  refine AllReadyH.cons nth8 (fun K hK => ?_) AllReadyH.nil
  go_simp
  (first | (go_at_call 36; with_reducible refine (QF1.out _).mono ?_; rintro e w' ⟨rfl, hb⟩) | (go_at_call 36; with_reducible refine (QF2.out _).mono ?_; rintro e w' ⟨rfl, hb⟩) | (go_at_call 35; refine (QA.out _).mono ?_; rintro e w' ⟨rfl, hw⟩; have hb := bel_eq hw; clear hw) | (go_at_call 34; refine (QV.out _).mono ?_; rintro e w' ⟨rfl, hb⟩; simp only [valAgg]))
  refine hK.out _ _ (⟨hHeld.1.kept hb, hHeld.2.1.kept hb, ⟨_, hHeld.2.2.1.choose_spec.kept hb⟩, Bel.then hHeld.2.2.2 hb⟩) (fun hHeld => ?_)
  clear hK K
  (try simp only [Act.put]); (try simp only [List.setIfInBounds_toArray]); (try simp only [List.set_cons_succ]); (try simp only [List.set_cons_zero])
  refine wpAnyH_ready (rs := [9]) (by kernel_rfl) (by simp) ?_
  refine AllReadyH.cons nth9 (fun K hK => ?_) AllReadyH.nil
  go_simp
  (first | (go_at_call 36; with_reducible refine (QF1.out _).mono ?_; rintro e w' ⟨rfl, hb⟩) | (go_at_call 36; with_reducible refine (QF2.out _).mono ?_; rintro e w' ⟨rfl, hb⟩) | (go_at_call 35; refine (QA.out _).mono ?_; rintro e w' ⟨rfl, hw⟩; have hb := bel_eq hw; clear hw) | (go_at_call 34; refine (QV.out _).mono ?_; rintro e w' ⟨rfl, hb⟩; simp only [valAgg]))
  refine hK.out _ _ (⟨hHeld.1.kept hb, hHeld.2.1.kept hb, ⟨_, hHeld.2.2.1.choose_spec.kept hb⟩, Bel.then hHeld.2.2.2 hb⟩) (fun hHeld => ?_)
  clear hK K
  (try simp only [Act.put]); (try simp only [List.setIfInBounds_toArray]); (try simp only [List.set_cons_succ]); (try simp only [List.set_cons_zero])
  refine wpAnyH_ready (rs := [10]) (by kernel_rfl) (by simp) ?_
  refine AllReadyH.cons nth10 (fun K hK => ?_) AllReadyH.nil
  obtain ⟨u3, hu3⟩ := hHeld.2.2.1
  have HS := hide (hu3.set3 R)
  have HBS := hide (below_setV hHeld.2.2.2 (Nat.le_refl _) R)
  obtain ⟨⟨c0, c1, c2⟩, ⟨y0, y1, y2⟩⟩ := hu3.all
  have NB1 := hide HNB.out
  go_simp
  refine hK.out _ _ (⟨hHeld.1.far NB1.out R, hHeld.2.1.far NB1.out R, ⟨R, HS.out⟩, HBS.out⟩) (fun hHeld => ?_)
  clear hK K
  (try simp only [Act.put]); (try simp only [List.setIfInBounds_toArray]); (try simp only [List.set_cons_succ]); (try simp only [List.set_cons_zero])
  refine wpAnyH_done (by kernel_rfl) ?_ _
  clear hHeld
  go_wp2_with fail
  exact end_v Try.results38 rfl rfl HS.out ⟨rfl, HBS.out⟩
set_option maxRecDepth 100000 in
set_option maxHeartbeats 4000000 in
theorem rtwo18_c (a b : ValV) (A : Option Addr) (c : Nat) (w : World) (h : RowV w w.heap.size A 2 c [a, b]) : Calls Try.prog 38 #[.int .i64 18, .slice A 2 c] w (GivesV w (trV (orI (frV a) (frV b)))) := by
  obtain ⟨blk, off, rfl, hlt, hcc⟩ := row_get h (by omega)
  have hc0 := hcc 0 _ rfl
  have hc1 := hcc 1 _ rfl
  have l0 := hc0 0 _ rfl
  have l1 := hc0 1 _ rfl
  have l2 := hc0 2 _ rfl
  simp only [Nat.zero_mul, Nat.zero_add, Nat.add_zero] at l0 l1 l2
  have m0 := hc1 0 _ rfl
  have m1 := hc1 1 _ rfl
  have m2 := hc1 2 _ rfl
  simp only [Nat.one_mul, Nat.add_zero, Nat.reduceAdd] at m0 m1 m2
  have C0 := hide (Cl.kept (show Cl w blk off a.kind a.num a.str from ⟨hlt, l0, l1, l2⟩) (Bel.one w zO))
  have C1 := hide (Cl.kept (show Cl w blk (off + 3) b.kind b.num b.str from ⟨hlt, m0, m1, m2⟩) (Bel.one w zO))
  have HNB : Hid (w.heap.size ≠ blk) := Nat.ne_of_gt hlt
  have HX := hide (vb_one w)
  have HB := hide (Bel.one w zO)
  have HR := hide (h.kept (Bel.one w zO))
  clear hcc hc0 hc1 hlt l0 l1 l2 m0 m1 m2 h
  have QF1 := hide (fun W => rfromv_c a W)
  have QF2 := hide (fun W => rfromv_c b W)
  unfold valAgg at QF1 QF2
  obtain ⟨k, n, s⟩ := a
  obtain ⟨k2, n2, s2⟩ := b
  simp only at QF1 QF2 C0 C1
  generalize frV ⟨k, n, s⟩ = f1 at *
  generalize frV ⟨k2, n2, s2⟩ = f2 at *
  obtain ⟨x, hx⟩ : ∃ x, orI f1 f2 = x := ⟨_, rfl⟩
  have QA := hide (fun W => or17 f1 f2 W)
  rw [hx] at QA ⊢
  have QV := hide (fun W => rtriv_c x W)
  generalize trV x = R at *
  clear hx HR
  go_enter Try.func38, Try.ntmps38
  go_upto_region 1 with (fail)
  generalize w.alloc (.cells #[.int .i64 0, .int .i64 0, .string { data := #[] }] 26) = w1 at *
  go_upto_region 22 with (fail)
  refine wp_region_held_drew (S := (fun w' => Cl w' blk off k n s ∧ Cl w' blk (off + 3) k2 n2 s2 ∧ (∃ u, VB w' w.heap.size u) ∧ Below w.heap.size w w')) (by kernel_rfl) (⟨C0.out.kept (Below.refl _ _).drew, C1.out.kept (Below.refl _ _).drew, ⟨_, HX.out.kept (Below.refl _ _).drew⟩, HB.out.drew⟩) (fun hHeld => ?_)
  first | (refine wpAnyH_take (i := 0) (v := ?_) nth0 (by kernel_rfl) (by kernel_rfl) (by kernel_rfl) (fun _ _ _ h => h) (Or.inl ⟨by rfl, ?_⟩) hHeld ?_; rotate_left; focus (intro wS hSw; (obtain ⟨_, _, _, _⟩ := hSw.1; obtain ⟨_, _, _, _⟩ := hSw.2.1); go_simp; try with_reducible rfl; done)) | (refine wpAnyH_take (i := 0) (v := undef) nth0 (by kernel_rfl) (by kernel_rfl) (by kernel_rfl) (fun _ _ _ h => h) (Or.inr ⟨by rfl, rfl⟩) hHeld ?_)
  (try simp only [Act.put]); (try simp only [List.setIfInBounds_toArray]); (try simp only [List.set_cons_succ]); (try simp only [List.set_cons_zero])
  first | (refine wpAnyH_take (i := 1) (v := ?_) nth1 (by kernel_rfl) (by kernel_rfl) (by kernel_rfl) (fun _ _ _ h => h) (Or.inl ⟨by rfl, ?_⟩) hHeld ?_; rotate_left; focus (intro wS hSw; (obtain ⟨_, _, _, _⟩ := hSw.1; obtain ⟨_, _, _, _⟩ := hSw.2.1); go_simp; try with_reducible rfl; done)) | (refine wpAnyH_take (i := 1) (v := undef) nth1 (by kernel_rfl) (by kernel_rfl) (by kernel_rfl) (fun _ _ _ h => h) (Or.inr ⟨by rfl, rfl⟩) hHeld ?_)
  (try simp only [Act.put]); (try simp only [List.setIfInBounds_toArray]); (try simp only [List.set_cons_succ]); (try simp only [List.set_cons_zero])
  first | (refine wpAnyH_take (i := 2) (v := ?_) nth2 (by kernel_rfl) (by kernel_rfl) (by kernel_rfl) (fun _ _ _ h => h) (Or.inl ⟨by rfl, ?_⟩) hHeld ?_; rotate_left; focus (intro wS hSw; (obtain ⟨_, _, _, _⟩ := hSw.1; obtain ⟨_, _, _, _⟩ := hSw.2.1); go_simp; try with_reducible rfl; done)) | (refine wpAnyH_take (i := 2) (v := undef) nth2 (by kernel_rfl) (by kernel_rfl) (by kernel_rfl) (fun _ _ _ h => h) (Or.inr ⟨by rfl, rfl⟩) hHeld ?_)
  (try simp only [Act.put]); (try simp only [List.setIfInBounds_toArray]); (try simp only [List.set_cons_succ]); (try simp only [List.set_cons_zero])
  first | (refine wpAnyH_take (i := 4) (v := ?_) nth4 (by kernel_rfl) (by kernel_rfl) (by kernel_rfl) (fun _ _ _ h => h) (Or.inl ⟨by rfl, ?_⟩) hHeld ?_; rotate_left; focus (intro wS hSw; (obtain ⟨_, _, _, _⟩ := hSw.1; obtain ⟨_, _, _, _⟩ := hSw.2.1); go_simp; try with_reducible rfl; done)) | (refine wpAnyH_take (i := 4) (v := undef) nth4 (by kernel_rfl) (by kernel_rfl) (by kernel_rfl) (fun _ _ _ h => h) (Or.inr ⟨by rfl, rfl⟩) hHeld ?_)
  (try simp only [Act.put]); (try simp only [List.setIfInBounds_toArray]); (try simp only [List.set_cons_succ]); (try simp only [List.set_cons_zero])
  first | (refine wpAnyH_take (i := 5) (v := ?_) nth5 (by kernel_rfl) (by kernel_rfl) (by kernel_rfl) (fun _ _ _ h => h) (Or.inl ⟨by rfl, ?_⟩) hHeld ?_; rotate_left; focus (intro wS hSw; (obtain ⟨_, _, _, _⟩ := hSw.1; obtain ⟨_, _, _, _⟩ := hSw.2.1); go_simp; try with_reducible rfl; done)) | (refine wpAnyH_take (i := 5) (v := undef) nth5 (by kernel_rfl) (by kernel_rfl) (by kernel_rfl) (fun _ _ _ h => h) (Or.inr ⟨by rfl, rfl⟩) hHeld ?_)
  (try simp only [Act.put]); (try simp only [List.setIfInBounds_toArray]); (try simp only [List.set_cons_succ]); (try simp only [List.set_cons_zero])
  first | (refine wpAnyH_take (i := 6) (v := ?_) nth6 (by kernel_rfl) (by kernel_rfl) (by kernel_rfl) (fun _ _ _ h => h) (Or.inl ⟨by rfl, ?_⟩) hHeld ?_; rotate_left; focus (intro wS hSw; (obtain ⟨_, _, _, _⟩ := hSw.1; obtain ⟨_, _, _, _⟩ := hSw.2.1); go_simp; try with_reducible rfl; done)) | (refine wpAnyH_take (i := 6) (v := undef) nth6 (by kernel_rfl) (by kernel_rfl) (by kernel_rfl) (fun _ _ _ h => h) (Or.inr ⟨by rfl, rfl⟩) hHeld ?_)
  (try simp only [Act.put]); (try simp only [List.setIfInBounds_toArray]); (try simp only [List.set_cons_succ]); (try simp only [List.set_cons_zero])
  refine wpAnyH_ready (rs := [3]) (by kernel_rfl) (by simp) ?_
  refine AllReadyH.cons nth3 (fun K hK => ?_) AllReadyH.nil
  go_simp
  (first | (go_at_call 36; with_reducible refine (QF1.out _).mono ?_; rintro e w' ⟨rfl, hb⟩) | (go_at_call 36; with_reducible refine (QF2.out _).mono ?_; rintro e w' ⟨rfl, hb⟩) | (go_at_call 60; refine (QA.out _).mono ?_; rintro e w' ⟨rfl, hw⟩; have hb := bel_eq hw; clear hw) | (go_at_call 34; refine (QV.out _).mono ?_; rintro e w' ⟨rfl, hb⟩; simp only [valAgg]))
  refine hK.out _ _ (⟨hHeld.1.kept hb, hHeld.2.1.kept hb, ⟨_, hHeld.2.2.1.choose_spec.kept hb⟩, Bel.then hHeld.2.2.2 hb⟩) (fun hHeld => ?_)
  clear hK K
  (try simp only [Act.put]); (try simp only [List.setIfInBounds_toArray]); (try simp only [List.set_cons_succ]); (try simp only [List.set_cons_zero])
  refine wpAnyH_ready (rs := [7]) (by kernel_rfl) (by simp) ?_
  refine AllReadyH.cons nth7 (fun K hK => ?_) AllReadyH.nil
  go_simp
  (first | (go_at_call 36; with_reducible refine (QF1.out _).mono ?_; rintro e w' ⟨rfl, hb⟩) | (go_at_call 36; with_reducible refine (QF2.out _).mono ?_; rintro e w' ⟨rfl, hb⟩) | (go_at_call 60; refine (QA.out _).mono ?_; rintro e w' ⟨rfl, hw⟩; have hb := bel_eq hw; clear hw) | (go_at_call 34; refine (QV.out _).mono ?_; rintro e w' ⟨rfl, hb⟩; simp only [valAgg]))
  refine hK.out _ _ (⟨hHeld.1.kept hb, hHeld.2.1.kept hb, ⟨_, hHeld.2.2.1.choose_spec.kept hb⟩, Bel.then hHeld.2.2.2 hb⟩) (fun hHeld => ?_)
  clear hK K
  (try simp only [Act.put]); (try simp only [List.setIfInBounds_toArray]); (try simp only [List.set_cons_succ]); (try simp only [List.set_cons_zero])
  refine wpAnyH_ready (rs := [8]) (by kernel_rfl) (by simp) ?_
  refine AllReadyH.cons nth8 (fun K hK => ?_) AllReadyH.nil
  go_simp
  (first | (go_at_call 36; with_reducible refine (QF1.out _).mono ?_; rintro e w' ⟨rfl, hb⟩) | (go_at_call 36; with_reducible refine (QF2.out _).mono ?_; rintro e w' ⟨rfl, hb⟩) | (go_at_call 60; refine (QA.out _).mono ?_; rintro e w' ⟨rfl, hw⟩; have hb := bel_eq hw; clear hw) | (go_at_call 34; refine (QV.out _).mono ?_; rintro e w' ⟨rfl, hb⟩; simp only [valAgg]))
  refine hK.out _ _ (⟨hHeld.1.kept hb, hHeld.2.1.kept hb, ⟨_, hHeld.2.2.1.choose_spec.kept hb⟩, Bel.then hHeld.2.2.2 hb⟩) (fun hHeld => ?_)
  clear hK K
  (try simp only [Act.put]); (try simp only [List.setIfInBounds_toArray]); (try simp only [List.set_cons_succ]); (try simp only [List.set_cons_zero])
  refine wpAnyH_ready (rs := [9]) (by kernel_rfl) (by simp) ?_
  refine AllReadyH.cons nth9 (fun K hK => ?_) AllReadyH.nil
  go_simp
  (first | (go_at_call 36; with_reducible refine (QF1.out _).mono ?_; rintro e w' ⟨rfl, hb⟩) | (go_at_call 36; with_reducible refine (QF2.out _).mono ?_; rintro e w' ⟨rfl, hb⟩) | (go_at_call 60; refine (QA.out _).mono ?_; rintro e w' ⟨rfl, hw⟩; have hb := bel_eq hw; clear hw) | (go_at_call 34; refine (QV.out _).mono ?_; rintro e w' ⟨rfl, hb⟩; simp only [valAgg]))
  refine hK.out _ _ (⟨hHeld.1.kept hb, hHeld.2.1.kept hb, ⟨_, hHeld.2.2.1.choose_spec.kept hb⟩, Bel.then hHeld.2.2.2 hb⟩) (fun hHeld => ?_)
  clear hK K
  (try simp only [Act.put]); (try simp only [List.setIfInBounds_toArray]); (try simp only [List.set_cons_succ]); (try simp only [List.set_cons_zero])
  refine wpAnyH_ready (rs := [10]) (by kernel_rfl) (by simp) ?_
  refine AllReadyH.cons nth10 (fun K hK => ?_) AllReadyH.nil
  obtain ⟨u3, hu3⟩ := hHeld.2.2.1
  have HS := hide (hu3.set3 R)
  have HBS := hide (below_setV hHeld.2.2.2 (Nat.le_refl _) R)
  obtain ⟨⟨c0, c1, c2⟩, ⟨y0, y1, y2⟩⟩ := hu3.all
  have NB1 := hide HNB.out
  go_simp
  refine hK.out _ _ (⟨hHeld.1.far NB1.out R, hHeld.2.1.far NB1.out R, ⟨R, HS.out⟩, HBS.out⟩) (fun hHeld => ?_)
  clear hK K
  (try simp only [Act.put]); (try simp only [List.setIfInBounds_toArray]); (try simp only [List.set_cons_succ]); (try simp only [List.set_cons_zero])
  refine wpAnyH_done (by kernel_rfl) ?_ _
  clear hHeld
  go_wp2_with fail
  exact end_v Try.results38 rfl rfl HS.out ⟨rfl, HBS.out⟩
set_option maxRecDepth 100000 in
set_option maxHeartbeats 4000000 in
theorem rtwoT_c (a b : ValV) (A : Option Addr) (c : Nat) (w : World) (h : RowV w w.heap.size A 2 c [a, b]) (ha : a.str.size ≤ 1048576) (hb : b.str.size ≤ 1048576) : Calls Try.prog 38 #[.int .i64 10, .slice A 2 c] w (GivesV w (if (a.kind == 3 && b.kind == 3) = true then txV 10 a.str b.str else nullV)) := by
  obtain ⟨blk, off, rfl, hlt, hcc⟩ := row_get h (by omega)
  have hc0 := hcc 0 _ rfl
  have hc1 := hcc 1 _ rfl
  have l0 := hc0 0 _ rfl
  have l1 := hc0 1 _ rfl
  have l2 := hc0 2 _ rfl
  simp only [Nat.zero_mul, Nat.zero_add, Nat.add_zero] at l0 l1 l2
  have m0 := hc1 0 _ rfl
  have m1 := hc1 1 _ rfl
  have m2 := hc1 2 _ rfl
  simp only [Nat.one_mul, Nat.add_zero, Nat.reduceAdd] at m0 m1 m2
  have C0 := hide (Cl.kept (show Cl w blk off a.kind a.num a.str from ⟨hlt, l0, l1, l2⟩) (Bel.one w zO))
  have C1 := hide (Cl.kept (show Cl w blk (off + 3) b.kind b.num b.str from ⟨hlt, m0, m1, m2⟩) (Bel.one w zO))
  have HNB : Hid (w.heap.size ≠ blk) := Nat.ne_of_gt hlt
  have HX := hide (vb_one w)
  have HB := hide (Bel.one w zO)
  have HR := hide (h.kept (Bel.one w zO))
  clear hcc hc0 hc1 hlt l0 l1 l2 m0 m1 m2 h
  have QI := hide (fun W h => rtexts_c a b (some ⟨blk, off, none⟩) c W h)
  have QS := hide (fun W => rstrv_c (a.str ++ b.str) W)
  generalize (a.kind == 3 && b.kind == 3) = q at *
  obtain ⟨k, n, s⟩ := a
  obtain ⟨k2, n2, s2⟩ := b
  simp only at QS C0 C1 ha hb ⊢
  have f1 : IntKind.i64.wrap ((s.size : Int) + (s2.size : Int)) = (s.size : Int) + (s2.size : Int) := IntWalk.i64_in _ (by omega)
  cases q with
  | false =>
    rw [if_neg (by simp)]
    clear ha hb
    go_enter Try.func38, Try.ntmps38
    go_upto_region 1 with (fail)
    generalize w.alloc (.cells #[.int .i64 0, .int .i64 0, .string { data := #[] }] 26) = w1 at *
    go_upto_region 10 with (fail)
    refine wp_region_held_drew (S := (fun w' => RowV w' w'.heap.size (some ⟨blk, off, none⟩) 2 c [⟨k, n, s⟩, ⟨k2, n2, s2⟩] ∧ Cl w' blk off k n s ∧ Cl w' blk (off + 3) k2 n2 s2 ∧ VB w' w.heap.size nullV ∧ Below w.heap.size w w')) (by kernel_rfl) (⟨HR.out.kept (Below.refl _ _).drew, C0.out.kept (Below.refl _ _).drew, C1.out.kept (Below.refl _ _).drew, HX.out.kept (Below.refl _ _).drew, HB.out.drew⟩) (fun hHeld => ?_)
    first | (refine wpAnyH_take (i := 0) (v := ?_) nth0 (by kernel_rfl) (by kernel_rfl) (by kernel_rfl) (fun _ _ _ h => h) (Or.inl ⟨by rfl, ?_⟩) hHeld ?_; rotate_left; focus (intro wS hSw; (obtain ⟨_, _, _, _⟩ := hSw.2.1; obtain ⟨_, _, _, _⟩ := hSw.2.2.1); go_simp; try with_reducible rfl; done)) | (refine wpAnyH_take (i := 0) (v := undef) nth0 (by kernel_rfl) (by kernel_rfl) (by kernel_rfl) (fun _ _ _ h => h) (Or.inr ⟨by rfl, rfl⟩) hHeld ?_)
    (try simp only [Act.put]); (try simp only [List.setIfInBounds_toArray]); (try simp only [List.set_cons_succ]); (try simp only [List.set_cons_zero])
    refine wpAnyH_ready (rs := [1]) (by kernel_rfl) (by simp) ?_
    refine AllReadyH.cons nth1 (fun K hK => ?_) AllReadyH.nil
    go_simp
    (go_at_call 66; refine (QI.out _ hHeld.1).mono ?_; rintro e w' ⟨rfl, hw⟩; have hb := bel_eq hw; clear hw)
    refine hK.out _ _ (⟨hHeld.1.kept hb, hHeld.2.1.kept hb, hHeld.2.2.1.kept hb, hHeld.2.2.2.1.kept hb, Bel.then hHeld.2.2.2.2 hb⟩) (fun hHeld => ?_)
    clear hK K
    (try simp only [Act.put]); (try simp only [List.setIfInBounds_toArray]); (try simp only [List.set_cons_succ]); (try simp only [List.set_cons_zero])
    first | (refine wpAnyH_take (i := 2) (v := ?_) nth2 (by kernel_rfl) (by kernel_rfl) (by kernel_rfl) (fun _ _ _ h => h) (Or.inl ⟨by rfl, ?_⟩) hHeld ?_; rotate_left; focus (intro wS hSw; (obtain ⟨_, _, _, _⟩ := hSw.2.1; obtain ⟨_, _, _, _⟩ := hSw.2.2.1); go_simp; try with_reducible rfl; done)) | (refine wpAnyH_take (i := 2) (v := undef) nth2 (by kernel_rfl) (by kernel_rfl) (by kernel_rfl) (fun _ _ _ h => h) (Or.inr ⟨by rfl, rfl⟩) hHeld ?_)
    (try simp only [Act.put]); (try simp only [List.setIfInBounds_toArray]); (try simp only [List.set_cons_succ]); (try simp only [List.set_cons_zero])
    first | (refine wpAnyH_take (i := 3) (v := ?_) nth3 (by kernel_rfl) (by kernel_rfl) (by kernel_rfl) (fun _ _ _ h => h) (Or.inl ⟨by rfl, ?_⟩) hHeld ?_; rotate_left; focus (intro wS hSw; (obtain ⟨_, _, _, _⟩ := hSw.2.1; obtain ⟨_, _, _, _⟩ := hSw.2.2.1); go_simp; try with_reducible rfl; done)) | (refine wpAnyH_take (i := 3) (v := undef) nth3 (by kernel_rfl) (by kernel_rfl) (by kernel_rfl) (fun _ _ _ h => h) (Or.inr ⟨by rfl, rfl⟩) hHeld ?_)
    (try simp only [Act.put]); (try simp only [List.setIfInBounds_toArray]); (try simp only [List.set_cons_succ]); (try simp only [List.set_cons_zero])
    first | (refine wpAnyH_take (i := 4) (v := ?_) nth4 (by kernel_rfl) (by kernel_rfl) (by kernel_rfl) (fun _ _ _ h => h) (Or.inl ⟨by rfl, ?_⟩) hHeld ?_; rotate_left; focus (intro wS hSw; (obtain ⟨_, _, _, _⟩ := hSw.2.1; obtain ⟨_, _, _, _⟩ := hSw.2.2.1); go_simp; try with_reducible rfl; done)) | (refine wpAnyH_take (i := 4) (v := undef) nth4 (by kernel_rfl) (by kernel_rfl) (by kernel_rfl) (fun _ _ _ h => h) (Or.inr ⟨by rfl, rfl⟩) hHeld ?_)
    (try simp only [Act.put]); (try simp only [List.setIfInBounds_toArray]); (try simp only [List.set_cons_succ]); (try simp only [List.set_cons_zero])
    first | (refine wpAnyH_take (i := 5) (v := ?_) nth5 (by kernel_rfl) (by kernel_rfl) (by kernel_rfl) (fun _ _ _ h => h) (Or.inl ⟨by rfl, ?_⟩) hHeld ?_; rotate_left; focus (intro wS hSw; (obtain ⟨_, _, _, _⟩ := hSw.2.1; obtain ⟨_, _, _, _⟩ := hSw.2.2.1); go_simp; try with_reducible rfl; done)) | (refine wpAnyH_take (i := 5) (v := undef) nth5 (by kernel_rfl) (by kernel_rfl) (by kernel_rfl) (fun _ _ _ h => h) (Or.inr ⟨by rfl, rfl⟩) hHeld ?_)
    (try simp only [Act.put]); (try simp only [List.setIfInBounds_toArray]); (try simp only [List.set_cons_succ]); (try simp only [List.set_cons_zero])
    first | (refine wpAnyH_take (i := 6) (v := ?_) nth6 (by kernel_rfl) (by kernel_rfl) (by kernel_rfl) (fun _ _ _ h => h) (Or.inl ⟨by rfl, ?_⟩) hHeld ?_; rotate_left; focus (intro wS hSw; (obtain ⟨_, _, _, _⟩ := hSw.2.1; obtain ⟨_, _, _, _⟩ := hSw.2.2.1); go_simp; try with_reducible rfl; done)) | (refine wpAnyH_take (i := 6) (v := undef) nth6 (by kernel_rfl) (by kernel_rfl) (by kernel_rfl) (fun _ _ _ h => h) (Or.inr ⟨by rfl, rfl⟩) hHeld ?_)
    (try simp only [Act.put]); (try simp only [List.setIfInBounds_toArray]); (try simp only [List.set_cons_succ]); (try simp only [List.set_cons_zero])
    first | (refine wpAnyH_take (i := 7) (v := ?_) nth7 (by kernel_rfl) (by kernel_rfl) (by kernel_rfl) (fun _ _ _ h => h) (Or.inl ⟨by rfl, ?_⟩) hHeld ?_; rotate_left; focus (intro wS hSw; (obtain ⟨_, _, _, _⟩ := hSw.2.1; obtain ⟨_, _, _, _⟩ := hSw.2.2.1); go_simp; try with_reducible rfl; done)) | (refine wpAnyH_take (i := 7) (v := undef) nth7 (by kernel_rfl) (by kernel_rfl) (by kernel_rfl) (fun _ _ _ h => h) (Or.inr ⟨by rfl, rfl⟩) hHeld ?_)
    (try simp only [Act.put]); (try simp only [List.setIfInBounds_toArray]); (try simp only [List.set_cons_succ]); (try simp only [List.set_cons_zero])
    first | (refine wpAnyH_take (i := 8) (v := ?_) nth8 (by kernel_rfl) (by kernel_rfl) (by kernel_rfl) (fun _ _ _ h => h) (Or.inl ⟨by rfl, ?_⟩) hHeld ?_; rotate_left; focus (intro wS hSw; (obtain ⟨_, _, _, _⟩ := hSw.2.1; obtain ⟨_, _, _, _⟩ := hSw.2.2.1); go_simp; try with_reducible rfl; done)) | (refine wpAnyH_take (i := 8) (v := undef) nth8 (by kernel_rfl) (by kernel_rfl) (by kernel_rfl) (fun _ _ _ h => h) (Or.inr ⟨by rfl, rfl⟩) hHeld ?_)
    (try simp only [Act.put]); (try simp only [List.setIfInBounds_toArray]); (try simp only [List.set_cons_succ]); (try simp only [List.set_cons_zero])
    first | (refine wpAnyH_take (i := 9) (v := ?_) nth9 (by kernel_rfl) (by kernel_rfl) (by kernel_rfl) (fun _ _ _ h => h) (Or.inl ⟨by rfl, ?_⟩) hHeld ?_; rotate_left; focus (intro wS hSw; (obtain ⟨_, _, _, _⟩ := hSw.2.1; obtain ⟨_, _, _, _⟩ := hSw.2.2.1); go_simp; try with_reducible rfl; done)) | (refine wpAnyH_take (i := 9) (v := undef) nth9 (by kernel_rfl) (by kernel_rfl) (by kernel_rfl) (fun _ _ _ h => h) (Or.inr ⟨by rfl, rfl⟩) hHeld ?_)
    (try simp only [Act.put]); (try simp only [List.setIfInBounds_toArray]); (try simp only [List.set_cons_succ]); (try simp only [List.set_cons_zero])
    first | (refine wpAnyH_take (i := 10) (v := ?_) nth10 (by kernel_rfl) (by kernel_rfl) (by kernel_rfl) (fun _ _ _ h => h) (Or.inl ⟨by rfl, ?_⟩) hHeld ?_; rotate_left; focus (intro wS hSw; (obtain ⟨_, _, _, _⟩ := hSw.2.1; obtain ⟨_, _, _, _⟩ := hSw.2.2.1); go_simp; try with_reducible rfl; done)) | (refine wpAnyH_take (i := 10) (v := undef) nth10 (by kernel_rfl) (by kernel_rfl) (by kernel_rfl) (fun _ _ _ h => h) (Or.inr ⟨by rfl, rfl⟩) hHeld ?_)
    (try simp only [Act.put]); (try simp only [List.setIfInBounds_toArray]); (try simp only [List.set_cons_succ]); (try simp only [List.set_cons_zero])
    first | (refine wpAnyH_take (i := 11) (v := ?_) nth11 (by kernel_rfl) (by kernel_rfl) (by kernel_rfl) (fun _ _ _ h => h) (Or.inl ⟨by rfl, ?_⟩) hHeld ?_; rotate_left; focus (intro wS hSw; (obtain ⟨_, _, _, _⟩ := hSw.2.1; obtain ⟨_, _, _, _⟩ := hSw.2.2.1); go_simp; try with_reducible rfl; done)) | (refine wpAnyH_take (i := 11) (v := undef) nth11 (by kernel_rfl) (by kernel_rfl) (by kernel_rfl) (fun _ _ _ h => h) (Or.inr ⟨by rfl, rfl⟩) hHeld ?_)
    (try simp only [Act.put]); (try simp only [List.setIfInBounds_toArray]); (try simp only [List.set_cons_succ]); (try simp only [List.set_cons_zero])
    first | (refine wpAnyH_take (i := 12) (v := ?_) nth12 (by kernel_rfl) (by kernel_rfl) (by kernel_rfl) (fun _ _ _ h => h) (Or.inl ⟨by rfl, ?_⟩) hHeld ?_; rotate_left; focus (intro wS hSw; (obtain ⟨_, _, _, _⟩ := hSw.2.1; obtain ⟨_, _, _, _⟩ := hSw.2.2.1); go_simp; try with_reducible rfl; done)) | (refine wpAnyH_take (i := 12) (v := undef) nth12 (by kernel_rfl) (by kernel_rfl) (by kernel_rfl) (fun _ _ _ h => h) (Or.inr ⟨by rfl, rfl⟩) hHeld ?_)
    (try simp only [Act.put]); (try simp only [List.setIfInBounds_toArray]); (try simp only [List.set_cons_succ]); (try simp only [List.set_cons_zero])
    first | (refine wpAnyH_take (i := 13) (v := ?_) nth13 (by kernel_rfl) (by kernel_rfl) (by kernel_rfl) (fun _ _ _ h => h) (Or.inl ⟨by rfl, ?_⟩) hHeld ?_; rotate_left; focus (intro wS hSw; (obtain ⟨_, _, _, _⟩ := hSw.2.1; obtain ⟨_, _, _, _⟩ := hSw.2.2.1); go_simp; try with_reducible rfl; done)) | (refine wpAnyH_take (i := 13) (v := undef) nth13 (by kernel_rfl) (by kernel_rfl) (by kernel_rfl) (fun _ _ _ h => h) (Or.inr ⟨by rfl, rfl⟩) hHeld ?_)
    (try simp only [Act.put]); (try simp only [List.setIfInBounds_toArray]); (try simp only [List.set_cons_succ]); (try simp only [List.set_cons_zero])
    first | (refine wpAnyH_take (i := 14) (v := ?_) nth14 (by kernel_rfl) (by kernel_rfl) (by kernel_rfl) (fun _ _ _ h => h) (Or.inl ⟨by rfl, ?_⟩) hHeld ?_; rotate_left; focus (intro wS hSw; (obtain ⟨_, _, _, _⟩ := hSw.2.1; obtain ⟨_, _, _, _⟩ := hSw.2.2.1); go_simp; try with_reducible rfl; done)) | (refine wpAnyH_take (i := 14) (v := undef) nth14 (by kernel_rfl) (by kernel_rfl) (by kernel_rfl) (fun _ _ _ h => h) (Or.inr ⟨by rfl, rfl⟩) hHeld ?_)
    (try simp only [Act.put]); (try simp only [List.setIfInBounds_toArray]); (try simp only [List.set_cons_succ]); (try simp only [List.set_cons_zero])
    first | (refine wpAnyH_take (i := 15) (v := ?_) nth15 (by kernel_rfl) (by kernel_rfl) (by kernel_rfl) (fun _ _ _ h => h) (Or.inl ⟨by rfl, ?_⟩) hHeld ?_; rotate_left; focus (intro wS hSw; (obtain ⟨_, _, _, _⟩ := hSw.2.1; obtain ⟨_, _, _, _⟩ := hSw.2.2.1); go_simp; try with_reducible rfl; done)) | (refine wpAnyH_take (i := 15) (v := undef) nth15 (by kernel_rfl) (by kernel_rfl) (by kernel_rfl) (fun _ _ _ h => h) (Or.inr ⟨by rfl, rfl⟩) hHeld ?_)
    (try simp only [Act.put]); (try simp only [List.setIfInBounds_toArray]); (try simp only [List.set_cons_succ]); (try simp only [List.set_cons_zero])
    refine wpAnyH_done (by kernel_rfl) ?_ _
    obtain ⟨t0, t1, t2, t3, t4⟩ := hHeld
    replace C0 := hide t1
    replace C1 := hide t2
    replace HX := hide t3
    replace HB := hide t4
    clear t0 t1 t2 t3 t4 HR
    obtain ⟨⟨c0, c1, c2⟩, ⟨y0, y1, y2⟩⟩ := HX.out.all
    have HS := hide (HX.out.set3 nullV)
    have HBS := hide (below_setV HB.out (Nat.le_refl _) nullV)
    clear HX HB
    go_wp2_with fail
    exact end_v Try.results38 rfl rfl HS.out ⟨rfl, HBS.out⟩
  | true =>
    rw [if_pos rfl]
    unfold txV
    rw [if_neg (by decide)]
    by_cases h100 : 100 < s.size + s2.size
    · rw [if_pos h100]
      have e100 : ¬ (s.size : Int) + (s2.size : Int) ≤ 100 := by omega
      clear h100 ha hb
      go_enter Try.func38, Try.ntmps38
      go_upto_region 1 with (fail)
      generalize w.alloc (.cells #[.int .i64 0, .int .i64 0, .string { data := #[] }] 26) = w1 at *
      go_upto_region 10 with (fail)
      refine wp_region_held_drew (S := (fun w' => RowV w' w'.heap.size (some ⟨blk, off, none⟩) 2 c [⟨k, n, s⟩, ⟨k2, n2, s2⟩] ∧ Cl w' blk off k n s ∧ Cl w' blk (off + 3) k2 n2 s2 ∧ VB w' w.heap.size nullV ∧ Below w.heap.size w w')) (by kernel_rfl) (⟨HR.out.kept (Below.refl _ _).drew, C0.out.kept (Below.refl _ _).drew, C1.out.kept (Below.refl _ _).drew, HX.out.kept (Below.refl _ _).drew, HB.out.drew⟩) (fun hHeld => ?_)
      first | (refine wpAnyH_take (i := 0) (v := ?_) nth0 (by kernel_rfl) (by kernel_rfl) (by kernel_rfl) (fun _ _ _ h => h) (Or.inl ⟨by rfl, ?_⟩) hHeld ?_; rotate_left; focus (intro wS hSw; (obtain ⟨_, _, _, _⟩ := hSw.2.1; obtain ⟨_, _, _, _⟩ := hSw.2.2.1); go_simp; try with_reducible rfl; done)) | (refine wpAnyH_take (i := 0) (v := undef) nth0 (by kernel_rfl) (by kernel_rfl) (by kernel_rfl) (fun _ _ _ h => h) (Or.inr ⟨by rfl, rfl⟩) hHeld ?_)
      (try simp only [Act.put]); (try simp only [List.setIfInBounds_toArray]); (try simp only [List.set_cons_succ]); (try simp only [List.set_cons_zero])
      refine wpAnyH_ready (rs := [1]) (by kernel_rfl) (by simp) ?_
      refine AllReadyH.cons nth1 (fun K hK => ?_) AllReadyH.nil
      go_simp
      (go_at_call 66; refine (QI.out _ hHeld.1).mono ?_; rintro e w' ⟨rfl, hw⟩; have hb := bel_eq hw; clear hw)
      refine hK.out _ _ (⟨hHeld.1.kept hb, hHeld.2.1.kept hb, hHeld.2.2.1.kept hb, hHeld.2.2.2.1.kept hb, Bel.then hHeld.2.2.2.2 hb⟩) (fun hHeld => ?_)
      clear hK K
      (try simp only [Act.put]); (try simp only [List.setIfInBounds_toArray]); (try simp only [List.set_cons_succ]); (try simp only [List.set_cons_zero])
      first | (refine wpAnyH_take (i := 2) (v := ?_) nth2 (by kernel_rfl) (by kernel_rfl) (by kernel_rfl) (fun _ _ _ h => h) (Or.inl ⟨by rfl, ?_⟩) hHeld ?_; rotate_left; focus (intro wS hSw; (obtain ⟨_, _, _, _⟩ := hSw.2.1; obtain ⟨_, _, _, _⟩ := hSw.2.2.1); go_simp; try with_reducible rfl; done)) | (refine wpAnyH_take (i := 2) (v := undef) nth2 (by kernel_rfl) (by kernel_rfl) (by kernel_rfl) (fun _ _ _ h => h) (Or.inr ⟨by rfl, rfl⟩) hHeld ?_)
      (try simp only [Act.put]); (try simp only [List.setIfInBounds_toArray]); (try simp only [List.set_cons_succ]); (try simp only [List.set_cons_zero])
      first | (refine wpAnyH_take (i := 3) (v := ?_) nth3 (by kernel_rfl) (by kernel_rfl) (by kernel_rfl) (fun _ _ _ h => h) (Or.inl ⟨by rfl, ?_⟩) hHeld ?_; rotate_left; focus (intro wS hSw; (obtain ⟨_, _, _, _⟩ := hSw.2.1; obtain ⟨_, _, _, _⟩ := hSw.2.2.1); go_simp; try with_reducible rfl; done)) | (refine wpAnyH_take (i := 3) (v := undef) nth3 (by kernel_rfl) (by kernel_rfl) (by kernel_rfl) (fun _ _ _ h => h) (Or.inr ⟨by rfl, rfl⟩) hHeld ?_)
      (try simp only [Act.put]); (try simp only [List.setIfInBounds_toArray]); (try simp only [List.set_cons_succ]); (try simp only [List.set_cons_zero])
      first | (refine wpAnyH_take (i := 4) (v := ?_) nth4 (by kernel_rfl) (by kernel_rfl) (by kernel_rfl) (fun _ _ _ h => h) (Or.inl ⟨by rfl, ?_⟩) hHeld ?_; rotate_left; focus (intro wS hSw; (obtain ⟨_, _, _, _⟩ := hSw.2.1; obtain ⟨_, _, _, _⟩ := hSw.2.2.1); go_simp; try with_reducible rfl; done)) | (refine wpAnyH_take (i := 4) (v := undef) nth4 (by kernel_rfl) (by kernel_rfl) (by kernel_rfl) (fun _ _ _ h => h) (Or.inr ⟨by rfl, rfl⟩) hHeld ?_)
      (try simp only [Act.put]); (try simp only [List.setIfInBounds_toArray]); (try simp only [List.set_cons_succ]); (try simp only [List.set_cons_zero])
      first | (refine wpAnyH_take (i := 5) (v := ?_) nth5 (by kernel_rfl) (by kernel_rfl) (by kernel_rfl) (fun _ _ _ h => h) (Or.inl ⟨by rfl, ?_⟩) hHeld ?_; rotate_left; focus (intro wS hSw; (obtain ⟨_, _, _, _⟩ := hSw.2.1; obtain ⟨_, _, _, _⟩ := hSw.2.2.1); go_simp; try with_reducible rfl; done)) | (refine wpAnyH_take (i := 5) (v := undef) nth5 (by kernel_rfl) (by kernel_rfl) (by kernel_rfl) (fun _ _ _ h => h) (Or.inr ⟨by rfl, rfl⟩) hHeld ?_)
      (try simp only [Act.put]); (try simp only [List.setIfInBounds_toArray]); (try simp only [List.set_cons_succ]); (try simp only [List.set_cons_zero])
      first | (refine wpAnyH_take (i := 6) (v := ?_) nth6 (by kernel_rfl) (by kernel_rfl) (by kernel_rfl) (fun _ _ _ h => h) (Or.inl ⟨by rfl, ?_⟩) hHeld ?_; rotate_left; focus (intro wS hSw; (obtain ⟨_, _, _, _⟩ := hSw.2.1; obtain ⟨_, _, _, _⟩ := hSw.2.2.1); go_simp; try with_reducible rfl; done)) | (refine wpAnyH_take (i := 6) (v := undef) nth6 (by kernel_rfl) (by kernel_rfl) (by kernel_rfl) (fun _ _ _ h => h) (Or.inr ⟨by rfl, rfl⟩) hHeld ?_)
      (try simp only [Act.put]); (try simp only [List.setIfInBounds_toArray]); (try simp only [List.set_cons_succ]); (try simp only [List.set_cons_zero])
      first | (refine wpAnyH_take (i := 7) (v := ?_) nth7 (by kernel_rfl) (by kernel_rfl) (by kernel_rfl) (fun _ _ _ h => h) (Or.inl ⟨by rfl, ?_⟩) hHeld ?_; rotate_left; focus (intro wS hSw; (obtain ⟨_, _, _, _⟩ := hSw.2.1; obtain ⟨_, _, _, _⟩ := hSw.2.2.1); go_simp; try with_reducible rfl; done)) | (refine wpAnyH_take (i := 7) (v := undef) nth7 (by kernel_rfl) (by kernel_rfl) (by kernel_rfl) (fun _ _ _ h => h) (Or.inr ⟨by rfl, rfl⟩) hHeld ?_)
      (try simp only [Act.put]); (try simp only [List.setIfInBounds_toArray]); (try simp only [List.set_cons_succ]); (try simp only [List.set_cons_zero])
      first | (refine wpAnyH_take (i := 8) (v := ?_) nth8 (by kernel_rfl) (by kernel_rfl) (by kernel_rfl) (fun _ _ _ h => h) (Or.inl ⟨by rfl, ?_⟩) hHeld ?_; rotate_left; focus (intro wS hSw; (obtain ⟨_, _, _, _⟩ := hSw.2.1; obtain ⟨_, _, _, _⟩ := hSw.2.2.1); go_simp; try with_reducible rfl; done)) | (refine wpAnyH_take (i := 8) (v := undef) nth8 (by kernel_rfl) (by kernel_rfl) (by kernel_rfl) (fun _ _ _ h => h) (Or.inr ⟨by rfl, rfl⟩) hHeld ?_)
      (try simp only [Act.put]); (try simp only [List.setIfInBounds_toArray]); (try simp only [List.set_cons_succ]); (try simp only [List.set_cons_zero])
      first | (refine wpAnyH_take (i := 9) (v := ?_) nth9 (by kernel_rfl) (by kernel_rfl) (by kernel_rfl) (fun _ _ _ h => h) (Or.inl ⟨by rfl, ?_⟩) hHeld ?_; rotate_left; focus (intro wS hSw; (obtain ⟨_, _, _, _⟩ := hSw.2.1; obtain ⟨_, _, _, _⟩ := hSw.2.2.1); go_simp; try with_reducible rfl; done)) | (refine wpAnyH_take (i := 9) (v := undef) nth9 (by kernel_rfl) (by kernel_rfl) (by kernel_rfl) (fun _ _ _ h => h) (Or.inr ⟨by rfl, rfl⟩) hHeld ?_)
      (try simp only [Act.put]); (try simp only [List.setIfInBounds_toArray]); (try simp only [List.set_cons_succ]); (try simp only [List.set_cons_zero])
      first | (refine wpAnyH_take (i := 10) (v := ?_) nth10 (by kernel_rfl) (by kernel_rfl) (by kernel_rfl) (fun _ _ _ h => h) (Or.inl ⟨by rfl, ?_⟩) hHeld ?_; rotate_left; focus (intro wS hSw; (obtain ⟨_, _, _, _⟩ := hSw.2.1; obtain ⟨_, _, _, _⟩ := hSw.2.2.1); go_simp; try with_reducible rfl; done)) | (refine wpAnyH_take (i := 10) (v := undef) nth10 (by kernel_rfl) (by kernel_rfl) (by kernel_rfl) (fun _ _ _ h => h) (Or.inr ⟨by rfl, rfl⟩) hHeld ?_)
      (try simp only [Act.put]); (try simp only [List.setIfInBounds_toArray]); (try simp only [List.set_cons_succ]); (try simp only [List.set_cons_zero])
      first | (refine wpAnyH_take (i := 11) (v := ?_) nth11 (by kernel_rfl) (by kernel_rfl) (by kernel_rfl) (fun _ _ _ h => h) (Or.inl ⟨by rfl, ?_⟩) hHeld ?_; rotate_left; focus (intro wS hSw; (obtain ⟨_, _, _, _⟩ := hSw.2.1; obtain ⟨_, _, _, _⟩ := hSw.2.2.1); go_simp; try with_reducible rfl; done)) | (refine wpAnyH_take (i := 11) (v := undef) nth11 (by kernel_rfl) (by kernel_rfl) (by kernel_rfl) (fun _ _ _ h => h) (Or.inr ⟨by rfl, rfl⟩) hHeld ?_)
      (try simp only [Act.put]); (try simp only [List.setIfInBounds_toArray]); (try simp only [List.set_cons_succ]); (try simp only [List.set_cons_zero])
      first | (refine wpAnyH_take (i := 12) (v := ?_) nth12 (by kernel_rfl) (by kernel_rfl) (by kernel_rfl) (fun _ _ _ h => h) (Or.inl ⟨by rfl, ?_⟩) hHeld ?_; rotate_left; focus (intro wS hSw; (obtain ⟨_, _, _, _⟩ := hSw.2.1; obtain ⟨_, _, _, _⟩ := hSw.2.2.1); go_simp; try with_reducible rfl; done)) | (refine wpAnyH_take (i := 12) (v := undef) nth12 (by kernel_rfl) (by kernel_rfl) (by kernel_rfl) (fun _ _ _ h => h) (Or.inr ⟨by rfl, rfl⟩) hHeld ?_)
      (try simp only [Act.put]); (try simp only [List.setIfInBounds_toArray]); (try simp only [List.set_cons_succ]); (try simp only [List.set_cons_zero])
      first | (refine wpAnyH_take (i := 13) (v := ?_) nth13 (by kernel_rfl) (by kernel_rfl) (by kernel_rfl) (fun _ _ _ h => h) (Or.inl ⟨by rfl, ?_⟩) hHeld ?_; rotate_left; focus (intro wS hSw; (obtain ⟨_, _, _, _⟩ := hSw.2.1; obtain ⟨_, _, _, _⟩ := hSw.2.2.1); go_simp; try with_reducible rfl; done)) | (refine wpAnyH_take (i := 13) (v := undef) nth13 (by kernel_rfl) (by kernel_rfl) (by kernel_rfl) (fun _ _ _ h => h) (Or.inr ⟨by rfl, rfl⟩) hHeld ?_)
      (try simp only [Act.put]); (try simp only [List.setIfInBounds_toArray]); (try simp only [List.set_cons_succ]); (try simp only [List.set_cons_zero])
      first | (refine wpAnyH_take (i := 14) (v := ?_) nth14 (by kernel_rfl) (by kernel_rfl) (by kernel_rfl) (fun _ _ _ h => h) (Or.inl ⟨by rfl, ?_⟩) hHeld ?_; rotate_left; focus (intro wS hSw; (obtain ⟨_, _, _, _⟩ := hSw.2.1; obtain ⟨_, _, _, _⟩ := hSw.2.2.1); go_simp; try with_reducible rfl; done)) | (refine wpAnyH_take (i := 14) (v := undef) nth14 (by kernel_rfl) (by kernel_rfl) (by kernel_rfl) (fun _ _ _ h => h) (Or.inr ⟨by rfl, rfl⟩) hHeld ?_)
      (try simp only [Act.put]); (try simp only [List.setIfInBounds_toArray]); (try simp only [List.set_cons_succ]); (try simp only [List.set_cons_zero])
      first | (refine wpAnyH_take (i := 15) (v := ?_) nth15 (by kernel_rfl) (by kernel_rfl) (by kernel_rfl) (fun _ _ _ h => h) (Or.inl ⟨by rfl, ?_⟩) hHeld ?_; rotate_left; focus (intro wS hSw; (obtain ⟨_, _, _, _⟩ := hSw.2.1; obtain ⟨_, _, _, _⟩ := hSw.2.2.1); go_simp; try with_reducible rfl; done)) | (refine wpAnyH_take (i := 15) (v := undef) nth15 (by kernel_rfl) (by kernel_rfl) (by kernel_rfl) (fun _ _ _ h => h) (Or.inr ⟨by rfl, rfl⟩) hHeld ?_)
      (try simp only [Act.put]); (try simp only [List.setIfInBounds_toArray]); (try simp only [List.set_cons_succ]); (try simp only [List.set_cons_zero])
      refine wpAnyH_done (by kernel_rfl) ?_ _
      obtain ⟨t0, t1, t2, t3, t4⟩ := hHeld
      replace C0 := hide t1
      replace C1 := hide t2
      replace HX := hide t3
      replace HB := hide t4
      clear t0 t1 t2 t3 t4 HR
      obtain ⟨⟨c0, c1, c2⟩, ⟨y0, y1, y2⟩⟩ := HX.out.all
      have HS := hide (HX.out.set3 nullV)
      have HBS := hide (below_setV HB.out (Nat.le_refl _) nullV)
      clear HX HB
      go_wp2_with fail
      exact end_v Try.results38 rfl rfl HS.out ⟨rfl, HBS.out⟩
    · rw [if_neg h100]
      have e100 : (s.size : Int) + (s2.size : Int) ≤ 100 := by omega
      have hsm : s.size + s2.size ≤ 100 := by omega
      clear h100 ha hb
      generalize hsv : strV (s ++ s2) = r at *
      clear hsv
      go_enter Try.func38, Try.ntmps38
      go_upto_region 1 with (fail)
      generalize w.alloc (.cells #[.int .i64 0, .int .i64 0, .string { data := #[] }] 26) = w1 at *
      go_upto_region 10 with (fail)
      refine wp_region_held_drew (S := (fun w' => RowV w' w'.heap.size (some ⟨blk, off, none⟩) 2 c [⟨k, n, s⟩, ⟨k2, n2, s2⟩] ∧ Cl w' blk off k n s ∧ Cl w' blk (off + 3) k2 n2 s2 ∧ VB w' w.heap.size nullV ∧ Below w.heap.size w w')) (by kernel_rfl) (⟨HR.out.kept (Below.refl _ _).drew, C0.out.kept (Below.refl _ _).drew, C1.out.kept (Below.refl _ _).drew, HX.out.kept (Below.refl _ _).drew, HB.out.drew⟩) (fun hHeld => ?_)
      first | (refine wpAnyH_take (i := 0) (v := ?_) nth0 (by kernel_rfl) (by kernel_rfl) (by kernel_rfl) (fun _ _ _ h => h) (Or.inl ⟨by rfl, ?_⟩) hHeld ?_; rotate_left; focus (intro wS hSw; (obtain ⟨_, _, _, _⟩ := hSw.2.1; obtain ⟨_, _, _, _⟩ := hSw.2.2.1); go_simp; try with_reducible rfl; done)) | (refine wpAnyH_take (i := 0) (v := undef) nth0 (by kernel_rfl) (by kernel_rfl) (by kernel_rfl) (fun _ _ _ h => h) (Or.inr ⟨by rfl, rfl⟩) hHeld ?_)
      (try simp only [Act.put]); (try simp only [List.setIfInBounds_toArray]); (try simp only [List.set_cons_succ]); (try simp only [List.set_cons_zero])
      refine wpAnyH_ready (rs := [1]) (by kernel_rfl) (by simp) ?_
      refine AllReadyH.cons nth1 (fun K hK => ?_) AllReadyH.nil
      go_simp
      (go_at_call 66; refine (QI.out _ hHeld.1).mono ?_; rintro e w' ⟨rfl, hw⟩; have hb := bel_eq hw; clear hw)
      refine hK.out _ _ (⟨hHeld.1.kept hb, hHeld.2.1.kept hb, hHeld.2.2.1.kept hb, hHeld.2.2.2.1.kept hb, Bel.then hHeld.2.2.2.2 hb⟩) (fun hHeld => ?_)
      clear hK K
      (try simp only [Act.put]); (try simp only [List.setIfInBounds_toArray]); (try simp only [List.set_cons_succ]); (try simp only [List.set_cons_zero])
      first | (refine wpAnyH_take (i := 2) (v := ?_) nth2 (by kernel_rfl) (by kernel_rfl) (by kernel_rfl) (fun _ _ _ h => h) (Or.inl ⟨by rfl, ?_⟩) hHeld ?_; rotate_left; focus (intro wS hSw; (obtain ⟨_, _, _, _⟩ := hSw.2.1; obtain ⟨_, _, _, _⟩ := hSw.2.2.1); go_simp; try with_reducible rfl; done)) | (refine wpAnyH_take (i := 2) (v := undef) nth2 (by kernel_rfl) (by kernel_rfl) (by kernel_rfl) (fun _ _ _ h => h) (Or.inr ⟨by rfl, rfl⟩) hHeld ?_)
      (try simp only [Act.put]); (try simp only [List.setIfInBounds_toArray]); (try simp only [List.set_cons_succ]); (try simp only [List.set_cons_zero])
      first | (refine wpAnyH_take (i := 3) (v := ?_) nth3 (by kernel_rfl) (by kernel_rfl) (by kernel_rfl) (fun _ _ _ h => h) (Or.inl ⟨by rfl, ?_⟩) hHeld ?_; rotate_left; focus (intro wS hSw; (obtain ⟨_, _, _, _⟩ := hSw.2.1; obtain ⟨_, _, _, _⟩ := hSw.2.2.1); go_simp; try with_reducible rfl; done)) | (refine wpAnyH_take (i := 3) (v := undef) nth3 (by kernel_rfl) (by kernel_rfl) (by kernel_rfl) (fun _ _ _ h => h) (Or.inr ⟨by rfl, rfl⟩) hHeld ?_)
      (try simp only [Act.put]); (try simp only [List.setIfInBounds_toArray]); (try simp only [List.set_cons_succ]); (try simp only [List.set_cons_zero])
      first | (refine wpAnyH_take (i := 4) (v := ?_) nth4 (by kernel_rfl) (by kernel_rfl) (by kernel_rfl) (fun _ _ _ h => h) (Or.inl ⟨by rfl, ?_⟩) hHeld ?_; rotate_left; focus (intro wS hSw; (obtain ⟨_, _, _, _⟩ := hSw.2.1; obtain ⟨_, _, _, _⟩ := hSw.2.2.1); go_simp; try with_reducible rfl; done)) | (refine wpAnyH_take (i := 4) (v := undef) nth4 (by kernel_rfl) (by kernel_rfl) (by kernel_rfl) (fun _ _ _ h => h) (Or.inr ⟨by rfl, rfl⟩) hHeld ?_)
      (try simp only [Act.put]); (try simp only [List.setIfInBounds_toArray]); (try simp only [List.set_cons_succ]); (try simp only [List.set_cons_zero])
      first | (refine wpAnyH_take (i := 5) (v := ?_) nth5 (by kernel_rfl) (by kernel_rfl) (by kernel_rfl) (fun _ _ _ h => h) (Or.inl ⟨by rfl, ?_⟩) hHeld ?_; rotate_left; focus (intro wS hSw; (obtain ⟨_, _, _, _⟩ := hSw.2.1; obtain ⟨_, _, _, _⟩ := hSw.2.2.1); go_simp; try with_reducible rfl; done)) | (refine wpAnyH_take (i := 5) (v := undef) nth5 (by kernel_rfl) (by kernel_rfl) (by kernel_rfl) (fun _ _ _ h => h) (Or.inr ⟨by rfl, rfl⟩) hHeld ?_)
      (try simp only [Act.put]); (try simp only [List.setIfInBounds_toArray]); (try simp only [List.set_cons_succ]); (try simp only [List.set_cons_zero])
      first | (refine wpAnyH_take (i := 6) (v := ?_) nth6 (by kernel_rfl) (by kernel_rfl) (by kernel_rfl) (fun _ _ _ h => h) (Or.inl ⟨by rfl, ?_⟩) hHeld ?_; rotate_left; focus (intro wS hSw; (obtain ⟨_, _, _, _⟩ := hSw.2.1; obtain ⟨_, _, _, _⟩ := hSw.2.2.1); go_simp; try with_reducible rfl; done)) | (refine wpAnyH_take (i := 6) (v := undef) nth6 (by kernel_rfl) (by kernel_rfl) (by kernel_rfl) (fun _ _ _ h => h) (Or.inr ⟨by rfl, rfl⟩) hHeld ?_)
      (try simp only [Act.put]); (try simp only [List.setIfInBounds_toArray]); (try simp only [List.set_cons_succ]); (try simp only [List.set_cons_zero])
      first | (refine wpAnyH_take (i := 7) (v := ?_) nth7 (by kernel_rfl) (by kernel_rfl) (by kernel_rfl) (fun _ _ _ h => h) (Or.inl ⟨by rfl, ?_⟩) hHeld ?_; rotate_left; focus (intro wS hSw; (obtain ⟨_, _, _, _⟩ := hSw.2.1; obtain ⟨_, _, _, _⟩ := hSw.2.2.1); go_simp; try with_reducible rfl; done)) | (refine wpAnyH_take (i := 7) (v := undef) nth7 (by kernel_rfl) (by kernel_rfl) (by kernel_rfl) (fun _ _ _ h => h) (Or.inr ⟨by rfl, rfl⟩) hHeld ?_)
      (try simp only [Act.put]); (try simp only [List.setIfInBounds_toArray]); (try simp only [List.set_cons_succ]); (try simp only [List.set_cons_zero])
      first | (refine wpAnyH_take (i := 8) (v := ?_) nth8 (by kernel_rfl) (by kernel_rfl) (by kernel_rfl) (fun _ _ _ h => h) (Or.inl ⟨by rfl, ?_⟩) hHeld ?_; rotate_left; focus (intro wS hSw; (obtain ⟨_, _, _, _⟩ := hSw.2.1; obtain ⟨_, _, _, _⟩ := hSw.2.2.1); go_simp; try with_reducible rfl; done)) | (refine wpAnyH_take (i := 8) (v := undef) nth8 (by kernel_rfl) (by kernel_rfl) (by kernel_rfl) (fun _ _ _ h => h) (Or.inr ⟨by rfl, rfl⟩) hHeld ?_)
      (try simp only [Act.put]); (try simp only [List.setIfInBounds_toArray]); (try simp only [List.set_cons_succ]); (try simp only [List.set_cons_zero])
      first | (refine wpAnyH_take (i := 9) (v := ?_) nth9 (by kernel_rfl) (by kernel_rfl) (by kernel_rfl) (fun _ _ _ h => h) (Or.inl ⟨by rfl, ?_⟩) hHeld ?_; rotate_left; focus (intro wS hSw; (obtain ⟨_, _, _, _⟩ := hSw.2.1; obtain ⟨_, _, _, _⟩ := hSw.2.2.1); go_simp; try with_reducible rfl; done)) | (refine wpAnyH_take (i := 9) (v := undef) nth9 (by kernel_rfl) (by kernel_rfl) (by kernel_rfl) (fun _ _ _ h => h) (Or.inr ⟨by rfl, rfl⟩) hHeld ?_)
      (try simp only [Act.put]); (try simp only [List.setIfInBounds_toArray]); (try simp only [List.set_cons_succ]); (try simp only [List.set_cons_zero])
      first | (refine wpAnyH_take (i := 10) (v := ?_) nth10 (by kernel_rfl) (by kernel_rfl) (by kernel_rfl) (fun _ _ _ h => h) (Or.inl ⟨by rfl, ?_⟩) hHeld ?_; rotate_left; focus (intro wS hSw; (obtain ⟨_, _, _, _⟩ := hSw.2.1; obtain ⟨_, _, _, _⟩ := hSw.2.2.1); go_simp; try with_reducible rfl; done)) | (refine wpAnyH_take (i := 10) (v := undef) nth10 (by kernel_rfl) (by kernel_rfl) (by kernel_rfl) (fun _ _ _ h => h) (Or.inr ⟨by rfl, rfl⟩) hHeld ?_)
      (try simp only [Act.put]); (try simp only [List.setIfInBounds_toArray]); (try simp only [List.set_cons_succ]); (try simp only [List.set_cons_zero])
      first | (refine wpAnyH_take (i := 11) (v := ?_) nth11 (by kernel_rfl) (by kernel_rfl) (by kernel_rfl) (fun _ _ _ h => h) (Or.inl ⟨by rfl, ?_⟩) hHeld ?_; rotate_left; focus (intro wS hSw; (obtain ⟨_, _, _, _⟩ := hSw.2.1; obtain ⟨_, _, _, _⟩ := hSw.2.2.1); go_simp; try with_reducible rfl; done)) | (refine wpAnyH_take (i := 11) (v := undef) nth11 (by kernel_rfl) (by kernel_rfl) (by kernel_rfl) (fun _ _ _ h => h) (Or.inr ⟨by rfl, rfl⟩) hHeld ?_)
      (try simp only [Act.put]); (try simp only [List.setIfInBounds_toArray]); (try simp only [List.set_cons_succ]); (try simp only [List.set_cons_zero])
      first | (refine wpAnyH_take (i := 12) (v := ?_) nth12 (by kernel_rfl) (by kernel_rfl) (by kernel_rfl) (fun _ _ _ h => h) (Or.inl ⟨by rfl, ?_⟩) hHeld ?_; rotate_left; focus (intro wS hSw; (obtain ⟨_, _, _, _⟩ := hSw.2.1; obtain ⟨_, _, _, _⟩ := hSw.2.2.1); go_simp; try with_reducible rfl; done)) | (refine wpAnyH_take (i := 12) (v := undef) nth12 (by kernel_rfl) (by kernel_rfl) (by kernel_rfl) (fun _ _ _ h => h) (Or.inr ⟨by rfl, rfl⟩) hHeld ?_)
      (try simp only [Act.put]); (try simp only [List.setIfInBounds_toArray]); (try simp only [List.set_cons_succ]); (try simp only [List.set_cons_zero])
      first | (refine wpAnyH_take (i := 13) (v := ?_) nth13 (by kernel_rfl) (by kernel_rfl) (by kernel_rfl) (fun _ _ _ h => h) (Or.inl ⟨by rfl, ?_⟩) hHeld ?_; rotate_left; focus (intro wS hSw; (obtain ⟨_, _, _, _⟩ := hSw.2.1; obtain ⟨_, _, _, _⟩ := hSw.2.2.1); go_simp; try with_reducible rfl; done)) | (refine wpAnyH_take (i := 13) (v := undef) nth13 (by kernel_rfl) (by kernel_rfl) (by kernel_rfl) (fun _ _ _ h => h) (Or.inr ⟨by rfl, rfl⟩) hHeld ?_)
      (try simp only [Act.put]); (try simp only [List.setIfInBounds_toArray]); (try simp only [List.set_cons_succ]); (try simp only [List.set_cons_zero])
      first | (refine wpAnyH_take (i := 14) (v := ?_) nth14 (by kernel_rfl) (by kernel_rfl) (by kernel_rfl) (fun _ _ _ h => h) (Or.inl ⟨by rfl, ?_⟩) hHeld ?_; rotate_left; focus (intro wS hSw; (obtain ⟨_, _, _, _⟩ := hSw.2.1; obtain ⟨_, _, _, _⟩ := hSw.2.2.1); go_simp; try with_reducible rfl; done)) | (refine wpAnyH_take (i := 14) (v := undef) nth14 (by kernel_rfl) (by kernel_rfl) (by kernel_rfl) (fun _ _ _ h => h) (Or.inr ⟨by rfl, rfl⟩) hHeld ?_)
      (try simp only [Act.put]); (try simp only [List.setIfInBounds_toArray]); (try simp only [List.set_cons_succ]); (try simp only [List.set_cons_zero])
      first | (refine wpAnyH_take (i := 15) (v := ?_) nth15 (by kernel_rfl) (by kernel_rfl) (by kernel_rfl) (fun _ _ _ h => h) (Or.inl ⟨by rfl, ?_⟩) hHeld ?_; rotate_left; focus (intro wS hSw; (obtain ⟨_, _, _, _⟩ := hSw.2.1; obtain ⟨_, _, _, _⟩ := hSw.2.2.1); go_simp; try with_reducible rfl; done)) | (refine wpAnyH_take (i := 15) (v := undef) nth15 (by kernel_rfl) (by kernel_rfl) (by kernel_rfl) (fun _ _ _ h => h) (Or.inr ⟨by rfl, rfl⟩) hHeld ?_)
      (try simp only [Act.put]); (try simp only [List.setIfInBounds_toArray]); (try simp only [List.set_cons_succ]); (try simp only [List.set_cons_zero])
      refine wpAnyH_done (by kernel_rfl) ?_ _
      obtain ⟨t0, t1, t2, t3, t4⟩ := hHeld
      replace C0 := hide t1
      replace C1 := hide t2
      replace HX := hide t3
      replace HB := hide t4
      clear t0 t1 t2 t3 t4 HR
      go_upto_region 11 with (fail)
      obtain ⟨_, l0, l1, l2⟩ := C0.out
      obtain ⟨_, m0, m1, m2⟩ := C1.out
      clear l0 l1 l2 m0 m1 m2
      have hcat : ¬ 9223372036854775807 < s.size + s2.size := by omega
      refine wp_region_held_drew (S := (fun w' => Cl w' blk off k n s ∧ Cl w' blk (off + 3) k2 n2 s2 ∧ (∃ u, VB w' w.heap.size u) ∧ Below w.heap.size w w')) (by kernel_rfl) (⟨C0.out.kept (Below.refl _ _).drew, C1.out.kept (Below.refl _ _).drew, ⟨_, HX.out.kept (Below.refl _ _).drew⟩, HB.out.drew⟩) (fun hHeld => ?_)
      first | (refine wpAnyH_take (i := 0) (v := ?_) nth0 (by kernel_rfl) (by kernel_rfl) (by kernel_rfl) (fun _ _ _ h => h) (Or.inl ⟨by rfl, ?_⟩) hHeld ?_; rotate_left; focus (intro wS hSw; (obtain ⟨_, _, _, _⟩ := hSw.1; obtain ⟨_, _, _, _⟩ := hSw.2.1); go_simp; try with_reducible rfl; done)) | (refine wpAnyH_take (i := 0) (v := undef) nth0 (by kernel_rfl) (by kernel_rfl) (by kernel_rfl) (fun _ _ _ h => h) (Or.inr ⟨by rfl, rfl⟩) hHeld ?_)
      (try simp only [Act.put]); (try simp only [List.setIfInBounds_toArray]); (try simp only [List.set_cons_succ]); (try simp only [List.set_cons_zero])
      first | (refine wpAnyH_take (i := 1) (v := ?_) nth1 (by kernel_rfl) (by kernel_rfl) (by kernel_rfl) (fun _ _ _ h => h) (Or.inl ⟨by rfl, ?_⟩) hHeld ?_; rotate_left; focus (intro wS hSw; (obtain ⟨_, _, _, _⟩ := hSw.1; obtain ⟨_, _, _, _⟩ := hSw.2.1); go_simp; try with_reducible rfl; done)) | (refine wpAnyH_take (i := 1) (v := undef) nth1 (by kernel_rfl) (by kernel_rfl) (by kernel_rfl) (fun _ _ _ h => h) (Or.inr ⟨by rfl, rfl⟩) hHeld ?_)
      (try simp only [Act.put]); (try simp only [List.setIfInBounds_toArray]); (try simp only [List.set_cons_succ]); (try simp only [List.set_cons_zero])
      first | (refine wpAnyH_take (i := 2) (v := ?_) nth2 (by kernel_rfl) (by kernel_rfl) (by kernel_rfl) (fun _ _ _ h => h) (Or.inl ⟨by rfl, ?_⟩) hHeld ?_; rotate_left; focus (intro wS hSw; (obtain ⟨_, _, _, _⟩ := hSw.1; obtain ⟨_, _, _, _⟩ := hSw.2.1); go_simp; try with_reducible rfl; done)) | (refine wpAnyH_take (i := 2) (v := undef) nth2 (by kernel_rfl) (by kernel_rfl) (by kernel_rfl) (fun _ _ _ h => h) (Or.inr ⟨by rfl, rfl⟩) hHeld ?_)
      (try simp only [Act.put]); (try simp only [List.setIfInBounds_toArray]); (try simp only [List.set_cons_succ]); (try simp only [List.set_cons_zero])
      first | (refine wpAnyH_take (i := 3) (v := ?_) nth3 (by kernel_rfl) (by kernel_rfl) (by kernel_rfl) (fun _ _ _ h => h) (Or.inl ⟨by rfl, ?_⟩) hHeld ?_; rotate_left; focus (intro wS hSw; (obtain ⟨_, _, _, _⟩ := hSw.1; obtain ⟨_, _, _, _⟩ := hSw.2.1); go_simp; try with_reducible rfl; done)) | (refine wpAnyH_take (i := 3) (v := undef) nth3 (by kernel_rfl) (by kernel_rfl) (by kernel_rfl) (fun _ _ _ h => h) (Or.inr ⟨by rfl, rfl⟩) hHeld ?_)
      (try simp only [Act.put]); (try simp only [List.setIfInBounds_toArray]); (try simp only [List.set_cons_succ]); (try simp only [List.set_cons_zero])
      first | (refine wpAnyH_take (i := 4) (v := ?_) nth4 (by kernel_rfl) (by kernel_rfl) (by kernel_rfl) (fun _ _ _ h => h) (Or.inl ⟨by rfl, ?_⟩) hHeld ?_; rotate_left; focus (intro wS hSw; (obtain ⟨_, _, _, _⟩ := hSw.1; obtain ⟨_, _, _, _⟩ := hSw.2.1); go_simp; try with_reducible rfl; done)) | (refine wpAnyH_take (i := 4) (v := undef) nth4 (by kernel_rfl) (by kernel_rfl) (by kernel_rfl) (fun _ _ _ h => h) (Or.inr ⟨by rfl, rfl⟩) hHeld ?_)
      (try simp only [Act.put]); (try simp only [List.setIfInBounds_toArray]); (try simp only [List.set_cons_succ]); (try simp only [List.set_cons_zero])
      first | (refine wpAnyH_take (i := 5) (v := ?_) nth5 (by kernel_rfl) (by kernel_rfl) (by kernel_rfl) (fun _ _ _ h => h) (Or.inl ⟨by rfl, ?_⟩) hHeld ?_; rotate_left; focus (intro wS hSw; (obtain ⟨_, _, _, _⟩ := hSw.1; obtain ⟨_, _, _, _⟩ := hSw.2.1); go_simp; try with_reducible rfl; done)) | (refine wpAnyH_take (i := 5) (v := undef) nth5 (by kernel_rfl) (by kernel_rfl) (by kernel_rfl) (fun _ _ _ h => h) (Or.inr ⟨by rfl, rfl⟩) hHeld ?_)
      (try simp only [Act.put]); (try simp only [List.setIfInBounds_toArray]); (try simp only [List.set_cons_succ]); (try simp only [List.set_cons_zero])
      first | (refine wpAnyH_take (i := 6) (v := ?_) nth6 (by kernel_rfl) (by kernel_rfl) (by kernel_rfl) (fun _ _ _ h => h) (Or.inl ⟨by rfl, ?_⟩) hHeld ?_; rotate_left; focus (intro wS hSw; (obtain ⟨_, _, _, _⟩ := hSw.1; obtain ⟨_, _, _, _⟩ := hSw.2.1); go_simp; try with_reducible rfl; done)) | (refine wpAnyH_take (i := 6) (v := undef) nth6 (by kernel_rfl) (by kernel_rfl) (by kernel_rfl) (fun _ _ _ h => h) (Or.inr ⟨by rfl, rfl⟩) hHeld ?_)
      (try simp only [Act.put]); (try simp only [List.setIfInBounds_toArray]); (try simp only [List.set_cons_succ]); (try simp only [List.set_cons_zero])
      first | (refine wpAnyH_take (i := 7) (v := ?_) nth7 (by kernel_rfl) (by kernel_rfl) (by kernel_rfl) (fun _ _ _ h => h) (Or.inl ⟨by rfl, ?_⟩) hHeld ?_; rotate_left; focus (intro wS hSw; (obtain ⟨_, _, _, _⟩ := hSw.1; obtain ⟨_, _, _, _⟩ := hSw.2.1); go_simp; try with_reducible rfl; done)) | (refine wpAnyH_take (i := 7) (v := undef) nth7 (by kernel_rfl) (by kernel_rfl) (by kernel_rfl) (fun _ _ _ h => h) (Or.inr ⟨by rfl, rfl⟩) hHeld ?_)
      (try simp only [Act.put]); (try simp only [List.setIfInBounds_toArray]); (try simp only [List.set_cons_succ]); (try simp only [List.set_cons_zero])
      first | (refine wpAnyH_take (i := 8) (v := ?_) nth8 (by kernel_rfl) (by kernel_rfl) (by kernel_rfl) (fun _ _ _ h => h) (Or.inl ⟨by rfl, ?_⟩) hHeld ?_; rotate_left; focus (intro wS hSw; (obtain ⟨_, _, _, _⟩ := hSw.1; obtain ⟨_, _, _, _⟩ := hSw.2.1); go_simp; try with_reducible rfl; done)) | (refine wpAnyH_take (i := 8) (v := undef) nth8 (by kernel_rfl) (by kernel_rfl) (by kernel_rfl) (fun _ _ _ h => h) (Or.inr ⟨by rfl, rfl⟩) hHeld ?_)
      (try simp only [Act.put]); (try simp only [List.setIfInBounds_toArray]); (try simp only [List.set_cons_succ]); (try simp only [List.set_cons_zero])
      refine wpAnyH_ready (rs := [9]) (by kernel_rfl) (by simp) ?_
      refine AllReadyH.cons nth9 (fun K hK => ?_) AllReadyH.nil
      go_simp
      (go_at_call 67; refine (QS.out _).mono ?_; rintro e w' ⟨rfl, hb⟩; simp only [valAgg])
      refine hK.out _ _ (⟨hHeld.1.kept hb, hHeld.2.1.kept hb, ⟨_, hHeld.2.2.1.choose_spec.kept hb⟩, Bel.then hHeld.2.2.2 hb⟩) (fun hHeld => ?_)
      clear hK K
      (try simp only [Act.put]); (try simp only [List.setIfInBounds_toArray]); (try simp only [List.set_cons_succ]); (try simp only [List.set_cons_zero])
      refine wpAnyH_ready (rs := [10]) (by kernel_rfl) (by simp) ?_
      refine AllReadyH.cons nth10 (fun K hK => ?_) AllReadyH.nil
      obtain ⟨u3, hu3⟩ := hHeld.2.2.1
      have HS := hide (hu3.set3 r)
      have HBS := hide (below_setV hHeld.2.2.2 (Nat.le_refl _) r)
      obtain ⟨⟨c0, c1, c2⟩, ⟨y0, y1, y2⟩⟩ := hu3.all
      go_simp
      refine hK.out _ _ (⟨hHeld.1.far HNB.out r, hHeld.2.1.far HNB.out r, ⟨r, HS.out⟩, HBS.out⟩) (fun hHeld => ?_)
      clear hK K
      (try simp only [Act.put]); (try simp only [List.setIfInBounds_toArray]); (try simp only [List.set_cons_succ]); (try simp only [List.set_cons_zero])
      refine wpAnyH_done (by kernel_rfl) ?_ _
      clear hHeld
      go_wp2_with fail
      exact end_v Try.results38 rfl rfl HS.out ⟨rfl, HBS.out⟩
set_option maxRecDepth 100000 in
set_option maxHeartbeats 4000000 in
theorem rtwo0_c (op : Int) (hop : ¬ ((5 ≤ op ∧ op ≤ 18) ∨ op = 20)) (v : Value) (w : World) : Calls Try.prog 38 #[.int .i64 op, v] w (GivesV w nullV) := by
  have HX := hide (vb_one w)
  have HB := hide (Bel.one w zO)
  have e5 : (op == 5) = false := by rw [beq_eq_false_iff_ne]; omega
  have e6 : (op == 6) = false := by rw [beq_eq_false_iff_ne]; omega
  have e7 : (op == 7) = false := by rw [beq_eq_false_iff_ne]; omega
  have e8 : (op == 8) = false := by rw [beq_eq_false_iff_ne]; omega
  have e9 : (op == 9) = false := by rw [beq_eq_false_iff_ne]; omega
  have e10 : (op == 10) = false := by rw [beq_eq_false_iff_ne]; omega
  have e11 : (op == 11) = false := by rw [beq_eq_false_iff_ne]; omega
  have e12 : (op == 12) = false := by rw [beq_eq_false_iff_ne]; omega
  have e13 : (op == 13) = false := by rw [beq_eq_false_iff_ne]; omega
  have e14 : (op == 14) = false := by rw [beq_eq_false_iff_ne]; omega
  have e15 : (op == 15) = false := by rw [beq_eq_false_iff_ne]; omega
  have e16 : (op == 16) = false := by rw [beq_eq_false_iff_ne]; omega
  have e17 : (op == 17) = false := by rw [beq_eq_false_iff_ne]; omega
  have e18 : (op == 18) = false := by rw [beq_eq_false_iff_ne]; omega
  have e20 : (op == 20) = false := by rw [beq_eq_false_iff_ne]; omega
  clear hop
  go_enter Try.func38, Try.ntmps38
  go_upto_region 1 with (fail)
  generalize w.alloc (.cells #[.int .i64 0, .int .i64 0, .string { data := #[] }] 26) = w1 at *
  obtain ⟨⟨c0, c1, c2⟩, ⟨y0, y1, y2⟩⟩ := HX.out.all
  have HS := hide (HX.out.set3 nullV)
  have HBS := hide (below_setV HB.out (Nat.le_refl _) nullV)
  clear HX HB
  go_wp2_with fail
  exact end_v Try.results38 rfl rfl HS.out ⟨rfl, HBS.out⟩
def twoR (op : Int) (a b : ValV) : ValV := if (5 ≤ op ∧ op ≤ 18) ∨ op = 20 then binV op a b else nullV
theorem rtwo_c (op : Int) (a b : ValV) (A : Option Addr) (c : Nat) (w : World) (h : RowV w w.heap.size A 2 c [a, b]) (ha : a.str.size ≤ 1048576) (hb : b.str.size ≤ 1048576) : Calls Try.prog 38 #[.int .i64 op, .slice A 2 c] w (GivesV w (twoR op a b)) := by
  unfold twoR
  by_cases hop : (5 ≤ op ∧ op ≤ 18) ∨ op = 20
  · rw [if_pos hop]
    have hbd : ∀ k : Int, (a.kind = k ∧ b.kind = k) ↔ (a.kind == k && b.kind == k) = true := fun k => by simp
    rcases (show (5 ≤ op ∧ op ≤ 9) ∨ op = 10 ∨ (11 ≤ op ∧ op ≤ 16) ∨ op = 17 ∨ op = 18 ∨ op = 20 by omega) with g | rfl | g | rfl | rfl | rfl
    · rw [binV_num (by omega) (by omega) (by omega) (by omega)]
      simp only [hbd]
      exact rtwoN_c op g a b A c w h
    · rw [binV_text (.inl rfl)]
      simp only [hbd]
      exact rtwoT_c a b A c w h ha hb
    · rw [binV_cmp g]
      exact rtwoC_c op g a b A c w h ha hb
    · exact rtwo17_c a b A c w h
    · exact rtwo18_c a b A c w h
    · rw [binV_text (.inr rfl)]
      simp only [hbd]
      exact rtwoL_c a b A c w h ha hb
  · rw [if_neg hop]
    exact rtwo0_c op hop _ w
end Go.Proofs.Ytlkeghfdpbfhbaa
