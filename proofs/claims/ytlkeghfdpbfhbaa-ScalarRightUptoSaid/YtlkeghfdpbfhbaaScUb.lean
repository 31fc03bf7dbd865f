/- The reference's called. -/
import Derived.Test.YtlkeghfdpbfhbaaScU
namespace Go.Proofs.Ytlkeghfdpbfhbaa
set_option linter.unusedVariables false
open Go.ChangeShapes Go.WideShapes Go.ChangeAt Go.RowKit

set_option maxRecDepth 100000 in
set_option maxHeartbeats 4000000 in
theorem rcoal_c (A : Option Addr) (n c : Nat) (l : List ValV) (w : World) (h : RowV w w.heap.size A n c l) : Calls Try.prog 30 #[.string coName, .slice A n c] w (GivesV w (coalV l)) := by
  have hmx := Nat.le_trans h.cap h.max
  unfold maxLen at hmx
  have HN := hide h.len
  obtain ⟨R, hR⟩ : ∃ R, coalV l = R := ⟨_, rfl⟩
  rw [hR]
  have HX0 := hide (vb_one w)
  have HB0 := hide (Bel.one w zO)
  have HR := hide h
  have HC0 : Hid (coalV (l.drop 0) = R) := hR
  have m7 := n7
  clear h hR
  go_enter Try.func30, Try.ntmps30
  go_upto_region 1 with (fail)
  generalize w.alloc (.cells #[.int .i64 0, .int .i64 0, .string { data := #[] }] 26) = w1 at *
  go_wp2_with fail
  go_loopw [5] (fun v wr => ∃ j : Nat, v = .int .i64 j ∧ j ≤ n ∧ Hid (coalV (l.drop j) = R) ∧ Hid (VB wr w.heap.size nullV) ∧ Hid (Below w.heap.size w wr)) (fun v _ => n - (intOf v).toNat)
  case atStart => exact ⟨0, rfl, Nat.zero_le _, HC0, HX0, HB0⟩
  case round =>
    clear HC0 HX0 HB0
    obtain ⟨j, rfl, hj, HC, HX, HB⟩ := hrel
    by_cases hlt : j < n
    · have hlti : (j : Int) < n := by omega
      have hwk : IntKind.i64.wrap ((j : Int) + 1) = (j : Int) + 1 := IntWalk.i64_in _ (by omega)
      obtain ⟨blk, off, x, rfl, _, hx, hc⟩ := (HR.out.kept HB.out).at (by omega) hlt
      have hcc := HC.out
      rw [drop_at hx, coalV] at hcc
      have HCC := hide hcc
      have l0 := hc 0 _ rfl
      have l1 := hc 1 _ rfl
      have l2 := hc 2 _ rfl
      rw [Nat.add_zero] at l0
      rw [← Nat.add_assoc] at l1 l2
      obtain ⟨xk, xn, xs⟩ := x
      simp only at l0 l1 l2
      clear hc hx hcc HC
      by_cases hk : xk = 0
      · have hki : (xk != 0) = false := by simp [hk]
        have HC2 : Hid (coalV (l.drop (j + 1)) = R) := by
          have := HCC.out
          rw [if_pos hk] at this
          exact this
        clear HCC hk
        go_wp2_with fail
        go_roundw
        case rel => exact ⟨j + 1, by go_num, by omega, HC2, HX, HB⟩
        case measure => simp [intOf]; omega
      · have hki : (xk != 0) = true := by simp [hk]
        obtain rfl : (⟨xk, xn, xs⟩ : ValV) = R := by
          have := HCC.out
          rw [if_neg hk] at this
          exact this
        clear HCC hk
        obtain ⟨⟨c0, c1, c2⟩, ⟨y0, y1, y2⟩⟩ := HX.out.all
        have HS := hide (HX.out.set3 (⟨xk, xn, xs⟩))
        have HBS := hide (below_setV HB.out (Nat.le_refl _) (⟨xk, xn, xs⟩))
        clear HX HB 
        go_wp2_with fail
        exact end_v Try.results30 rfl rfl HS.out ⟨rfl, HBS.out⟩
    · have hlti : ¬ (j : Int) < n := by omega
      obtain rfl : nullV = R := by
        have := HC.out
        rw [List.drop_of_length_le (by rw [HN.out]; omega)] at this
        exact this
      clear HC
      obtain ⟨⟨c0, c1, c2⟩, ⟨y0, y1, y2⟩⟩ := HX.out.all
      have HS := hide (HX.out.set3 (nullV))
      have HBS := hide (below_setV HB.out (Nat.le_refl _) (nullV))
      clear HX HB 
      go_wp2_with fail
      exact end_v Try.results30 rfl rfl HS.out ⟨rfl, HBS.out⟩
set_option maxRecDepth 100000 in
set_option maxHeartbeats 4000000 in
theorem rcalled1_c (nm : ByteArray) (a : ValV) (A : Option Addr) (c : Nat) (w : World) (h : RowV w w.heap.size A 1 c [a]) (hm : a.str.size ≤ 1048576) (hco : isN nm [99, 111, 97, 108, 101, 115, 99, 101] = false) : Calls Try.prog 30 #[.string nm, .slice A 1 c] w (GivesV w (oneV nm a)) := by
  obtain ⟨blk, off, rfl, hlt, hcc⟩ := row_get h (by omega)
  have hc0 := hcc 0 _ rfl
  have l0 := hc0 0 _ rfl
  have l1 := hc0 1 _ rfl
  have l2 := hc0 2 _ rfl
  simp only [Nat.zero_mul, Nat.zero_add, Nat.add_zero] at l0 l1 l2
  have C0 := hide (Cl.kept (show Cl w blk off a.kind a.num a.str from ⟨hlt, l0, l1, l2⟩) (Bel.one w zO))
  have HNB : Hid (w.heap.size ≠ blk) := Nat.ne_of_gt hlt
  have HX := hide (vb_one w)
  have HB := hide (Bel.one w zO)
  clear hcc hc0 hlt l0 l1 l2 h
  have QG := hide (fun W => rneg_c a.num W)
  have QM := hide (fun p W => rtoldv_c p W)
  have QI := hide (fun W => rin_c a.num W)
  have QN := hide (fun (x : Int) W => rnumv_c x W)
  have QS1 := hide (fun W => rturned_c a.str 65 90 97 W hm (by decide) (by decide) (by decide))
  have QS2 := hide (fun W => rturned_c a.str 97 122 65 W hm (by decide) (by decide) (by decide))
  have e1 : ((97 : UInt8).toNat : Int) = 97 := rfl
  have e3 : ((65 : UInt8).toNat : Int) = 65 := rfl
  rw [e1, e3] at QS1
  rw [e1, e3] at QS2
  clear e1 e3 hm
  obtain ⟨k, n, s⟩ := a
  unfold oneV lowL upL
  simp only at QG QI QS1 QS2 C0 ⊢
  generalize negP n = p at *
  generalize inN n = q at *
  generalize strL (s.data.toList.map (shB 65 90 97)) = u1 at *
  generalize strL (s.data.toList.map (shB 97 122 65)) = u2 at *
  rcases (show (k = 2 ∧ (k == 2) = true ∧ (k == 3) = false ∧ (k != 3) = true) ∨ (k = 3 ∧ (k == 2) = false ∧ (k == 3) = true ∧ (k != 3) = false) ∨ (¬ k = 2 ∧ ¬ k = 3 ∧ (k == 2) = false ∧ (k == 3) = false ∧ (k != 3) = true) by
    simp only [beq_eq_false_iff_ne, beq_iff_eq, bne_iff_ne, bne_eq_false_iff_eq]
    omega) with ⟨g2, k2, k3, k4⟩ | ⟨g3, k2, k3, k4⟩ | ⟨g2, g3, k2, k3, k4⟩
  · rcases one_names nm with ⟨m1, m2, m3, m4⟩ | ⟨m1, m2, m3, m4⟩ | ⟨m1, m2, m3, m4⟩ | ⟨m1, m2, m3, m4⟩ | ⟨m1, m2, m3, m4⟩
    · rw [if_pos ⟨m1, g2⟩]
      clear g2
      have m5 : isN nm [110, 117, 108, 108, 105, 102] = false := isN_other m1 (by decide)
      unfold isN at m1 m2 m3 m4 m5 hco
      by_cases hn : n < 0
      · rw [if_pos hn]
        go_enter Try.func30, Try.ntmps30
        go_upto_region 1 with (fail)
        generalize w.alloc (.cells #[.int .i64 0, .int .i64 0, .string { data := #[] }] 26) = w1 at *
        obtain ⟨_, l0, l1, l2⟩ := C0.out
        go_wp2_with fail
        refine (QG.out _).mono ?_
        rintro e w2 ⟨rfl, rfl⟩
        go_wp2_with fail
        refine (QM.out _ _).mono ?_
        rintro e w3 ⟨rfl, hb⟩
        replace HX := hide (HX.out.kept hb)
        replace HB := hide (Bel.then HB.out hb)
        clear hb
        clear l0 l1 l2 C0
        generalize toldV _ = r at *
        obtain ⟨⟨c0, c1, c2⟩, ⟨y0, y1, y2⟩⟩ := HX.out.all
        have HS := hide (HX.out.set3 (r))
        have HBS := hide (below_setV HB.out (Nat.le_refl _) (r))
        clear HX HB 
        unfold valAgg
        go_wp2_with fail
        exact end_v Try.results30 rfl rfl HS.out ⟨rfl, HBS.out⟩
      · rw [if_neg hn]
        have QM2 := hide (fun W => QM.out (n, q) W)
        obtain ⟨R, hR⟩ : ∃ R, toldV (n, q) = R := ⟨_, rfl⟩
        rw [hR] at QM2 ⊢
        simp only at QM2
        clear hR
        go_enter Try.func30, Try.ntmps30
        go_upto_region 1 with (fail)
        generalize w.alloc (.cells #[.int .i64 0, .int .i64 0, .string { data := #[] }] 26) = w1 at *
        obtain ⟨_, l0, l1, l2⟩ := C0.out
        go_upto_region 18 with (fail)
        clear l0 l1 l2
        refine wp_region_held_drew (S := (fun w' => Cl w' blk off k n s ∧ (∃ u, VB w' w.heap.size u) ∧ Below w.heap.size w w')) (by kernel_rfl) (⟨C0.out.kept (Below.refl _ _).drew, ⟨_, HX.out.kept (Below.refl _ _).drew⟩, HB.out.drew⟩) (fun hHeld => ?_)
        first | (refine wpAnyH_take (i := 0) (v := ?_) nth0 (by kernel_rfl) (by kernel_rfl) (by kernel_rfl) (fun _ _ _ h => h) (Or.inl ⟨by rfl, ?_⟩) hHeld ?_; rotate_left; focus (intro wS hSw; (obtain ⟨_, _, _, _⟩ := hSw.1); go_simp; try with_reducible rfl; done)) | (refine wpAnyH_take (i := 0) (v := undef) nth0 (by kernel_rfl) (by kernel_rfl) (by kernel_rfl) (fun _ _ _ h => h) (Or.inr ⟨by rfl, rfl⟩) hHeld ?_)
        (try simp only [Act.put]); (try simp only [List.setIfInBounds_toArray]); (try simp only [List.set_cons_succ]); (try simp only [List.set_cons_zero])
        first | (refine wpAnyH_take (i := 1) (v := ?_) nth1 (by kernel_rfl) (by kernel_rfl) (by kernel_rfl) (fun _ _ _ h => h) (Or.inl ⟨by rfl, ?_⟩) hHeld ?_; rotate_left; focus (intro wS hSw; (obtain ⟨_, _, _, _⟩ := hSw.1); go_simp; try with_reducible rfl; done)) | (refine wpAnyH_take (i := 1) (v := undef) nth1 (by kernel_rfl) (by kernel_rfl) (by kernel_rfl) (fun _ _ _ h => h) (Or.inr ⟨by rfl, rfl⟩) hHeld ?_)
        (try simp only [Act.put]); (try simp only [List.setIfInBounds_toArray]); (try simp only [List.set_cons_succ]); (try simp only [List.set_cons_zero])
        first | (refine wpAnyH_take (i := 2) (v := ?_) nth2 (by kernel_rfl) (by kernel_rfl) (by kernel_rfl) (fun _ _ _ h => h) (Or.inl ⟨by rfl, ?_⟩) hHeld ?_; rotate_left; focus (intro wS hSw; (obtain ⟨_, _, _, _⟩ := hSw.1); go_simp; try with_reducible rfl; done)) | (refine wpAnyH_take (i := 2) (v := undef) nth2 (by kernel_rfl) (by kernel_rfl) (by kernel_rfl) (fun _ _ _ h => h) (Or.inr ⟨by rfl, rfl⟩) hHeld ?_)
        (try simp only [Act.put]); (try simp only [List.setIfInBounds_toArray]); (try simp only [List.set_cons_succ]); (try simp only [List.set_cons_zero])
        first | (refine wpAnyH_take (i := 3) (v := ?_) nth3 (by kernel_rfl) (by kernel_rfl) (by kernel_rfl) (fun _ _ _ h => h) (Or.inl ⟨by rfl, ?_⟩) hHeld ?_; rotate_left; focus (intro wS hSw; (obtain ⟨_, _, _, _⟩ := hSw.1); go_simp; try with_reducible rfl; done)) | (refine wpAnyH_take (i := 3) (v := undef) nth3 (by kernel_rfl) (by kernel_rfl) (by kernel_rfl) (fun _ _ _ h => h) (Or.inr ⟨by rfl, rfl⟩) hHeld ?_)
        (try simp only [Act.put]); (try simp only [List.setIfInBounds_toArray]); (try simp only [List.set_cons_succ]); (try simp only [List.set_cons_zero])
        first | (refine wpAnyH_take (i := 4) (v := ?_) nth4 (by kernel_rfl) (by kernel_rfl) (by kernel_rfl) (fun _ _ _ h => h) (Or.inl ⟨by rfl, ?_⟩) hHeld ?_; rotate_left; focus (intro wS hSw; (obtain ⟨_, _, _, _⟩ := hSw.1); go_simp; try with_reducible rfl; done)) | (refine wpAnyH_take (i := 4) (v := undef) nth4 (by kernel_rfl) (by kernel_rfl) (by kernel_rfl) (fun _ _ _ h => h) (Or.inr ⟨by rfl, rfl⟩) hHeld ?_)
        (try simp only [Act.put]); (try simp only [List.setIfInBounds_toArray]); (try simp only [List.set_cons_succ]); (try simp only [List.set_cons_zero])
        first | (refine wpAnyH_take (i := 5) (v := ?_) nth5 (by kernel_rfl) (by kernel_rfl) (by kernel_rfl) (fun _ _ _ h => h) (Or.inl ⟨by rfl, ?_⟩) hHeld ?_; rotate_left; focus (intro wS hSw; (obtain ⟨_, _, _, _⟩ := hSw.1); go_simp; try with_reducible rfl; done)) | (refine wpAnyH_take (i := 5) (v := undef) nth5 (by kernel_rfl) (by kernel_rfl) (by kernel_rfl) (fun _ _ _ h => h) (Or.inr ⟨by rfl, rfl⟩) hHeld ?_)
        (try simp only [Act.put]); (try simp only [List.setIfInBounds_toArray]); (try simp only [List.set_cons_succ]); (try simp only [List.set_cons_zero])
        first | (refine wpAnyH_take (i := 6) (v := ?_) nth6 (by kernel_rfl) (by kernel_rfl) (by kernel_rfl) (fun _ _ _ h => h) (Or.inl ⟨by rfl, ?_⟩) hHeld ?_; rotate_left; focus (intro wS hSw; (obtain ⟨_, _, _, _⟩ := hSw.1); go_simp; try with_reducible rfl; done)) | (refine wpAnyH_take (i := 6) (v := undef) nth6 (by kernel_rfl) (by kernel_rfl) (by kernel_rfl) (fun _ _ _ h => h) (Or.inr ⟨by rfl, rfl⟩) hHeld ?_)
        (try simp only [Act.put]); (try simp only [List.setIfInBounds_toArray]); (try simp only [List.set_cons_succ]); (try simp only [List.set_cons_zero])
        first | (refine wpAnyH_take (i := 7) (v := ?_) nth7 (by kernel_rfl) (by kernel_rfl) (by kernel_rfl) (fun _ _ _ h => h) (Or.inl ⟨by rfl, ?_⟩) hHeld ?_; rotate_left; focus (intro wS hSw; (obtain ⟨_, _, _, _⟩ := hSw.1); go_simp; try with_reducible rfl; done)) | (refine wpAnyH_take (i := 7) (v := undef) nth7 (by kernel_rfl) (by kernel_rfl) (by kernel_rfl) (fun _ _ _ h => h) (Or.inr ⟨by rfl, rfl⟩) hHeld ?_)
        (try simp only [Act.put]); (try simp only [List.setIfInBounds_toArray]); (try simp only [List.set_cons_succ]); (try simp only [List.set_cons_zero])
        refine wpAnyH_ready (rs := [8]) (by kernel_rfl) (by simp) ?_
        refine AllReadyH.cons nth8 (fun K hK => ?_) AllReadyH.nil
        go_simp
        (first | (go_at_call 57; refine (QI.out _).mono ?_; rintro e w' ⟨rfl, hw⟩; have hb := bel_eq hw; clear hw) | (go_at_call 55; refine (QM2.out _).mono ?_; rintro e w' ⟨rfl, hb⟩; simp only [valAgg]))
        refine hK.out _ _ (⟨hHeld.1.kept hb, ⟨_, hHeld.2.1.choose_spec.kept hb⟩, Bel.then hHeld.2.2 hb⟩) (fun hHeld => ?_)
        clear hK K
        (try simp only [Act.put]); (try simp only [List.setIfInBounds_toArray]); (try simp only [List.set_cons_succ]); (try simp only [List.set_cons_zero])
        refine wpAnyH_ready (rs := [9]) (by kernel_rfl) (by simp) ?_
        refine AllReadyH.cons nth9 (fun K hK => ?_) AllReadyH.nil
        go_simp
        (first | (go_at_call 57; refine (QI.out _).mono ?_; rintro e w' ⟨rfl, hw⟩; have hb := bel_eq hw; clear hw) | (go_at_call 55; refine (QM2.out _).mono ?_; rintro e w' ⟨rfl, hb⟩; simp only [valAgg]))
        refine hK.out _ _ (⟨hHeld.1.kept hb, ⟨_, hHeld.2.1.choose_spec.kept hb⟩, Bel.then hHeld.2.2 hb⟩) (fun hHeld => ?_)
        clear hK K
        (try simp only [Act.put]); (try simp only [List.setIfInBounds_toArray]); (try simp only [List.set_cons_succ]); (try simp only [List.set_cons_zero])
        refine wpAnyH_ready (rs := [10]) (by kernel_rfl) (by simp) ?_
        refine AllReadyH.cons nth10 (fun K hK => ?_) AllReadyH.nil
        obtain ⟨u3, hu3⟩ := hHeld.2.1
        have HS := hide (hu3.set3 R)
        have HBS := hide (below_setV hHeld.2.2 (Nat.le_refl _) R)
        obtain ⟨⟨c0, c1, c2⟩, ⟨y0, y1, y2⟩⟩ := hu3.all
        go_simp
        refine hK.out _ _ (⟨hHeld.1.far HNB.out R, ⟨R, HS.out⟩, HBS.out⟩) (fun hHeld => ?_)
        clear hK K
        (try simp only [Act.put]); (try simp only [List.setIfInBounds_toArray]); (try simp only [List.set_cons_succ]); (try simp only [List.set_cons_zero])
        refine wpAnyH_done (by kernel_rfl) ?_ _
        clear hHeld
        go_wp2_with fail
        exact end_v Try.results30 rfl rfl HS.out ⟨rfl, HBS.out⟩
    all_goals
      rw [if_neg (by rw [m1]; simp), if_neg (by omega)]
      clear g2
      have hnu : isN nm [110, 117, 108, 108, 105, 102] = true ∨ isN nm [110, 117, 108, 108, 105, 102] = false := by cases isN nm [110, 117, 108, 108, 105, 102] <;> simp
      unfold isN at m1 m2 m3 m4 hco hnu
      rcases hnu with m5 | m5
      all_goals
        go_enter Try.func30, Try.ntmps30
        go_upto_region 1 with (fail)
        generalize w.alloc (.cells #[.int .i64 0, .int .i64 0, .string { data := #[] }] 26) = w1 at *
        obtain ⟨_, l0, l1, l2⟩ := C0.out
        obtain ⟨⟨c0, c1, c2⟩, ⟨y0, y1, y2⟩⟩ := HX.out.all
        have HS := hide (HX.out.set3 (nullV))
        have HBS := hide (below_setV HB.out (Nat.le_refl _) (nullV))
        clear HX HB C0
        go_wp2_with fail
        exact end_v Try.results30 rfl rfl HS.out ⟨rfl, HBS.out⟩
  · rw [if_neg (by omega), if_pos g3]
    clear g3
    rcases one_names nm with ⟨m1, m2, m3, m4⟩ | ⟨m1, m2, m3, m4⟩ | ⟨m1, m2, m3, m4⟩ | ⟨m1, m2, m3, m4⟩ | ⟨m1, m2, m3, m4⟩
    · rw [if_neg (by rw [m2]; simp), if_neg (by rw [m3]; simp), if_neg (by rw [m4]; simp)]
      have m5 : isN nm [110, 117, 108, 108, 105, 102] = false := isN_other m1 (by decide)
      unfold isN at m1 m2 m3 m4 m5 hco
      go_enter Try.func30, Try.ntmps30
      go_upto_region 1 with (fail)
      generalize w.alloc (.cells #[.int .i64 0, .int .i64 0, .string { data := #[] }] 26) = w1 at *
      obtain ⟨_, l0, l1, l2⟩ := C0.out
      obtain ⟨⟨c0, c1, c2⟩, ⟨y0, y1, y2⟩⟩ := HX.out.all
      have HS := hide (HX.out.set3 (nullV))
      have HBS := hide (below_setV HB.out (Nat.le_refl _) (nullV))
      clear HX HB C0
      go_wp2_with fail
      exact end_v Try.results30 rfl rfl HS.out ⟨rfl, HBS.out⟩
    · rw [if_pos m2]
      have m5 : isN nm [110, 117, 108, 108, 105, 102] = false := isN_other m2 (by decide)
      unfold isN at m1 m2 m3 m4 m5 hco
      go_enter Try.func30, Try.ntmps30
      go_upto_region 1 with (fail)
      generalize w.alloc (.cells #[.int .i64 0, .int .i64 0, .string { data := #[] }] 26) = w1 at *
      obtain ⟨_, l0, l1, l2⟩ := C0.out
      go_wp2_with fail
      refine (QN.out _ _).mono ?_
      rintro e w3 ⟨rfl, hb⟩
      replace HX := hide (HX.out.kept hb)
      replace HB := hide (Bel.then HB.out hb)
      clear hb
      clear l0 l1 l2 C0
      generalize numV _ = r at *
      obtain ⟨⟨c0, c1, c2⟩, ⟨y0, y1, y2⟩⟩ := HX.out.all
      have HS := hide (HX.out.set3 (r))
      have HBS := hide (below_setV HB.out (Nat.le_refl _) (r))
      clear HX HB 
      unfold valAgg
      go_wp2_with fail
      exact end_v Try.results30 rfl rfl HS.out ⟨rfl, HBS.out⟩
    · rw [if_neg (by rw [m2]; simp), if_pos m3]
      have m5 : isN nm [110, 117, 108, 108, 105, 102] = false := isN_other m3 (by decide)
      unfold isN at m1 m2 m3 m4 m5 hco
      generalize strV u1 = r at *
      go_enter Try.func30, Try.ntmps30
      go_upto_region 1 with (fail)
      generalize w.alloc (.cells #[.int .i64 0, .int .i64 0, .string { data := #[] }] 26) = w1 at *
      obtain ⟨_, l0, l1, l2⟩ := C0.out
      go_wp2_with fail
      refine (QS1.out _).mono ?_
      rintro e w3 ⟨rfl, hb⟩
      replace HX := hide (HX.out.kept hb)
      replace HB := hide (Bel.then HB.out hb)
      clear hb
      clear l0 l1 l2 C0
      obtain ⟨⟨c0, c1, c2⟩, ⟨y0, y1, y2⟩⟩ := HX.out.all
      have HS := hide (HX.out.set3 (r))
      have HBS := hide (below_setV HB.out (Nat.le_refl _) (r))
      clear HX HB 
      unfold valAgg
      go_wp2_with fail
      exact end_v Try.results30 rfl rfl HS.out ⟨rfl, HBS.out⟩
    · rw [if_neg (by rw [m2]; simp), if_neg (by rw [m3]; simp), if_pos m4]
      have m5 : isN nm [110, 117, 108, 108, 105, 102] = false := isN_other m4 (by decide)
      unfold isN at m1 m2 m3 m4 m5 hco
      generalize strV u2 = r at *
      go_enter Try.func30, Try.ntmps30
      go_upto_region 1 with (fail)
      generalize w.alloc (.cells #[.int .i64 0, .int .i64 0, .string { data := #[] }] 26) = w1 at *
      obtain ⟨_, l0, l1, l2⟩ := C0.out
      go_wp2_with fail
      refine (QS2.out _).mono ?_
      rintro e w3 ⟨rfl, hb⟩
      replace HX := hide (HX.out.kept hb)
      replace HB := hide (Bel.then HB.out hb)
      clear hb
      clear l0 l1 l2 C0
      obtain ⟨⟨c0, c1, c2⟩, ⟨y0, y1, y2⟩⟩ := HX.out.all
      have HS := hide (HX.out.set3 (r))
      have HBS := hide (below_setV HB.out (Nat.le_refl _) (r))
      clear HX HB 
      unfold valAgg
      go_wp2_with fail
      exact end_v Try.results30 rfl rfl HS.out ⟨rfl, HBS.out⟩
    · rw [if_neg (by rw [m2]; simp), if_neg (by rw [m3]; simp), if_neg (by rw [m4]; simp)]
      have hnu : isN nm [110, 117, 108, 108, 105, 102] = true ∨ isN nm [110, 117, 108, 108, 105, 102] = false := by cases isN nm [110, 117, 108, 108, 105, 102] <;> simp
      unfold isN at m1 m2 m3 m4 hco hnu
      rcases hnu with m5 | m5
      all_goals
        go_enter Try.func30, Try.ntmps30
        go_upto_region 1 with (fail)
        generalize w.alloc (.cells #[.int .i64 0, .int .i64 0, .string { data := #[] }] 26) = w1 at *
        obtain ⟨_, l0, l1, l2⟩ := C0.out
        obtain ⟨⟨c0, c1, c2⟩, ⟨y0, y1, y2⟩⟩ := HX.out.all
        have HS := hide (HX.out.set3 (nullV))
        have HBS := hide (below_setV HB.out (Nat.le_refl _) (nullV))
        clear HX HB C0
        go_wp2_with fail
        exact end_v Try.results30 rfl rfl HS.out ⟨rfl, HBS.out⟩
  · rw [if_neg (fun h => g2 h.2), if_neg g3]
    clear g2 g3
    rcases one_names nm with ⟨m1, m2, m3, m4⟩ | ⟨m1, m2, m3, m4⟩ | ⟨m1, m2, m3, m4⟩ | ⟨m1, m2, m3, m4⟩ | ⟨m1, m2, m3, m4⟩
    all_goals
      have hnu : isN nm [110, 117, 108, 108, 105, 102] = true ∨ isN nm [110, 117, 108, 108, 105, 102] = false := by cases isN nm [110, 117, 108, 108, 105, 102] <;> simp
      unfold isN at m1 m2 m3 m4 hco hnu
      rcases hnu with m5 | m5
      all_goals
        go_enter Try.func30, Try.ntmps30
        go_upto_region 1 with (fail)
        generalize w.alloc (.cells #[.int .i64 0, .int .i64 0, .string { data := #[] }] 26) = w1 at *
        obtain ⟨_, l0, l1, l2⟩ := C0.out
        obtain ⟨⟨c0, c1, c2⟩, ⟨y0, y1, y2⟩⟩ := HX.out.all
        have HS := hide (HX.out.set3 (nullV))
        have HBS := hide (below_setV HB.out (Nat.le_refl _) (nullV))
        clear HX HB C0
        go_wp2_with fail
        exact end_v Try.results30 rfl rfl HS.out ⟨rfl, HBS.out⟩
set_option maxRecDepth 100000 in
set_option maxHeartbeats 4000000 in
theorem rcalled_c (nm : ByteArray) (A : Option Addr) (n c : Nat) (l : List ValV) (w : World) (h : RowV w w.heap.size A n c l) (hs : ∀ v ∈ l, v.str.size ≤ 1048576) : Calls Try.prog 30 #[.string nm, .slice A n c] w (GivesV w (callV nm l)) := by
  unfold callV
  cases hco : isN nm [99, 111, 97, 108, 101, 115, 99, 101] with
  | true =>
    obtain rfl := isN_eq hco
    rw [if_pos rfl]
    exact rcoal_c A n c l w h
  | false =>
    rw [if_neg (by simp)]
    have HCO := hide hco
    unfold isN at hco
    have hlen := h.len
    have HX := hide (vb_one w)
    have HB := hide (Bel.one w zO)
    have HR := hide (h.kept (Bel.one w zO))
    have h2 := h
    clear h
    match l, hlen, HR, hs, h2 with
    | [a], hlen, HR, hs, h2 =>
      simp only [List.length_singleton] at hlen
      subst hlen
      simp only
      clear HX HB
      exact rcalled1_c nm a A c w h2 (hs a (by simp)) HCO.out
    | [a, b], hlen, HR, hs, h2 =>
      simp only [List.length_cons, List.length_nil, Nat.zero_add, Nat.reduceAdd] at hlen
      subst hlen
      simp only
      clear h2
      have Q := hide (fun W => rcompare_c a b W (by have := hs a (by simp); omega) (by have := hs b (by simp); omega))
      unfold nullifV
      generalize compV a b = cp at *
      obtain ⟨z, q⟩ := cp
      obtain ⟨k, m, s⟩ := a
      obtain ⟨k2, m2, s2⟩ := b
      unfold valAgg at Q
      simp only at Q ⊢
      clear hs
      cases hnu : isN nm [110, 117, 108, 108, 105, 102] with
      | false =>
        rw [if_neg (by simp)]
        unfold isN at hnu
        clear Q HR
        obtain ⟨⟨d0, d1, d2⟩, ⟨y0, y1, y2⟩⟩ := HX.out.all
        have HS := hide (HX.out.set3 nullV)
        have HBS := hide (below_setV HB.out (Nat.le_refl _) nullV)
        go_enter Try.func30, Try.ntmps30
        go_upto_region 1 with (fail)
        generalize w.alloc (.cells #[.int .i64 0, .int .i64 0, .string { data := #[] }] 26) = w1 at *
        clear HX HB 
        go_wp2_with fail
        exact end_v Try.results30 rfl rfl HS.out ⟨rfl, HBS.out⟩
      | true =>
        rw [if_pos rfl]
        unfold isN at hnu
        obtain ⟨blk, off, rfl, hlt, hcc⟩ := row_get HR.out (by omega)
        have hc0 := hcc 0 _ rfl
        have hc1 := hcc 1 _ rfl
        have l0 := hc0 0 _ rfl
        have l1 := hc0 1 _ rfl
        have l2 := hc0 2 _ rfl
        simp only [Nat.zero_mul, Nat.zero_add, Nat.add_zero] at l0 l1 l2
        have m0 := hc1 0 _ rfl
        have m1 := hc1 1 _ rfl
        have m2' := hc1 2 _ rfl
        simp only [Nat.one_mul, Nat.add_zero, Nat.reduceAdd] at m0 m1 m2'
        have C0 := hide (show Cl _ blk off k m s from ⟨hlt, l0, l1, l2⟩)
        have C1 := hide (show Cl _ blk (off + 3) k2 m2 s2 from ⟨hlt, m0, m1, m2'⟩)
        clear hcc hc0 hc1 hlt l0 l1 l2 m0 m1 m2'
        rcases (show (q = false) ∨ (q = true ∧ z = 0) ∨ (q = true ∧ ¬ z = 0) by cases q <;> simp <;> omega) with rfl | ⟨rfl, rfl⟩ | ⟨rfl, hz⟩
        · rw [if_neg (by simp)]
          go_enter Try.func30, Try.ntmps30
          go_upto_region 1 with (fail)
          generalize w.alloc (.cells #[.int .i64 0, .int .i64 0, .string { data := #[] }] 26) = w1 at *
          go_upto_region 9 with (fail)
          refine wp_region_held_drew (S := (fun w' => Cl w' blk off k m s ∧ Cl w' blk (off + 3) k2 m2 s2 ∧ VB w' w.heap.size nullV ∧ Below w.heap.size w w')) (by kernel_rfl) (⟨C0.out.kept (Below.refl _ _).drew, C1.out.kept (Below.refl _ _).drew, HX.out.kept (Below.refl _ _).drew, HB.out.drew⟩) (fun hHeld => ?_)
          first | (refine wpAnyH_take (i := 0) (v := ?_) nth0 (by kernel_rfl) (by kernel_rfl) (by kernel_rfl) (fun _ _ _ h => h) (Or.inl ⟨by rfl, ?_⟩) hHeld ?_; rotate_left; focus (intro wS hSw; (obtain ⟨_, _, _, _⟩ := hSw.1; obtain ⟨_, _, _, _⟩ := hSw.2.1); go_simp; try with_reducible rfl; done)) | (refine wpAnyH_take (i := 0) (v := undef) nth0 (by kernel_rfl) (by kernel_rfl) (by kernel_rfl) (fun _ _ _ h => h) (Or.inr ⟨by rfl, rfl⟩) hHeld ?_)
          (try simp only [Act.put]); (try simp only [List.setIfInBounds_toArray]); (try simp only [List.set_cons_succ]); (try simp only [List.set_cons_zero])
          first | (refine wpAnyH_take (i := 1) (v := ?_) nth1 (by kernel_rfl) (by kernel_rfl) (by kernel_rfl) (fun _ _ _ h => h) (Or.inl ⟨by rfl, ?_⟩) hHeld ?_; rotate_left; focus (intro wS hSw; (obtain ⟨_, _, _, _⟩ := hSw.1; obtain ⟨_, _, _, _⟩ := hSw.2.1); go_simp; try with_reducible rfl; done)) | (refine wpAnyH_take (i := 1) (v := undef) nth1 (by kernel_rfl) (by kernel_rfl) (by kernel_rfl) (fun _ _ _ h => h) (Or.inr ⟨by rfl, rfl⟩) hHeld ?_)
          (try simp only [Act.put]); (try simp only [List.setIfInBounds_toArray]); (try simp only [List.set_cons_succ]); (try simp only [List.set_cons_zero])
          first | (refine wpAnyH_take (i := 2) (v := ?_) nth2 (by kernel_rfl) (by kernel_rfl) (by kernel_rfl) (fun _ _ _ h => h) (Or.inl ⟨by rfl, ?_⟩) hHeld ?_; rotate_left; focus (intro wS hSw; (obtain ⟨_, _, _, _⟩ := hSw.1; obtain ⟨_, _, _, _⟩ := hSw.2.1); go_simp; try with_reducible rfl; done)) | (refine wpAnyH_take (i := 2) (v := undef) nth2 (by kernel_rfl) (by kernel_rfl) (by kernel_rfl) (fun _ _ _ h => h) (Or.inr ⟨by rfl, rfl⟩) hHeld ?_)
          (try simp only [Act.put]); (try simp only [List.setIfInBounds_toArray]); (try simp only [List.set_cons_succ]); (try simp only [List.set_cons_zero])
          first | (refine wpAnyH_take (i := 3) (v := ?_) nth3 (by kernel_rfl) (by kernel_rfl) (by kernel_rfl) (fun _ _ _ h => h) (Or.inl ⟨by rfl, ?_⟩) hHeld ?_; rotate_left; focus (intro wS hSw; (obtain ⟨_, _, _, _⟩ := hSw.1; obtain ⟨_, _, _, _⟩ := hSw.2.1); go_simp; try with_reducible rfl; done)) | (refine wpAnyH_take (i := 3) (v := undef) nth3 (by kernel_rfl) (by kernel_rfl) (by kernel_rfl) (fun _ _ _ h => h) (Or.inr ⟨by rfl, rfl⟩) hHeld ?_)
          (try simp only [Act.put]); (try simp only [List.setIfInBounds_toArray]); (try simp only [List.set_cons_succ]); (try simp only [List.set_cons_zero])
          first | (refine wpAnyH_take (i := 4) (v := ?_) nth4 (by kernel_rfl) (by kernel_rfl) (by kernel_rfl) (fun _ _ _ h => h) (Or.inl ⟨by rfl, ?_⟩) hHeld ?_; rotate_left; focus (intro wS hSw; (obtain ⟨_, _, _, _⟩ := hSw.1; obtain ⟨_, _, _, _⟩ := hSw.2.1); go_simp; try with_reducible rfl; done)) | (refine wpAnyH_take (i := 4) (v := undef) nth4 (by kernel_rfl) (by kernel_rfl) (by kernel_rfl) (fun _ _ _ h => h) (Or.inr ⟨by rfl, rfl⟩) hHeld ?_)
          (try simp only [Act.put]); (try simp only [List.setIfInBounds_toArray]); (try simp only [List.set_cons_succ]); (try simp only [List.set_cons_zero])
          first | (refine wpAnyH_take (i := 5) (v := ?_) nth5 (by kernel_rfl) (by kernel_rfl) (by kernel_rfl) (fun _ _ _ h => h) (Or.inl ⟨by rfl, ?_⟩) hHeld ?_; rotate_left; focus (intro wS hSw; (obtain ⟨_, _, _, _⟩ := hSw.1; obtain ⟨_, _, _, _⟩ := hSw.2.1); go_simp; try with_reducible rfl; done)) | (refine wpAnyH_take (i := 5) (v := undef) nth5 (by kernel_rfl) (by kernel_rfl) (by kernel_rfl) (fun _ _ _ h => h) (Or.inr ⟨by rfl, rfl⟩) hHeld ?_)
          (try simp only [Act.put]); (try simp only [List.setIfInBounds_toArray]); (try simp only [List.set_cons_succ]); (try simp only [List.set_cons_zero])
          refine wpAnyH_ready (rs := [6]) (by kernel_rfl) (by simp) ?_
          refine AllReadyH.cons nth6 (fun K hK => ?_) AllReadyH.nil
          go_simp
          (go_at_call 54; refine (Q.out _).mono ?_; rintro e w' ⟨rfl, hb⟩)
          refine hK.out _ _ (⟨hHeld.1.kept hb, hHeld.2.1.kept hb, hHeld.2.2.1.kept hb, Bel.then hHeld.2.2.2 hb⟩) (fun hHeld => ?_)
          clear hK K
          (try simp only [Act.put]); (try simp only [List.setIfInBounds_toArray]); (try simp only [List.set_cons_succ]); (try simp only [List.set_cons_zero])
          first | (refine wpAnyH_take (i := 7) (v := ?_) nth7 (by kernel_rfl) (by kernel_rfl) (by kernel_rfl) (fun _ _ _ h => h) (Or.inl ⟨by rfl, ?_⟩) hHeld ?_; rotate_left; focus (intro wS hSw; (obtain ⟨_, _, _, _⟩ := hSw.1; obtain ⟨_, _, _, _⟩ := hSw.2.1); go_simp; try with_reducible rfl; done)) | (refine wpAnyH_take (i := 7) (v := undef) nth7 (by kernel_rfl) (by kernel_rfl) (by kernel_rfl) (fun _ _ _ h => h) (Or.inr ⟨by rfl, rfl⟩) hHeld ?_)
          (try simp only [Act.put]); (try simp only [List.setIfInBounds_toArray]); (try simp only [List.set_cons_succ]); (try simp only [List.set_cons_zero])
          first | (refine wpAnyH_take (i := 8) (v := ?_) nth8 (by kernel_rfl) (by kernel_rfl) (by kernel_rfl) (fun _ _ _ h => h) (Or.inl ⟨by rfl, ?_⟩) hHeld ?_; rotate_left; focus (intro wS hSw; (obtain ⟨_, _, _, _⟩ := hSw.1; obtain ⟨_, _, _, _⟩ := hSw.2.1); go_simp; try with_reducible rfl; done)) | (refine wpAnyH_take (i := 8) (v := undef) nth8 (by kernel_rfl) (by kernel_rfl) (by kernel_rfl) (fun _ _ _ h => h) (Or.inr ⟨by rfl, rfl⟩) hHeld ?_)
          (try simp only [Act.put]); (try simp only [List.setIfInBounds_toArray]); (try simp only [List.set_cons_succ]); (try simp only [List.set_cons_zero])
          first | (refine wpAnyH_take (i := 9) (v := ?_) nth9 (by kernel_rfl) (by kernel_rfl) (by kernel_rfl) (fun _ _ _ h => h) (Or.inl ⟨by rfl, ?_⟩) hHeld ?_; rotate_left; focus (intro wS hSw; (obtain ⟨_, _, _, _⟩ := hSw.1; obtain ⟨_, _, _, _⟩ := hSw.2.1); go_simp; try with_reducible rfl; done)) | (refine wpAnyH_take (i := 9) (v := undef) nth9 (by kernel_rfl) (by kernel_rfl) (by kernel_rfl) (fun _ _ _ h => h) (Or.inr ⟨by rfl, rfl⟩) hHeld ?_)
          (try simp only [Act.put]); (try simp only [List.setIfInBounds_toArray]); (try simp only [List.set_cons_succ]); (try simp only [List.set_cons_zero])
          first | (refine wpAnyH_take (i := 10) (v := ?_) nth10 (by kernel_rfl) (by kernel_rfl) (by kernel_rfl) (fun _ _ _ h => h) (Or.inl ⟨by rfl, ?_⟩) hHeld ?_; rotate_left; focus (intro wS hSw; (obtain ⟨_, _, _, _⟩ := hSw.1; obtain ⟨_, _, _, _⟩ := hSw.2.1); go_simp; try with_reducible rfl; done)) | (refine wpAnyH_take (i := 10) (v := undef) nth10 (by kernel_rfl) (by kernel_rfl) (by kernel_rfl) (fun _ _ _ h => h) (Or.inr ⟨by rfl, rfl⟩) hHeld ?_)
          (try simp only [Act.put]); (try simp only [List.setIfInBounds_toArray]); (try simp only [List.set_cons_succ]); (try simp only [List.set_cons_zero])
          first | (refine wpAnyH_take (i := 11) (v := ?_) nth11 (by kernel_rfl) (by kernel_rfl) (by kernel_rfl) (fun _ _ _ h => h) (Or.inl ⟨by rfl, ?_⟩) hHeld ?_; rotate_left; focus (intro wS hSw; (obtain ⟨_, _, _, _⟩ := hSw.1; obtain ⟨_, _, _, _⟩ := hSw.2.1); go_simp; try with_reducible rfl; done)) | (refine wpAnyH_take (i := 11) (v := undef) nth11 (by kernel_rfl) (by kernel_rfl) (by kernel_rfl) (fun _ _ _ h => h) (Or.inr ⟨by rfl, rfl⟩) hHeld ?_)
          (try simp only [Act.put]); (try simp only [List.setIfInBounds_toArray]); (try simp only [List.set_cons_succ]); (try simp only [List.set_cons_zero])
          refine wpAnyH_done (by kernel_rfl) ?_ _
          obtain ⟨C0, _, HX, HB⟩ := hHeld
          replace C0 := hide C0
          replace HX := hide HX
          replace HB := hide HB
          obtain ⟨_, p0, p1, p2⟩ := C0.out
          obtain ⟨⟨c0, c1, c2⟩, ⟨y0, y1, y2⟩⟩ := HX.out.all
          have HS := hide (HX.out.set3 (⟨k, m, s⟩))
          have HBS := hide (below_setV HB.out (Nat.le_refl _) (⟨k, m, s⟩))
          clear HX HB C0
          go_wp2_with fail
          exact end_v Try.results30 rfl rfl HS.out ⟨rfl, HBS.out⟩
        · rw [if_pos ⟨rfl, rfl⟩]
          go_enter Try.func30, Try.ntmps30
          go_upto_region 1 with (fail)
          generalize w.alloc (.cells #[.int .i64 0, .int .i64 0, .string { data := #[] }] 26) = w1 at *
          go_upto_region 9 with (fail)
          refine wp_region_held_drew (S := (fun w' => Cl w' blk off k m s ∧ Cl w' blk (off + 3) k2 m2 s2 ∧ VB w' w.heap.size nullV ∧ Below w.heap.size w w')) (by kernel_rfl) (⟨C0.out.kept (Below.refl _ _).drew, C1.out.kept (Below.refl _ _).drew, HX.out.kept (Below.refl _ _).drew, HB.out.drew⟩) (fun hHeld => ?_)
          first | (refine wpAnyH_take (i := 0) (v := ?_) nth0 (by kernel_rfl) (by kernel_rfl) (by kernel_rfl) (fun _ _ _ h => h) (Or.inl ⟨by rfl, ?_⟩) hHeld ?_; rotate_left; focus (intro wS hSw; (obtain ⟨_, _, _, _⟩ := hSw.1; obtain ⟨_, _, _, _⟩ := hSw.2.1); go_simp; try with_reducible rfl; done)) | (refine wpAnyH_take (i := 0) (v := undef) nth0 (by kernel_rfl) (by kernel_rfl) (by kernel_rfl) (fun _ _ _ h => h) (Or.inr ⟨by rfl, rfl⟩) hHeld ?_)
          (try simp only [Act.put]); (try simp only [List.setIfInBounds_toArray]); (try simp only [List.set_cons_succ]); (try simp only [List.set_cons_zero])
          first | (refine wpAnyH_take (i := 1) (v := ?_) nth1 (by kernel_rfl) (by kernel_rfl) (by kernel_rfl) (fun _ _ _ h => h) (Or.inl ⟨by rfl, ?_⟩) hHeld ?_; rotate_left; focus (intro wS hSw; (obtain ⟨_, _, _, _⟩ := hSw.1; obtain ⟨_, _, _, _⟩ := hSw.2.1); go_simp; try with_reducible rfl; done)) | (refine wpAnyH_take (i := 1) (v := undef) nth1 (by kernel_rfl) (by kernel_rfl) (by kernel_rfl) (fun _ _ _ h => h) (Or.inr ⟨by rfl, rfl⟩) hHeld ?_)
          (try simp only [Act.put]); (try simp only [List.setIfInBounds_toArray]); (try simp only [List.set_cons_succ]); (try simp only [List.set_cons_zero])
          first | (refine wpAnyH_take (i := 2) (v := ?_) nth2 (by kernel_rfl) (by kernel_rfl) (by kernel_rfl) (fun _ _ _ h => h) (Or.inl ⟨by rfl, ?_⟩) hHeld ?_; rotate_left; focus (intro wS hSw; (obtain ⟨_, _, _, _⟩ := hSw.1; obtain ⟨_, _, _, _⟩ := hSw.2.1); go_simp; try with_reducible rfl; done)) | (refine wpAnyH_take (i := 2) (v := undef) nth2 (by kernel_rfl) (by kernel_rfl) (by kernel_rfl) (fun _ _ _ h => h) (Or.inr ⟨by rfl, rfl⟩) hHeld ?_)
          (try simp only [Act.put]); (try simp only [List.setIfInBounds_toArray]); (try simp only [List.set_cons_succ]); (try simp only [List.set_cons_zero])
          first | (refine wpAnyH_take (i := 3) (v := ?_) nth3 (by kernel_rfl) (by kernel_rfl) (by kernel_rfl) (fun _ _ _ h => h) (Or.inl ⟨by rfl, ?_⟩) hHeld ?_; rotate_left; focus (intro wS hSw; (obtain ⟨_, _, _, _⟩ := hSw.1; obtain ⟨_, _, _, _⟩ := hSw.2.1); go_simp; try with_reducible rfl; done)) | (refine wpAnyH_take (i := 3) (v := undef) nth3 (by kernel_rfl) (by kernel_rfl) (by kernel_rfl) (fun _ _ _ h => h) (Or.inr ⟨by rfl, rfl⟩) hHeld ?_)
          (try simp only [Act.put]); (try simp only [List.setIfInBounds_toArray]); (try simp only [List.set_cons_succ]); (try simp only [List.set_cons_zero])
          first | (refine wpAnyH_take (i := 4) (v := ?_) nth4 (by kernel_rfl) (by kernel_rfl) (by kernel_rfl) (fun _ _ _ h => h) (Or.inl ⟨by rfl, ?_⟩) hHeld ?_; rotate_left; focus (intro wS hSw; (obtain ⟨_, _, _, _⟩ := hSw.1; obtain ⟨_, _, _, _⟩ := hSw.2.1); go_simp; try with_reducible rfl; done)) | (refine wpAnyH_take (i := 4) (v := undef) nth4 (by kernel_rfl) (by kernel_rfl) (by kernel_rfl) (fun _ _ _ h => h) (Or.inr ⟨by rfl, rfl⟩) hHeld ?_)
          (try simp only [Act.put]); (try simp only [List.setIfInBounds_toArray]); (try simp only [List.set_cons_succ]); (try simp only [List.set_cons_zero])
          first | (refine wpAnyH_take (i := 5) (v := ?_) nth5 (by kernel_rfl) (by kernel_rfl) (by kernel_rfl) (fun _ _ _ h => h) (Or.inl ⟨by rfl, ?_⟩) hHeld ?_; rotate_left; focus (intro wS hSw; (obtain ⟨_, _, _, _⟩ := hSw.1; obtain ⟨_, _, _, _⟩ := hSw.2.1); go_simp; try with_reducible rfl; done)) | (refine wpAnyH_take (i := 5) (v := undef) nth5 (by kernel_rfl) (by kernel_rfl) (by kernel_rfl) (fun _ _ _ h => h) (Or.inr ⟨by rfl, rfl⟩) hHeld ?_)
          (try simp only [Act.put]); (try simp only [List.setIfInBounds_toArray]); (try simp only [List.set_cons_succ]); (try simp only [List.set_cons_zero])
          refine wpAnyH_ready (rs := [6]) (by kernel_rfl) (by simp) ?_
          refine AllReadyH.cons nth6 (fun K hK => ?_) AllReadyH.nil
          go_simp
          (go_at_call 54; refine (Q.out _).mono ?_; rintro e w' ⟨rfl, hb⟩)
          refine hK.out _ _ (⟨hHeld.1.kept hb, hHeld.2.1.kept hb, hHeld.2.2.1.kept hb, Bel.then hHeld.2.2.2 hb⟩) (fun hHeld => ?_)
          clear hK K
          (try simp only [Act.put]); (try simp only [List.setIfInBounds_toArray]); (try simp only [List.set_cons_succ]); (try simp only [List.set_cons_zero])
          first | (refine wpAnyH_take (i := 7) (v := ?_) nth7 (by kernel_rfl) (by kernel_rfl) (by kernel_rfl) (fun _ _ _ h => h) (Or.inl ⟨by rfl, ?_⟩) hHeld ?_; rotate_left; focus (intro wS hSw; (obtain ⟨_, _, _, _⟩ := hSw.1; obtain ⟨_, _, _, _⟩ := hSw.2.1); go_simp; try with_reducible rfl; done)) | (refine wpAnyH_take (i := 7) (v := undef) nth7 (by kernel_rfl) (by kernel_rfl) (by kernel_rfl) (fun _ _ _ h => h) (Or.inr ⟨by rfl, rfl⟩) hHeld ?_)
          (try simp only [Act.put]); (try simp only [List.setIfInBounds_toArray]); (try simp only [List.set_cons_succ]); (try simp only [List.set_cons_zero])
          first | (refine wpAnyH_take (i := 8) (v := ?_) nth8 (by kernel_rfl) (by kernel_rfl) (by kernel_rfl) (fun _ _ _ h => h) (Or.inl ⟨by rfl, ?_⟩) hHeld ?_; rotate_left; focus (intro wS hSw; (obtain ⟨_, _, _, _⟩ := hSw.1; obtain ⟨_, _, _, _⟩ := hSw.2.1); go_simp; try with_reducible rfl; done)) | (refine wpAnyH_take (i := 8) (v := undef) nth8 (by kernel_rfl) (by kernel_rfl) (by kernel_rfl) (fun _ _ _ h => h) (Or.inr ⟨by rfl, rfl⟩) hHeld ?_)
          (try simp only [Act.put]); (try simp only [List.setIfInBounds_toArray]); (try simp only [List.set_cons_succ]); (try simp only [List.set_cons_zero])
          first | (refine wpAnyH_take (i := 9) (v := ?_) nth9 (by kernel_rfl) (by kernel_rfl) (by kernel_rfl) (fun _ _ _ h => h) (Or.inl ⟨by rfl, ?_⟩) hHeld ?_; rotate_left; focus (intro wS hSw; (obtain ⟨_, _, _, _⟩ := hSw.1; obtain ⟨_, _, _, _⟩ := hSw.2.1); go_simp; try with_reducible rfl; done)) | (refine wpAnyH_take (i := 9) (v := undef) nth9 (by kernel_rfl) (by kernel_rfl) (by kernel_rfl) (fun _ _ _ h => h) (Or.inr ⟨by rfl, rfl⟩) hHeld ?_)
          (try simp only [Act.put]); (try simp only [List.setIfInBounds_toArray]); (try simp only [List.set_cons_succ]); (try simp only [List.set_cons_zero])
          first | (refine wpAnyH_take (i := 10) (v := ?_) nth10 (by kernel_rfl) (by kernel_rfl) (by kernel_rfl) (fun _ _ _ h => h) (Or.inl ⟨by rfl, ?_⟩) hHeld ?_; rotate_left; focus (intro wS hSw; (obtain ⟨_, _, _, _⟩ := hSw.1; obtain ⟨_, _, _, _⟩ := hSw.2.1); go_simp; try with_reducible rfl; done)) | (refine wpAnyH_take (i := 10) (v := undef) nth10 (by kernel_rfl) (by kernel_rfl) (by kernel_rfl) (fun _ _ _ h => h) (Or.inr ⟨by rfl, rfl⟩) hHeld ?_)
          (try simp only [Act.put]); (try simp only [List.setIfInBounds_toArray]); (try simp only [List.set_cons_succ]); (try simp only [List.set_cons_zero])
          first | (refine wpAnyH_take (i := 11) (v := ?_) nth11 (by kernel_rfl) (by kernel_rfl) (by kernel_rfl) (fun _ _ _ h => h) (Or.inl ⟨by rfl, ?_⟩) hHeld ?_; rotate_left; focus (intro wS hSw; (obtain ⟨_, _, _, _⟩ := hSw.1; obtain ⟨_, _, _, _⟩ := hSw.2.1); go_simp; try with_reducible rfl; done)) | (refine wpAnyH_take (i := 11) (v := undef) nth11 (by kernel_rfl) (by kernel_rfl) (by kernel_rfl) (fun _ _ _ h => h) (Or.inr ⟨by rfl, rfl⟩) hHeld ?_)
          (try simp only [Act.put]); (try simp only [List.setIfInBounds_toArray]); (try simp only [List.set_cons_succ]); (try simp only [List.set_cons_zero])
          refine wpAnyH_done (by kernel_rfl) ?_ _
          obtain ⟨C0, _, HX, HB⟩ := hHeld
          replace C0 := hide C0
          replace HX := hide HX
          replace HB := hide HB
          obtain ⟨⟨c0, c1, c2⟩, ⟨y0, y1, y2⟩⟩ := HX.out.all
          have HS := hide (HX.out.set3 (nullV))
          have HBS := hide (below_setV HB.out (Nat.le_refl _) (nullV))
          clear HX HB C0
          go_wp2_with fail
          exact end_v Try.results30 rfl rfl HS.out ⟨rfl, HBS.out⟩
        · rw [if_neg (fun h => hz h.2)]
          have hz2 : (z == 0) = false := by simpa using hz
          clear hz
          go_enter Try.func30, Try.ntmps30
          go_upto_region 1 with (fail)
          generalize w.alloc (.cells #[.int .i64 0, .int .i64 0, .string { data := #[] }] 26) = w1 at *
          go_upto_region 9 with (fail)
          refine wp_region_held_drew (S := (fun w' => Cl w' blk off k m s ∧ Cl w' blk (off + 3) k2 m2 s2 ∧ VB w' w.heap.size nullV ∧ Below w.heap.size w w')) (by kernel_rfl) (⟨C0.out.kept (Below.refl _ _).drew, C1.out.kept (Below.refl _ _).drew, HX.out.kept (Below.refl _ _).drew, HB.out.drew⟩) (fun hHeld => ?_)
          first | (refine wpAnyH_take (i := 0) (v := ?_) nth0 (by kernel_rfl) (by kernel_rfl) (by kernel_rfl) (fun _ _ _ h => h) (Or.inl ⟨by rfl, ?_⟩) hHeld ?_; rotate_left; focus (intro wS hSw; (obtain ⟨_, _, _, _⟩ := hSw.1; obtain ⟨_, _, _, _⟩ := hSw.2.1); go_simp; try with_reducible rfl; done)) | (refine wpAnyH_take (i := 0) (v := undef) nth0 (by kernel_rfl) (by kernel_rfl) (by kernel_rfl) (fun _ _ _ h => h) (Or.inr ⟨by rfl, rfl⟩) hHeld ?_)
          (try simp only [Act.put]); (try simp only [List.setIfInBounds_toArray]); (try simp only [List.set_cons_succ]); (try simp only [List.set_cons_zero])
          first | (refine wpAnyH_take (i := 1) (v := ?_) nth1 (by kernel_rfl) (by kernel_rfl) (by kernel_rfl) (fun _ _ _ h => h) (Or.inl ⟨by rfl, ?_⟩) hHeld ?_; rotate_left; focus (intro wS hSw; (obtain ⟨_, _, _, _⟩ := hSw.1; obtain ⟨_, _, _, _⟩ := hSw.2.1); go_simp; try with_reducible rfl; done)) | (refine wpAnyH_take (i := 1) (v := undef) nth1 (by kernel_rfl) (by kernel_rfl) (by kernel_rfl) (fun _ _ _ h => h) (Or.inr ⟨by rfl, rfl⟩) hHeld ?_)
          (try simp only [Act.put]); (try simp only [List.setIfInBounds_toArray]); (try simp only [List.set_cons_succ]); (try simp only [List.set_cons_zero])
          first | (refine wpAnyH_take (i := 2) (v := ?_) nth2 (by kernel_rfl) (by kernel_rfl) (by kernel_rfl) (fun _ _ _ h => h) (Or.inl ⟨by rfl, ?_⟩) hHeld ?_; rotate_left; focus (intro wS hSw; (obtain ⟨_, _, _, _⟩ := hSw.1; obtain ⟨_, _, _, _⟩ := hSw.2.1); go_simp; try with_reducible rfl; done)) | (refine wpAnyH_take (i := 2) (v := undef) nth2 (by kernel_rfl) (by kernel_rfl) (by kernel_rfl) (fun _ _ _ h => h) (Or.inr ⟨by rfl, rfl⟩) hHeld ?_)
          (try simp only [Act.put]); (try simp only [List.setIfInBounds_toArray]); (try simp only [List.set_cons_succ]); (try simp only [List.set_cons_zero])
          first | (refine wpAnyH_take (i := 3) (v := ?_) nth3 (by kernel_rfl) (by kernel_rfl) (by kernel_rfl) (fun _ _ _ h => h) (Or.inl ⟨by rfl, ?_⟩) hHeld ?_; rotate_left; focus (intro wS hSw; (obtain ⟨_, _, _, _⟩ := hSw.1; obtain ⟨_, _, _, _⟩ := hSw.2.1); go_simp; try with_reducible rfl; done)) | (refine wpAnyH_take (i := 3) (v := undef) nth3 (by kernel_rfl) (by kernel_rfl) (by kernel_rfl) (fun _ _ _ h => h) (Or.inr ⟨by rfl, rfl⟩) hHeld ?_)
          (try simp only [Act.put]); (try simp only [List.setIfInBounds_toArray]); (try simp only [List.set_cons_succ]); (try simp only [List.set_cons_zero])
          first | (refine wpAnyH_take (i := 4) (v := ?_) nth4 (by kernel_rfl) (by kernel_rfl) (by kernel_rfl) (fun _ _ _ h => h) (Or.inl ⟨by rfl, ?_⟩) hHeld ?_; rotate_left; focus (intro wS hSw; (obtain ⟨_, _, _, _⟩ := hSw.1; obtain ⟨_, _, _, _⟩ := hSw.2.1); go_simp; try with_reducible rfl; done)) | (refine wpAnyH_take (i := 4) (v := undef) nth4 (by kernel_rfl) (by kernel_rfl) (by kernel_rfl) (fun _ _ _ h => h) (Or.inr ⟨by rfl, rfl⟩) hHeld ?_)
          (try simp only [Act.put]); (try simp only [List.setIfInBounds_toArray]); (try simp only [List.set_cons_succ]); (try simp only [List.set_cons_zero])
          first | (refine wpAnyH_take (i := 5) (v := ?_) nth5 (by kernel_rfl) (by kernel_rfl) (by kernel_rfl) (fun _ _ _ h => h) (Or.inl ⟨by rfl, ?_⟩) hHeld ?_; rotate_left; focus (intro wS hSw; (obtain ⟨_, _, _, _⟩ := hSw.1; obtain ⟨_, _, _, _⟩ := hSw.2.1); go_simp; try with_reducible rfl; done)) | (refine wpAnyH_take (i := 5) (v := undef) nth5 (by kernel_rfl) (by kernel_rfl) (by kernel_rfl) (fun _ _ _ h => h) (Or.inr ⟨by rfl, rfl⟩) hHeld ?_)
          (try simp only [Act.put]); (try simp only [List.setIfInBounds_toArray]); (try simp only [List.set_cons_succ]); (try simp only [List.set_cons_zero])
          refine wpAnyH_ready (rs := [6]) (by kernel_rfl) (by simp) ?_
          refine AllReadyH.cons nth6 (fun K hK => ?_) AllReadyH.nil
          go_simp
          (go_at_call 54; refine (Q.out _).mono ?_; rintro e w' ⟨rfl, hb⟩)
          refine hK.out _ _ (⟨hHeld.1.kept hb, hHeld.2.1.kept hb, hHeld.2.2.1.kept hb, Bel.then hHeld.2.2.2 hb⟩) (fun hHeld => ?_)
          clear hK K
          (try simp only [Act.put]); (try simp only [List.setIfInBounds_toArray]); (try simp only [List.set_cons_succ]); (try simp only [List.set_cons_zero])
          first | (refine wpAnyH_take (i := 7) (v := ?_) nth7 (by kernel_rfl) (by kernel_rfl) (by kernel_rfl) (fun _ _ _ h => h) (Or.inl ⟨by rfl, ?_⟩) hHeld ?_; rotate_left; focus (intro wS hSw; (obtain ⟨_, _, _, _⟩ := hSw.1; obtain ⟨_, _, _, _⟩ := hSw.2.1); go_simp; try with_reducible rfl; done)) | (refine wpAnyH_take (i := 7) (v := undef) nth7 (by kernel_rfl) (by kernel_rfl) (by kernel_rfl) (fun _ _ _ h => h) (Or.inr ⟨by rfl, rfl⟩) hHeld ?_)
          (try simp only [Act.put]); (try simp only [List.setIfInBounds_toArray]); (try simp only [List.set_cons_succ]); (try simp only [List.set_cons_zero])
          first | (refine wpAnyH_take (i := 8) (v := ?_) nth8 (by kernel_rfl) (by kernel_rfl) (by kernel_rfl) (fun _ _ _ h => h) (Or.inl ⟨by rfl, ?_⟩) hHeld ?_; rotate_left; focus (intro wS hSw; (obtain ⟨_, _, _, _⟩ := hSw.1; obtain ⟨_, _, _, _⟩ := hSw.2.1); go_simp; try with_reducible rfl; done)) | (refine wpAnyH_take (i := 8) (v := undef) nth8 (by kernel_rfl) (by kernel_rfl) (by kernel_rfl) (fun _ _ _ h => h) (Or.inr ⟨by rfl, rfl⟩) hHeld ?_)
          (try simp only [Act.put]); (try simp only [List.setIfInBounds_toArray]); (try simp only [List.set_cons_succ]); (try simp only [List.set_cons_zero])
          first | (refine wpAnyH_take (i := 9) (v := ?_) nth9 (by kernel_rfl) (by kernel_rfl) (by kernel_rfl) (fun _ _ _ h => h) (Or.inl ⟨by rfl, ?_⟩) hHeld ?_; rotate_left; focus (intro wS hSw; (obtain ⟨_, _, _, _⟩ := hSw.1; obtain ⟨_, _, _, _⟩ := hSw.2.1); go_simp; try with_reducible rfl; done)) | (refine wpAnyH_take (i := 9) (v := undef) nth9 (by kernel_rfl) (by kernel_rfl) (by kernel_rfl) (fun _ _ _ h => h) (Or.inr ⟨by rfl, rfl⟩) hHeld ?_)
          (try simp only [Act.put]); (try simp only [List.setIfInBounds_toArray]); (try simp only [List.set_cons_succ]); (try simp only [List.set_cons_zero])
          first | (refine wpAnyH_take (i := 10) (v := ?_) nth10 (by kernel_rfl) (by kernel_rfl) (by kernel_rfl) (fun _ _ _ h => h) (Or.inl ⟨by rfl, ?_⟩) hHeld ?_; rotate_left; focus (intro wS hSw; (obtain ⟨_, _, _, _⟩ := hSw.1; obtain ⟨_, _, _, _⟩ := hSw.2.1); go_simp; try with_reducible rfl; done)) | (refine wpAnyH_take (i := 10) (v := undef) nth10 (by kernel_rfl) (by kernel_rfl) (by kernel_rfl) (fun _ _ _ h => h) (Or.inr ⟨by rfl, rfl⟩) hHeld ?_)
          (try simp only [Act.put]); (try simp only [List.setIfInBounds_toArray]); (try simp only [List.set_cons_succ]); (try simp only [List.set_cons_zero])
          first | (refine wpAnyH_take (i := 11) (v := ?_) nth11 (by kernel_rfl) (by kernel_rfl) (by kernel_rfl) (fun _ _ _ h => h) (Or.inl ⟨by rfl, ?_⟩) hHeld ?_; rotate_left; focus (intro wS hSw; (obtain ⟨_, _, _, _⟩ := hSw.1; obtain ⟨_, _, _, _⟩ := hSw.2.1); go_simp; try with_reducible rfl; done)) | (refine wpAnyH_take (i := 11) (v := undef) nth11 (by kernel_rfl) (by kernel_rfl) (by kernel_rfl) (fun _ _ _ h => h) (Or.inr ⟨by rfl, rfl⟩) hHeld ?_)
          (try simp only [Act.put]); (try simp only [List.setIfInBounds_toArray]); (try simp only [List.set_cons_succ]); (try simp only [List.set_cons_zero])
          refine wpAnyH_done (by kernel_rfl) ?_ _
          obtain ⟨C0, _, HX, HB⟩ := hHeld
          replace C0 := hide C0
          replace HX := hide HX
          replace HB := hide HB
          obtain ⟨_, p0, p1, p2⟩ := C0.out
          obtain ⟨⟨c0, c1, c2⟩, ⟨y0, y1, y2⟩⟩ := HX.out.all
          have HS := hide (HX.out.set3 (⟨k, m, s⟩))
          have HBS := hide (below_setV HB.out (Nat.le_refl _) (⟨k, m, s⟩))
          clear HX HB C0
          go_wp2_with fail
          exact end_v Try.results30 rfl rfl HS.out ⟨rfl, HBS.out⟩
    | [], hlen, HR, hs, h2 =>
      simp only
      have n1 : ((n : Int) == 2) = false := by simp only [List.length_nil] at hlen; rw [beq_eq_false_iff_ne]; omega
      have n2 : ((n : Int) != 1) = true := by simp only [List.length_nil] at hlen; rw [bne_iff_ne]; omega
      clear hlen HR hs h2
      have hnu : isN nm [110, 117, 108, 108, 105, 102] = true ∨ isN nm [110, 117, 108, 108, 105, 102] = false := by cases isN nm [110, 117, 108, 108, 105, 102] <;> simp
      unfold isN at hnu
      rcases hnu with hnu | hnu
      all_goals
        obtain ⟨⟨d0, d1, d2⟩, ⟨y0, y1, y2⟩⟩ := HX.out.all
        have HS := hide (HX.out.set3 nullV)
        have HBS := hide (below_setV HB.out (Nat.le_refl _) nullV)
        go_enter Try.func30, Try.ntmps30
        go_upto_region 1 with (fail)
        generalize w.alloc (.cells #[.int .i64 0, .int .i64 0, .string { data := #[] }] 26) = w1 at *
        clear HX HB 
        go_wp2_with fail
        exact end_v Try.results30 rfl rfl HS.out ⟨rfl, HBS.out⟩
    | x :: y :: z :: l, hlen, HR, hs, h2 =>
      simp only
      have n1 : ((n : Int) == 2) = false := by simp only [List.length_cons] at hlen; rw [beq_eq_false_iff_ne]; omega
      have n2 : ((n : Int) != 1) = true := by simp only [List.length_cons] at hlen; rw [bne_iff_ne]; omega
      clear hlen HR hs h2
      have hnu : isN nm [110, 117, 108, 108, 105, 102] = true ∨ isN nm [110, 117, 108, 108, 105, 102] = false := by cases isN nm [110, 117, 108, 108, 105, 102] <;> simp
      unfold isN at hnu
      rcases hnu with hnu | hnu
      all_goals
        obtain ⟨⟨d0, d1, d2⟩, ⟨y0, y1, y2⟩⟩ := HX.out.all
        have HS := hide (HX.out.set3 nullV)
        have HBS := hide (below_setV HB.out (Nat.le_refl _) nullV)
        go_enter Try.func30, Try.ntmps30
        go_upto_region 1 with (fail)
        generalize w.alloc (.cells #[.int .i64 0, .int .i64 0, .string { data := #[] }] 26) = w1 at *
        clear HX HB 
        go_wp2_with fail
        exact end_v Try.results30 rfl rfl HS.out ⟨rfl, HBS.out⟩
end Go.Proofs.Ytlkeghfdpbfhbaa
