/- The reference's ints, texts, among, choose, turned. -/
import Derived.Test.YtlkeghfdpbfhbaaScS
namespace Go.Proofs.Ytlkeghfdpbfhbaa
set_option linter.unusedVariables false
open Go.ChangeShapes Go.WideShapes Go.ChangeAt Go.RowKit

set_option maxRecDepth 100000 in
theorem rints_c (a b : ValV) (A : Option Addr) (c : Nat) (w : World) (h : RowV w w.heap.size A 2 c [a, b]) : Calls Try.prog 64 #[.slice A 2 c] w fun e w' => e = .returned (.bool (a.kind == 2 && b.kind == 2)) ∧ w = w' := by
  obtain ⟨k, n, s⟩ := a
  obtain ⟨k2, n2, s2⟩ := b
  simp only
  obtain ⟨blk, off, rfl, hlt, hcc⟩ := row_get h (by omega)
  have hc0 := hcc 0 _ rfl
  have hc1 := hcc 1 _ rfl
  have l0 := hc0 0 _ rfl
  have l1 := hc0 1 _ rfl
  have l2 := hc0 2 _ rfl
  simp only [Nat.zero_mul, Nat.zero_add, Nat.add_zero] at l0 l1 l2
  have m0 := hc1 0 _ rfl
  have m1 := hc1 1 _ rfl
  have m2 := hc1 2 _ rfl
  simp only [Nat.one_mul, Nat.add_zero, Nat.reduceAdd] at m0 m1 m2
  clear hcc hc0 hc1 hlt h
  cases e1 : (k == 2) with
  | false =>
    go_enter Try.func64, Try.ntmps64
    go_wp2_with fail
    go_ret
    exact ⟨rfl, rfl⟩
  | true =>
    cases e2 : (k2 == 2) with
    | false =>
      go_enter Try.func64, Try.ntmps64
      go_wp2_with fail
      go_ret
      exact ⟨rfl, rfl⟩
    | true =>
      go_enter Try.func64, Try.ntmps64
      go_wp2_with fail
      go_ret
      exact ⟨rfl, rfl⟩
set_option maxRecDepth 100000 in
theorem rtexts_c (a b : ValV) (A : Option Addr) (c : Nat) (w : World) (h : RowV w w.heap.size A 2 c [a, b]) : Calls Try.prog 66 #[.slice A 2 c] w fun e w' => e = .returned (.bool (a.kind == 3 && b.kind == 3)) ∧ w = w' := by
  obtain ⟨k, n, s⟩ := a
  obtain ⟨k2, n2, s2⟩ := b
  simp only
  obtain ⟨blk, off, rfl, hlt, hcc⟩ := row_get h (by omega)
  have hc0 := hcc 0 _ rfl
  have hc1 := hcc 1 _ rfl
  have l0 := hc0 0 _ rfl
  have l1 := hc0 1 _ rfl
  have l2 := hc0 2 _ rfl
  simp only [Nat.zero_mul, Nat.zero_add, Nat.add_zero] at l0 l1 l2
  have m0 := hc1 0 _ rfl
  have m1 := hc1 1 _ rfl
  have m2 := hc1 2 _ rfl
  simp only [Nat.one_mul, Nat.add_zero, Nat.reduceAdd] at m0 m1 m2
  clear hcc hc0 hc1 hlt h
  cases e1 : (k == 3) with
  | false =>
    go_enter Try.func66, Try.ntmps66
    go_wp2_with fail
    go_ret
    exact ⟨rfl, rfl⟩
  | true =>
    cases e2 : (k2 == 3) with
    | false =>
      go_enter Try.func66, Try.ntmps66
      go_wp2_with fail
      go_ret
      exact ⟨rfl, rfl⟩
    | true =>
      go_enter Try.func66, Try.ntmps66
      go_wp2_with fail
      go_ret
      exact ⟨rfl, rfl⟩
set_option maxRecDepth 100000 in
set_option maxHeartbeats 4000000 in
theorem ramong_c (a : ValV) (A : Option Addr) (n c : Nat) (l : List ValV) (w : World) (h : RowV w w.heap.size A n c l) (ha : a.str.size ≤ 1048576) (hs : ∀ v ∈ l, v.str.size ≤ 1048576) : Calls Try.prog 31 #[valAgg a, .slice A n c] w (GivesV w (inV a l)) := by
  have hmx := Nat.le_trans h.cap h.max
  unfold maxLen at hmx
  have hlen := h.len
  obtain ⟨h1, h2, h3⟩ := vb_two w a.kind a.num a.str
  have H1 := hide h1
  have HX0 := hide h2
  have HB0 := hide h3
  have HR := hide h
  have HSZ := hide hs
  have QC := hide (fun x (hx : x.str.size ≤ 1048576) W => rcmpop_c 11 a x W ha hx)
  have QF := hide (fun x W => rfromv_c x W)
  have QO := hide (fun (x y : Int) W => or17 x y W)
  have QV := hide (fun x W => rtriv_c x W)
  unfold inV
  have HN := hide hlen
  clear h1 h2 h3 h hlen ha hs
  unfold valAgg at QC QF ⊢
  have H0 : Hid (inI a (l.take 0) = 0) := rfl
  obtain ⟨k, m, s⟩ := a
  simp only at QC H1 HX0 HB0 ⊢
  go_enter Try.func31, Try.ntmps31
  go_upto_region 1 with (fail)
  generalize (w.alloc (.cells #[.int .i64 k, .int .i64 m, .string s] 26)).alloc (.cells #[.int .i64 0, .int .i64 0, .string { data := #[] }] 26) = w1 at *
  go_wp2_with fail
  go_loopw [5, 6] (fun zv iv wr => ∃ (j : Nat) (z : Int), zv = .int .i64 z ∧ iv = .int .i64 j ∧ j ≤ n ∧ Hid (inI ⟨k, m, s⟩ (l.take j) = z) ∧ Hid (VB wr w.heap.size ⟨k, m, s⟩) ∧ Hid (VB wr (w.heap.size + 1) nullV) ∧ Hid (Below w.heap.size w wr)) (fun _ iv _ => n - (intOf iv).toNat)
  case atStart => exact ⟨0, 0, rfl, rfl, Nat.zero_le _, H0, H1, HX0, HB0⟩
  case round =>
    clear H0 H1 HX0 HB0
    obtain ⟨j, z, rfl, rfl, hj, HZ, H1, HX, HB⟩ := hrel
    by_cases hlt : j < n
    · have hlti : (j : Int) < n := by omega
      have hwk : IntKind.i64.wrap ((j : Int) + 1) = (j : Int) + 1 := IntWalk.i64_in _ (by omega)
      obtain ⟨blk, off, x, rfl, hblk, hx, hc⟩ := (HR.out.kept HB.out).at (by omega) hlt
      have HZ2 := hide (inI_step (a := ⟨k, m, s⟩) hx)
      have Q1 := hide (fun W => QC.out x (HSZ.out x (List.mem_of_getElem? hx)) W)
      have l0 := hc 0 _ rfl
      have l1 := hc 1 _ rfl
      have l2 := hc 2 _ rfl
      rw [Nat.add_zero] at l0
      rw [← Nat.add_assoc] at l1 l2
      rw [HZ.out] at HZ2
      generalize cmpOpV 11 ⟨k, m, s⟩ x = y at *
      have Q2 := hide (fun W => QF.out y W)
      have Q3 := hide (fun W => QO.out z (frV y) W)
      obtain ⟨z2, hz2⟩ : ∃ z2, orI z (frV y) = z2 := ⟨_, rfl⟩
      rw [hz2] at HZ2 Q3
      have HZ3 : Hid (inI ⟨k, m, s⟩ (l.take (j + 1)) = z2) := HZ2.out.symm
      generalize frV y = f at *
      obtain ⟨xk, xn, xs⟩ := x
      simp only at Q1 l0 l1 l2
      have C0 := hide (show Cl wr blk (off + j * 3) xk xn xs from ⟨hblk, l0, l1, l2⟩)
      clear hc hx HZ HZ2 hz2 QC QF QO l0 l1 l2
      unfold GivesV valAgg at Q1
      go_upto_region 5 with (fail)
      refine wp_region_held_drew (S := (fun w' => VB w' w.heap.size ⟨k, m, s⟩ ∧ VB w' (w.heap.size + 1) nullV ∧ Cl w' blk (off + j * 3) xk xn xs ∧ Below w.heap.size w w')) (by kernel_rfl) (⟨H1.out.kept (Below.refl _ _).drew, HX.out.kept (Below.refl _ _).drew, C0.out.kept (Below.refl _ _).drew, HB.out.drew⟩) (fun hHeld => ?_)
      first | (refine wpAnyH_take (i := 0) (v := ?_) nth0 (by kernel_rfl) (by kernel_rfl) (by kernel_rfl) (fun _ _ _ h => h) (Or.inl ⟨by rfl, ?_⟩) hHeld ?_; rotate_left; focus (intro wS hSw; (obtain ⟨⟨_, _, _⟩, _⟩ := hSw.1.all; obtain ⟨_, _, _, _⟩ := hSw.2.2.1); go_simp; try with_reducible rfl; done)) | (refine wpAnyH_take (i := 0) (v := undef) nth0 (by kernel_rfl) (by kernel_rfl) (by kernel_rfl) (fun _ _ _ h => h) (Or.inr ⟨by rfl, rfl⟩) hHeld ?_)
      (try simp only [Act.put]); (try simp only [List.setIfInBounds_toArray]); (try simp only [List.set_cons_succ]); (try simp only [List.set_cons_zero])
      first | (refine wpAnyH_take (i := 1) (v := ?_) nth1 (by kernel_rfl) (by kernel_rfl) (by kernel_rfl) (fun _ _ _ h => h) (Or.inl ⟨by rfl, ?_⟩) hHeld ?_; rotate_left; focus (intro wS hSw; (obtain ⟨⟨_, _, _⟩, _⟩ := hSw.1.all; obtain ⟨_, _, _, _⟩ := hSw.2.2.1); go_simp; try with_reducible rfl; done)) | (refine wpAnyH_take (i := 1) (v := undef) nth1 (by kernel_rfl) (by kernel_rfl) (by kernel_rfl) (fun _ _ _ h => h) (Or.inr ⟨by rfl, rfl⟩) hHeld ?_)
      (try simp only [Act.put]); (try simp only [List.setIfInBounds_toArray]); (try simp only [List.set_cons_succ]); (try simp only [List.set_cons_zero])
      first | (refine wpAnyH_take (i := 2) (v := ?_) nth2 (by kernel_rfl) (by kernel_rfl) (by kernel_rfl) (fun _ _ _ h => h) (Or.inl ⟨by rfl, ?_⟩) hHeld ?_; rotate_left; focus (intro wS hSw; (obtain ⟨⟨_, _, _⟩, _⟩ := hSw.1.all; obtain ⟨_, _, _, _⟩ := hSw.2.2.1); go_simp; try with_reducible rfl; done)) | (refine wpAnyH_take (i := 2) (v := undef) nth2 (by kernel_rfl) (by kernel_rfl) (by kernel_rfl) (fun _ _ _ h => h) (Or.inr ⟨by rfl, rfl⟩) hHeld ?_)
      (try simp only [Act.put]); (try simp only [List.setIfInBounds_toArray]); (try simp only [List.set_cons_succ]); (try simp only [List.set_cons_zero])
      first | (refine wpAnyH_take (i := 3) (v := ?_) nth3 (by kernel_rfl) (by kernel_rfl) (by kernel_rfl) (fun _ _ _ h => h) (Or.inl ⟨by rfl, ?_⟩) hHeld ?_; rotate_left; focus (intro wS hSw; (obtain ⟨⟨_, _, _⟩, _⟩ := hSw.1.all; obtain ⟨_, _, _, _⟩ := hSw.2.2.1); go_simp; try with_reducible rfl; done)) | (refine wpAnyH_take (i := 3) (v := undef) nth3 (by kernel_rfl) (by kernel_rfl) (by kernel_rfl) (fun _ _ _ h => h) (Or.inr ⟨by rfl, rfl⟩) hHeld ?_)
      (try simp only [Act.put]); (try simp only [List.setIfInBounds_toArray]); (try simp only [List.set_cons_succ]); (try simp only [List.set_cons_zero])
      first | (refine wpAnyH_take (i := 4) (v := ?_) nth4 (by kernel_rfl) (by kernel_rfl) (by kernel_rfl) (fun _ _ _ h => h) (Or.inl ⟨by rfl, ?_⟩) hHeld ?_; rotate_left; focus (intro wS hSw; (obtain ⟨⟨_, _, _⟩, _⟩ := hSw.1.all; obtain ⟨_, _, _, _⟩ := hSw.2.2.1); go_simp; try with_reducible rfl; done)) | (refine wpAnyH_take (i := 4) (v := undef) nth4 (by kernel_rfl) (by kernel_rfl) (by kernel_rfl) (fun _ _ _ h => h) (Or.inr ⟨by rfl, rfl⟩) hHeld ?_)
      (try simp only [Act.put]); (try simp only [List.setIfInBounds_toArray]); (try simp only [List.set_cons_succ]); (try simp only [List.set_cons_zero])
      first | (refine wpAnyH_take (i := 5) (v := ?_) nth5 (by kernel_rfl) (by kernel_rfl) (by kernel_rfl) (fun _ _ _ h => h) (Or.inl ⟨by rfl, ?_⟩) hHeld ?_; rotate_left; focus (intro wS hSw; (obtain ⟨⟨_, _, _⟩, _⟩ := hSw.1.all; obtain ⟨_, _, _, _⟩ := hSw.2.2.1); go_simp; try with_reducible rfl; done)) | (refine wpAnyH_take (i := 5) (v := undef) nth5 (by kernel_rfl) (by kernel_rfl) (by kernel_rfl) (fun _ _ _ h => h) (Or.inr ⟨by rfl, rfl⟩) hHeld ?_)
      (try simp only [Act.put]); (try simp only [List.setIfInBounds_toArray]); (try simp only [List.set_cons_succ]); (try simp only [List.set_cons_zero])
      refine wpAnyH_ready (rs := [6]) (by kernel_rfl) (by simp) ?_
      refine AllReadyH.cons nth6 (fun K hK => ?_) AllReadyH.nil
      go_simp
      (first | (go_at_call 33; refine (Q1.out _).mono ?_; rintro e w' ⟨rfl, hb⟩) | (go_at_call 36; refine (Q2.out _).mono ?_; rintro e w' ⟨rfl, hb⟩) | (go_at_call 60; refine (Q3.out _).mono ?_; rintro e w' ⟨rfl, hw⟩; have hb := bel_eq hw; clear hw))
      refine hK.out _ _ (⟨hHeld.1.kept hb, hHeld.2.1.kept hb, hHeld.2.2.1.kept hb, Bel.then hHeld.2.2.2 hb⟩) (fun hHeld => ?_)
      clear hK K
      (try simp only [Act.put]); (try simp only [List.setIfInBounds_toArray]); (try simp only [List.set_cons_succ]); (try simp only [List.set_cons_zero])
      refine wpAnyH_ready (rs := [7]) (by kernel_rfl) (by simp) ?_
      refine AllReadyH.cons nth7 (fun K hK => ?_) AllReadyH.nil
      go_simp
      (first | (go_at_call 33; refine (Q1.out _).mono ?_; rintro e w' ⟨rfl, hb⟩) | (go_at_call 36; refine (Q2.out _).mono ?_; rintro e w' ⟨rfl, hb⟩) | (go_at_call 60; refine (Q3.out _).mono ?_; rintro e w' ⟨rfl, hw⟩; have hb := bel_eq hw; clear hw))
      refine hK.out _ _ (⟨hHeld.1.kept hb, hHeld.2.1.kept hb, hHeld.2.2.1.kept hb, Bel.then hHeld.2.2.2 hb⟩) (fun hHeld => ?_)
      clear hK K
      (try simp only [Act.put]); (try simp only [List.setIfInBounds_toArray]); (try simp only [List.set_cons_succ]); (try simp only [List.set_cons_zero])
      refine wpAnyH_ready (rs := [8]) (by kernel_rfl) (by simp) ?_
      refine AllReadyH.cons nth8 (fun K hK => ?_) AllReadyH.nil
      go_simp
      (first | (go_at_call 33; refine (Q1.out _).mono ?_; rintro e w' ⟨rfl, hb⟩) | (go_at_call 36; refine (Q2.out _).mono ?_; rintro e w' ⟨rfl, hb⟩) | (go_at_call 60; refine (Q3.out _).mono ?_; rintro e w' ⟨rfl, hw⟩; have hb := bel_eq hw; clear hw))
      refine hK.out _ _ (⟨hHeld.1.kept hb, hHeld.2.1.kept hb, hHeld.2.2.1.kept hb, Bel.then hHeld.2.2.2 hb⟩) (fun hHeld => ?_)
      clear hK K
      (try simp only [Act.put]); (try simp only [List.setIfInBounds_toArray]); (try simp only [List.set_cons_succ]); (try simp only [List.set_cons_zero])
      first | (refine wpAnyH_take (i := 9) (v := ?_) nth9 (by kernel_rfl) (by kernel_rfl) (by kernel_rfl) (fun _ _ _ h => h) (Or.inl ⟨by rfl, ?_⟩) hHeld ?_; rotate_left; focus (intro wS hSw; (obtain ⟨⟨_, _, _⟩, _⟩ := hSw.1.all; obtain ⟨_, _, _, _⟩ := hSw.2.2.1); go_simp; try with_reducible rfl; done)) | (refine wpAnyH_take (i := 9) (v := undef) nth9 (by kernel_rfl) (by kernel_rfl) (by kernel_rfl) (fun _ _ _ h => h) (Or.inr ⟨by rfl, rfl⟩) hHeld ?_)
      (try simp only [Act.put]); (try simp only [List.setIfInBounds_toArray]); (try simp only [List.set_cons_succ]); (try simp only [List.set_cons_zero])
      refine wpAnyH_done (by kernel_rfl) ?_ _
      obtain ⟨t1, t2, _, t4⟩ := hHeld
      replace H1 := hide t1
      replace HX := hide t2
      replace HB := hide t4
      clear t1 t2 t4 C0
      go_wp2_with fail
      go_roundw
      case rel => exact ⟨j + 1, z2, rfl, by go_num, by omega, HZ3, H1, HX, HB⟩
      case measure => simp [intOf]; omega
    · have hlti : ¬ (j : Int) < n := by omega
      have hzz : inI ⟨k, m, s⟩ l = z := by
        have := HZ.out
        rw [List.take_of_length_le (by rw [HN.out]; omega)] at this
        exact this
      have Q1 := hide (fun W => QV.out z W)
      obtain ⟨r, hr⟩ : ∃ r, trV z = r := ⟨_, rfl⟩
      have HEQ : Hid (trV (inI ⟨k, m, s⟩ l) = r) := by show _ = _; rw [hzz]; exact hr
      rw [hr] at Q1
      clear hzz hr HZ QV QC QF QO H1
      go_wp2_with fail
      refine (Q1.out _).mono ?_
      rintro e w4 ⟨rfl, hb⟩
      replace HX := hide (HX.out.kept hb)
      replace HB := hide (Bel.then HB.out hb)
      clear hb
      obtain ⟨⟨c0, c1, c2⟩, ⟨y0, y1, y2⟩⟩ := HX.out.all
      have HS := hide (HX.out.set3 (r))
      have HBS := hide (below_setV HB.out (show w.heap.size ≤ w.heap.size + 1 by omega) (r))
      clear HX HB 
      unfold valAgg
      go_wp2_with fail
      exact end_v Try.results31 rfl rfl HS.out ⟨by rw [HEQ.out], HBS.out⟩
theorem choose_end {l : List ValV} {i : Nat} (h : l.length ≤ i + 1) : chooseV (l.drop i) = if i < l.length then l.getD i nullV else nullV := by
  by_cases hi : i < l.length
  · rw [if_pos hi, List.drop_eq_getElem_cons hi, List.drop_of_length_le (by omega), List.getD_eq_getElem?_getD, List.getElem?_eq_getElem hi]
    rfl
  · rw [if_neg hi, List.drop_of_length_le (by omega)]
    rfl
set_option maxRecDepth 100000 in
set_option maxHeartbeats 4000000 in
theorem rchoose_c (A : Option Addr) (n c : Nat) (l : List ValV) (w : World) (h : RowV w w.heap.size A n c l) : Calls Try.prog 32 #[.slice A n c] w (GivesV w (chooseV l)) := by
  have hmx := Nat.le_trans h.cap h.max
  unfold maxLen at hmx
  obtain ⟨R, hR⟩ : ∃ R, chooseV l = R := ⟨_, rfl⟩
  rw [hR]
  have HX0 := hide (vb_one w)
  have HB0 := hide (Bel.one w zO)
  have HR := hide h
  have HN := hide h.len
  have HC0 : Hid (chooseV (l.drop 0) = R) := hR
  clear h hR
  have QF := hide (fun x W => rfromv_c x W)
  unfold valAgg at QF
  go_enter Try.func32, Try.ntmps32
  go_upto_region 1 with (fail)
  generalize w.alloc (.cells #[.int .i64 0, .int .i64 0, .string { data := #[] }] 26) = w1 at *
  go_wp2_with fail
  go_loopw [3] (fun v wr => ∃ (j k : Nat), v = .int .i64 j ∧ Hid (j = 2 * k) ∧ j ≤ n ∧ Hid (chooseV (l.drop j) = R) ∧ Hid (VB wr w.heap.size nullV) ∧ Hid (Below w.heap.size w wr)) (fun v _ => n - (intOf v).toNat)
  case atStart => exact ⟨0, 0, rfl, rfl, Nat.zero_le _, HC0, HX0, HB0⟩
  case round =>
    clear HC0 HX0 HB0
    obtain ⟨j, k, rfl, hjk, hj, HC, HX, HB⟩ := hrel
    have hw1 : IntKind.i64.wrap ((j : Int) + 1) = (j : Int) + 1 := IntWalk.i64_in _ (by have := hjk.out; omega)
    by_cases hlt : j + 1 < n
    · have hlti : (j : Int) + 1 < n := by omega
      have hw2 : IntKind.i64.wrap ((j : Int) + 2) = (j : Int) + 2 := IntWalk.i64_in _ (by omega)
      obtain ⟨blk, off, x, rfl, hblk, hx, hc⟩ := (HR.out.kept HB.out).at (by omega) (show j < n by omega)
      obtain ⟨blk', off', y, he, _, hy, hcy⟩ := (HR.out.kept HB.out).at (by omega) (show j + 1 < n by omega)
      injection he with he
      injection he with he1 he2 he3
      subst he1 he2
      have l0 := hc 0 _ rfl
      have l1 := hc 1 _ rfl
      have l2 := hc 2 _ rfl
      have m0 := hcy 0 _ rfl
      have m1 := hcy 1 _ rfl
      have m2 := hcy 2 _ rfl
      rw [Nat.add_zero] at l0 m0
      rw [← Nat.add_assoc] at l1 l2 m1 m2
      have Q1 := hide (fun W => QF.out x W)
      have hcv := HC.out
      rw [drop_at hx, drop_at hy, chooseV] at hcv
      have C1 := hide (show Cl wr blk (off + (j + 1) * 3) y.kind y.num y.str from ⟨hblk, m0, m1, m2⟩)
      clear m0 m1 m2
      by_cases hf : frV x = 2
      · obtain rfl : y = R := by rw [← hcv, if_pos hf]
        rw [hf] at Q1
        clear hc hcy HC hcv hf QF
        go_upto_region 4 with (fail)
        go_wp2_with fail
        refine (Q1.out _).mono ?_
        rintro e w4 ⟨rfl, hb⟩
        replace C1 := hide (C1.out.kept hb)
        replace HX := hide (HX.out.kept hb)
        replace HB := hide (Bel.then HB.out hb)
        obtain ⟨_, p0, p1, p2⟩ := C1.out
        clear hb l0 l1 l2
        obtain ⟨⟨c0, c1, c2⟩, ⟨y0, y1, y2⟩⟩ := HX.out.all
        have HS := hide (HX.out.set3 (y))
        have HBS := hide (below_setV HB.out (Nat.le_refl _) (y))
        clear HX HB 
        go_wp2_with fail
        exact end_v Try.results32 rfl rfl HS.out ⟨rfl, HBS.out⟩
      · have HC2 : Hid (chooseV (l.drop (j + 2)) = R) := by show _ = _; rw [if_neg hf] at hcv; exact hcv
        have hfi : (frV x == 2) = false := by simpa using hf
        generalize frV x = f at *
        clear hc hcy HC hf QF hcv C1
        go_upto_region 4 with (fail)
        go_wp2_with fail
        refine (Q1.out _).mono ?_
        rintro e w4 ⟨rfl, hb⟩
        replace HX := hide (HX.out.kept hb)
        replace HB := hide (Bel.then HB.out hb)
        clear hb l0 l1 l2 Q1
        go_wp2_with fail
        go_roundw
        case rel => exact ⟨j + 2, k + 1, by go_num, by show _ = _; have := hjk.out; omega, by omega, HC2, HX, HB⟩
        case measure => simp [intOf]; omega
    · have hlti : ¬ (j : Int) + 1 < n := by omega
      have hcv := HC.out
      rw [choose_end (by rw [HN.out]; omega), HN.out] at hcv
      by_cases hjn : j < n
      · have hmod : ((n : Int) % 2 == 1) = true := by have := hjk.out; rw [beq_iff_eq]; omega
        have hws : IntKind.i64.wrap ((n : Int) - 1) = (j : Int) := by rw [IntWalk.i64_in _ (by omega)]; omega
        have hji : (j : Int) < (n : Int) := by omega
        obtain ⟨blk, off, x, rfl, hblk, hx, hc⟩ := (HR.out.kept HB.out).at (by omega) hjn
        obtain rfl : x = R := by
          rw [← hcv, if_pos hjn, List.getD_eq_getElem?_getD, hx]
          rfl
        have l0 := hc 0 _ rfl
        have l1 := hc 1 _ rfl
        have l2 := hc 2 _ rfl
        rw [Nat.add_zero] at l0
        rw [← Nat.add_assoc] at l1 l2
        clear hc hx hcv HC
        obtain ⟨⟨c0, c1, c2⟩, ⟨y0, y1, y2⟩⟩ := HX.out.all
        have HS := hide (HX.out.set3 (x))
        have HBS := hide (below_setV HB.out (Nat.le_refl _) (x))
        clear HX HB 
        go_wp2_with fail
        exact end_v Try.results32 rfl rfl HS.out ⟨rfl, HBS.out⟩
      · obtain rfl : nullV = R := by rw [← hcv, if_neg hjn]
        have hmod : ((n : Int) % 2 == 1) = false := by have := hjk.out; rw [beq_eq_false_iff_ne]; omega
        clear hcv HC
        obtain ⟨⟨c0, c1, c2⟩, ⟨y0, y1, y2⟩⟩ := HX.out.all
        have HS := hide (HX.out.set3 (nullV))
        have HBS := hide (below_setV HB.out (Nat.le_refl _) (nullV))
        clear HX HB 
        go_wp2_with fail
        exact end_v Try.results32 rfl rfl HS.out ⟨rfl, HBS.out⟩
set_option maxRecDepth 100000 in
set_option maxHeartbeats 4000000 in
theorem rturned_c (s : ByteArray) (lo hi to : UInt8) (w : World) (hm : s.size ≤ 1048576) (hh : hi.toNat = lo.toNat + 25) (h2 : lo.toNat + 26 < 256) (hlt : 25 + to.toNat < 256) : Calls Try.prog 59 #[.string s, .int .u8 lo.toNat, .int .u8 to.toNat] w (GivesV w (strV (strL (s.data.toList.map (shB lo hi to))))) := by
  have hl := str_len s
  have HX0 := hide (vb_one w)
  have HB0 := hide (Bel.one w zO)
  have QV := hide (fun u W => rstrv_c u W)
  unfold GivesV valAgg at QV
  have hw26 : IntKind.u8.wrap ((lo.toNat : Int) + 26) = (lo.toNat : Int) + 26 := IntWalk.u8_in _ (by omega)
  obtain ⟨f, hf⟩ : ∃ f, shB lo hi to = f := ⟨_, rfl⟩
  rw [hf]
  have HF := hide hf
  clear hf
  go_enter Try.func59, Try.ntmps59
  go_upto_region 1 with (fail)
  generalize w.alloc (.cells #[.int .i64 0, .int .i64 0, .string { data := #[] }] 26) = w1 at *
  obtain ⟨cap, W1, hr, hcap, hb, hhh, hz⟩ := made_bytes w1 s
  obtain ⟨g, hg⟩ : ∃ g, w1.heap.size = g := ⟨_, rfl⟩
  rw [hg] at hr hhh hz
  have HG : Hid (w.heap.size < g) := by have := HX0.out.lt; show _ < _; omega
  have HH := hide hhh
  have HB := hide (Bel.then HB0.out hb)
  have HX := hide (HX0.out.kept hb)
  clear hhh hb hz HB0 HX0 hg
  go_wp2_with fail
  go_loopw [8] (fun v wr => ∃ k : Nat, v = .int .i64 k ∧ k ≤ s.size ∧ Hid (Below w.heap.size w wr) ∧ Hid (VB wr w.heap.size nullV) ∧ Hid (Holds wr g (shTo f s.data.toList k))) (fun v _ => s.size - (intOf v).toNat)
  case atStart => exact ⟨0, rfl, Nat.zero_le _, HB, HX, HH⟩
  case round =>
    clear HB HX HH hr
    obtain ⟨k, rfl, hk, HB, HX, HH⟩ := hrel
    by_cases hlt2 : k < s.size
    · have hlti : (k : Int) < s.size := by omega
      have hwk : IntKind.i64.wrap ((k : Int) + 1) = (k : Int) + 1 := IntWalk.i64_in _ (by omega)
      obtain ⟨c, hgt⟩ := str_at2 hlt2
      obtain ⟨u1, u2, u3⟩ := shTo_at (f := f) hgt
      have hkl : k < (shTo f s.data.toList k).length := by rw [shTo_len]; omega
      obtain ⟨hcell, hfr⟩ := HH.out k hkl
      rw [u1] at hcell
      have hcl := c.toNat_lt
      by_cases h1 : lo.toNat ≤ c.toNat
      · have p1 : (lo.toNat : Int) ≤ (c.toNat : Int) := by omega
        by_cases h3 : c.toNat ≤ hi.toNat
        · have p2 : (c.toNat : Int) < (lo.toNat : Int) + 26 := by omega
          obtain ⟨y, hy⟩ : ∃ y, f c = y := ⟨_, rfl⟩
          obtain ⟨d, hd⟩ : ∃ d, c - lo = d := ⟨_, rfl⟩
          have hll := lo.toNat_lt
          have hdc : (d.toNat : Int) = (c.toNat : Int) - lo.toNat := by
            rw [← hd, UInt8.toNat_sub]
            omega
          have hyc : (y.toNat : Int) = (d.toNat : Int) + to.toNat := by
            rw [← hy, ← HF.out]
            unfold shB
            rw [if_pos (by rw [decide_eq_true h1, decide_eq_true h3]; rfl), hd, UInt8.toNat_add]
            omega
          have f1 : IntKind.u8.wrap ((c.toNat : Int) - (lo.toNat : Int)) = (d.toNat : Int) := by rw [← hdc]; exact IntWalk.u8_in _ (by have := d.toNat_lt; omega)
          have f2 : IntKind.u8.wrap ((d.toNat : Int) + (to.toNat : Int)) = (y.toNat : Int) := by rw [← hyc]; exact IntWalk.u8_in _ (by have := y.toNat_lt; omega)
          have HH2 : Hid (Holds (wr.setCell ⟨g, k, none⟩ (.int .u8 (y.toNat : Int))) g (shTo f s.data.toList (k + 1))) := by
            rw [hy] at u2
            have := HH.out.set hkl y (v := (y.toNat : Int)) rfl
            rw [← u2] at this
            exact this
          have HB2 := hide (HB.out.setCell (p := ⟨g, k, none⟩) (Nat.le_of_lt HG.out) (.int .u8 (y.toNat : Int)))
          have HX2 : Hid (VB (wr.setCell ⟨g, k, none⟩ (.int .u8 (y.toNat : Int))) w.heap.size nullV) := by
            have := HX.out
            have hne := HG.out
            unfold VB at this
            show VB _ _ _
            unfold VB
            rw [Below.heap_setCell wr ⟨g, k, none⟩ _ w.heap.size (by show w.heap.size ≠ g; omega)]
            exact this
          clear u1 u2 u3 hkl hgt hy hyc hd hdc HH HB HX h1 h3
          go_wp2_with fail
          go_roundw
          case rel => exact ⟨k + 1, by go_num, by omega, HB2, HX2, HH2⟩
          case measure => simp [intOf]; omega
        · have p2 : ¬ (c.toNat : Int) < (lo.toNat : Int) + 26 := by omega
          have HH2 : Hid (Holds wr g (shTo f s.data.toList (k + 1))) := by
            rw [u3 (by rw [← HF.out]; unfold shB; rw [if_neg (by rw [decide_eq_false h3, Bool.and_false]; decide)])]
            exact HH
          clear u1 u2 u3 hkl hgt HH h1 h3
          go_wp2_with fail
          go_roundw
          case rel => exact ⟨k + 1, by go_num, by omega, HB, HX, HH2⟩
          case measure => simp [intOf]; omega
      · have p1 : ¬ (lo.toNat : Int) ≤ (c.toNat : Int) := by omega
        have HH2 : Hid (Holds wr g (shTo f s.data.toList (k + 1))) := by
          rw [u3 (by rw [← HF.out]; unfold shB; rw [if_neg (by rw [decide_eq_false h1, Bool.false_and]; decide)])]
          exact HH
        clear u1 u2 u3 hkl hgt HH h1
        go_wp2_with fail
        go_roundw
        case rel => exact ⟨k + 1, by go_num, by omega, HB, HX, HH2⟩
        case measure => simp [intOf]; omega
    · have hlti : ¬ (k : Int) < s.size := by omega
      have hkk : k = s.size := by omega
      have hall : shTo f s.data.toList k = s.data.toList.map f := by rw [hkk, ← hl]; exact shTo_all _ _
      have hcv : (convert 74 9 (.slice (some ⟨g, 0, none⟩) s.size cap)).run Try.prog wr = .ok (.string (strL (s.data.toList.map f))) wr := by
        refine back_c wr g cap _ s.size (by rw [List.length_map]; exact hl) fun j hj => ?_
        have h1 := HH.out j (by rw [hall]; exact hj)
        rw [hall] at h1
        exact h1.1
      obtain ⟨u, hu⟩ : ∃ u, strL (s.data.toList.map f) = u := ⟨_, rfl⟩
      have HU := hide hu
      rw [hu] at hcv
      have Q1 := hide (fun W => QV.out u W)
      have HW : Hid (strV (strL (s.data.toList.map f)) = strV u) := by show _ = _; rw [hu]
      clear HH hall hkk hu QV
      go_wp2_with fail
      refine (Q1.out _).mono ?_
      rintro e w4 ⟨rfl, hb⟩
      replace HX := hide (HX.out.kept hb)
      replace HB := hide (Bel.then HB.out hb)
      clear hb
      obtain ⟨⟨c0, c1, c2⟩, ⟨y0, y1, y2⟩⟩ := HX.out.all
      have HS := hide (HX.out.set3 (strV u))
      have HBS := hide (below_setV HB.out (Nat.le_refl _) (strV u))
      clear HX HB 
      go_wp2_with fail
      exact end_v Try.results59 rfl rfl HS.out ⟨by rw [HW.out], HBS.out⟩
end Go.Proofs.Ytlkeghfdpbfhbaa
