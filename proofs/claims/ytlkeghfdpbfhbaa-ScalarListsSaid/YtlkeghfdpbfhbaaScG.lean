/- The contract of scalar.Apply for between. -/
import Derived.Test.YtlkeghfdpbfhbaaScFb
namespace Go.Proofs.Ytlkeghfdpbfhbaa
set_option linter.unusedVariables false
open Go.ChangeShapes Go.WideShapes Go.ChangeAt Go.RowKit

def betV (a b c : ValV) : ValV := binV 17 (binV 16 a b) (binV 14 a c)
set_option maxRecDepth 100000 in
set_option maxHeartbeats 4000000 in
theorem apply3_c (nm : ByteArray) (a b d : ValV) (A : Option Addr) (c : Nat) (w : World) (h : RowV w w.heap.size A 3 c [a, b, d]) : Calls Try.prog 10 #[.int .i64 22, .string nm, .slice A 3 c] w (GivesV w (betV a b d)) := by
  have HX := hide (vb_one w)
  have HB := hide (Bel.one w zO)
  have Q1 := hide (fun W => binary_c 16 a b W (by intro h; omega))
  have Q2 := hide (fun W => binary_c 14 a d W (by intro h; omega))
  unfold betV
  generalize binV 16 a b = x at *
  generalize binV 14 a d = y at *
  have Q3 := hide (fun W => binary_c 17 x y W (by intro h; omega))
  generalize binV 17 x y = R at *
  obtain ⟨k, n, s⟩ := a
  obtain ⟨k2, n2, s2⟩ := b
  obtain ⟨k3, n3, s3⟩ := d
  obtain ⟨xk, xn, xs⟩ := x
  obtain ⟨yk, yn, ys⟩ := y
  unfold GivesV valAgg at Q1 Q2 Q3
  simp only at Q1 Q2 Q3
  obtain ⟨blk, off, rfl, hlt, hcc⟩ := row_get h (by omega)
  have hc0 := hcc 0 _ rfl
  have hc1 := hcc 1 _ rfl
  have hc2 := hcc 2 _ rfl
  have l0 := hc0 0 _ rfl
  have l1 := hc0 1 _ rfl
  have l2 := hc0 2 _ rfl
  simp only [Nat.zero_mul, Nat.zero_add, Nat.add_zero] at l0 l1 l2
  have m0 := hc1 0 _ rfl
  have m1 := hc1 1 _ rfl
  have m2 := hc1 2 _ rfl
  simp only [Nat.one_mul, Nat.add_zero, Nat.reduceAdd] at m0 m1 m2
  have o0 := hc2 0 _ rfl
  have o1 := hc2 1 _ rfl
  have o2 := hc2 2 _ rfl
  simp only [Nat.reduceMul, Nat.add_zero, Nat.reduceAdd] at o0 o1 o2
  have C0 : Hid (Cl w blk off k n s) := ⟨hlt, l0, l1, l2⟩
  have C1 : Hid (Cl w blk (off + 3) k2 n2 s2) := ⟨hlt, m0, m1, m2⟩
  have C2 : Hid (Cl w blk (off + 6) k3 n3 s3) := ⟨hlt, o0, o1, o2⟩
  clear hcc hc0 hc1 hc2 hlt l0 l1 l2 m0 m1 m2 o0 o1 o2 h
  go_enter Try.func10, Try.ntmps10
  go_upto_region 1 with (fail)
  generalize w.alloc (.cells #[.int .i64 0, .int .i64 0, .string { data := #[] }] 26) = w1 at *
  go_upto_region 26 with (fail)
  refine wp_region_held_drew (S := (fun w' => (∃ u, VB w' w.heap.size u) ∧ Below w.heap.size w w')) (by kernel_rfl) (⟨⟨_, HX.out.kept (Below.refl _ _).drew⟩, HB.out.drew⟩) (fun hHeld => ?_)
  first | (refine wpAnyH_take (i := 0) (v := ?_) nth0 (by kernel_rfl) (by kernel_rfl) (by kernel_rfl) (fun _ _ _ h => h) (Or.inl ⟨by rfl, ?_⟩) hHeld ?_; rotate_left; focus (intro wS hSw; (obtain ⟨_, _, _, _⟩ := C0.out.kept hSw.2; obtain ⟨_, _, _, _⟩ := C1.out.kept hSw.2; obtain ⟨_, _, _, _⟩ := C2.out.kept hSw.2); go_simp; try with_reducible rfl; done)) | (refine wpAnyH_take (i := 0) (v := undef) nth0 (by kernel_rfl) (by kernel_rfl) (by kernel_rfl) (fun _ _ _ h => h) (Or.inr ⟨by rfl, rfl⟩) hHeld ?_)
  (try simp only [Act.put]); (try simp only [List.setIfInBounds_toArray]); (try simp only [List.set_cons_succ]); (try simp only [List.set_cons_zero])
  first | (refine wpAnyH_take (i := 1) (v := ?_) nth1 (by kernel_rfl) (by kernel_rfl) (by kernel_rfl) (fun _ _ _ h => h) (Or.inl ⟨by rfl, ?_⟩) hHeld ?_; rotate_left; focus (intro wS hSw; (obtain ⟨_, _, _, _⟩ := C0.out.kept hSw.2; obtain ⟨_, _, _, _⟩ := C1.out.kept hSw.2; obtain ⟨_, _, _, _⟩ := C2.out.kept hSw.2); go_simp; try with_reducible rfl; done)) | (refine wpAnyH_take (i := 1) (v := undef) nth1 (by kernel_rfl) (by kernel_rfl) (by kernel_rfl) (fun _ _ _ h => h) (Or.inr ⟨by rfl, rfl⟩) hHeld ?_)
  (try simp only [Act.put]); (try simp only [List.setIfInBounds_toArray]); (try simp only [List.set_cons_succ]); (try simp only [List.set_cons_zero])
  first | (refine wpAnyH_take (i := 2) (v := ?_) nth2 (by kernel_rfl) (by kernel_rfl) (by kernel_rfl) (fun _ _ _ h => h) (Or.inl ⟨by rfl, ?_⟩) hHeld ?_; rotate_left; focus (intro wS hSw; (obtain ⟨_, _, _, _⟩ := C0.out.kept hSw.2; obtain ⟨_, _, _, _⟩ := C1.out.kept hSw.2; obtain ⟨_, _, _, _⟩ := C2.out.kept hSw.2); go_simp; try with_reducible rfl; done)) | (refine wpAnyH_take (i := 2) (v := undef) nth2 (by kernel_rfl) (by kernel_rfl) (by kernel_rfl) (fun _ _ _ h => h) (Or.inr ⟨by rfl, rfl⟩) hHeld ?_)
  (try simp only [Act.put]); (try simp only [List.setIfInBounds_toArray]); (try simp only [List.set_cons_succ]); (try simp only [List.set_cons_zero])
  first | (refine wpAnyH_take (i := 3) (v := ?_) nth3 (by kernel_rfl) (by kernel_rfl) (by kernel_rfl) (fun _ _ _ h => h) (Or.inl ⟨by rfl, ?_⟩) hHeld ?_; rotate_left; focus (intro wS hSw; (obtain ⟨_, _, _, _⟩ := C0.out.kept hSw.2; obtain ⟨_, _, _, _⟩ := C1.out.kept hSw.2; obtain ⟨_, _, _, _⟩ := C2.out.kept hSw.2); go_simp; try with_reducible rfl; done)) | (refine wpAnyH_take (i := 3) (v := undef) nth3 (by kernel_rfl) (by kernel_rfl) (by kernel_rfl) (fun _ _ _ h => h) (Or.inr ⟨by rfl, rfl⟩) hHeld ?_)
  (try simp only [Act.put]); (try simp only [List.setIfInBounds_toArray]); (try simp only [List.set_cons_succ]); (try simp only [List.set_cons_zero])
  first | (refine wpAnyH_take (i := 4) (v := ?_) nth4 (by kernel_rfl) (by kernel_rfl) (by kernel_rfl) (fun _ _ _ h => h) (Or.inl ⟨by rfl, ?_⟩) hHeld ?_; rotate_left; focus (intro wS hSw; (obtain ⟨_, _, _, _⟩ := C0.out.kept hSw.2; obtain ⟨_, _, _, _⟩ := C1.out.kept hSw.2; obtain ⟨_, _, _, _⟩ := C2.out.kept hSw.2); go_simp; try with_reducible rfl; done)) | (refine wpAnyH_take (i := 4) (v := undef) nth4 (by kernel_rfl) (by kernel_rfl) (by kernel_rfl) (fun _ _ _ h => h) (Or.inr ⟨by rfl, rfl⟩) hHeld ?_)
  (try simp only [Act.put]); (try simp only [List.setIfInBounds_toArray]); (try simp only [List.set_cons_succ]); (try simp only [List.set_cons_zero])
  first | (refine wpAnyH_take (i := 5) (v := ?_) nth5 (by kernel_rfl) (by kernel_rfl) (by kernel_rfl) (fun _ _ _ h => h) (Or.inl ⟨by rfl, ?_⟩) hHeld ?_; rotate_left; focus (intro wS hSw; (obtain ⟨_, _, _, _⟩ := C0.out.kept hSw.2; obtain ⟨_, _, _, _⟩ := C1.out.kept hSw.2; obtain ⟨_, _, _, _⟩ := C2.out.kept hSw.2); go_simp; try with_reducible rfl; done)) | (refine wpAnyH_take (i := 5) (v := undef) nth5 (by kernel_rfl) (by kernel_rfl) (by kernel_rfl) (fun _ _ _ h => h) (Or.inr ⟨by rfl, rfl⟩) hHeld ?_)
  (try simp only [Act.put]); (try simp only [List.setIfInBounds_toArray]); (try simp only [List.set_cons_succ]); (try simp only [List.set_cons_zero])
  first | (refine wpAnyH_take (i := 7) (v := ?_) nth7 (by kernel_rfl) (by kernel_rfl) (by kernel_rfl) (fun _ _ _ h => h) (Or.inl ⟨by rfl, ?_⟩) hHeld ?_; rotate_left; focus (intro wS hSw; (obtain ⟨_, _, _, _⟩ := C0.out.kept hSw.2; obtain ⟨_, _, _, _⟩ := C1.out.kept hSw.2; obtain ⟨_, _, _, _⟩ := C2.out.kept hSw.2); go_simp; try with_reducible rfl; done)) | (refine wpAnyH_take (i := 7) (v := undef) nth7 (by kernel_rfl) (by kernel_rfl) (by kernel_rfl) (fun _ _ _ h => h) (Or.inr ⟨by rfl, rfl⟩) hHeld ?_)
  (try simp only [Act.put]); (try simp only [List.setIfInBounds_toArray]); (try simp only [List.set_cons_succ]); (try simp only [List.set_cons_zero])
  first | (refine wpAnyH_take (i := 8) (v := ?_) nth8 (by kernel_rfl) (by kernel_rfl) (by kernel_rfl) (fun _ _ _ h => h) (Or.inl ⟨by rfl, ?_⟩) hHeld ?_; rotate_left; focus (intro wS hSw; (obtain ⟨_, _, _, _⟩ := C0.out.kept hSw.2; obtain ⟨_, _, _, _⟩ := C1.out.kept hSw.2; obtain ⟨_, _, _, _⟩ := C2.out.kept hSw.2); go_simp; try with_reducible rfl; done)) | (refine wpAnyH_take (i := 8) (v := undef) nth8 (by kernel_rfl) (by kernel_rfl) (by kernel_rfl) (fun _ _ _ h => h) (Or.inr ⟨by rfl, rfl⟩) hHeld ?_)
  (try simp only [Act.put]); (try simp only [List.setIfInBounds_toArray]); (try simp only [List.set_cons_succ]); (try simp only [List.set_cons_zero])
  first | (refine wpAnyH_take (i := 9) (v := ?_) nth9 (by kernel_rfl) (by kernel_rfl) (by kernel_rfl) (fun _ _ _ h => h) (Or.inl ⟨by rfl, ?_⟩) hHeld ?_; rotate_left; focus (intro wS hSw; (obtain ⟨_, _, _, _⟩ := C0.out.kept hSw.2; obtain ⟨_, _, _, _⟩ := C1.out.kept hSw.2; obtain ⟨_, _, _, _⟩ := C2.out.kept hSw.2); go_simp; try with_reducible rfl; done)) | (refine wpAnyH_take (i := 9) (v := undef) nth9 (by kernel_rfl) (by kernel_rfl) (by kernel_rfl) (fun _ _ _ h => h) (Or.inr ⟨by rfl, rfl⟩) hHeld ?_)
  (try simp only [Act.put]); (try simp only [List.setIfInBounds_toArray]); (try simp only [List.set_cons_succ]); (try simp only [List.set_cons_zero])
  first | (refine wpAnyH_take (i := 10) (v := ?_) nth10 (by kernel_rfl) (by kernel_rfl) (by kernel_rfl) (fun _ _ _ h => h) (Or.inl ⟨by rfl, ?_⟩) hHeld ?_; rotate_left; focus (intro wS hSw; (obtain ⟨_, _, _, _⟩ := C0.out.kept hSw.2; obtain ⟨_, _, _, _⟩ := C1.out.kept hSw.2; obtain ⟨_, _, _, _⟩ := C2.out.kept hSw.2); go_simp; try with_reducible rfl; done)) | (refine wpAnyH_take (i := 10) (v := undef) nth10 (by kernel_rfl) (by kernel_rfl) (by kernel_rfl) (fun _ _ _ h => h) (Or.inr ⟨by rfl, rfl⟩) hHeld ?_)
  (try simp only [Act.put]); (try simp only [List.setIfInBounds_toArray]); (try simp only [List.set_cons_succ]); (try simp only [List.set_cons_zero])
  first | (refine wpAnyH_take (i := 11) (v := ?_) nth11 (by kernel_rfl) (by kernel_rfl) (by kernel_rfl) (fun _ _ _ h => h) (Or.inl ⟨by rfl, ?_⟩) hHeld ?_; rotate_left; focus (intro wS hSw; (obtain ⟨_, _, _, _⟩ := C0.out.kept hSw.2; obtain ⟨_, _, _, _⟩ := C1.out.kept hSw.2; obtain ⟨_, _, _, _⟩ := C2.out.kept hSw.2); go_simp; try with_reducible rfl; done)) | (refine wpAnyH_take (i := 11) (v := undef) nth11 (by kernel_rfl) (by kernel_rfl) (by kernel_rfl) (fun _ _ _ h => h) (Or.inr ⟨by rfl, rfl⟩) hHeld ?_)
  (try simp only [Act.put]); (try simp only [List.setIfInBounds_toArray]); (try simp only [List.set_cons_succ]); (try simp only [List.set_cons_zero])
  first | (refine wpAnyH_take (i := 12) (v := ?_) nth12 (by kernel_rfl) (by kernel_rfl) (by kernel_rfl) (fun _ _ _ h => h) (Or.inl ⟨by rfl, ?_⟩) hHeld ?_; rotate_left; focus (intro wS hSw; (obtain ⟨_, _, _, _⟩ := C0.out.kept hSw.2; obtain ⟨_, _, _, _⟩ := C1.out.kept hSw.2; obtain ⟨_, _, _, _⟩ := C2.out.kept hSw.2); go_simp; try with_reducible rfl; done)) | (refine wpAnyH_take (i := 12) (v := undef) nth12 (by kernel_rfl) (by kernel_rfl) (by kernel_rfl) (fun _ _ _ h => h) (Or.inr ⟨by rfl, rfl⟩) hHeld ?_)
  (try simp only [Act.put]); (try simp only [List.setIfInBounds_toArray]); (try simp only [List.set_cons_succ]); (try simp only [List.set_cons_zero])
  refine wpAnyH_ready (rs := [6]) (by kernel_rfl) (by simp) ?_
  refine AllReadyH.cons nth6 (fun K hK => ?_) AllReadyH.nil
  go_simp
  (first | (go_at_call 26; with_reducible refine (Q1.out _).mono ?_; rintro e w' ⟨rfl, hb⟩) | (go_at_call 26; with_reducible refine (Q2.out _).mono ?_; rintro e w' ⟨rfl, hb⟩) | (go_at_call 26; with_reducible refine (Q3.out _).mono ?_; rintro e w' ⟨rfl, hb⟩))
  refine hK.out _ _ (⟨⟨_, hHeld.1.choose_spec.kept hb⟩, Bel.then hHeld.2 hb⟩) (fun hHeld => ?_)
  clear hK K
  (try simp only [Act.put]); (try simp only [List.setIfInBounds_toArray]); (try simp only [List.set_cons_succ]); (try simp only [List.set_cons_zero])
  refine wpAnyH_ready (rs := [13]) (by kernel_rfl) (by simp) ?_
  refine AllReadyH.cons nth13 (fun K hK => ?_) AllReadyH.nil
  go_simp
  (first | (go_at_call 26; with_reducible refine (Q1.out _).mono ?_; rintro e w' ⟨rfl, hb⟩) | (go_at_call 26; with_reducible refine (Q2.out _).mono ?_; rintro e w' ⟨rfl, hb⟩) | (go_at_call 26; with_reducible refine (Q3.out _).mono ?_; rintro e w' ⟨rfl, hb⟩))
  refine hK.out _ _ (⟨⟨_, hHeld.1.choose_spec.kept hb⟩, Bel.then hHeld.2 hb⟩) (fun hHeld => ?_)
  clear hK K
  (try simp only [Act.put]); (try simp only [List.setIfInBounds_toArray]); (try simp only [List.set_cons_succ]); (try simp only [List.set_cons_zero])
  refine wpAnyH_ready (rs := [14]) (by kernel_rfl) (by simp) ?_
  refine AllReadyH.cons nth14 (fun K hK => ?_) AllReadyH.nil
  go_simp
  (first | (go_at_call 26; with_reducible refine (Q1.out _).mono ?_; rintro e w' ⟨rfl, hb⟩) | (go_at_call 26; with_reducible refine (Q2.out _).mono ?_; rintro e w' ⟨rfl, hb⟩) | (go_at_call 26; with_reducible refine (Q3.out _).mono ?_; rintro e w' ⟨rfl, hb⟩))
  refine hK.out _ _ (⟨⟨_, hHeld.1.choose_spec.kept hb⟩, Bel.then hHeld.2 hb⟩) (fun hHeld => ?_)
  clear hK K
  (try simp only [Act.put]); (try simp only [List.setIfInBounds_toArray]); (try simp only [List.set_cons_succ]); (try simp only [List.set_cons_zero])
  refine wpAnyH_ready (rs := [15]) (by kernel_rfl) (by simp) ?_
  refine AllReadyH.cons nth15 (fun K hK => ?_) AllReadyH.nil
  obtain ⟨u3, hu3⟩ := hHeld.1
  have HS := hide (hu3.set3 R)
  have HBS := hide (below_setV hHeld.2 (Nat.le_refl _) R)
  obtain ⟨⟨c0, c1, c2⟩, ⟨y0, y1, y2⟩⟩ := hu3.all
  go_simp
  refine hK.out _ _ (⟨⟨R, HS.out⟩, HBS.out⟩) (fun hHeld => ?_)
  clear hK K
  (try simp only [Act.put]); (try simp only [List.setIfInBounds_toArray]); (try simp only [List.set_cons_succ]); (try simp only [List.set_cons_zero])
  refine wpAnyH_done (by kernel_rfl) ?_ _
  clear hHeld
  go_wp2_with fail
  exact end_v Try.results10 rfl rfl HS.out ⟨rfl, HBS.out⟩
end Go.Proofs.Ytlkeghfdpbfhbaa
