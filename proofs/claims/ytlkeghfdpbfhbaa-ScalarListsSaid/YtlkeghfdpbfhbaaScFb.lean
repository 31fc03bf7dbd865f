/- The contracts of scalar.Apply for in, case, coalesce, upper. -/
import Derived.Test.YtlkeghfdpbfhbaaScF
namespace Go.Proofs.Ytlkeghfdpbfhbaa
set_option linter.unusedVariables false
open Go.ChangeShapes Go.WideShapes Go.ChangeAt Go.RowKit

set_option maxRecDepth 100000 in
set_option maxHeartbeats 4000000 in
theorem applyIn_c (nm : ByteArray) (a : ValV) (l : List ValV) (A : Option Addr) (n c : Nat) (w : World) (h : RowV w w.heap.size A n c (a :: l)) (hl : l ≠ []) : Calls Try.prog 10 #[.int .i64 21, .string nm, .slice A n c] w (GivesV w (inV a l)) := by
  have hlen := h.len
  have hmx := Nat.le_trans h.cap h.max
  unfold maxLen at hmx
  have hn2 : 2 ≤ n := by
    cases l with
    | nil => exact absurd rfl hl
    | cons x l => simp only [List.length_cons] at hlen; omega
  have hn2i : (2 : Int) ≤ n := by omega
  have HX := hide (vb_one w)
  have HB := hide (Bel.one w zO)
  have HC := hide (h.cut (j := 1) (by omega))
  have hcut : ∀ W, (Instr.slice 22 (.slice A n c) (some (.int .i64 1)) none none).run Try.prog W = .ok (.slice (cutA c 1 3 A) (n - 1) (c - 1)) W := fun W => cut_run (A := A) (n := n) (c := c) (j := 1) (by omega) W
  have h1i : (1 : Int) ≤ n := by omega
  have h0i : (0 : Int) < n := by omega
  have h0n : 0 < n := by omega
  have Q := hide (fun A W h => in_c2 a A (n - 1) (c - 1) l W h)
  obtain ⟨R, hr⟩ : ∃ R, inV a l = R := ⟨_, rfl⟩
  rw [hr] at Q ⊢
  obtain ⟨k, m, s⟩ := a
  unfold valAgg at Q
  simp only at Q
  obtain ⟨A2, hA2⟩ : ∃ A2, cutA c 1 3 A = A2 := ⟨_, rfl⟩
  rw [hA2] at hcut HC
  obtain ⟨blk, off, rfl, hlt, hcc⟩ := row_get h (by omega)
  have hc0 := hcc 0 _ rfl
  have l0 := hc0 0 _ rfl
  have l1 := hc0 1 _ rfl
  have l2 := hc0 2 _ rfl
  simp only [Nat.zero_mul, Nat.zero_add, Nat.add_zero] at l0 l1 l2
  have C0 : Hid (Cl w blk off k m s) := ⟨hlt, l0, l1, l2⟩
  clear hl hlen hr hA2 hcc hc0 hlt l0 l1 l2 h
  go_enter Try.func10, Try.ntmps10
  go_upto_region 1 with (fail)
  generalize w.alloc (.cells #[.int .i64 0, .int .i64 0, .string { data := #[] }] 26) = w1 at *
  go_upto_region 29 with (fail)
  refine wp_region_held_drew (S := (fun w' => (∃ u, VB w' w.heap.size u) ∧ Below w.heap.size w w')) (by kernel_rfl) (⟨⟨_, HX.out.kept (Below.refl _ _).drew⟩, HB.out.drew⟩) (fun hHeld => ?_)
  first | (refine wpAnyH_take (i := 0) (v := ?_) nth0 (by kernel_rfl) (by kernel_rfl) (by kernel_rfl) (fun _ _ _ h => h) (Or.inl ⟨by rfl, ?_⟩) hHeld ?_; rotate_left; focus (intro wS hSw; (obtain ⟨_, _, _, _⟩ := C0.out.kept hSw.2); go_simp; try with_reducible rfl; done)) | (refine wpAnyH_take (i := 0) (v := undef) nth0 (by kernel_rfl) (by kernel_rfl) (by kernel_rfl) (fun _ _ _ h => h) (Or.inr ⟨by rfl, rfl⟩) hHeld ?_)
  (try simp only [Act.put]); (try simp only [List.setIfInBounds_toArray]); (try simp only [List.set_cons_succ]); (try simp only [List.set_cons_zero])
  first | (refine wpAnyH_take (i := 1) (v := ?_) nth1 (by kernel_rfl) (by kernel_rfl) (by kernel_rfl) (fun _ _ _ h => h) (Or.inl ⟨by rfl, ?_⟩) hHeld ?_; rotate_left; focus (intro wS hSw; (obtain ⟨_, _, _, _⟩ := C0.out.kept hSw.2); go_simp; try with_reducible rfl; done)) | (refine wpAnyH_take (i := 1) (v := undef) nth1 (by kernel_rfl) (by kernel_rfl) (by kernel_rfl) (fun _ _ _ h => h) (Or.inr ⟨by rfl, rfl⟩) hHeld ?_)
  (try simp only [Act.put]); (try simp only [List.setIfInBounds_toArray]); (try simp only [List.set_cons_succ]); (try simp only [List.set_cons_zero])
  first | (refine wpAnyH_take (i := 2) (v := ?_) nth2 (by kernel_rfl) (by kernel_rfl) (by kernel_rfl) (fun _ _ _ h => h) (Or.inl ⟨by rfl, ?_⟩) hHeld ?_; rotate_left; focus (intro wS hSw; (obtain ⟨_, _, _, _⟩ := C0.out.kept hSw.2); go_simp; try with_reducible rfl; done)) | (refine wpAnyH_take (i := 2) (v := undef) nth2 (by kernel_rfl) (by kernel_rfl) (by kernel_rfl) (fun _ _ _ h => h) (Or.inr ⟨by rfl, rfl⟩) hHeld ?_)
  (try simp only [Act.put]); (try simp only [List.setIfInBounds_toArray]); (try simp only [List.set_cons_succ]); (try simp only [List.set_cons_zero])
  first | (refine wpAnyH_take (i := 3) (v := ?_) nth3 (by kernel_rfl) (by kernel_rfl) (by kernel_rfl) (fun _ _ _ h => h) (Or.inl ⟨by rfl, ?_⟩) hHeld ?_; rotate_left; focus (intro wS hSw; (obtain ⟨_, _, _, _⟩ := C0.out.kept hSw.2); go_simp; try with_reducible rfl; done)) | (refine wpAnyH_take (i := 3) (v := undef) nth3 (by kernel_rfl) (by kernel_rfl) (by kernel_rfl) (fun _ _ _ h => h) (Or.inr ⟨by rfl, rfl⟩) hHeld ?_)
  (try simp only [Act.put]); (try simp only [List.setIfInBounds_toArray]); (try simp only [List.set_cons_succ]); (try simp only [List.set_cons_zero])
  first | (refine wpAnyH_take (i := 4) (v := ?_) nth4 (by kernel_rfl) (by kernel_rfl) (by kernel_rfl) (fun _ _ _ h => h) (Or.inl ⟨by rfl, ?_⟩) hHeld ?_; rotate_left; focus (intro wS hSw; (obtain ⟨_, _, _, _⟩ := C0.out.kept hSw.2); go_simp; try with_reducible rfl; done)) | (refine wpAnyH_take (i := 4) (v := undef) nth4 (by kernel_rfl) (by kernel_rfl) (by kernel_rfl) (fun _ _ _ h => h) (Or.inr ⟨by rfl, rfl⟩) hHeld ?_)
  (try simp only [Act.put]); (try simp only [List.setIfInBounds_toArray]); (try simp only [List.set_cons_succ]); (try simp only [List.set_cons_zero])
  refine wpAnyH_ready (rs := [5]) (by kernel_rfl) (by simp) ?_
  refine AllReadyH.cons nth5 (fun K hK => ?_) AllReadyH.nil
  go_simp
  (go_at_call 27; refine (Q.out _ _ ((HC.out.below hHeld.2).more hHeld.2.size)).mono ?_; rintro e w' ⟨rfl, hb⟩; simp only [valAgg])
  refine hK.out _ _ (⟨⟨_, hHeld.1.choose_spec.kept hb⟩, Bel.then hHeld.2 hb⟩) (fun hHeld => ?_)
  clear hK K
  (try simp only [Act.put]); (try simp only [List.setIfInBounds_toArray]); (try simp only [List.set_cons_succ]); (try simp only [List.set_cons_zero])
  refine wpAnyH_ready (rs := [6]) (by kernel_rfl) (by simp) ?_
  refine AllReadyH.cons nth6 (fun K hK => ?_) AllReadyH.nil
  obtain ⟨u3, hu3⟩ := hHeld.1
  have HS := hide (hu3.set3 R)
  have HBS := hide (below_setV hHeld.2 (Nat.le_refl _) R)
  obtain ⟨⟨c0, c1, c2⟩, ⟨y0, y1, y2⟩⟩ := hu3.all
  go_simp
  refine hK.out _ _ (⟨⟨R, HS.out⟩, HBS.out⟩) (fun hHeld => ?_)
  clear hK K
  (try simp only [Act.put]); (try simp only [List.setIfInBounds_toArray]); (try simp only [List.set_cons_succ]); (try simp only [List.set_cons_zero])
  refine wpAnyH_done (by kernel_rfl) ?_ _
  clear hHeld
  go_wp2_with fail
  exact end_v Try.results10 rfl rfl HS.out ⟨rfl, HBS.out⟩
set_option maxRecDepth 100000 in
set_option maxHeartbeats 4000000 in
theorem applyCase_c (nm : ByteArray) (l : List ValV) (A : Option Addr) (n c : Nat) (w : World) (h : RowV w w.heap.size A n c l) (hn : 2 ≤ n) : Calls Try.prog 10 #[.int .i64 23, .string nm, .slice A n c] w (GivesV w (chooseV l)) := by
  have hn2i : (2 : Int) ≤ n := by omega
  have HX := hide (vb_one w)
  have HB := hide (Bel.one w zO)
  have HR := hide (h.kept (Bel.one w zO))
  clear h
  have Q := hide (fun W h => choose_c A n c l W h)
  generalize chooseV l = r at *
  go_enter Try.func10, Try.ntmps10
  go_upto_region 1 with (fail)
  generalize w.alloc (.cells #[.int .i64 0, .int .i64 0, .string { data := #[] }] 26) = w1 at *
  go_wp2_with fail
  refine (Q.out _ HR.out).mono ?_
  rintro e w2 ⟨rfl, hb⟩
  replace HX := hide (HX.out.kept hb)
  replace HB := hide (Bel.then HB.out hb)
  clear hb
  obtain ⟨⟨c0, c1, c2⟩, ⟨y0, y1, y2⟩⟩ := HX.out.all
  have HS := hide (HX.out.set3 (r))
  have HBS := hide (below_setV HB.out (Nat.le_refl _) (r))
  clear HX HB 
  unfold valAgg
  go_wp2_with fail
  exact end_v Try.results10 rfl rfl HS.out ⟨rfl, HBS.out⟩
set_option maxRecDepth 100000 in
set_option maxHeartbeats 4000000 in
theorem applyCo_c (l : List ValV) (A : Option Addr) (n c : Nat) (w : World) (h : RowV w w.heap.size A n c l) : Calls Try.prog 10 #[.int .i64 24, .string coName, .slice A n c] w (GivesV w (coalV l)) := by
  have HX := hide (vb_one w)
  have HB := hide (Bel.one w zO)
  have HR := hide (h.kept (Bel.one w zO))
  clear h
  have Q := hide (fun W h => coal_c A n c l W h)
  generalize coalV l = r at *
  go_enter Try.func10, Try.ntmps10
  go_upto_region 1 with (fail)
  generalize w.alloc (.cells #[.int .i64 0, .int .i64 0, .string { data := #[] }] 26) = w1 at *
  go_wp2_with fail
  refine (Q.out _ HR.out).mono ?_
  rintro e w2 ⟨rfl, hb⟩
  replace HX := hide (HX.out.kept hb)
  replace HB := hide (Bel.then HB.out hb)
  clear hb
  obtain ⟨⟨c0, c1, c2⟩, ⟨y0, y1, y2⟩⟩ := HX.out.all
  have HS := hide (HX.out.set3 (r))
  have HBS := hide (below_setV HB.out (Nat.le_refl _) (r))
  clear HX HB 
  unfold valAgg
  go_wp2_with fail
  exact end_v Try.results10 rfl rfl HS.out ⟨rfl, HBS.out⟩
set_option maxRecDepth 100000 in
set_option maxHeartbeats 4000000 in
theorem applyUp_c (k : Int) (s : ByteArray) (A : Option Addr) (c : Nat) (w : World) (hm : s.size ≤ 1048576) (h : RowV w w.heap.size A 1 c [⟨3, k, s⟩]) : Calls Try.prog 10 #[.int .i64 24, .string upName, .slice A 1 c] w (GivesV w (strV (strL (upL s.data.toList)))) := by
  have HX := hide (vb_one w)
  have HB := hide (Bel.one w zO)
  have HR := hide (h.kept (Bel.one w zO))
  clear h
  have Q := hide (fun W h => upcall_c A c k s W hm h)
  generalize strV (strL (upL s.data.toList)) = r at *
  go_enter Try.func10, Try.ntmps10
  go_upto_region 1 with (fail)
  generalize w.alloc (.cells #[.int .i64 0, .int .i64 0, .string { data := #[] }] 26) = w1 at *
  go_wp2_with fail
  refine (Q.out _ HR.out).mono ?_
  rintro e w2 ⟨rfl, hb⟩
  replace HX := hide (HX.out.kept hb)
  replace HB := hide (Bel.then HB.out hb)
  clear hb
  obtain ⟨⟨c0, c1, c2⟩, ⟨y0, y1, y2⟩⟩ := HX.out.all
  have HS := hide (HX.out.set3 (r))
  have HBS := hide (below_setV HB.out (Nat.le_refl _) (r))
  clear HX HB 
  unfold valAgg
  go_wp2_with fail
  exact end_v Try.results10 rfl rfl HS.out ⟨rfl, HBS.out⟩
end Go.Proofs.Ytlkeghfdpbfhbaa
