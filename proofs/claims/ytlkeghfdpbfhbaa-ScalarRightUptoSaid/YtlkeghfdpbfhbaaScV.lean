/- The reference's Apply. -/
import Derived.Test.YtlkeghfdpbfhbaaScUb
import Derived.Deep.CutRange
namespace Go.Proofs.Ytlkeghfdpbfhbaa
set_option linter.unusedVariables false
open Go.ChangeShapes Go.WideShapes Go.ChangeAt Go.RowKit

set_option maxRecDepth 100000 in
set_option maxHeartbeats 4000000 in
theorem rapplyIn_c (nm : ByteArray) (a : ValV) (l : List ValV) (A : Option Addr) (n c : Nat) (w : World) (h : RowV w w.heap.size A n c (a :: l)) (hl : l ≠ []) (ha : a.str.size ≤ 1048576) (hs : ∀ v ∈ l, v.str.size ≤ 1048576) : Calls Try.prog 11 #[.int .i64 21, .string nm, .slice A n c] w (GivesV w (inV a l)) := by
  have hlen := h.len
  have hmx := Nat.le_trans h.cap h.max
  unfold maxLen at hmx
  have hn2 : 2 ≤ n := by
    cases l with
    | nil => exact absurd rfl hl
    | cons x l => simp only [List.length_cons] at hlen; omega
  have hn2i : (1 : Int) < n := by omega
  have HX := hide (vb_one w)
  have HB := hide (Bel.one w zO)
  have HC := hide (h.cut (j := 1) (by omega))
  have hcut : ∀ W, (Instr.slice 22 (.slice A n c) (some (.int .i64 1)) none none).run Try.prog W = .ok (.slice (cutA c 1 3 A) (n - 1) (c - 1)) W := fun W => cut_run (A := A) (n := n) (c := c) (j := 1) (by omega) W
  have h1i : (1 : Int) ≤ n := by omega
  have h0i : (0 : Int) < n := by omega
  have h0n : 0 < n := by omega
  have Q := hide (fun A W h => ramong_c a A (n - 1) (c - 1) l W h ha hs)
  obtain ⟨R, hr⟩ : ∃ R, inV a l = R := ⟨_, rfl⟩
  rw [hr] at Q ⊢
  obtain ⟨k, m, s⟩ := a
  unfold valAgg at Q
  simp only at Q
  obtain ⟨A2, hA2⟩ : ∃ A2, cutA c 1 3 A = A2 := ⟨_, rfl⟩
  rw [hA2] at hcut HC
  obtain ⟨blk, off, rfl, hlt, hcc⟩ := row_get h (by omega)
  have hc0 := hcc 0 _ rfl
  have l0 := hc0 0 _ rfl
  have l1 := hc0 1 _ rfl
  have l2 := hc0 2 _ rfl
  simp only [Nat.zero_mul, Nat.zero_add, Nat.add_zero] at l0 l1 l2
  have C0 : Hid (Cl w blk off k m s) := ⟨hlt, l0, l1, l2⟩
  clear ha hs hl hlen hr hA2 hcc hc0 hlt l0 l1 l2 h
  go_enter Try.func11, Try.ntmps11
  go_upto_region 1 with (fail)
  generalize w.alloc (.cells #[.int .i64 0, .int .i64 0, .string { data := #[] }] 26) = w1 at *
  go_upto_region 4 with (fail)
  refine wp_region_held_drew (S := (fun w' => (∃ u, VB w' w.heap.size u) ∧ Below w.heap.size w w')) (by kernel_rfl) (⟨⟨_, HX.out.kept (Below.refl _ _).drew⟩, HB.out.drew⟩) (fun hHeld => ?_)
  first | (refine wpAnyH_take (i := 0) (v := ?_) nth0 (by kernel_rfl) (by kernel_rfl) (by kernel_rfl) (fun _ _ _ h => h) (Or.inl ⟨by rfl, ?_⟩) hHeld ?_; rotate_left; focus (intro wS hSw; (obtain ⟨_, _, _, _⟩ := C0.out.kept hSw.2); go_simp; try with_reducible rfl; done)) | (refine wpAnyH_take (i := 0) (v := undef) nth0 (by kernel_rfl) (by kernel_rfl) (by kernel_rfl) (fun _ _ _ h => h) (Or.inr ⟨by rfl, rfl⟩) hHeld ?_)
  (try simp only [Act.put]); (try simp only [List.setIfInBounds_toArray]); (try simp only [List.set_cons_succ]); (try simp only [List.set_cons_zero])
  first | (refine wpAnyH_take (i := 1) (v := ?_) nth1 (by kernel_rfl) (by kernel_rfl) (by kernel_rfl) (fun _ _ _ h => h) (Or.inl ⟨by rfl, ?_⟩) hHeld ?_; rotate_left; focus (intro wS hSw; (obtain ⟨_, _, _, _⟩ := C0.out.kept hSw.2); go_simp; try with_reducible rfl; done)) | (refine wpAnyH_take (i := 1) (v := undef) nth1 (by kernel_rfl) (by kernel_rfl) (by kernel_rfl) (fun _ _ _ h => h) (Or.inr ⟨by rfl, rfl⟩) hHeld ?_)
  (try simp only [Act.put]); (try simp only [List.setIfInBounds_toArray]); (try simp only [List.set_cons_succ]); (try simp only [List.set_cons_zero])
  first | (refine wpAnyH_take (i := 2) (v := ?_) nth2 (by kernel_rfl) (by kernel_rfl) (by kernel_rfl) (fun _ _ _ h => h) (Or.inl ⟨by rfl, ?_⟩) hHeld ?_; rotate_left; focus (intro wS hSw; (obtain ⟨_, _, _, _⟩ := C0.out.kept hSw.2); go_simp; try with_reducible rfl; done)) | (refine wpAnyH_take (i := 2) (v := undef) nth2 (by kernel_rfl) (by kernel_rfl) (by kernel_rfl) (fun _ _ _ h => h) (Or.inr ⟨by rfl, rfl⟩) hHeld ?_)
  (try simp only [Act.put]); (try simp only [List.setIfInBounds_toArray]); (try simp only [List.set_cons_succ]); (try simp only [List.set_cons_zero])
  first | (refine wpAnyH_take (i := 3) (v := ?_) nth3 (by kernel_rfl) (by kernel_rfl) (by kernel_rfl) (fun _ _ _ h => h) (Or.inl ⟨by rfl, ?_⟩) hHeld ?_; rotate_left; focus (intro wS hSw; (obtain ⟨_, _, _, _⟩ := C0.out.kept hSw.2); go_simp; try with_reducible rfl; done)) | (refine wpAnyH_take (i := 3) (v := undef) nth3 (by kernel_rfl) (by kernel_rfl) (by kernel_rfl) (fun _ _ _ h => h) (Or.inr ⟨by rfl, rfl⟩) hHeld ?_)
  (try simp only [Act.put]); (try simp only [List.setIfInBounds_toArray]); (try simp only [List.set_cons_succ]); (try simp only [List.set_cons_zero])
  first | (refine wpAnyH_take (i := 4) (v := ?_) nth4 (by kernel_rfl) (by kernel_rfl) (by kernel_rfl) (fun _ _ _ h => h) (Or.inl ⟨by rfl, ?_⟩) hHeld ?_; rotate_left; focus (intro wS hSw; (obtain ⟨_, _, _, _⟩ := C0.out.kept hSw.2); go_simp; try with_reducible rfl; done)) | (refine wpAnyH_take (i := 4) (v := undef) nth4 (by kernel_rfl) (by kernel_rfl) (by kernel_rfl) (fun _ _ _ h => h) (Or.inr ⟨by rfl, rfl⟩) hHeld ?_)
  (try simp only [Act.put]); (try simp only [List.setIfInBounds_toArray]); (try simp only [List.set_cons_succ]); (try simp only [List.set_cons_zero])
  refine wpAnyH_ready (rs := [5]) (by kernel_rfl) (by simp) ?_
  refine AllReadyH.cons nth5 (fun K hK => ?_) AllReadyH.nil
  go_simp
  (go_at_call 31; refine (Q.out _ _ ((HC.out.below hHeld.2).more hHeld.2.size)).mono ?_; rintro e w' ⟨rfl, hb⟩; simp only [valAgg])
  refine hK.out _ _ (⟨⟨_, hHeld.1.choose_spec.kept hb⟩, Bel.then hHeld.2 hb⟩) (fun hHeld => ?_)
  clear hK K
  (try simp only [Act.put]); (try simp only [List.setIfInBounds_toArray]); (try simp only [List.set_cons_succ]); (try simp only [List.set_cons_zero])
  refine wpAnyH_ready (rs := [6]) (by kernel_rfl) (by simp) ?_
  refine AllReadyH.cons nth6 (fun K hK => ?_) AllReadyH.nil
  obtain ⟨u3, hu3⟩ := hHeld.1
  have HS := hide (hu3.set3 R)
  have HBS := hide (below_setV hHeld.2 (Nat.le_refl _) R)
  obtain ⟨⟨c0, c1, c2⟩, ⟨y0, y1, y2⟩⟩ := hu3.all
  go_simp
  refine hK.out _ _ (⟨⟨R, HS.out⟩, HBS.out⟩) (fun hHeld => ?_)
  clear hK K
  (try simp only [Act.put]); (try simp only [List.setIfInBounds_toArray]); (try simp only [List.set_cons_succ]); (try simp only [List.set_cons_zero])
  refine wpAnyH_done (by kernel_rfl) ?_ _
  clear hHeld
  go_wp2_with fail
  exact end_v Try.results11 rfl rfl HS.out ⟨rfl, HBS.out⟩
set_option maxRecDepth 100000 in
set_option maxHeartbeats 4000000 in
theorem rapplyCase_c (nm : ByteArray) (l : List ValV) (A : Option Addr) (n c : Nat) (w : World) (h : RowV w w.heap.size A n c l) (hn : 2 ≤ n) : Calls Try.prog 11 #[.int .i64 23, .string nm, .slice A n c] w (GivesV w (chooseV l)) := by
  have hn2i : (1 : Int) < n := by omega
  have HX := hide (vb_one w)
  have HB := hide (Bel.one w zO)
  have HR := hide (h.kept (Bel.one w zO))
  clear h
  have Q := hide (fun W h => rchoose_c A n c l W h)
  generalize chooseV l = r at *
  go_enter Try.func11, Try.ntmps11
  go_upto_region 1 with (fail)
  generalize w.alloc (.cells #[.int .i64 0, .int .i64 0, .string { data := #[] }] 26) = w1 at *
  go_wp2_with fail
  refine (Q.out _ HR.out).mono ?_
  rintro e w2 ⟨rfl, hb⟩
  replace HX := hide (HX.out.kept hb)
  replace HB := hide (Bel.then HB.out hb)
  clear hb
  obtain ⟨⟨c0, c1, c2⟩, ⟨y0, y1, y2⟩⟩ := HX.out.all
  have HS := hide (HX.out.set3 (r))
  have HBS := hide (below_setV HB.out (Nat.le_refl _) (r))
  clear HX HB 
  unfold valAgg
  go_wp2_with fail
  exact end_v Try.results11 rfl rfl HS.out ⟨rfl, HBS.out⟩
set_option maxRecDepth 100000 in
set_option maxHeartbeats 4000000 in
theorem rapplyF_c (nm : ByteArray) (A : Option Addr) (n c : Nat) (l : List ValV) (w : World) (h : RowV w w.heap.size A n c l) (hs : ∀ v ∈ l, v.str.size ≤ 1048576) : Calls Try.prog 11 #[.int .i64 24, .string nm, .slice A n c] w (GivesV w (callV nm l)) := by
  have HX := hide (vb_one w)
  have HB := hide (Bel.one w zO)
  have HR := hide (h.kept (Bel.one w zO))
  clear h
  have Q := hide (fun W h => rcalled_c nm A n c l W h hs)
  generalize callV nm l = r at *
  clear hs
  go_enter Try.func11, Try.ntmps11
  go_upto_region 1 with (fail)
  generalize w.alloc (.cells #[.int .i64 0, .int .i64 0, .string { data := #[] }] 26) = w1 at *
  go_wp2_with fail
  refine (Q.out _ HR.out).mono ?_
  rintro e w2 ⟨rfl, hb⟩
  replace HX := hide (HX.out.kept hb)
  replace HB := hide (Bel.then HB.out hb)
  clear hb
  obtain ⟨⟨c0, c1, c2⟩, ⟨y0, y1, y2⟩⟩ := HX.out.all
  have HS := hide (HX.out.set3 (r))
  have HBS := hide (below_setV HB.out (Nat.le_refl _) (r))
  clear HX HB 
  unfold valAgg
  go_wp2_with fail
  exact end_v Try.results11 rfl rfl HS.out ⟨rfl, HBS.out⟩
set_option maxRecDepth 100000 in
set_option maxHeartbeats 20000000 in
theorem rapply3_c (nm : ByteArray) (a b d : ValV) (A : Option Addr) (c : Nat) (w : World) (h : RowV w w.heap.size A 3 c [a, b, d]) (ha : a.str.size ≤ 1048576) (hb : b.str.size ≤ 1048576) (hd : d.str.size ≤ 1048576) : Calls Try.prog 11 #[.int .i64 22, .string nm, .slice A 3 c] w (GivesV w (betV a b d)) := by
  have HX := hide (vb_one w)
  have HB := hide (Bel.one w zO)
  have QL := hide (fun W => rcmpop_c 16 a b W ha hb)
  have QH := hide (fun W => rcmpop_c 14 a d W ha hd)
  have hbet : betV a b d = trV (andI (frV (cmpOpV 16 a b)) (frV (cmpOpV 14 a d))) := by
    unfold betV
    rw [binV_cmp (op := 16) (by omega), binV_cmp (op := 14) (by omega)]
    rfl
  rw [hbet]
  clear hbet ha hb hd
  generalize cmpOpV 16 a b = X at *
  generalize cmpOpV 14 a d = Y at *
  have QF := hide (fun x W => rfromv_c x W)
  have QA := hide (fun (x y : Int) W => and15 x y W)
  have QV := hide (fun x W => rtriv_c x W)
  obtain ⟨R, hR⟩ : ∃ R, trV (andI (frV X) (frV Y)) = R := ⟨_, rfl⟩
  have QV2 := hide (fun W => QV.out (andI (frV X) (frV Y)) W)
  rw [hR] at QV2 ⊢
  clear hR
  obtain ⟨k, n, s⟩ := a
  obtain ⟨k2, n2, s2⟩ := b
  obtain ⟨k3, n3, s3⟩ := d
  unfold GivesV valAgg at QL QH
  unfold valAgg at QF
  simp only at QL QH
  obtain ⟨blk, off, rfl, hlt, hcc⟩ := row_get h (by omega)
  have hc0 := hcc 0 _ rfl
  have hc1 := hcc 1 _ rfl
  have hc2 := hcc 2 _ rfl
  have l0 := hc0 0 _ rfl
  have l1 := hc0 1 _ rfl
  have l2 := hc0 2 _ rfl
  simp only [Nat.zero_mul, Nat.zero_add, Nat.add_zero] at l0 l1 l2
  have m0 := hc1 0 _ rfl
  have m1 := hc1 1 _ rfl
  have m2 := hc1 2 _ rfl
  simp only [Nat.one_mul, Nat.add_zero, Nat.reduceAdd] at m0 m1 m2
  have o0 := hc2 0 _ rfl
  have o1 := hc2 1 _ rfl
  have o2 := hc2 2 _ rfl
  simp only [Nat.reduceMul, Nat.add_zero, Nat.reduceAdd] at o0 o1 o2
  have C0 : Hid (Cl w blk off k n s) := ⟨hlt, l0, l1, l2⟩
  have C1 : Hid (Cl w blk (off + 3) k2 n2 s2) := ⟨hlt, m0, m1, m2⟩
  have C2 : Hid (Cl w blk (off + 6) k3 n3 s3) := ⟨hlt, o0, o1, o2⟩
  clear hcc hc0 hc1 hc2 hlt l0 l1 l2 m0 m1 m2 o0 o1 o2 h
  go_enter Try.func11, Try.ntmps11
  go_upto_region 1 with (fail)
  generalize w.alloc (.cells #[.int .i64 0, .int .i64 0, .string { data := #[] }] 26) = w1 at *
  go_upto_region 8 with (fail)
  go_cut [7, 8] from 43 to 56 (fun p q wx => ∃ g14 g15, p = .pointer (some ⟨g14, 0, none⟩) ∧ q = .pointer (some ⟨g15, 0, none⟩) ∧ VB wx g14 X ∧ VB wx g15 Y ∧ w.heap.size < g14 ∧ w.heap.size < g15 ∧ (∃ u, VB wx w.heap.size u) ∧ Below w.heap.size w wx)
  case first =>
    refine wp_region_held_drew (S := fun w' => (∃ u, VB w' w.heap.size u) ∧ Below w.heap.size w w') (by kernel_rfl) ⟨⟨_, HX.out.kept (Below.refl _ _).drew⟩, HB.out.drew⟩ (fun hHeld => ?_)
    clear HX HB
    (try simp only [show ({ heap := w1.heap, tape := w1.tape, drawn := w1.drawn + 1, os := w1.os, output := w1.output } : World) = w1.drew from rfl] at *)
    generalize w1.drew = w2 at *
    first | (refine wpAnyH_take (i := 0) (v := ?_) nth0 (by kernel_rfl) (by kernel_rfl) (by kernel_rfl) (fun _ _ _ h => h) (Or.inl ⟨by rfl, ?_⟩) hHeld ?_; rotate_left; focus (intro wS hSw; obtain ⟨_, _, _, _⟩ := C0.out.kept hSw.2; obtain ⟨_, _, _, _⟩ := C1.out.kept hSw.2; obtain ⟨_, _, _, _⟩ := C2.out.kept hSw.2; go_simp; try with_reducible rfl; done)) | fail
    (try simp only [Act.put]); (try simp only [List.setIfInBounds_toArray]); (try simp only [List.set_cons_succ]); (try simp only [List.set_cons_zero])
    first | (refine wpAnyH_take (i := 1) (v := ?_) nth1 (by kernel_rfl) (by kernel_rfl) (by kernel_rfl) (fun _ _ _ h => h) (Or.inl ⟨by rfl, ?_⟩) hHeld ?_; rotate_left; focus (intro wS hSw; obtain ⟨_, _, _, _⟩ := C0.out.kept hSw.2; obtain ⟨_, _, _, _⟩ := C1.out.kept hSw.2; obtain ⟨_, _, _, _⟩ := C2.out.kept hSw.2; go_simp; try with_reducible rfl; done)) | fail
    (try simp only [Act.put]); (try simp only [List.setIfInBounds_toArray]); (try simp only [List.set_cons_succ]); (try simp only [List.set_cons_zero])
    first | (refine wpAnyH_take (i := 2) (v := ?_) nth2 (by kernel_rfl) (by kernel_rfl) (by kernel_rfl) (fun _ _ _ h => h) (Or.inl ⟨by rfl, ?_⟩) hHeld ?_; rotate_left; focus (intro wS hSw; obtain ⟨_, _, _, _⟩ := C0.out.kept hSw.2; obtain ⟨_, _, _, _⟩ := C1.out.kept hSw.2; obtain ⟨_, _, _, _⟩ := C2.out.kept hSw.2; go_simp; try with_reducible rfl; done)) | fail
    (try simp only [Act.put]); (try simp only [List.setIfInBounds_toArray]); (try simp only [List.set_cons_succ]); (try simp only [List.set_cons_zero])
    first | (refine wpAnyH_take (i := 3) (v := ?_) nth3 (by kernel_rfl) (by kernel_rfl) (by kernel_rfl) (fun _ _ _ h => h) (Or.inl ⟨by rfl, ?_⟩) hHeld ?_; rotate_left; focus (intro wS hSw; obtain ⟨_, _, _, _⟩ := C0.out.kept hSw.2; obtain ⟨_, _, _, _⟩ := C1.out.kept hSw.2; obtain ⟨_, _, _, _⟩ := C2.out.kept hSw.2; go_simp; try with_reducible rfl; done)) | fail
    (try simp only [Act.put]); (try simp only [List.setIfInBounds_toArray]); (try simp only [List.set_cons_succ]); (try simp only [List.set_cons_zero])
    first | (refine wpAnyH_take (i := 4) (v := ?_) nth4 (by kernel_rfl) (by kernel_rfl) (by kernel_rfl) (fun _ _ _ h => h) (Or.inl ⟨by rfl, ?_⟩) hHeld ?_; rotate_left; focus (intro wS hSw; obtain ⟨_, _, _, _⟩ := C0.out.kept hSw.2; obtain ⟨_, _, _, _⟩ := C1.out.kept hSw.2; obtain ⟨_, _, _, _⟩ := C2.out.kept hSw.2; go_simp; try with_reducible rfl; done)) | fail
    (try simp only [Act.put]); (try simp only [List.setIfInBounds_toArray]); (try simp only [List.set_cons_succ]); (try simp only [List.set_cons_zero])
    first | (refine wpAnyH_take (i := 5) (v := ?_) nth5 (by kernel_rfl) (by kernel_rfl) (by kernel_rfl) (fun _ _ _ h => h) (Or.inl ⟨by rfl, ?_⟩) hHeld ?_; rotate_left; focus (intro wS hSw; obtain ⟨_, _, _, _⟩ := C0.out.kept hSw.2; obtain ⟨_, _, _, _⟩ := C1.out.kept hSw.2; obtain ⟨_, _, _, _⟩ := C2.out.kept hSw.2; go_simp; try with_reducible rfl; done)) | fail
    (try simp only [Act.put]); (try simp only [List.setIfInBounds_toArray]); (try simp only [List.set_cons_succ]); (try simp only [List.set_cons_zero])
    first | (refine wpAnyH_take (i := 7) (v := ?_) nth7 (by kernel_rfl) (by kernel_rfl) (by kernel_rfl) (fun _ _ _ h => h) (Or.inl ⟨by rfl, ?_⟩) hHeld ?_; rotate_left; focus (intro wS hSw; obtain ⟨_, _, _, _⟩ := C0.out.kept hSw.2; obtain ⟨_, _, _, _⟩ := C1.out.kept hSw.2; obtain ⟨_, _, _, _⟩ := C2.out.kept hSw.2; go_simp; try with_reducible rfl; done)) | fail
    (try simp only [Act.put]); (try simp only [List.setIfInBounds_toArray]); (try simp only [List.set_cons_succ]); (try simp only [List.set_cons_zero])
    first | (refine wpAnyH_take (i := 8) (v := ?_) nth8 (by kernel_rfl) (by kernel_rfl) (by kernel_rfl) (fun _ _ _ h => h) (Or.inl ⟨by rfl, ?_⟩) hHeld ?_; rotate_left; focus (intro wS hSw; obtain ⟨_, _, _, _⟩ := C0.out.kept hSw.2; obtain ⟨_, _, _, _⟩ := C1.out.kept hSw.2; obtain ⟨_, _, _, _⟩ := C2.out.kept hSw.2; go_simp; try with_reducible rfl; done)) | fail
    (try simp only [Act.put]); (try simp only [List.setIfInBounds_toArray]); (try simp only [List.set_cons_succ]); (try simp only [List.set_cons_zero])
    first | (refine wpAnyH_take (i := 9) (v := ?_) nth9 (by kernel_rfl) (by kernel_rfl) (by kernel_rfl) (fun _ _ _ h => h) (Or.inl ⟨by rfl, ?_⟩) hHeld ?_; rotate_left; focus (intro wS hSw; obtain ⟨_, _, _, _⟩ := C0.out.kept hSw.2; obtain ⟨_, _, _, _⟩ := C1.out.kept hSw.2; obtain ⟨_, _, _, _⟩ := C2.out.kept hSw.2; go_simp; try with_reducible rfl; done)) | fail
    (try simp only [Act.put]); (try simp only [List.setIfInBounds_toArray]); (try simp only [List.set_cons_succ]); (try simp only [List.set_cons_zero])
    first | (refine wpAnyH_take (i := 10) (v := ?_) nth10 (by kernel_rfl) (by kernel_rfl) (by kernel_rfl) (fun _ _ _ h => h) (Or.inl ⟨by rfl, ?_⟩) hHeld ?_; rotate_left; focus (intro wS hSw; obtain ⟨_, _, _, _⟩ := C0.out.kept hSw.2; obtain ⟨_, _, _, _⟩ := C1.out.kept hSw.2; obtain ⟨_, _, _, _⟩ := C2.out.kept hSw.2; go_simp; try with_reducible rfl; done)) | fail
    (try simp only [Act.put]); (try simp only [List.setIfInBounds_toArray]); (try simp only [List.set_cons_succ]); (try simp only [List.set_cons_zero])
    first | (refine wpAnyH_take (i := 11) (v := ?_) nth11 (by kernel_rfl) (by kernel_rfl) (by kernel_rfl) (fun _ _ _ h => h) (Or.inl ⟨by rfl, ?_⟩) hHeld ?_; rotate_left; focus (intro wS hSw; obtain ⟨_, _, _, _⟩ := C0.out.kept hSw.2; obtain ⟨_, _, _, _⟩ := C1.out.kept hSw.2; obtain ⟨_, _, _, _⟩ := C2.out.kept hSw.2; go_simp; try with_reducible rfl; done)) | fail
    (try simp only [Act.put]); (try simp only [List.setIfInBounds_toArray]); (try simp only [List.set_cons_succ]); (try simp only [List.set_cons_zero])
    first | (refine wpAnyH_take (i := 12) (v := ?_) nth12 (by kernel_rfl) (by kernel_rfl) (by kernel_rfl) (fun _ _ _ h => h) (Or.inl ⟨by rfl, ?_⟩) hHeld ?_; rotate_left; focus (intro wS hSw; obtain ⟨_, _, _, _⟩ := C0.out.kept hSw.2; obtain ⟨_, _, _, _⟩ := C1.out.kept hSw.2; obtain ⟨_, _, _, _⟩ := C2.out.kept hSw.2; go_simp; try with_reducible rfl; done)) | fail
    (try simp only [Act.put]); (try simp only [List.setIfInBounds_toArray]); (try simp only [List.set_cons_succ]); (try simp only [List.set_cons_zero])
    clear C0 C1 C2
    refine wpAnyH_ready (rs := [6, 14, 15]) (by kernel_rfl) (by simp) ?_
    refine (AllReadyH.cons nth6 (fun K hK => ?_) (AllReadyH.cons nth14 (fun K hK => ?_) (AllReadyH.cons nth15 (fun K hK => ?_) AllReadyH.nil)))
    · go_simp
      go_at_call 33
      refine (QL.out _).mono ?_
      rintro e wx1 ⟨rfl, hb⟩
      refine hK.out _ _ ⟨⟨_, hHeld.1.choose_spec.kept hb⟩, Bel.then hHeld.2 hb⟩ (fun hHeld => ?_)
      clear hK K
      (try simp only [Act.put]); (try simp only [List.setIfInBounds_toArray]); (try simp only [List.set_cons_succ]); (try simp only [List.set_cons_zero])
      clear hb
      refine wpAnyH_ready (rs := [13, 14, 15]) (by kernel_rfl) (by simp) ?_
      refine (AllReadyH.cons nth13 (fun K hK => ?_) (AllReadyH.cons nth14 (fun K hK => ?_) (AllReadyH.cons nth15 (fun K hK => ?_) AllReadyH.nil)))
      · go_simp
        go_at_call 33
        refine (QH.out _).mono ?_
        rintro e wx2 ⟨rfl, hb⟩
        refine hK.out _ _ ⟨⟨_, hHeld.1.choose_spec.kept hb⟩, Bel.then hHeld.2 hb⟩ (fun hHeld => ?_)
        clear hK K
        (try simp only [Act.put]); (try simp only [List.setIfInBounds_toArray]); (try simp only [List.set_cons_succ]); (try simp only [List.set_cons_zero])
        clear hb
        refine wpAnyH_ready (rs := [14, 15]) (by kernel_rfl) (by simp) ?_
        refine (AllReadyH.cons nth14 (fun K hK => ?_) (AllReadyH.cons nth15 (fun K hK => ?_) AllReadyH.nil))
        · go_simp
          have D14 := hide (hHeld.1.choose_spec.lt)
          refine hK.out _ _ ⟨⟨_, hHeld.1.choose_spec.kept (Bel.one _ _)⟩, Bel.alloc hHeld.2 _⟩ (fun hHeld => ?_)
          clear hK K
          (try simp only [Act.put]); (try simp only [List.setIfInBounds_toArray]); (try simp only [List.set_cons_succ]); (try simp only [List.set_cons_zero])
          have Z14 := hide (vb_one wx2)
          generalize wx2.alloc (.cells #[.int .i64 0, .int .i64 0, .string { data := #[] }] 26) = wx3 at *
          generalize wx2.heap.size = g14 at *
          refine wpAnyH_ready (rs := [15]) (by kernel_rfl) (by simp) ?_
          refine (AllReadyH.cons nth15 (fun K hK => ?_) AllReadyH.nil)
          go_simp
          have D15 := hide (hHeld.1.choose_spec.lt)
          have NZ14 := hide (Nat.ne_of_lt Z14.out.lt)
          refine hK.out _ _ ⟨⟨_, hHeld.1.choose_spec.kept (Bel.one _ _)⟩, Bel.alloc hHeld.2 _⟩ (fun hHeld => ?_)
          clear hK K
          (try simp only [Act.put]); (try simp only [List.setIfInBounds_toArray]); (try simp only [List.set_cons_succ]); (try simp only [List.set_cons_zero])
          replace Z14 := hide (Z14.out.kept (Bel.one _ zO))
          have Z15 := hide (vb_one wx3)
          generalize wx3.alloc (.cells #[.int .i64 0, .int .i64 0, .string { data := #[] }] 26) = wx4 at *
          generalize wx3.heap.size = g15 at *
          refine wpAnyH_ready (rs := [16]) (by kernel_rfl) (by simp) ?_
          refine (AllReadyH.cons nth16 (fun K hK => ?_) AllReadyH.nil)
          obtain ⟨⟨c0, c1, c2⟩, ⟨y0, y1, y2⟩⟩ := Z14.out.all
          have HU := hide (⟨⟨_, hHeld.1.choose_spec.far (Nat.ne_of_gt D14.out) X⟩, below_setV hHeld.2 (Nat.le_of_lt D14.out) X⟩ : (∃ u, VB (setV wx4 g14 X) w.heap.size u) ∧ Below w.heap.size w (setV wx4 g14 X))
          go_simp
          refine hK.out _ _ HU.out (fun _ => ?_)
          replace hHeld := HU.out
          clear hK K c0 c1 c2 y0 y1 y2 HU
          (try simp only [Act.put]); (try simp only [List.setIfInBounds_toArray]); (try simp only [List.set_cons_succ]); (try simp only [List.set_cons_zero])
          replace Z15 := hide (Z15.out.far NZ14.out X)
          replace Z14 := hide (Z14.out.set3 X)
          change wpAnyH _ _ _ _ _ _ _ _ (setV wx4 g14 X)
          generalize setV wx4 g14 X = wx5 at *
          refine wpAnyH_ready (rs := [17]) (by kernel_rfl) (by simp) ?_
          refine (AllReadyH.cons nth17 (fun K hK => ?_) AllReadyH.nil)
          obtain ⟨⟨c0, c1, c2⟩, ⟨y0, y1, y2⟩⟩ := Z15.out.all
          have HU := hide (⟨⟨_, hHeld.1.choose_spec.far (Nat.ne_of_gt D15.out) Y⟩, below_setV hHeld.2 (Nat.le_of_lt D15.out) Y⟩ : (∃ u, VB (setV wx5 g15 Y) w.heap.size u) ∧ Below w.heap.size w (setV wx5 g15 Y))
          go_simp
          refine hK.out _ _ HU.out (fun _ => ?_)
          replace hHeld := HU.out
          clear hK K c0 c1 c2 y0 y1 y2 HU
          (try simp only [Act.put]); (try simp only [List.setIfInBounds_toArray]); (try simp only [List.set_cons_succ]); (try simp only [List.set_cons_zero])
          replace Z14 := hide (Z14.out.far (Ne.symm NZ14.out) Y)
          replace Z15 := hide (Z15.out.set3 Y)
          change wpAnyH _ _ _ _ _ _ _ _ (setV wx5 g15 Y)
          generalize setV wx5 g15 Y = wx6 at *
          refine wpAnyH_done (by kernel_rfl) ?_ _
          go_wp2_with fail
          go_meet
          case rel => exact ⟨_, _, rfl, rfl, Z14.out, Z15.out, D14.out, D15.out, hHeld.1, hHeld.2⟩
        · go_simp
          have D15 := hide (hHeld.1.choose_spec.lt)
          refine hK.out _ _ ⟨⟨_, hHeld.1.choose_spec.kept (Bel.one _ _)⟩, Bel.alloc hHeld.2 _⟩ (fun hHeld => ?_)
          clear hK K
          (try simp only [Act.put]); (try simp only [List.setIfInBounds_toArray]); (try simp only [List.set_cons_succ]); (try simp only [List.set_cons_zero])
          have Z15 := hide (vb_one wx2)
          generalize wx2.alloc (.cells #[.int .i64 0, .int .i64 0, .string { data := #[] }] 26) = wx7 at *
          generalize wx2.heap.size = g15 at *
          refine wpAnyH_ready (rs := [14]) (by kernel_rfl) (by simp) ?_
          refine (AllReadyH.cons nth14 (fun K hK => ?_) AllReadyH.nil)
          go_simp
          have D14 := hide (hHeld.1.choose_spec.lt)
          have NZ15 := hide (Nat.ne_of_lt Z15.out.lt)
          refine hK.out _ _ ⟨⟨_, hHeld.1.choose_spec.kept (Bel.one _ _)⟩, Bel.alloc hHeld.2 _⟩ (fun hHeld => ?_)
          clear hK K
          (try simp only [Act.put]); (try simp only [List.setIfInBounds_toArray]); (try simp only [List.set_cons_succ]); (try simp only [List.set_cons_zero])
          replace Z15 := hide (Z15.out.kept (Bel.one _ zO))
          have Z14 := hide (vb_one wx7)
          generalize wx7.alloc (.cells #[.int .i64 0, .int .i64 0, .string { data := #[] }] 26) = wx8 at *
          generalize wx7.heap.size = g14 at *
          refine wpAnyH_ready (rs := [16]) (by kernel_rfl) (by simp) ?_
          refine (AllReadyH.cons nth16 (fun K hK => ?_) AllReadyH.nil)
          obtain ⟨⟨c0, c1, c2⟩, ⟨y0, y1, y2⟩⟩ := Z14.out.all
          have HU := hide (⟨⟨_, hHeld.1.choose_spec.far (Nat.ne_of_gt D14.out) X⟩, below_setV hHeld.2 (Nat.le_of_lt D14.out) X⟩ : (∃ u, VB (setV wx8 g14 X) w.heap.size u) ∧ Below w.heap.size w (setV wx8 g14 X))
          go_simp
          refine hK.out _ _ HU.out (fun _ => ?_)
          replace hHeld := HU.out
          clear hK K c0 c1 c2 y0 y1 y2 HU
          (try simp only [Act.put]); (try simp only [List.setIfInBounds_toArray]); (try simp only [List.set_cons_succ]); (try simp only [List.set_cons_zero])
          replace Z15 := hide (Z15.out.far (Ne.symm NZ15.out) X)
          replace Z14 := hide (Z14.out.set3 X)
          change wpAnyH _ _ _ _ _ _ _ _ (setV wx8 g14 X)
          generalize setV wx8 g14 X = wx9 at *
          refine wpAnyH_ready (rs := [17]) (by kernel_rfl) (by simp) ?_
          refine (AllReadyH.cons nth17 (fun K hK => ?_) AllReadyH.nil)
          obtain ⟨⟨c0, c1, c2⟩, ⟨y0, y1, y2⟩⟩ := Z15.out.all
          have HU := hide (⟨⟨_, hHeld.1.choose_spec.far (Nat.ne_of_gt D15.out) Y⟩, below_setV hHeld.2 (Nat.le_of_lt D15.out) Y⟩ : (∃ u, VB (setV wx9 g15 Y) w.heap.size u) ∧ Below w.heap.size w (setV wx9 g15 Y))
          go_simp
          refine hK.out _ _ HU.out (fun _ => ?_)
          replace hHeld := HU.out
          clear hK K c0 c1 c2 y0 y1 y2 HU
          (try simp only [Act.put]); (try simp only [List.setIfInBounds_toArray]); (try simp only [List.set_cons_succ]); (try simp only [List.set_cons_zero])
          replace Z14 := hide (Z14.out.far NZ15.out Y)
          replace Z15 := hide (Z15.out.set3 Y)
          change wpAnyH _ _ _ _ _ _ _ _ (setV wx9 g15 Y)
          generalize setV wx9 g15 Y = wx10 at *
          refine wpAnyH_done (by kernel_rfl) ?_ _
          go_wp2_with fail
          go_meet
          case rel => exact ⟨_, _, rfl, rfl, Z14.out, Z15.out, D14.out, D15.out, hHeld.1, hHeld.2⟩
      · go_simp
        have D14 := hide (hHeld.1.choose_spec.lt)
        refine hK.out _ _ ⟨⟨_, hHeld.1.choose_spec.kept (Bel.one _ _)⟩, Bel.alloc hHeld.2 _⟩ (fun hHeld => ?_)
        clear hK K
        (try simp only [Act.put]); (try simp only [List.setIfInBounds_toArray]); (try simp only [List.set_cons_succ]); (try simp only [List.set_cons_zero])
        have Z14 := hide (vb_one wx1)
        generalize wx1.alloc (.cells #[.int .i64 0, .int .i64 0, .string { data := #[] }] 26) = wx11 at *
        generalize wx1.heap.size = g14 at *
        refine wpAnyH_ready (rs := [13, 15]) (by kernel_rfl) (by simp) ?_
        refine (AllReadyH.cons nth13 (fun K hK => ?_) (AllReadyH.cons nth15 (fun K hK => ?_) AllReadyH.nil))
        · go_simp
          go_at_call 33
          refine (QH.out _).mono ?_
          rintro e wx12 ⟨rfl, hb⟩
          refine hK.out _ _ ⟨⟨_, hHeld.1.choose_spec.kept hb⟩, Bel.then hHeld.2 hb⟩ (fun hHeld => ?_)
          clear hK K
          (try simp only [Act.put]); (try simp only [List.setIfInBounds_toArray]); (try simp only [List.set_cons_succ]); (try simp only [List.set_cons_zero])
          replace Z14 := hide (Z14.out.kept hb)
          clear hb
          refine wpAnyH_ready (rs := [15]) (by kernel_rfl) (by simp) ?_
          refine (AllReadyH.cons nth15 (fun K hK => ?_) AllReadyH.nil)
          go_simp
          have D15 := hide (hHeld.1.choose_spec.lt)
          have NZ14 := hide (Nat.ne_of_lt Z14.out.lt)
          refine hK.out _ _ ⟨⟨_, hHeld.1.choose_spec.kept (Bel.one _ _)⟩, Bel.alloc hHeld.2 _⟩ (fun hHeld => ?_)
          clear hK K
          (try simp only [Act.put]); (try simp only [List.setIfInBounds_toArray]); (try simp only [List.set_cons_succ]); (try simp only [List.set_cons_zero])
          replace Z14 := hide (Z14.out.kept (Bel.one _ zO))
          have Z15 := hide (vb_one wx12)
          generalize wx12.alloc (.cells #[.int .i64 0, .int .i64 0, .string { data := #[] }] 26) = wx13 at *
          generalize wx12.heap.size = g15 at *
          refine wpAnyH_ready (rs := [16]) (by kernel_rfl) (by simp) ?_
          refine (AllReadyH.cons nth16 (fun K hK => ?_) AllReadyH.nil)
          obtain ⟨⟨c0, c1, c2⟩, ⟨y0, y1, y2⟩⟩ := Z14.out.all
          have HU := hide (⟨⟨_, hHeld.1.choose_spec.far (Nat.ne_of_gt D14.out) X⟩, below_setV hHeld.2 (Nat.le_of_lt D14.out) X⟩ : (∃ u, VB (setV wx13 g14 X) w.heap.size u) ∧ Below w.heap.size w (setV wx13 g14 X))
          go_simp
          refine hK.out _ _ HU.out (fun _ => ?_)
          replace hHeld := HU.out
          clear hK K c0 c1 c2 y0 y1 y2 HU
          (try simp only [Act.put]); (try simp only [List.setIfInBounds_toArray]); (try simp only [List.set_cons_succ]); (try simp only [List.set_cons_zero])
          replace Z15 := hide (Z15.out.far NZ14.out X)
          replace Z14 := hide (Z14.out.set3 X)
          change wpAnyH _ _ _ _ _ _ _ _ (setV wx13 g14 X)
          generalize setV wx13 g14 X = wx14 at *
          refine wpAnyH_ready (rs := [17]) (by kernel_rfl) (by simp) ?_
          refine (AllReadyH.cons nth17 (fun K hK => ?_) AllReadyH.nil)
          obtain ⟨⟨c0, c1, c2⟩, ⟨y0, y1, y2⟩⟩ := Z15.out.all
          have HU := hide (⟨⟨_, hHeld.1.choose_spec.far (Nat.ne_of_gt D15.out) Y⟩, below_setV hHeld.2 (Nat.le_of_lt D15.out) Y⟩ : (∃ u, VB (setV wx14 g15 Y) w.heap.size u) ∧ Below w.heap.size w (setV wx14 g15 Y))
          go_simp
          refine hK.out _ _ HU.out (fun _ => ?_)
          replace hHeld := HU.out
          clear hK K c0 c1 c2 y0 y1 y2 HU
          (try simp only [Act.put]); (try simp only [List.setIfInBounds_toArray]); (try simp only [List.set_cons_succ]); (try simp only [List.set_cons_zero])
          replace Z14 := hide (Z14.out.far (Ne.symm NZ14.out) Y)
          replace Z15 := hide (Z15.out.set3 Y)
          change wpAnyH _ _ _ _ _ _ _ _ (setV wx14 g15 Y)
          generalize setV wx14 g15 Y = wx15 at *
          refine wpAnyH_done (by kernel_rfl) ?_ _
          go_wp2_with fail
          go_meet
          case rel => exact ⟨_, _, rfl, rfl, Z14.out, Z15.out, D14.out, D15.out, hHeld.1, hHeld.2⟩
        · go_simp
          have D15 := hide (hHeld.1.choose_spec.lt)
          have NZ14 := hide (Nat.ne_of_lt Z14.out.lt)
          refine hK.out _ _ ⟨⟨_, hHeld.1.choose_spec.kept (Bel.one _ _)⟩, Bel.alloc hHeld.2 _⟩ (fun hHeld => ?_)
          clear hK K
          (try simp only [Act.put]); (try simp only [List.setIfInBounds_toArray]); (try simp only [List.set_cons_succ]); (try simp only [List.set_cons_zero])
          replace Z14 := hide (Z14.out.kept (Bel.one _ zO))
          have Z15 := hide (vb_one wx11)
          generalize wx11.alloc (.cells #[.int .i64 0, .int .i64 0, .string { data := #[] }] 26) = wx16 at *
          generalize wx11.heap.size = g15 at *
          refine wpAnyH_ready (rs := [13]) (by kernel_rfl) (by simp) ?_
          refine (AllReadyH.cons nth13 (fun K hK => ?_) AllReadyH.nil)
          go_simp
          go_at_call 33
          refine (QH.out _).mono ?_
          rintro e wx17 ⟨rfl, hb⟩
          refine hK.out _ _ ⟨⟨_, hHeld.1.choose_spec.kept hb⟩, Bel.then hHeld.2 hb⟩ (fun hHeld => ?_)
          clear hK K
          (try simp only [Act.put]); (try simp only [List.setIfInBounds_toArray]); (try simp only [List.set_cons_succ]); (try simp only [List.set_cons_zero])
          replace Z14 := hide (Z14.out.kept hb)
          replace Z15 := hide (Z15.out.kept hb)
          clear hb
          refine wpAnyH_ready (rs := [16]) (by kernel_rfl) (by simp) ?_
          refine (AllReadyH.cons nth16 (fun K hK => ?_) AllReadyH.nil)
          obtain ⟨⟨c0, c1, c2⟩, ⟨y0, y1, y2⟩⟩ := Z14.out.all
          have HU := hide (⟨⟨_, hHeld.1.choose_spec.far (Nat.ne_of_gt D14.out) X⟩, below_setV hHeld.2 (Nat.le_of_lt D14.out) X⟩ : (∃ u, VB (setV wx17 g14 X) w.heap.size u) ∧ Below w.heap.size w (setV wx17 g14 X))
          go_simp
          refine hK.out _ _ HU.out (fun _ => ?_)
          replace hHeld := HU.out
          clear hK K c0 c1 c2 y0 y1 y2 HU
          (try simp only [Act.put]); (try simp only [List.setIfInBounds_toArray]); (try simp only [List.set_cons_succ]); (try simp only [List.set_cons_zero])
          replace Z15 := hide (Z15.out.far NZ14.out X)
          replace Z14 := hide (Z14.out.set3 X)
          change wpAnyH _ _ _ _ _ _ _ _ (setV wx17 g14 X)
          generalize setV wx17 g14 X = wx18 at *
          refine wpAnyH_ready (rs := [17]) (by kernel_rfl) (by simp) ?_
          refine (AllReadyH.cons nth17 (fun K hK => ?_) AllReadyH.nil)
          obtain ⟨⟨c0, c1, c2⟩, ⟨y0, y1, y2⟩⟩ := Z15.out.all
          have HU := hide (⟨⟨_, hHeld.1.choose_spec.far (Nat.ne_of_gt D15.out) Y⟩, below_setV hHeld.2 (Nat.le_of_lt D15.out) Y⟩ : (∃ u, VB (setV wx18 g15 Y) w.heap.size u) ∧ Below w.heap.size w (setV wx18 g15 Y))
          go_simp
          refine hK.out _ _ HU.out (fun _ => ?_)
          replace hHeld := HU.out
          clear hK K c0 c1 c2 y0 y1 y2 HU
          (try simp only [Act.put]); (try simp only [List.setIfInBounds_toArray]); (try simp only [List.set_cons_succ]); (try simp only [List.set_cons_zero])
          replace Z14 := hide (Z14.out.far (Ne.symm NZ14.out) Y)
          replace Z15 := hide (Z15.out.set3 Y)
          change wpAnyH _ _ _ _ _ _ _ _ (setV wx18 g15 Y)
          generalize setV wx18 g15 Y = wx19 at *
          refine wpAnyH_done (by kernel_rfl) ?_ _
          go_wp2_with fail
          go_meet
          case rel => exact ⟨_, _, rfl, rfl, Z14.out, Z15.out, D14.out, D15.out, hHeld.1, hHeld.2⟩
      · go_simp
        have D15 := hide (hHeld.1.choose_spec.lt)
        refine hK.out _ _ ⟨⟨_, hHeld.1.choose_spec.kept (Bel.one _ _)⟩, Bel.alloc hHeld.2 _⟩ (fun hHeld => ?_)
        clear hK K
        (try simp only [Act.put]); (try simp only [List.setIfInBounds_toArray]); (try simp only [List.set_cons_succ]); (try simp only [List.set_cons_zero])
        have Z15 := hide (vb_one wx1)
        generalize wx1.alloc (.cells #[.int .i64 0, .int .i64 0, .string { data := #[] }] 26) = wx20 at *
        generalize wx1.heap.size = g15 at *
        refine wpAnyH_ready (rs := [13, 14]) (by kernel_rfl) (by simp) ?_
        refine (AllReadyH.cons nth13 (fun K hK => ?_) (AllReadyH.cons nth14 (fun K hK => ?_) AllReadyH.nil))
        · go_simp
          go_at_call 33
          refine (QH.out _).mono ?_
          rintro e wx21 ⟨rfl, hb⟩
          refine hK.out _ _ ⟨⟨_, hHeld.1.choose_spec.kept hb⟩, Bel.then hHeld.2 hb⟩ (fun hHeld => ?_)
          clear hK K
          (try simp only [Act.put]); (try simp only [List.setIfInBounds_toArray]); (try simp only [List.set_cons_succ]); (try simp only [List.set_cons_zero])
          replace Z15 := hide (Z15.out.kept hb)
          clear hb
          refine wpAnyH_ready (rs := [14]) (by kernel_rfl) (by simp) ?_
          refine (AllReadyH.cons nth14 (fun K hK => ?_) AllReadyH.nil)
          go_simp
          have D14 := hide (hHeld.1.choose_spec.lt)
          have NZ15 := hide (Nat.ne_of_lt Z15.out.lt)
          refine hK.out _ _ ⟨⟨_, hHeld.1.choose_spec.kept (Bel.one _ _)⟩, Bel.alloc hHeld.2 _⟩ (fun hHeld => ?_)
          clear hK K
          (try simp only [Act.put]); (try simp only [List.setIfInBounds_toArray]); (try simp only [List.set_cons_succ]); (try simp only [List.set_cons_zero])
          replace Z15 := hide (Z15.out.kept (Bel.one _ zO))
          have Z14 := hide (vb_one wx21)
          generalize wx21.alloc (.cells #[.int .i64 0, .int .i64 0, .string { data := #[] }] 26) = wx22 at *
          generalize wx21.heap.size = g14 at *
          refine wpAnyH_ready (rs := [16]) (by kernel_rfl) (by simp) ?_
          refine (AllReadyH.cons nth16 (fun K hK => ?_) AllReadyH.nil)
          obtain ⟨⟨c0, c1, c2⟩, ⟨y0, y1, y2⟩⟩ := Z14.out.all
          have HU := hide (⟨⟨_, hHeld.1.choose_spec.far (Nat.ne_of_gt D14.out) X⟩, below_setV hHeld.2 (Nat.le_of_lt D14.out) X⟩ : (∃ u, VB (setV wx22 g14 X) w.heap.size u) ∧ Below w.heap.size w (setV wx22 g14 X))
          go_simp
          refine hK.out _ _ HU.out (fun _ => ?_)
          replace hHeld := HU.out
          clear hK K c0 c1 c2 y0 y1 y2 HU
          (try simp only [Act.put]); (try simp only [List.setIfInBounds_toArray]); (try simp only [List.set_cons_succ]); (try simp only [List.set_cons_zero])
          replace Z15 := hide (Z15.out.far (Ne.symm NZ15.out) X)
          replace Z14 := hide (Z14.out.set3 X)
          change wpAnyH _ _ _ _ _ _ _ _ (setV wx22 g14 X)
          generalize setV wx22 g14 X = wx23 at *
          refine wpAnyH_ready (rs := [17]) (by kernel_rfl) (by simp) ?_
          refine (AllReadyH.cons nth17 (fun K hK => ?_) AllReadyH.nil)
          obtain ⟨⟨c0, c1, c2⟩, ⟨y0, y1, y2⟩⟩ := Z15.out.all
          have HU := hide (⟨⟨_, hHeld.1.choose_spec.far (Nat.ne_of_gt D15.out) Y⟩, below_setV hHeld.2 (Nat.le_of_lt D15.out) Y⟩ : (∃ u, VB (setV wx23 g15 Y) w.heap.size u) ∧ Below w.heap.size w (setV wx23 g15 Y))
          go_simp
          refine hK.out _ _ HU.out (fun _ => ?_)
          replace hHeld := HU.out
          clear hK K c0 c1 c2 y0 y1 y2 HU
          (try simp only [Act.put]); (try simp only [List.setIfInBounds_toArray]); (try simp only [List.set_cons_succ]); (try simp only [List.set_cons_zero])
          replace Z14 := hide (Z14.out.far NZ15.out Y)
          replace Z15 := hide (Z15.out.set3 Y)
          change wpAnyH _ _ _ _ _ _ _ _ (setV wx23 g15 Y)
          generalize setV wx23 g15 Y = wx24 at *
          refine wpAnyH_done (by kernel_rfl) ?_ _
          go_wp2_with fail
          go_meet
          case rel => exact ⟨_, _, rfl, rfl, Z14.out, Z15.out, D14.out, D15.out, hHeld.1, hHeld.2⟩
        · go_simp
          have D14 := hide (hHeld.1.choose_spec.lt)
          have NZ15 := hide (Nat.ne_of_lt Z15.out.lt)
          refine hK.out _ _ ⟨⟨_, hHeld.1.choose_spec.kept (Bel.one _ _)⟩, Bel.alloc hHeld.2 _⟩ (fun hHeld => ?_)
          clear hK K
          (try simp only [Act.put]); (try simp only [List.setIfInBounds_toArray]); (try simp only [List.set_cons_succ]); (try simp only [List.set_cons_zero])
          replace Z15 := hide (Z15.out.kept (Bel.one _ zO))
          have Z14 := hide (vb_one wx20)
          generalize wx20.alloc (.cells #[.int .i64 0, .int .i64 0, .string { data := #[] }] 26) = wx25 at *
          generalize wx20.heap.size = g14 at *
          refine wpAnyH_ready (rs := [13]) (by kernel_rfl) (by simp) ?_
          refine (AllReadyH.cons nth13 (fun K hK => ?_) AllReadyH.nil)
          go_simp
          go_at_call 33
          refine (QH.out _).mono ?_
          rintro e wx26 ⟨rfl, hb⟩
          refine hK.out _ _ ⟨⟨_, hHeld.1.choose_spec.kept hb⟩, Bel.then hHeld.2 hb⟩ (fun hHeld => ?_)
          clear hK K
          (try simp only [Act.put]); (try simp only [List.setIfInBounds_toArray]); (try simp only [List.set_cons_succ]); (try simp only [List.set_cons_zero])
          replace Z15 := hide (Z15.out.kept hb)
          replace Z14 := hide (Z14.out.kept hb)
          clear hb
          refine wpAnyH_ready (rs := [16]) (by kernel_rfl) (by simp) ?_
          refine (AllReadyH.cons nth16 (fun K hK => ?_) AllReadyH.nil)
          obtain ⟨⟨c0, c1, c2⟩, ⟨y0, y1, y2⟩⟩ := Z14.out.all
          have HU := hide (⟨⟨_, hHeld.1.choose_spec.far (Nat.ne_of_gt D14.out) X⟩, below_setV hHeld.2 (Nat.le_of_lt D14.out) X⟩ : (∃ u, VB (setV wx26 g14 X) w.heap.size u) ∧ Below w.heap.size w (setV wx26 g14 X))
          go_simp
          refine hK.out _ _ HU.out (fun _ => ?_)
          replace hHeld := HU.out
          clear hK K c0 c1 c2 y0 y1 y2 HU
          (try simp only [Act.put]); (try simp only [List.setIfInBounds_toArray]); (try simp only [List.set_cons_succ]); (try simp only [List.set_cons_zero])
          replace Z15 := hide (Z15.out.far (Ne.symm NZ15.out) X)
          replace Z14 := hide (Z14.out.set3 X)
          change wpAnyH _ _ _ _ _ _ _ _ (setV wx26 g14 X)
          generalize setV wx26 g14 X = wx27 at *
          refine wpAnyH_ready (rs := [17]) (by kernel_rfl) (by simp) ?_
          refine (AllReadyH.cons nth17 (fun K hK => ?_) AllReadyH.nil)
          obtain ⟨⟨c0, c1, c2⟩, ⟨y0, y1, y2⟩⟩ := Z15.out.all
          have HU := hide (⟨⟨_, hHeld.1.choose_spec.far (Nat.ne_of_gt D15.out) Y⟩, below_setV hHeld.2 (Nat.le_of_lt D15.out) Y⟩ : (∃ u, VB (setV wx27 g15 Y) w.heap.size u) ∧ Below w.heap.size w (setV wx27 g15 Y))
          go_simp
          refine hK.out _ _ HU.out (fun _ => ?_)
          replace hHeld := HU.out
          clear hK K c0 c1 c2 y0 y1 y2 HU
          (try simp only [Act.put]); (try simp only [List.setIfInBounds_toArray]); (try simp only [List.set_cons_succ]); (try simp only [List.set_cons_zero])
          replace Z14 := hide (Z14.out.far NZ15.out Y)
          replace Z15 := hide (Z15.out.set3 Y)
          change wpAnyH _ _ _ _ _ _ _ _ (setV wx27 g15 Y)
          generalize setV wx27 g15 Y = wx28 at *
          refine wpAnyH_done (by kernel_rfl) ?_ _
          go_wp2_with fail
          go_meet
          case rel => exact ⟨_, _, rfl, rfl, Z14.out, Z15.out, D14.out, D15.out, hHeld.1, hHeld.2⟩
    · go_simp
      have D14 := hide (hHeld.1.choose_spec.lt)
      refine hK.out _ _ ⟨⟨_, hHeld.1.choose_spec.kept (Bel.one _ _)⟩, Bel.alloc hHeld.2 _⟩ (fun hHeld => ?_)
      clear hK K
      (try simp only [Act.put]); (try simp only [List.setIfInBounds_toArray]); (try simp only [List.set_cons_succ]); (try simp only [List.set_cons_zero])
      have Z14 := hide (vb_one w2)
      generalize w2.alloc (.cells #[.int .i64 0, .int .i64 0, .string { data := #[] }] 26) = wx29 at *
      generalize w2.heap.size = g14 at *
      refine wpAnyH_ready (rs := [6, 15]) (by kernel_rfl) (by simp) ?_
      refine (AllReadyH.cons nth6 (fun K hK => ?_) (AllReadyH.cons nth15 (fun K hK => ?_) AllReadyH.nil))
      · go_simp
        go_at_call 33
        refine (QL.out _).mono ?_
        rintro e wx30 ⟨rfl, hb⟩
        refine hK.out _ _ ⟨⟨_, hHeld.1.choose_spec.kept hb⟩, Bel.then hHeld.2 hb⟩ (fun hHeld => ?_)
        clear hK K
        (try simp only [Act.put]); (try simp only [List.setIfInBounds_toArray]); (try simp only [List.set_cons_succ]); (try simp only [List.set_cons_zero])
        replace Z14 := hide (Z14.out.kept hb)
        clear hb
        refine wpAnyH_ready (rs := [13, 15]) (by kernel_rfl) (by simp) ?_
        refine (AllReadyH.cons nth13 (fun K hK => ?_) (AllReadyH.cons nth15 (fun K hK => ?_) AllReadyH.nil))
        · go_simp
          go_at_call 33
          refine (QH.out _).mono ?_
          rintro e wx31 ⟨rfl, hb⟩
          refine hK.out _ _ ⟨⟨_, hHeld.1.choose_spec.kept hb⟩, Bel.then hHeld.2 hb⟩ (fun hHeld => ?_)
          clear hK K
          (try simp only [Act.put]); (try simp only [List.setIfInBounds_toArray]); (try simp only [List.set_cons_succ]); (try simp only [List.set_cons_zero])
          replace Z14 := hide (Z14.out.kept hb)
          clear hb
          refine wpAnyH_ready (rs := [15]) (by kernel_rfl) (by simp) ?_
          refine (AllReadyH.cons nth15 (fun K hK => ?_) AllReadyH.nil)
          go_simp
          have D15 := hide (hHeld.1.choose_spec.lt)
          have NZ14 := hide (Nat.ne_of_lt Z14.out.lt)
          refine hK.out _ _ ⟨⟨_, hHeld.1.choose_spec.kept (Bel.one _ _)⟩, Bel.alloc hHeld.2 _⟩ (fun hHeld => ?_)
          clear hK K
          (try simp only [Act.put]); (try simp only [List.setIfInBounds_toArray]); (try simp only [List.set_cons_succ]); (try simp only [List.set_cons_zero])
          replace Z14 := hide (Z14.out.kept (Bel.one _ zO))
          have Z15 := hide (vb_one wx31)
          generalize wx31.alloc (.cells #[.int .i64 0, .int .i64 0, .string { data := #[] }] 26) = wx32 at *
          generalize wx31.heap.size = g15 at *
          refine wpAnyH_ready (rs := [16]) (by kernel_rfl) (by simp) ?_
          refine (AllReadyH.cons nth16 (fun K hK => ?_) AllReadyH.nil)
          obtain ⟨⟨c0, c1, c2⟩, ⟨y0, y1, y2⟩⟩ := Z14.out.all
          have HU := hide (⟨⟨_, hHeld.1.choose_spec.far (Nat.ne_of_gt D14.out) X⟩, below_setV hHeld.2 (Nat.le_of_lt D14.out) X⟩ : (∃ u, VB (setV wx32 g14 X) w.heap.size u) ∧ Below w.heap.size w (setV wx32 g14 X))
          go_simp
          refine hK.out _ _ HU.out (fun _ => ?_)
          replace hHeld := HU.out
          clear hK K c0 c1 c2 y0 y1 y2 HU
          (try simp only [Act.put]); (try simp only [List.setIfInBounds_toArray]); (try simp only [List.set_cons_succ]); (try simp only [List.set_cons_zero])
          replace Z15 := hide (Z15.out.far NZ14.out X)
          replace Z14 := hide (Z14.out.set3 X)
          change wpAnyH _ _ _ _ _ _ _ _ (setV wx32 g14 X)
          generalize setV wx32 g14 X = wx33 at *
          refine wpAnyH_ready (rs := [17]) (by kernel_rfl) (by simp) ?_
          refine (AllReadyH.cons nth17 (fun K hK => ?_) AllReadyH.nil)
          obtain ⟨⟨c0, c1, c2⟩, ⟨y0, y1, y2⟩⟩ := Z15.out.all
          have HU := hide (⟨⟨_, hHeld.1.choose_spec.far (Nat.ne_of_gt D15.out) Y⟩, below_setV hHeld.2 (Nat.le_of_lt D15.out) Y⟩ : (∃ u, VB (setV wx33 g15 Y) w.heap.size u) ∧ Below w.heap.size w (setV wx33 g15 Y))
          go_simp
          refine hK.out _ _ HU.out (fun _ => ?_)
          replace hHeld := HU.out
          clear hK K c0 c1 c2 y0 y1 y2 HU
          (try simp only [Act.put]); (try simp only [List.setIfInBounds_toArray]); (try simp only [List.set_cons_succ]); (try simp only [List.set_cons_zero])
          replace Z14 := hide (Z14.out.far (Ne.symm NZ14.out) Y)
          replace Z15 := hide (Z15.out.set3 Y)
          change wpAnyH _ _ _ _ _ _ _ _ (setV wx33 g15 Y)
          generalize setV wx33 g15 Y = wx34 at *
          refine wpAnyH_done (by kernel_rfl) ?_ _
          go_wp2_with fail
          go_meet
          case rel => exact ⟨_, _, rfl, rfl, Z14.out, Z15.out, D14.out, D15.out, hHeld.1, hHeld.2⟩
        · go_simp
          have D15 := hide (hHeld.1.choose_spec.lt)
          have NZ14 := hide (Nat.ne_of_lt Z14.out.lt)
          refine hK.out _ _ ⟨⟨_, hHeld.1.choose_spec.kept (Bel.one _ _)⟩, Bel.alloc hHeld.2 _⟩ (fun hHeld => ?_)
          clear hK K
          (try simp only [Act.put]); (try simp only [List.setIfInBounds_toArray]); (try simp only [List.set_cons_succ]); (try simp only [List.set_cons_zero])
          replace Z14 := hide (Z14.out.kept (Bel.one _ zO))
          have Z15 := hide (vb_one wx30)
          generalize wx30.alloc (.cells #[.int .i64 0, .int .i64 0, .string { data := #[] }] 26) = wx35 at *
          generalize wx30.heap.size = g15 at *
          refine wpAnyH_ready (rs := [13]) (by kernel_rfl) (by simp) ?_
          refine (AllReadyH.cons nth13 (fun K hK => ?_) AllReadyH.nil)
          go_simp
          go_at_call 33
          refine (QH.out _).mono ?_
          rintro e wx36 ⟨rfl, hb⟩
          refine hK.out _ _ ⟨⟨_, hHeld.1.choose_spec.kept hb⟩, Bel.then hHeld.2 hb⟩ (fun hHeld => ?_)
          clear hK K
          (try simp only [Act.put]); (try simp only [List.setIfInBounds_toArray]); (try simp only [List.set_cons_succ]); (try simp only [List.set_cons_zero])
          replace Z14 := hide (Z14.out.kept hb)
          replace Z15 := hide (Z15.out.kept hb)
          clear hb
          refine wpAnyH_ready (rs := [16]) (by kernel_rfl) (by simp) ?_
          refine (AllReadyH.cons nth16 (fun K hK => ?_) AllReadyH.nil)
          obtain ⟨⟨c0, c1, c2⟩, ⟨y0, y1, y2⟩⟩ := Z14.out.all
          have HU := hide (⟨⟨_, hHeld.1.choose_spec.far (Nat.ne_of_gt D14.out) X⟩, below_setV hHeld.2 (Nat.le_of_lt D14.out) X⟩ : (∃ u, VB (setV wx36 g14 X) w.heap.size u) ∧ Below w.heap.size w (setV wx36 g14 X))
          go_simp
          refine hK.out _ _ HU.out (fun _ => ?_)
          replace hHeld := HU.out
          clear hK K c0 c1 c2 y0 y1 y2 HU
          (try simp only [Act.put]); (try simp only [List.setIfInBounds_toArray]); (try simp only [List.set_cons_succ]); (try simp only [List.set_cons_zero])
          replace Z15 := hide (Z15.out.far NZ14.out X)
          replace Z14 := hide (Z14.out.set3 X)
          change wpAnyH _ _ _ _ _ _ _ _ (setV wx36 g14 X)
          generalize setV wx36 g14 X = wx37 at *
          refine wpAnyH_ready (rs := [17]) (by kernel_rfl) (by simp) ?_
          refine (AllReadyH.cons nth17 (fun K hK => ?_) AllReadyH.nil)
          obtain ⟨⟨c0, c1, c2⟩, ⟨y0, y1, y2⟩⟩ := Z15.out.all
          have HU := hide (⟨⟨_, hHeld.1.choose_spec.far (Nat.ne_of_gt D15.out) Y⟩, below_setV hHeld.2 (Nat.le_of_lt D15.out) Y⟩ : (∃ u, VB (setV wx37 g15 Y) w.heap.size u) ∧ Below w.heap.size w (setV wx37 g15 Y))
          go_simp
          refine hK.out _ _ HU.out (fun _ => ?_)
          replace hHeld := HU.out
          clear hK K c0 c1 c2 y0 y1 y2 HU
          (try simp only [Act.put]); (try simp only [List.setIfInBounds_toArray]); (try simp only [List.set_cons_succ]); (try simp only [List.set_cons_zero])
          replace Z14 := hide (Z14.out.far (Ne.symm NZ14.out) Y)
          replace Z15 := hide (Z15.out.set3 Y)
          change wpAnyH _ _ _ _ _ _ _ _ (setV wx37 g15 Y)
          generalize setV wx37 g15 Y = wx38 at *
          refine wpAnyH_done (by kernel_rfl) ?_ _
          go_wp2_with fail
          go_meet
          case rel => exact ⟨_, _, rfl, rfl, Z14.out, Z15.out, D14.out, D15.out, hHeld.1, hHeld.2⟩
      · go_simp
        have D15 := hide (hHeld.1.choose_spec.lt)
        have NZ14 := hide (Nat.ne_of_lt Z14.out.lt)
        refine hK.out _ _ ⟨⟨_, hHeld.1.choose_spec.kept (Bel.one _ _)⟩, Bel.alloc hHeld.2 _⟩ (fun hHeld => ?_)
        clear hK K
        (try simp only [Act.put]); (try simp only [List.setIfInBounds_toArray]); (try simp only [List.set_cons_succ]); (try simp only [List.set_cons_zero])
        replace Z14 := hide (Z14.out.kept (Bel.one _ zO))
        have Z15 := hide (vb_one wx29)
        generalize wx29.alloc (.cells #[.int .i64 0, .int .i64 0, .string { data := #[] }] 26) = wx39 at *
        generalize wx29.heap.size = g15 at *
        refine wpAnyH_ready (rs := [6]) (by kernel_rfl) (by simp) ?_
        refine (AllReadyH.cons nth6 (fun K hK => ?_) AllReadyH.nil)
        go_simp
        go_at_call 33
        refine (QL.out _).mono ?_
        rintro e wx40 ⟨rfl, hb⟩
        refine hK.out _ _ ⟨⟨_, hHeld.1.choose_spec.kept hb⟩, Bel.then hHeld.2 hb⟩ (fun hHeld => ?_)
        clear hK K
        (try simp only [Act.put]); (try simp only [List.setIfInBounds_toArray]); (try simp only [List.set_cons_succ]); (try simp only [List.set_cons_zero])
        replace Z14 := hide (Z14.out.kept hb)
        replace Z15 := hide (Z15.out.kept hb)
        clear hb
        refine wpAnyH_ready (rs := [13]) (by kernel_rfl) (by simp) ?_
        refine (AllReadyH.cons nth13 (fun K hK => ?_) AllReadyH.nil)
        go_simp
        go_at_call 33
        refine (QH.out _).mono ?_
        rintro e wx41 ⟨rfl, hb⟩
        refine hK.out _ _ ⟨⟨_, hHeld.1.choose_spec.kept hb⟩, Bel.then hHeld.2 hb⟩ (fun hHeld => ?_)
        clear hK K
        (try simp only [Act.put]); (try simp only [List.setIfInBounds_toArray]); (try simp only [List.set_cons_succ]); (try simp only [List.set_cons_zero])
        replace Z14 := hide (Z14.out.kept hb)
        replace Z15 := hide (Z15.out.kept hb)
        clear hb
        refine wpAnyH_ready (rs := [16]) (by kernel_rfl) (by simp) ?_
        refine (AllReadyH.cons nth16 (fun K hK => ?_) AllReadyH.nil)
        obtain ⟨⟨c0, c1, c2⟩, ⟨y0, y1, y2⟩⟩ := Z14.out.all
        have HU := hide (⟨⟨_, hHeld.1.choose_spec.far (Nat.ne_of_gt D14.out) X⟩, below_setV hHeld.2 (Nat.le_of_lt D14.out) X⟩ : (∃ u, VB (setV wx41 g14 X) w.heap.size u) ∧ Below w.heap.size w (setV wx41 g14 X))
        go_simp
        refine hK.out _ _ HU.out (fun _ => ?_)
        replace hHeld := HU.out
        clear hK K c0 c1 c2 y0 y1 y2 HU
        (try simp only [Act.put]); (try simp only [List.setIfInBounds_toArray]); (try simp only [List.set_cons_succ]); (try simp only [List.set_cons_zero])
        replace Z15 := hide (Z15.out.far NZ14.out X)
        replace Z14 := hide (Z14.out.set3 X)
        change wpAnyH _ _ _ _ _ _ _ _ (setV wx41 g14 X)
        generalize setV wx41 g14 X = wx42 at *
        refine wpAnyH_ready (rs := [17]) (by kernel_rfl) (by simp) ?_
        refine (AllReadyH.cons nth17 (fun K hK => ?_) AllReadyH.nil)
        obtain ⟨⟨c0, c1, c2⟩, ⟨y0, y1, y2⟩⟩ := Z15.out.all
        have HU := hide (⟨⟨_, hHeld.1.choose_spec.far (Nat.ne_of_gt D15.out) Y⟩, below_setV hHeld.2 (Nat.le_of_lt D15.out) Y⟩ : (∃ u, VB (setV wx42 g15 Y) w.heap.size u) ∧ Below w.heap.size w (setV wx42 g15 Y))
        go_simp
        refine hK.out _ _ HU.out (fun _ => ?_)
        replace hHeld := HU.out
        clear hK K c0 c1 c2 y0 y1 y2 HU
        (try simp only [Act.put]); (try simp only [List.setIfInBounds_toArray]); (try simp only [List.set_cons_succ]); (try simp only [List.set_cons_zero])
        replace Z14 := hide (Z14.out.far (Ne.symm NZ14.out) Y)
        replace Z15 := hide (Z15.out.set3 Y)
        change wpAnyH _ _ _ _ _ _ _ _ (setV wx42 g15 Y)
        generalize setV wx42 g15 Y = wx43 at *
        refine wpAnyH_done (by kernel_rfl) ?_ _
        go_wp2_with fail
        go_meet
        case rel => exact ⟨_, _, rfl, rfl, Z14.out, Z15.out, D14.out, D15.out, hHeld.1, hHeld.2⟩
    · go_simp
      have D15 := hide (hHeld.1.choose_spec.lt)
      refine hK.out _ _ ⟨⟨_, hHeld.1.choose_spec.kept (Bel.one _ _)⟩, Bel.alloc hHeld.2 _⟩ (fun hHeld => ?_)
      clear hK K
      (try simp only [Act.put]); (try simp only [List.setIfInBounds_toArray]); (try simp only [List.set_cons_succ]); (try simp only [List.set_cons_zero])
      have Z15 := hide (vb_one w2)
      generalize w2.alloc (.cells #[.int .i64 0, .int .i64 0, .string { data := #[] }] 26) = wx44 at *
      generalize w2.heap.size = g15 at *
      refine wpAnyH_ready (rs := [6, 14]) (by kernel_rfl) (by simp) ?_
      refine (AllReadyH.cons nth6 (fun K hK => ?_) (AllReadyH.cons nth14 (fun K hK => ?_) AllReadyH.nil))
      · go_simp
        go_at_call 33
        refine (QL.out _).mono ?_
        rintro e wx45 ⟨rfl, hb⟩
        refine hK.out _ _ ⟨⟨_, hHeld.1.choose_spec.kept hb⟩, Bel.then hHeld.2 hb⟩ (fun hHeld => ?_)
        clear hK K
        (try simp only [Act.put]); (try simp only [List.setIfInBounds_toArray]); (try simp only [List.set_cons_succ]); (try simp only [List.set_cons_zero])
        replace Z15 := hide (Z15.out.kept hb)
        clear hb
        refine wpAnyH_ready (rs := [13, 14]) (by kernel_rfl) (by simp) ?_
        refine (AllReadyH.cons nth13 (fun K hK => ?_) (AllReadyH.cons nth14 (fun K hK => ?_) AllReadyH.nil))
        · go_simp
          go_at_call 33
          refine (QH.out _).mono ?_
          rintro e wx46 ⟨rfl, hb⟩
          refine hK.out _ _ ⟨⟨_, hHeld.1.choose_spec.kept hb⟩, Bel.then hHeld.2 hb⟩ (fun hHeld => ?_)
          clear hK K
          (try simp only [Act.put]); (try simp only [List.setIfInBounds_toArray]); (try simp only [List.set_cons_succ]); (try simp only [List.set_cons_zero])
          replace Z15 := hide (Z15.out.kept hb)
          clear hb
          refine wpAnyH_ready (rs := [14]) (by kernel_rfl) (by simp) ?_
          refine (AllReadyH.cons nth14 (fun K hK => ?_) AllReadyH.nil)
          go_simp
          have D14 := hide (hHeld.1.choose_spec.lt)
          have NZ15 := hide (Nat.ne_of_lt Z15.out.lt)
          refine hK.out _ _ ⟨⟨_, hHeld.1.choose_spec.kept (Bel.one _ _)⟩, Bel.alloc hHeld.2 _⟩ (fun hHeld => ?_)
          clear hK K
          (try simp only [Act.put]); (try simp only [List.setIfInBounds_toArray]); (try simp only [List.set_cons_succ]); (try simp only [List.set_cons_zero])
          replace Z15 := hide (Z15.out.kept (Bel.one _ zO))
          have Z14 := hide (vb_one wx46)
          generalize wx46.alloc (.cells #[.int .i64 0, .int .i64 0, .string { data := #[] }] 26) = wx47 at *
          generalize wx46.heap.size = g14 at *
          refine wpAnyH_ready (rs := [16]) (by kernel_rfl) (by simp) ?_
          refine (AllReadyH.cons nth16 (fun K hK => ?_) AllReadyH.nil)
          obtain ⟨⟨c0, c1, c2⟩, ⟨y0, y1, y2⟩⟩ := Z14.out.all
          have HU := hide (⟨⟨_, hHeld.1.choose_spec.far (Nat.ne_of_gt D14.out) X⟩, below_setV hHeld.2 (Nat.le_of_lt D14.out) X⟩ : (∃ u, VB (setV wx47 g14 X) w.heap.size u) ∧ Below w.heap.size w (setV wx47 g14 X))
          go_simp
          refine hK.out _ _ HU.out (fun _ => ?_)
          replace hHeld := HU.out
          clear hK K c0 c1 c2 y0 y1 y2 HU
          (try simp only [Act.put]); (try simp only [List.setIfInBounds_toArray]); (try simp only [List.set_cons_succ]); (try simp only [List.set_cons_zero])
          replace Z15 := hide (Z15.out.far (Ne.symm NZ15.out) X)
          replace Z14 := hide (Z14.out.set3 X)
          change wpAnyH _ _ _ _ _ _ _ _ (setV wx47 g14 X)
          generalize setV wx47 g14 X = wx48 at *
          refine wpAnyH_ready (rs := [17]) (by kernel_rfl) (by simp) ?_
          refine (AllReadyH.cons nth17 (fun K hK => ?_) AllReadyH.nil)
          obtain ⟨⟨c0, c1, c2⟩, ⟨y0, y1, y2⟩⟩ := Z15.out.all
          have HU := hide (⟨⟨_, hHeld.1.choose_spec.far (Nat.ne_of_gt D15.out) Y⟩, below_setV hHeld.2 (Nat.le_of_lt D15.out) Y⟩ : (∃ u, VB (setV wx48 g15 Y) w.heap.size u) ∧ Below w.heap.size w (setV wx48 g15 Y))
          go_simp
          refine hK.out _ _ HU.out (fun _ => ?_)
          replace hHeld := HU.out
          clear hK K c0 c1 c2 y0 y1 y2 HU
          (try simp only [Act.put]); (try simp only [List.setIfInBounds_toArray]); (try simp only [List.set_cons_succ]); (try simp only [List.set_cons_zero])
          replace Z14 := hide (Z14.out.far NZ15.out Y)
          replace Z15 := hide (Z15.out.set3 Y)
          change wpAnyH _ _ _ _ _ _ _ _ (setV wx48 g15 Y)
          generalize setV wx48 g15 Y = wx49 at *
          refine wpAnyH_done (by kernel_rfl) ?_ _
          go_wp2_with fail
          go_meet
          case rel => exact ⟨_, _, rfl, rfl, Z14.out, Z15.out, D14.out, D15.out, hHeld.1, hHeld.2⟩
        · go_simp
          have D14 := hide (hHeld.1.choose_spec.lt)
          have NZ15 := hide (Nat.ne_of_lt Z15.out.lt)
          refine hK.out _ _ ⟨⟨_, hHeld.1.choose_spec.kept (Bel.one _ _)⟩, Bel.alloc hHeld.2 _⟩ (fun hHeld => ?_)
          clear hK K
          (try simp only [Act.put]); (try simp only [List.setIfInBounds_toArray]); (try simp only [List.set_cons_succ]); (try simp only [List.set_cons_zero])
          replace Z15 := hide (Z15.out.kept (Bel.one _ zO))
          have Z14 := hide (vb_one wx45)
          generalize wx45.alloc (.cells #[.int .i64 0, .int .i64 0, .string { data := #[] }] 26) = wx50 at *
          generalize wx45.heap.size = g14 at *
          refine wpAnyH_ready (rs := [13]) (by kernel_rfl) (by simp) ?_
          refine (AllReadyH.cons nth13 (fun K hK => ?_) AllReadyH.nil)
          go_simp
          go_at_call 33
          refine (QH.out _).mono ?_
          rintro e wx51 ⟨rfl, hb⟩
          refine hK.out _ _ ⟨⟨_, hHeld.1.choose_spec.kept hb⟩, Bel.then hHeld.2 hb⟩ (fun hHeld => ?_)
          clear hK K
          (try simp only [Act.put]); (try simp only [List.setIfInBounds_toArray]); (try simp only [List.set_cons_succ]); (try simp only [List.set_cons_zero])
          replace Z15 := hide (Z15.out.kept hb)
          replace Z14 := hide (Z14.out.kept hb)
          clear hb
          refine wpAnyH_ready (rs := [16]) (by kernel_rfl) (by simp) ?_
          refine (AllReadyH.cons nth16 (fun K hK => ?_) AllReadyH.nil)
          obtain ⟨⟨c0, c1, c2⟩, ⟨y0, y1, y2⟩⟩ := Z14.out.all
          have HU := hide (⟨⟨_, hHeld.1.choose_spec.far (Nat.ne_of_gt D14.out) X⟩, below_setV hHeld.2 (Nat.le_of_lt D14.out) X⟩ : (∃ u, VB (setV wx51 g14 X) w.heap.size u) ∧ Below w.heap.size w (setV wx51 g14 X))
          go_simp
          refine hK.out _ _ HU.out (fun _ => ?_)
          replace hHeld := HU.out
          clear hK K c0 c1 c2 y0 y1 y2 HU
          (try simp only [Act.put]); (try simp only [List.setIfInBounds_toArray]); (try simp only [List.set_cons_succ]); (try simp only [List.set_cons_zero])
          replace Z15 := hide (Z15.out.far (Ne.symm NZ15.out) X)
          replace Z14 := hide (Z14.out.set3 X)
          change wpAnyH _ _ _ _ _ _ _ _ (setV wx51 g14 X)
          generalize setV wx51 g14 X = wx52 at *
          refine wpAnyH_ready (rs := [17]) (by kernel_rfl) (by simp) ?_
          refine (AllReadyH.cons nth17 (fun K hK => ?_) AllReadyH.nil)
          obtain ⟨⟨c0, c1, c2⟩, ⟨y0, y1, y2⟩⟩ := Z15.out.all
          have HU := hide (⟨⟨_, hHeld.1.choose_spec.far (Nat.ne_of_gt D15.out) Y⟩, below_setV hHeld.2 (Nat.le_of_lt D15.out) Y⟩ : (∃ u, VB (setV wx52 g15 Y) w.heap.size u) ∧ Below w.heap.size w (setV wx52 g15 Y))
          go_simp
          refine hK.out _ _ HU.out (fun _ => ?_)
          replace hHeld := HU.out
          clear hK K c0 c1 c2 y0 y1 y2 HU
          (try simp only [Act.put]); (try simp only [List.setIfInBounds_toArray]); (try simp only [List.set_cons_succ]); (try simp only [List.set_cons_zero])
          replace Z14 := hide (Z14.out.far NZ15.out Y)
          replace Z15 := hide (Z15.out.set3 Y)
          change wpAnyH _ _ _ _ _ _ _ _ (setV wx52 g15 Y)
          generalize setV wx52 g15 Y = wx53 at *
          refine wpAnyH_done (by kernel_rfl) ?_ _
          go_wp2_with fail
          go_meet
          case rel => exact ⟨_, _, rfl, rfl, Z14.out, Z15.out, D14.out, D15.out, hHeld.1, hHeld.2⟩
      · go_simp
        have D14 := hide (hHeld.1.choose_spec.lt)
        have NZ15 := hide (Nat.ne_of_lt Z15.out.lt)
        refine hK.out _ _ ⟨⟨_, hHeld.1.choose_spec.kept (Bel.one _ _)⟩, Bel.alloc hHeld.2 _⟩ (fun hHeld => ?_)
        clear hK K
        (try simp only [Act.put]); (try simp only [List.setIfInBounds_toArray]); (try simp only [List.set_cons_succ]); (try simp only [List.set_cons_zero])
        replace Z15 := hide (Z15.out.kept (Bel.one _ zO))
        have Z14 := hide (vb_one wx44)
        generalize wx44.alloc (.cells #[.int .i64 0, .int .i64 0, .string { data := #[] }] 26) = wx54 at *
        generalize wx44.heap.size = g14 at *
        refine wpAnyH_ready (rs := [6]) (by kernel_rfl) (by simp) ?_
        refine (AllReadyH.cons nth6 (fun K hK => ?_) AllReadyH.nil)
        go_simp
        go_at_call 33
        refine (QL.out _).mono ?_
        rintro e wx55 ⟨rfl, hb⟩
        refine hK.out _ _ ⟨⟨_, hHeld.1.choose_spec.kept hb⟩, Bel.then hHeld.2 hb⟩ (fun hHeld => ?_)
        clear hK K
        (try simp only [Act.put]); (try simp only [List.setIfInBounds_toArray]); (try simp only [List.set_cons_succ]); (try simp only [List.set_cons_zero])
        replace Z15 := hide (Z15.out.kept hb)
        replace Z14 := hide (Z14.out.kept hb)
        clear hb
        refine wpAnyH_ready (rs := [13]) (by kernel_rfl) (by simp) ?_
        refine (AllReadyH.cons nth13 (fun K hK => ?_) AllReadyH.nil)
        go_simp
        go_at_call 33
        refine (QH.out _).mono ?_
        rintro e wx56 ⟨rfl, hb⟩
        refine hK.out _ _ ⟨⟨_, hHeld.1.choose_spec.kept hb⟩, Bel.then hHeld.2 hb⟩ (fun hHeld => ?_)
        clear hK K
        (try simp only [Act.put]); (try simp only [List.setIfInBounds_toArray]); (try simp only [List.set_cons_succ]); (try simp only [List.set_cons_zero])
        replace Z15 := hide (Z15.out.kept hb)
        replace Z14 := hide (Z14.out.kept hb)
        clear hb
        refine wpAnyH_ready (rs := [16]) (by kernel_rfl) (by simp) ?_
        refine (AllReadyH.cons nth16 (fun K hK => ?_) AllReadyH.nil)
        obtain ⟨⟨c0, c1, c2⟩, ⟨y0, y1, y2⟩⟩ := Z14.out.all
        have HU := hide (⟨⟨_, hHeld.1.choose_spec.far (Nat.ne_of_gt D14.out) X⟩, below_setV hHeld.2 (Nat.le_of_lt D14.out) X⟩ : (∃ u, VB (setV wx56 g14 X) w.heap.size u) ∧ Below w.heap.size w (setV wx56 g14 X))
        go_simp
        refine hK.out _ _ HU.out (fun _ => ?_)
        replace hHeld := HU.out
        clear hK K c0 c1 c2 y0 y1 y2 HU
        (try simp only [Act.put]); (try simp only [List.setIfInBounds_toArray]); (try simp only [List.set_cons_succ]); (try simp only [List.set_cons_zero])
        replace Z15 := hide (Z15.out.far (Ne.symm NZ15.out) X)
        replace Z14 := hide (Z14.out.set3 X)
        change wpAnyH _ _ _ _ _ _ _ _ (setV wx56 g14 X)
        generalize setV wx56 g14 X = wx57 at *
        refine wpAnyH_ready (rs := [17]) (by kernel_rfl) (by simp) ?_
        refine (AllReadyH.cons nth17 (fun K hK => ?_) AllReadyH.nil)
        obtain ⟨⟨c0, c1, c2⟩, ⟨y0, y1, y2⟩⟩ := Z15.out.all
        have HU := hide (⟨⟨_, hHeld.1.choose_spec.far (Nat.ne_of_gt D15.out) Y⟩, below_setV hHeld.2 (Nat.le_of_lt D15.out) Y⟩ : (∃ u, VB (setV wx57 g15 Y) w.heap.size u) ∧ Below w.heap.size w (setV wx57 g15 Y))
        go_simp
        refine hK.out _ _ HU.out (fun _ => ?_)
        replace hHeld := HU.out
        clear hK K c0 c1 c2 y0 y1 y2 HU
        (try simp only [Act.put]); (try simp only [List.setIfInBounds_toArray]); (try simp only [List.set_cons_succ]); (try simp only [List.set_cons_zero])
        replace Z14 := hide (Z14.out.far NZ15.out Y)
        replace Z15 := hide (Z15.out.set3 Y)
        change wpAnyH _ _ _ _ _ _ _ _ (setV wx57 g15 Y)
        generalize setV wx57 g15 Y = wx58 at *
        refine wpAnyH_done (by kernel_rfl) ?_ _
        go_wp2_with fail
        go_meet
        case rel => exact ⟨_, _, rfl, rfl, Z14.out, Z15.out, D14.out, D15.out, hHeld.1, hHeld.2⟩
  case rest =>
    clear HX HB C0 C1 C2 QL QH
    obtain ⟨g14, g15, rfl, rfl, hx, hy, hd1, hd2, ⟨u, hu⟩, hB⟩ := hcut
    have HX := hide hx
    have HY := hide hy
    have HU := hide hu
    have HB := hide hB
    have D1 := hide hd1
    have D2 := hide hd2
    have Q1 := hide (fun W => QF.out X W)
    have Q2 := hide (fun W => QF.out Y W)
    have Q3 := hide (fun W => QA.out (frV X) (frV Y) W)
    generalize frV X = f1 at *
    generalize frV Y = f2 at *
    generalize andI f1 f2 = f3 at *
    clear hx hy hu hB QF QA QV hd1 hd2
    go_upto_region 9 with (fail)
    refine wp_region_held_drew (S := (fun w' => VB w' g14 X ∧ VB w' g15 Y ∧ (∃ u, VB w' w.heap.size u) ∧ Below w.heap.size w w')) (by kernel_rfl) (⟨HX.out.kept (Below.refl _ _).drew, HY.out.kept (Below.refl _ _).drew, ⟨_, HU.out.kept (Below.refl _ _).drew⟩, HB.out.drew⟩) (fun hHeld => ?_)
    first | (refine wpAnyH_take (i := 0) (v := ?_) nth0 (by kernel_rfl) (by kernel_rfl) (by kernel_rfl) (fun _ _ _ h => h) (Or.inl ⟨by rfl, ?_⟩) hHeld ?_; rotate_left; focus (intro wS hSw; (obtain ⟨⟨_, _, _⟩, _⟩ := hSw.1.all; obtain ⟨⟨_, _, _⟩, _⟩ := hSw.2.1.all); go_simp; try with_reducible rfl; done)) | (refine wpAnyH_take (i := 0) (v := undef) nth0 (by kernel_rfl) (by kernel_rfl) (by kernel_rfl) (fun _ _ _ h => h) (Or.inr ⟨by rfl, rfl⟩) hHeld ?_)
    (try simp only [Act.put]); (try simp only [List.setIfInBounds_toArray]); (try simp only [List.set_cons_succ]); (try simp only [List.set_cons_zero])
    first | (refine wpAnyH_take (i := 2) (v := ?_) nth2 (by kernel_rfl) (by kernel_rfl) (by kernel_rfl) (fun _ _ _ h => h) (Or.inl ⟨by rfl, ?_⟩) hHeld ?_; rotate_left; focus (intro wS hSw; (obtain ⟨⟨_, _, _⟩, _⟩ := hSw.1.all; obtain ⟨⟨_, _, _⟩, _⟩ := hSw.2.1.all); go_simp; try with_reducible rfl; done)) | (refine wpAnyH_take (i := 2) (v := undef) nth2 (by kernel_rfl) (by kernel_rfl) (by kernel_rfl) (fun _ _ _ h => h) (Or.inr ⟨by rfl, rfl⟩) hHeld ?_)
    (try simp only [Act.put]); (try simp only [List.setIfInBounds_toArray]); (try simp only [List.set_cons_succ]); (try simp only [List.set_cons_zero])
    refine wpAnyH_ready (rs := [1]) (by kernel_rfl) (by simp) ?_
    refine AllReadyH.cons nth1 (fun K hK => ?_) AllReadyH.nil
    go_simp
    (first | (go_at_call 36; with_reducible refine (Q1.out _).mono ?_; rintro e w' ⟨rfl, hb⟩) | (go_at_call 36; with_reducible refine (Q2.out _).mono ?_; rintro e w' ⟨rfl, hb⟩) | (go_at_call 35; refine (Q3.out _).mono ?_; rintro e w' ⟨rfl, hw⟩; have hb := bel_eq hw; clear hw) | (go_at_call 34; refine (QV2.out _).mono ?_; rintro e w' ⟨rfl, hb⟩; simp only [valAgg]))
    refine hK.out _ _ (⟨hHeld.1.kept hb, hHeld.2.1.kept hb, ⟨_, hHeld.2.2.1.choose_spec.kept hb⟩, Bel.then hHeld.2.2.2 hb⟩) (fun hHeld => ?_)
    clear hK K
    (try simp only [Act.put]); (try simp only [List.setIfInBounds_toArray]); (try simp only [List.set_cons_succ]); (try simp only [List.set_cons_zero])
    refine wpAnyH_ready (rs := [3]) (by kernel_rfl) (by simp) ?_
    refine AllReadyH.cons nth3 (fun K hK => ?_) AllReadyH.nil
    go_simp
    (first | (go_at_call 36; with_reducible refine (Q1.out _).mono ?_; rintro e w' ⟨rfl, hb⟩) | (go_at_call 36; with_reducible refine (Q2.out _).mono ?_; rintro e w' ⟨rfl, hb⟩) | (go_at_call 35; refine (Q3.out _).mono ?_; rintro e w' ⟨rfl, hw⟩; have hb := bel_eq hw; clear hw) | (go_at_call 34; refine (QV2.out _).mono ?_; rintro e w' ⟨rfl, hb⟩; simp only [valAgg]))
    refine hK.out _ _ (⟨hHeld.1.kept hb, hHeld.2.1.kept hb, ⟨_, hHeld.2.2.1.choose_spec.kept hb⟩, Bel.then hHeld.2.2.2 hb⟩) (fun hHeld => ?_)
    clear hK K
    (try simp only [Act.put]); (try simp only [List.setIfInBounds_toArray]); (try simp only [List.set_cons_succ]); (try simp only [List.set_cons_zero])
    refine wpAnyH_ready (rs := [4]) (by kernel_rfl) (by simp) ?_
    refine AllReadyH.cons nth4 (fun K hK => ?_) AllReadyH.nil
    go_simp
    (first | (go_at_call 36; with_reducible refine (Q1.out _).mono ?_; rintro e w' ⟨rfl, hb⟩) | (go_at_call 36; with_reducible refine (Q2.out _).mono ?_; rintro e w' ⟨rfl, hb⟩) | (go_at_call 35; refine (Q3.out _).mono ?_; rintro e w' ⟨rfl, hw⟩; have hb := bel_eq hw; clear hw) | (go_at_call 34; refine (QV2.out _).mono ?_; rintro e w' ⟨rfl, hb⟩; simp only [valAgg]))
    refine hK.out _ _ (⟨hHeld.1.kept hb, hHeld.2.1.kept hb, ⟨_, hHeld.2.2.1.choose_spec.kept hb⟩, Bel.then hHeld.2.2.2 hb⟩) (fun hHeld => ?_)
    clear hK K
    (try simp only [Act.put]); (try simp only [List.setIfInBounds_toArray]); (try simp only [List.set_cons_succ]); (try simp only [List.set_cons_zero])
    refine wpAnyH_ready (rs := [5]) (by kernel_rfl) (by simp) ?_
    refine AllReadyH.cons nth5 (fun K hK => ?_) AllReadyH.nil
    go_simp
    (first | (go_at_call 36; with_reducible refine (Q1.out _).mono ?_; rintro e w' ⟨rfl, hb⟩) | (go_at_call 36; with_reducible refine (Q2.out _).mono ?_; rintro e w' ⟨rfl, hb⟩) | (go_at_call 35; refine (Q3.out _).mono ?_; rintro e w' ⟨rfl, hw⟩; have hb := bel_eq hw; clear hw) | (go_at_call 34; refine (QV2.out _).mono ?_; rintro e w' ⟨rfl, hb⟩; simp only [valAgg]))
    refine hK.out _ _ (⟨hHeld.1.kept hb, hHeld.2.1.kept hb, ⟨_, hHeld.2.2.1.choose_spec.kept hb⟩, Bel.then hHeld.2.2.2 hb⟩) (fun hHeld => ?_)
    clear hK K
    (try simp only [Act.put]); (try simp only [List.setIfInBounds_toArray]); (try simp only [List.set_cons_succ]); (try simp only [List.set_cons_zero])
    refine wpAnyH_ready (rs := [6]) (by kernel_rfl) (by simp) ?_
    refine AllReadyH.cons nth6 (fun K hK => ?_) AllReadyH.nil
    obtain ⟨u3, hu3⟩ := hHeld.2.2.1
    have HS := hide (hu3.set3 R)
    have HBS := hide (below_setV hHeld.2.2.2 (Nat.le_refl _) R)
    obtain ⟨⟨c0, c1, c2⟩, ⟨y0, y1, y2⟩⟩ := hu3.all
    go_simp
    refine hK.out _ _ (⟨hHeld.1.far (Nat.ne_of_lt D1.out) R, hHeld.2.1.far (Nat.ne_of_lt D2.out) R, ⟨R, HS.out⟩, HBS.out⟩) (fun hHeld => ?_)
    clear hK K
    (try simp only [Act.put]); (try simp only [List.setIfInBounds_toArray]); (try simp only [List.set_cons_succ]); (try simp only [List.set_cons_zero])
    refine wpAnyH_done (by kernel_rfl) ?_ _
    clear hHeld
    go_wp2_with fail
    exact end_v Try.results11 rfl rfl HS.out ⟨rfl, HBS.out⟩
end Go.Proofs.Ytlkeghfdpbfhbaa
