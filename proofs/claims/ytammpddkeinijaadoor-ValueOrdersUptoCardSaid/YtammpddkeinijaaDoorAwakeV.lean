/- What is awake. -/
import Derived.Test.YtammpddkeinijaaDoorBagA
import Derived.Test.YtammpddkeinijaaDoorMk
namespace Go.Proofs.YtammpddkeinijaaDoor
set_option linter.unusedVariables false
open Go.ChangeShapes Go.WideShapes Go.ChangeAt Go.RowKit

def awNum (n : Int) : ValV := ⟨2, n, { data := #[] }⟩
theorem aw_comp : compV (awNum 2) (awNum 1) = (1, true) := by decide +kernel
theorem aw_comp0 : compV ⟨0, 0, { data := #[] }⟩ ⟨0, 0, { data := #[] }⟩ = (0, false) := by decide +kernel
theorem aw_sort : sort2 [awNum 2] [awNum 1] = ([awNum 1], [awNum 2]) := by
  have : cmpR [awNum 1] [awNum 2] = -1 := by decide +kernel
  unfold sort2
  rw [this]
  rfl
theorem aw_ords : cmpR [awNum 1] [awNum 2] = -1 := by decide +kernel
theorem aw_text : textV ⟨3, 0, { data := #[97, 39] }⟩ = { data := #[39, 97, 39, 39, 39] } := by decide +kernel
theorem aw_right : rightV 1 1 { data := #[] } = true := by decide +kernel
theorem GivesTwo.form {w w' : World} {s : List ValV × List ValV} {e : Ending} (h : GivesTwo w s e w') : ∃ base g m0 m1, e = .returned (.slice (some ⟨g, 0, none⟩) 2 2) ∧ TwoAt base w' g m0 m1 s.1 s.2 ∧ Below w.heap.size w w' :=
  let ⟨m0, m1, h1, h2, h3⟩ := h
  ⟨_, _, m0, m1, h1, h2, h3⟩
/-- A row of one value that a literal makes. -/
theorem row_lit1 (w : World) (v : ValV) (t : TypeId) : RowAt (w.alloc (.cells #[.int .i64 v.kind, .int .i64 v.num, .string v.str] t)) (w.alloc (.cells #[.int .i64 v.kind, .int .i64 v.num, .string v.str] t)).heap.size (some ⟨w.heap.size, 0, none⟩) 1 1 [v] :=
  sl_lit w _ t rfl valCells_len rfl (by simp [maxLen])
theorem row_litN (w : World) (n : Int) (t : TypeId) : RowAt (w.alloc (.cells #[.int .i64 2, .int .i64 n, .string { data := #[] }] t)) (w.alloc (.cells #[.int .i64 2, .int .i64 n, .string { data := #[] }] t)).heap.size (some ⟨w.heap.size, 0, none⟩) 1 1 [awNum n] := row_lit1 w (awNum n) t
theorem rows_lit2 (w : World) (A B : Option Addr) (r s : List ValV) (n m c d : Nat) (hA : RowAt w w.heap.size A n c r) (hB : RowAt w w.heap.size B m d s) (t : TypeId) : RowsAt (w.alloc (.cells #[.slice A n c, .slice B m d] t)) (w.alloc (.cells #[.slice A n c, .slice B m d] t)).heap.size (some ⟨w.heap.size, 0, none⟩) 2 2 [r, s] := by
  refine ⟨rfl, Nat.le_refl _, by simp [maxLen], by simp, [⟨A, n, c⟩, ⟨B, m, d⟩], rfl, ⟨by simp [listVal], ?_⟩, ?_⟩
  · rw [World.size_alloc]
    exact cells_lit w #[.slice A n c, .slice B m d] t
  · intro i m' xs h1 h2
    match i with
    | 0 => simp at h1 h2; subst h1 h2; exact hA.kept (Bel.one w _)
    | 1 => simp at h1 h2; subst h1 h2; exact hB.kept (Bel.one w _)
    | i + 2 => simp at h1
set_option maxRecDepth 100000 in
set_option maxHeartbeats 4000000 in
theorem awake_c (w : World) (hW : ValW w) : Calls Tryd.prog 12 #[] w fun e w' => e = .returned (.bool true) ∧ Below w.heap.size w w' := by
  have HW := hide hW
  clear hW
  have q1 : ∀ (n : Int) (W : World), Calls Tryd.prog 19 #[.int .i64 n] W fun e w' => e = .returned (.agg #[.int .i64 2, .int .i64 n, .string { data := #[] }]) ∧ Below W.heap.size W w' := fun n W => num_c n W
  have q2 := fun W => compare_c (awNum 2) (awNum 1) W
  have q3 := fun W => compare_c ⟨0, 0, { data := #[] }⟩ ⟨0, 0, { data := #[] }⟩ W
  rw [aw_comp] at q2
  rw [aw_comp0] at q3
  unfold valAgg awNum at q2
  unfold valAgg at q3
  simp only at q2 q3
  have Q1 := hide q1
  have Q2 := hide q2
  have Q3 := hide q3
  clear q1 q2 q3
  go_enter Tryd.func12, Tryd.ntmps12
  go_wp2_with fail
  refine (Q1.out _ _).mono ?_
  rintro e w1 ⟨rfl, hb⟩
  have HB1 := hide hb
  clear hb
  go_wp2_with fail
  refine (Q1.out _ _).mono ?_
  rintro e w2 ⟨rfl, hb⟩
  have HB2 := hide (Bel.then HB1.out hb)
  clear hb HB1
  go_wp2_with fail
  refine (Q2.out _).mono ?_
  rintro e w3 ⟨rfl, hb⟩
  have HB3 := hide (Bel.then HB2.out hb)
  clear hb HB2
  go_wp2_with fail
  refine (Q3.out _).mono ?_
  rintro e w4 ⟨rfl, hb⟩
  have HB4 := hide (Bel.then HB3.out hb)
  clear hb HB3
  go_wp2_with fail
  refine (Q1.out _ _).mono ?_
  rintro e w5 ⟨rfl, hb⟩
  have HB5 := hide (Bel.then HB4.out hb)
  clear hb HB4
  have HR5 := hide (row_litN w5 2 23)
  have HB6 := hide (Bel.alloc HB5.out (.cells #[.int .i64 2, .int .i64 2, .string { data := #[] }] 23))
  clear HB5
  go_wp2_with fail
  refine (Q1.out _ _).mono ?_
  rintro e w6 ⟨rfl, hb⟩
  have HR6 := hide ((HR5.out.kept hb).kept (Bel.one w6 (.cells #[.int .i64 2, .int .i64 1, .string { data := #[] }] 23)))
  have HB7 := hide (Bel.alloc (Bel.then HB6.out hb) (.cells #[.int .i64 2, .int .i64 1, .string { data := #[] }] 23))
  have HS6 := hide (row_litN w6 1 23)
  clear hb HB6 HR5
  go_wp2_with fail
  have Q4 := hide (sorted_c _ _ _ _ _ (rows_lit2 _ _ _ _ _ _ _ _ _ HR6.out HS6.out 35) (by simp) (by simp))
  rw [aw_sort] at Q4
  simp only [World.size_alloc] at Q4
  have HB8 := hide (Bel.alloc HB7.out (.cells #[.slice (some ⟨w5.heap.size, 0, none⟩) 1 1, .slice (some ⟨w6.heap.size, 0, none⟩) 1 1] 35))
  clear HR6 HS6 HB7
  refine Q4.out.mono ?_
  intro e w7 hT
  obtain ⟨base, g, m0, m1, rfl, hT, hb⟩ := hT.form
  have HT := hide hT
  have HB9 := hide (Bel.then HB8.out hb)
  clear hT hb HB8 Q4
  go_wp2_with fail
  have HW7 := hide (HW.out.keep HB9.out)
  obtain ⟨h0, h1, z0, z1⟩ := HT.out.cells
  have QO := hide (fun (W : World) (hW : Below w7.heap.size w7 W) => orders_c m0.A m1.A m0.n m0.c m1.n m1.c _ _ W (HT.out.a0.kept hW) (HT.out.a1.kept hW))
  have QB := hide (fun (W : World) (hW : Below w7.heap.size w7 W) => bag_c (some ⟨g, 0, none⟩) 2 _ _ W ((HT.out.kept hW).rows) (by simp) (by simp))
  rw [aw_ords] at QO
  obtain ⟨A0, n0, c0⟩ := m0
  obtain ⟨A1, n1, c1⟩ := m1
  simp only at h0 h1 QO
  have QS : Hid (∀ (W : World), Calls Tryd.prog 21 #[.string { data := #[97, 39] }] W fun e w' => e = .returned (.agg #[.int .i64 3, .int .i64 0, .string { data := #[97, 39] }]) ∧ Below W.heap.size W w') := fun W => str_c _ W
  have QT := hide (fun (W : World) (hW : Below w7.heap.size w7 W) => vtext_c ⟨3, 0, { data := #[97, 39] }⟩ W (HW7.out.keep hW) (by simp) (by decide))
  rw [aw_text] at QT
  unfold valAgg at QT
  simp only at QT
  have QL : Hid (∀ (W : World), Calls Tryd.prog 23 #[.bool true] W fun e w' => e = .returned (.agg #[.int .i64 1, .int .i64 1, .string { data := #[] }]) ∧ Below W.heap.size W w') := fun W => bool_c true W
  have QR := hide (fun (W : World) => right_c 1 1 { data := #[] } W (by decide))
  rw [aw_right] at QR
  clear Q1 Q2 Q3 HW HW7 HT z0 z1
  refine wp_region_held_drew (S := (fun w' => Below w7.heap.size w7 w')) (by kernel_rfl) ((Below.refl _ _).drew) (fun hHeld => ?_)
  first | (refine wpAnyH_take (i := 0) (v := ?_) nth0 (by kernel_rfl) (by kernel_rfl) (by kernel_rfl) (fun _ _ _ h => h) (Or.inl ⟨by rfl, ?_⟩) hHeld ?_; rotate_left; focus (intro wS hSw; (have k0 := kept hSw h0; have k1 := kept hSw h1); go_simp; try with_reducible rfl; done)) | (refine wpAnyH_take (i := 0) (v := undef) nth0 (by kernel_rfl) (by kernel_rfl) (by kernel_rfl) (fun _ _ _ h => h) (Or.inr ⟨by rfl, rfl⟩) hHeld ?_)
  (try simp only [Act.put]); (try simp only [List.setIfInBounds_toArray]); (try simp only [List.set_cons_succ]); (try simp only [List.set_cons_zero])
  first | (refine wpAnyH_take (i := 1) (v := ?_) nth1 (by kernel_rfl) (by kernel_rfl) (by kernel_rfl) (fun _ _ _ h => h) (Or.inl ⟨by rfl, ?_⟩) hHeld ?_; rotate_left; focus (intro wS hSw; (have k0 := kept hSw h0; have k1 := kept hSw h1); go_simp; try with_reducible rfl; done)) | (refine wpAnyH_take (i := 1) (v := undef) nth1 (by kernel_rfl) (by kernel_rfl) (by kernel_rfl) (fun _ _ _ h => h) (Or.inr ⟨by rfl, rfl⟩) hHeld ?_)
  (try simp only [Act.put]); (try simp only [List.setIfInBounds_toArray]); (try simp only [List.set_cons_succ]); (try simp only [List.set_cons_zero])
  first | (refine wpAnyH_take (i := 2) (v := ?_) nth2 (by kernel_rfl) (by kernel_rfl) (by kernel_rfl) (fun _ _ _ h => h) (Or.inl ⟨by rfl, ?_⟩) hHeld ?_; rotate_left; focus (intro wS hSw; (have k0 := kept hSw h0; have k1 := kept hSw h1); go_simp; try with_reducible rfl; done)) | (refine wpAnyH_take (i := 2) (v := undef) nth2 (by kernel_rfl) (by kernel_rfl) (by kernel_rfl) (fun _ _ _ h => h) (Or.inr ⟨by rfl, rfl⟩) hHeld ?_)
  (try simp only [Act.put]); (try simp only [List.setIfInBounds_toArray]); (try simp only [List.set_cons_succ]); (try simp only [List.set_cons_zero])
  first | (refine wpAnyH_take (i := 3) (v := ?_) nth3 (by kernel_rfl) (by kernel_rfl) (by kernel_rfl) (fun _ _ _ h => h) (Or.inl ⟨by rfl, ?_⟩) hHeld ?_; rotate_left; focus (intro wS hSw; (have k0 := kept hSw h0; have k1 := kept hSw h1); go_simp; try with_reducible rfl; done)) | (refine wpAnyH_take (i := 3) (v := undef) nth3 (by kernel_rfl) (by kernel_rfl) (by kernel_rfl) (fun _ _ _ h => h) (Or.inr ⟨by rfl, rfl⟩) hHeld ?_)
  (try simp only [Act.put]); (try simp only [List.setIfInBounds_toArray]); (try simp only [List.set_cons_succ]); (try simp only [List.set_cons_zero])
  first | (refine wpAnyH_take (i := 4) (v := ?_) nth4 (by kernel_rfl) (by kernel_rfl) (by kernel_rfl) (fun _ _ _ h => h) (Or.inl ⟨by rfl, ?_⟩) hHeld ?_; rotate_left; focus (intro wS hSw; (have k0 := kept hSw h0; have k1 := kept hSw h1); go_simp; try with_reducible rfl; done)) | (refine wpAnyH_take (i := 4) (v := undef) nth4 (by kernel_rfl) (by kernel_rfl) (by kernel_rfl) (fun _ _ _ h => h) (Or.inr ⟨by rfl, rfl⟩) hHeld ?_)
  (try simp only [Act.put]); (try simp only [List.setIfInBounds_toArray]); (try simp only [List.set_cons_succ]); (try simp only [List.set_cons_zero])
  first | (refine wpAnyH_take (i := 5) (v := ?_) nth5 (by kernel_rfl) (by kernel_rfl) (by kernel_rfl) (fun _ _ _ h => h) (Or.inl ⟨by rfl, ?_⟩) hHeld ?_; rotate_left; focus (intro wS hSw; (have k0 := kept hSw h0; have k1 := kept hSw h1); go_simp; try with_reducible rfl; done)) | (refine wpAnyH_take (i := 5) (v := undef) nth5 (by kernel_rfl) (by kernel_rfl) (by kernel_rfl) (fun _ _ _ h => h) (Or.inr ⟨by rfl, rfl⟩) hHeld ?_)
  (try simp only [Act.put]); (try simp only [List.setIfInBounds_toArray]); (try simp only [List.set_cons_succ]); (try simp only [List.set_cons_zero])
  first | (refine wpAnyH_take (i := 6) (v := ?_) nth6 (by kernel_rfl) (by kernel_rfl) (by kernel_rfl) (fun _ _ _ h => h) (Or.inl ⟨by rfl, ?_⟩) hHeld ?_; rotate_left; focus (intro wS hSw; (have k0 := kept hSw h0; have k1 := kept hSw h1); go_simp; try with_reducible rfl; done)) | (refine wpAnyH_take (i := 6) (v := undef) nth6 (by kernel_rfl) (by kernel_rfl) (by kernel_rfl) (fun _ _ _ h => h) (Or.inr ⟨by rfl, rfl⟩) hHeld ?_)
  (try simp only [Act.put]); (try simp only [List.setIfInBounds_toArray]); (try simp only [List.set_cons_succ]); (try simp only [List.set_cons_zero])
  first | (refine wpAnyH_take (i := 7) (v := ?_) nth7 (by kernel_rfl) (by kernel_rfl) (by kernel_rfl) (fun _ _ _ h => h) (Or.inl ⟨by rfl, ?_⟩) hHeld ?_; rotate_left; focus (intro wS hSw; (have k0 := kept hSw h0; have k1 := kept hSw h1); go_simp; try with_reducible rfl; done)) | (refine wpAnyH_take (i := 7) (v := undef) nth7 (by kernel_rfl) (by kernel_rfl) (by kernel_rfl) (fun _ _ _ h => h) (Or.inr ⟨by rfl, rfl⟩) hHeld ?_)
  (try simp only [Act.put]); (try simp only [List.setIfInBounds_toArray]); (try simp only [List.set_cons_succ]); (try simp only [List.set_cons_zero])
  first | (refine wpAnyH_take (i := 8) (v := ?_) nth8 (by kernel_rfl) (by kernel_rfl) (by kernel_rfl) (fun _ _ _ h => h) (Or.inl ⟨by rfl, ?_⟩) hHeld ?_; rotate_left; focus (intro wS hSw; (have k0 := kept hSw h0; have k1 := kept hSw h1); go_simp; try with_reducible rfl; done)) | (refine wpAnyH_take (i := 8) (v := undef) nth8 (by kernel_rfl) (by kernel_rfl) (by kernel_rfl) (fun _ _ _ h => h) (Or.inr ⟨by rfl, rfl⟩) hHeld ?_)
  (try simp only [Act.put]); (try simp only [List.setIfInBounds_toArray]); (try simp only [List.set_cons_succ]); (try simp only [List.set_cons_zero])
  first | (refine wpAnyH_take (i := 9) (v := ?_) nth9 (by kernel_rfl) (by kernel_rfl) (by kernel_rfl) (fun _ _ _ h => h) (Or.inl ⟨by rfl, ?_⟩) hHeld ?_; rotate_left; focus (intro wS hSw; (have k0 := kept hSw h0; have k1 := kept hSw h1); go_simp; try with_reducible rfl; done)) | (refine wpAnyH_take (i := 9) (v := undef) nth9 (by kernel_rfl) (by kernel_rfl) (by kernel_rfl) (fun _ _ _ h => h) (Or.inr ⟨by rfl, rfl⟩) hHeld ?_)
  (try simp only [Act.put]); (try simp only [List.setIfInBounds_toArray]); (try simp only [List.set_cons_succ]); (try simp only [List.set_cons_zero])
  first | (refine wpAnyH_take (i := 10) (v := ?_) nth10 (by kernel_rfl) (by kernel_rfl) (by kernel_rfl) (fun _ _ _ h => h) (Or.inl ⟨by rfl, ?_⟩) hHeld ?_; rotate_left; focus (intro wS hSw; (have k0 := kept hSw h0; have k1 := kept hSw h1); go_simp; try with_reducible rfl; done)) | (refine wpAnyH_take (i := 10) (v := undef) nth10 (by kernel_rfl) (by kernel_rfl) (by kernel_rfl) (fun _ _ _ h => h) (Or.inr ⟨by rfl, rfl⟩) hHeld ?_)
  (try simp only [Act.put]); (try simp only [List.setIfInBounds_toArray]); (try simp only [List.set_cons_succ]); (try simp only [List.set_cons_zero])
  first | (refine wpAnyH_take (i := 11) (v := ?_) nth11 (by kernel_rfl) (by kernel_rfl) (by kernel_rfl) (fun _ _ _ h => h) (Or.inl ⟨by rfl, ?_⟩) hHeld ?_; rotate_left; focus (intro wS hSw; (have k0 := kept hSw h0; have k1 := kept hSw h1); go_simp; try with_reducible rfl; done)) | (refine wpAnyH_take (i := 11) (v := undef) nth11 (by kernel_rfl) (by kernel_rfl) (by kernel_rfl) (fun _ _ _ h => h) (Or.inr ⟨by rfl, rfl⟩) hHeld ?_)
  (try simp only [Act.put]); (try simp only [List.setIfInBounds_toArray]); (try simp only [List.set_cons_succ]); (try simp only [List.set_cons_zero])
  first | (refine wpAnyH_take (i := 12) (v := ?_) nth12 (by kernel_rfl) (by kernel_rfl) (by kernel_rfl) (fun _ _ _ h => h) (Or.inl ⟨by rfl, ?_⟩) hHeld ?_; rotate_left; focus (intro wS hSw; (have k0 := kept hSw h0; have k1 := kept hSw h1); go_simp; try with_reducible rfl; done)) | (refine wpAnyH_take (i := 12) (v := undef) nth12 (by kernel_rfl) (by kernel_rfl) (by kernel_rfl) (fun _ _ _ h => h) (Or.inr ⟨by rfl, rfl⟩) hHeld ?_)
  (try simp only [Act.put]); (try simp only [List.setIfInBounds_toArray]); (try simp only [List.set_cons_succ]); (try simp only [List.set_cons_zero])
  first | (refine wpAnyH_take (i := 13) (v := ?_) nth13 (by kernel_rfl) (by kernel_rfl) (by kernel_rfl) (fun _ _ _ h => h) (Or.inl ⟨by rfl, ?_⟩) hHeld ?_; rotate_left; focus (intro wS hSw; (have k0 := kept hSw h0; have k1 := kept hSw h1); go_simp; try with_reducible rfl; done)) | (refine wpAnyH_take (i := 13) (v := undef) nth13 (by kernel_rfl) (by kernel_rfl) (by kernel_rfl) (fun _ _ _ h => h) (Or.inr ⟨by rfl, rfl⟩) hHeld ?_)
  (try simp only [Act.put]); (try simp only [List.setIfInBounds_toArray]); (try simp only [List.set_cons_succ]); (try simp only [List.set_cons_zero])
  first | (refine wpAnyH_take (i := 14) (v := ?_) nth14 (by kernel_rfl) (by kernel_rfl) (by kernel_rfl) (fun _ _ _ h => h) (Or.inl ⟨by rfl, ?_⟩) hHeld ?_; rotate_left; focus (intro wS hSw; (have k0 := kept hSw h0; have k1 := kept hSw h1); go_simp; try with_reducible rfl; done)) | (refine wpAnyH_take (i := 14) (v := undef) nth14 (by kernel_rfl) (by kernel_rfl) (by kernel_rfl) (fun _ _ _ h => h) (Or.inr ⟨by rfl, rfl⟩) hHeld ?_)
  (try simp only [Act.put]); (try simp only [List.setIfInBounds_toArray]); (try simp only [List.set_cons_succ]); (try simp only [List.set_cons_zero])
  first | (refine wpAnyH_take (i := 15) (v := ?_) nth15 (by kernel_rfl) (by kernel_rfl) (by kernel_rfl) (fun _ _ _ h => h) (Or.inl ⟨by rfl, ?_⟩) hHeld ?_; rotate_left; focus (intro wS hSw; (have k0 := kept hSw h0; have k1 := kept hSw h1); go_simp; try with_reducible rfl; done)) | (refine wpAnyH_take (i := 15) (v := undef) nth15 (by kernel_rfl) (by kernel_rfl) (by kernel_rfl) (fun _ _ _ h => h) (Or.inr ⟨by rfl, rfl⟩) hHeld ?_)
  (try simp only [Act.put]); (try simp only [List.setIfInBounds_toArray]); (try simp only [List.set_cons_succ]); (try simp only [List.set_cons_zero])
  first | (refine wpAnyH_take (i := 16) (v := ?_) nth16 (by kernel_rfl) (by kernel_rfl) (by kernel_rfl) (fun _ _ _ h => h) (Or.inl ⟨by rfl, ?_⟩) hHeld ?_; rotate_left; focus (intro wS hSw; (have k0 := kept hSw h0; have k1 := kept hSw h1); go_simp; try with_reducible rfl; done)) | (refine wpAnyH_take (i := 16) (v := undef) nth16 (by kernel_rfl) (by kernel_rfl) (by kernel_rfl) (fun _ _ _ h => h) (Or.inr ⟨by rfl, rfl⟩) hHeld ?_)
  (try simp only [Act.put]); (try simp only [List.setIfInBounds_toArray]); (try simp only [List.set_cons_succ]); (try simp only [List.set_cons_zero])
  first | (refine wpAnyH_take (i := 17) (v := ?_) nth17 (by kernel_rfl) (by kernel_rfl) (by kernel_rfl) (fun _ _ _ h => h) (Or.inl ⟨by rfl, ?_⟩) hHeld ?_; rotate_left; focus (intro wS hSw; (have k0 := kept hSw h0; have k1 := kept hSw h1); go_simp; try with_reducible rfl; done)) | (refine wpAnyH_take (i := 17) (v := undef) nth17 (by kernel_rfl) (by kernel_rfl) (by kernel_rfl) (fun _ _ _ h => h) (Or.inr ⟨by rfl, rfl⟩) hHeld ?_)
  (try simp only [Act.put]); (try simp only [List.setIfInBounds_toArray]); (try simp only [List.set_cons_succ]); (try simp only [List.set_cons_zero])
  first | (refine wpAnyH_take (i := 18) (v := ?_) nth18 (by kernel_rfl) (by kernel_rfl) (by kernel_rfl) (fun _ _ _ h => h) (Or.inl ⟨by rfl, ?_⟩) hHeld ?_; rotate_left; focus (intro wS hSw; (have k0 := kept hSw h0; have k1 := kept hSw h1); go_simp; try with_reducible rfl; done)) | (refine wpAnyH_take (i := 18) (v := undef) nth18 (by kernel_rfl) (by kernel_rfl) (by kernel_rfl) (fun _ _ _ h => h) (Or.inr ⟨by rfl, rfl⟩) hHeld ?_)
  (try simp only [Act.put]); (try simp only [List.setIfInBounds_toArray]); (try simp only [List.set_cons_succ]); (try simp only [List.set_cons_zero])
  first | (refine wpAnyH_take (i := 19) (v := ?_) nth19 (by kernel_rfl) (by kernel_rfl) (by kernel_rfl) (fun _ _ _ h => h) (Or.inl ⟨by rfl, ?_⟩) hHeld ?_; rotate_left; focus (intro wS hSw; (have k0 := kept hSw h0; have k1 := kept hSw h1); go_simp; try with_reducible rfl; done)) | (refine wpAnyH_take (i := 19) (v := undef) nth19 (by kernel_rfl) (by kernel_rfl) (by kernel_rfl) (fun _ _ _ h => h) (Or.inr ⟨by rfl, rfl⟩) hHeld ?_)
  (try simp only [Act.put]); (try simp only [List.setIfInBounds_toArray]); (try simp only [List.set_cons_succ]); (try simp only [List.set_cons_zero])
  first | (refine wpAnyH_take (i := 20) (v := ?_) nth20 (by kernel_rfl) (by kernel_rfl) (by kernel_rfl) (fun _ _ _ h => h) (Or.inl ⟨by rfl, ?_⟩) hHeld ?_; rotate_left; focus (intro wS hSw; (have k0 := kept hSw h0; have k1 := kept hSw h1); go_simp; try with_reducible rfl; done)) | (refine wpAnyH_take (i := 20) (v := undef) nth20 (by kernel_rfl) (by kernel_rfl) (by kernel_rfl) (fun _ _ _ h => h) (Or.inr ⟨by rfl, rfl⟩) hHeld ?_)
  (try simp only [Act.put]); (try simp only [List.setIfInBounds_toArray]); (try simp only [List.set_cons_succ]); (try simp only [List.set_cons_zero])
  refine wpAnyH_ready (rs := [21]) (by kernel_rfl) (by simp) ?_
  refine AllReadyH.cons nth21 (fun K hK => ?_) AllReadyH.nil
  go_simp
  first | (go_at_call 27; refine (QO.out _ hHeld).mono ?_; rintro e w' ⟨rfl, hb⟩) | (go_at_call 32; refine (QB.out _ hHeld).mono ?_; rintro e w' ⟨rfl, hb⟩) | (go_at_call 21; refine (QS.out _).mono ?_; rintro e w' ⟨rfl, hb⟩) | (go_at_call 17; refine (QT.out _ hHeld).mono ?_; rintro e w' ⟨rfl, hb⟩) | (go_at_call 23; refine (QL.out _).mono ?_; rintro e w' ⟨rfl, hb⟩) | (go_at_call 13; refine (QR.out _).mono ?_; rintro e w' ⟨rfl, hb⟩)
  refine hK.out _ _ (Bel.then hHeld hb) (fun hHeld => ?_)
  clear hK K
  (try simp only [Act.put]); (try simp only [List.setIfInBounds_toArray]); (try simp only [List.set_cons_succ]); (try simp only [List.set_cons_zero])
  first | (refine wpAnyH_take (i := 22) (v := ?_) nth22 (by kernel_rfl) (by kernel_rfl) (by kernel_rfl) (fun _ _ _ h => h) (Or.inl ⟨by rfl, ?_⟩) hHeld ?_; rotate_left; focus (intro wS hSw; (have k0 := kept hSw h0; have k1 := kept hSw h1); go_simp; try with_reducible rfl; done)) | (refine wpAnyH_take (i := 22) (v := undef) nth22 (by kernel_rfl) (by kernel_rfl) (by kernel_rfl) (fun _ _ _ h => h) (Or.inr ⟨by rfl, rfl⟩) hHeld ?_)
  (try simp only [Act.put]); (try simp only [List.setIfInBounds_toArray]); (try simp only [List.set_cons_succ]); (try simp only [List.set_cons_zero])
  first | (refine wpAnyH_take (i := 23) (v := ?_) nth23 (by kernel_rfl) (by kernel_rfl) (by kernel_rfl) (fun _ _ _ h => h) (Or.inl ⟨by rfl, ?_⟩) hHeld ?_; rotate_left; focus (intro wS hSw; (have k0 := kept hSw h0; have k1 := kept hSw h1); go_simp; try with_reducible rfl; done)) | (refine wpAnyH_take (i := 23) (v := undef) nth23 (by kernel_rfl) (by kernel_rfl) (by kernel_rfl) (fun _ _ _ h => h) (Or.inr ⟨by rfl, rfl⟩) hHeld ?_)
  (try simp only [Act.put]); (try simp only [List.setIfInBounds_toArray]); (try simp only [List.set_cons_succ]); (try simp only [List.set_cons_zero])
  first | (refine wpAnyH_take (i := 24) (v := ?_) nth24 (by kernel_rfl) (by kernel_rfl) (by kernel_rfl) (fun _ _ _ h => h) (Or.inl ⟨by rfl, ?_⟩) hHeld ?_; rotate_left; focus (intro wS hSw; (have k0 := kept hSw h0; have k1 := kept hSw h1); go_simp; try with_reducible rfl; done)) | (refine wpAnyH_take (i := 24) (v := undef) nth24 (by kernel_rfl) (by kernel_rfl) (by kernel_rfl) (fun _ _ _ h => h) (Or.inr ⟨by rfl, rfl⟩) hHeld ?_)
  (try simp only [Act.put]); (try simp only [List.setIfInBounds_toArray]); (try simp only [List.set_cons_succ]); (try simp only [List.set_cons_zero])
  refine wpAnyH_ready (rs := [25]) (by kernel_rfl) (by simp) ?_
  refine AllReadyH.cons nth25 (fun K hK => ?_) AllReadyH.nil
  go_simp
  first | (go_at_call 27; refine (QO.out _ hHeld).mono ?_; rintro e w' ⟨rfl, hb⟩) | (go_at_call 32; refine (QB.out _ hHeld).mono ?_; rintro e w' ⟨rfl, hb⟩) | (go_at_call 21; refine (QS.out _).mono ?_; rintro e w' ⟨rfl, hb⟩) | (go_at_call 17; refine (QT.out _ hHeld).mono ?_; rintro e w' ⟨rfl, hb⟩) | (go_at_call 23; refine (QL.out _).mono ?_; rintro e w' ⟨rfl, hb⟩) | (go_at_call 13; refine (QR.out _).mono ?_; rintro e w' ⟨rfl, hb⟩)
  refine hK.out _ _ (Bel.then hHeld hb) (fun hHeld => ?_)
  clear hK K
  (try simp only [Act.put]); (try simp only [List.setIfInBounds_toArray]); (try simp only [List.set_cons_succ]); (try simp only [List.set_cons_zero])
  refine wpAnyH_ready (rs := [26]) (by kernel_rfl) (by simp) ?_
  refine AllReadyH.cons nth26 (fun K hK => ?_) AllReadyH.nil
  go_simp
  first | (go_at_call 27; refine (QO.out _ hHeld).mono ?_; rintro e w' ⟨rfl, hb⟩) | (go_at_call 32; refine (QB.out _ hHeld).mono ?_; rintro e w' ⟨rfl, hb⟩) | (go_at_call 21; refine (QS.out _).mono ?_; rintro e w' ⟨rfl, hb⟩) | (go_at_call 17; refine (QT.out _ hHeld).mono ?_; rintro e w' ⟨rfl, hb⟩) | (go_at_call 23; refine (QL.out _).mono ?_; rintro e w' ⟨rfl, hb⟩) | (go_at_call 13; refine (QR.out _).mono ?_; rintro e w' ⟨rfl, hb⟩)
  refine hK.out _ _ (Bel.then hHeld hb) (fun hHeld => ?_)
  clear hK K
  (try simp only [Act.put]); (try simp only [List.setIfInBounds_toArray]); (try simp only [List.set_cons_succ]); (try simp only [List.set_cons_zero])
  first | (refine wpAnyH_take (i := 27) (v := ?_) nth27 (by kernel_rfl) (by kernel_rfl) (by kernel_rfl) (fun _ _ _ h => h) (Or.inl ⟨by rfl, ?_⟩) hHeld ?_; rotate_left; focus (intro wS hSw; (have k0 := kept hSw h0; have k1 := kept hSw h1); go_simp; try with_reducible rfl; done)) | (refine wpAnyH_take (i := 27) (v := undef) nth27 (by kernel_rfl) (by kernel_rfl) (by kernel_rfl) (fun _ _ _ h => h) (Or.inr ⟨by rfl, rfl⟩) hHeld ?_)
  (try simp only [Act.put]); (try simp only [List.setIfInBounds_toArray]); (try simp only [List.set_cons_succ]); (try simp only [List.set_cons_zero])
  first | (refine wpAnyH_take (i := 28) (v := ?_) nth28 (by kernel_rfl) (by kernel_rfl) (by kernel_rfl) (fun _ _ _ h => h) (Or.inl ⟨by rfl, ?_⟩) hHeld ?_; rotate_left; focus (intro wS hSw; (have k0 := kept hSw h0; have k1 := kept hSw h1); go_simp; try with_reducible rfl; done)) | (refine wpAnyH_take (i := 28) (v := undef) nth28 (by kernel_rfl) (by kernel_rfl) (by kernel_rfl) (fun _ _ _ h => h) (Or.inr ⟨by rfl, rfl⟩) hHeld ?_)
  (try simp only [Act.put]); (try simp only [List.setIfInBounds_toArray]); (try simp only [List.set_cons_succ]); (try simp only [List.set_cons_zero])
  first | (refine wpAnyH_take (i := 29) (v := ?_) nth29 (by kernel_rfl) (by kernel_rfl) (by kernel_rfl) (fun _ _ _ h => h) (Or.inl ⟨by rfl, ?_⟩) hHeld ?_; rotate_left; focus (intro wS hSw; (have k0 := kept hSw h0; have k1 := kept hSw h1); go_simp; try with_reducible rfl; done)) | (refine wpAnyH_take (i := 29) (v := undef) nth29 (by kernel_rfl) (by kernel_rfl) (by kernel_rfl) (fun _ _ _ h => h) (Or.inr ⟨by rfl, rfl⟩) hHeld ?_)
  (try simp only [Act.put]); (try simp only [List.setIfInBounds_toArray]); (try simp only [List.set_cons_succ]); (try simp only [List.set_cons_zero])
  refine wpAnyH_ready (rs := [30]) (by kernel_rfl) (by simp) ?_
  refine AllReadyH.cons nth30 (fun K hK => ?_) AllReadyH.nil
  go_simp
  first | (go_at_call 27; refine (QO.out _ hHeld).mono ?_; rintro e w' ⟨rfl, hb⟩) | (go_at_call 32; refine (QB.out _ hHeld).mono ?_; rintro e w' ⟨rfl, hb⟩) | (go_at_call 21; refine (QS.out _).mono ?_; rintro e w' ⟨rfl, hb⟩) | (go_at_call 17; refine (QT.out _ hHeld).mono ?_; rintro e w' ⟨rfl, hb⟩) | (go_at_call 23; refine (QL.out _).mono ?_; rintro e w' ⟨rfl, hb⟩) | (go_at_call 13; refine (QR.out _).mono ?_; rintro e w' ⟨rfl, hb⟩)
  refine hK.out _ _ (Bel.then hHeld hb) (fun hHeld => ?_)
  clear hK K
  (try simp only [Act.put]); (try simp only [List.setIfInBounds_toArray]); (try simp only [List.set_cons_succ]); (try simp only [List.set_cons_zero])
  refine wpAnyH_ready (rs := [31]) (by kernel_rfl) (by simp) ?_
  refine AllReadyH.cons nth31 (fun K hK => ?_) AllReadyH.nil
  go_simp
  first | (go_at_call 27; refine (QO.out _ hHeld).mono ?_; rintro e w' ⟨rfl, hb⟩) | (go_at_call 32; refine (QB.out _ hHeld).mono ?_; rintro e w' ⟨rfl, hb⟩) | (go_at_call 21; refine (QS.out _).mono ?_; rintro e w' ⟨rfl, hb⟩) | (go_at_call 17; refine (QT.out _ hHeld).mono ?_; rintro e w' ⟨rfl, hb⟩) | (go_at_call 23; refine (QL.out _).mono ?_; rintro e w' ⟨rfl, hb⟩) | (go_at_call 13; refine (QR.out _).mono ?_; rintro e w' ⟨rfl, hb⟩)
  refine hK.out _ _ (Bel.then hHeld hb) (fun hHeld => ?_)
  clear hK K
  (try simp only [Act.put]); (try simp only [List.setIfInBounds_toArray]); (try simp only [List.set_cons_succ]); (try simp only [List.set_cons_zero])
  first | (refine wpAnyH_take (i := 32) (v := ?_) nth32 (by kernel_rfl) (by kernel_rfl) (by kernel_rfl) (fun _ _ _ h => h) (Or.inl ⟨by rfl, ?_⟩) hHeld ?_; rotate_left; focus (intro wS hSw; (have k0 := kept hSw h0; have k1 := kept hSw h1); go_simp; try with_reducible rfl; done)) | (refine wpAnyH_take (i := 32) (v := undef) nth32 (by kernel_rfl) (by kernel_rfl) (by kernel_rfl) (fun _ _ _ h => h) (Or.inr ⟨by rfl, rfl⟩) hHeld ?_)
  (try simp only [Act.put]); (try simp only [List.setIfInBounds_toArray]); (try simp only [List.set_cons_succ]); (try simp only [List.set_cons_zero])
  first | (refine wpAnyH_take (i := 33) (v := ?_) nth33 (by kernel_rfl) (by kernel_rfl) (by kernel_rfl) (fun _ _ _ h => h) (Or.inl ⟨by rfl, ?_⟩) hHeld ?_; rotate_left; focus (intro wS hSw; (have k0 := kept hSw h0; have k1 := kept hSw h1); go_simp; try with_reducible rfl; done)) | (refine wpAnyH_take (i := 33) (v := undef) nth33 (by kernel_rfl) (by kernel_rfl) (by kernel_rfl) (fun _ _ _ h => h) (Or.inr ⟨by rfl, rfl⟩) hHeld ?_)
  (try simp only [Act.put]); (try simp only [List.setIfInBounds_toArray]); (try simp only [List.set_cons_succ]); (try simp only [List.set_cons_zero])
  first | (refine wpAnyH_take (i := 34) (v := ?_) nth34 (by kernel_rfl) (by kernel_rfl) (by kernel_rfl) (fun _ _ _ h => h) (Or.inl ⟨by rfl, ?_⟩) hHeld ?_; rotate_left; focus (intro wS hSw; (have k0 := kept hSw h0; have k1 := kept hSw h1); go_simp; try with_reducible rfl; done)) | (refine wpAnyH_take (i := 34) (v := undef) nth34 (by kernel_rfl) (by kernel_rfl) (by kernel_rfl) (fun _ _ _ h => h) (Or.inr ⟨by rfl, rfl⟩) hHeld ?_)
  (try simp only [Act.put]); (try simp only [List.setIfInBounds_toArray]); (try simp only [List.set_cons_succ]); (try simp only [List.set_cons_zero])
  first | (refine wpAnyH_take (i := 35) (v := ?_) nth35 (by kernel_rfl) (by kernel_rfl) (by kernel_rfl) (fun _ _ _ h => h) (Or.inl ⟨by rfl, ?_⟩) hHeld ?_; rotate_left; focus (intro wS hSw; (have k0 := kept hSw h0; have k1 := kept hSw h1); go_simp; try with_reducible rfl; done)) | (refine wpAnyH_take (i := 35) (v := undef) nth35 (by kernel_rfl) (by kernel_rfl) (by kernel_rfl) (fun _ _ _ h => h) (Or.inr ⟨by rfl, rfl⟩) hHeld ?_)
  (try simp only [Act.put]); (try simp only [List.setIfInBounds_toArray]); (try simp only [List.set_cons_succ]); (try simp only [List.set_cons_zero])
  refine wpAnyH_ready (rs := [36]) (by kernel_rfl) (by simp) ?_
  refine AllReadyH.cons nth36 (fun K hK => ?_) AllReadyH.nil
  go_simp
  first | (go_at_call 27; refine (QO.out _ hHeld).mono ?_; rintro e w' ⟨rfl, hb⟩) | (go_at_call 32; refine (QB.out _ hHeld).mono ?_; rintro e w' ⟨rfl, hb⟩) | (go_at_call 21; refine (QS.out _).mono ?_; rintro e w' ⟨rfl, hb⟩) | (go_at_call 17; refine (QT.out _ hHeld).mono ?_; rintro e w' ⟨rfl, hb⟩) | (go_at_call 23; refine (QL.out _).mono ?_; rintro e w' ⟨rfl, hb⟩) | (go_at_call 13; refine (QR.out _).mono ?_; rintro e w' ⟨rfl, hb⟩)
  refine hK.out _ _ (Bel.then hHeld hb) (fun hHeld => ?_)
  clear hK K
  (try simp only [Act.put]); (try simp only [List.setIfInBounds_toArray]); (try simp only [List.set_cons_succ]); (try simp only [List.set_cons_zero])
  first | (refine wpAnyH_take (i := 37) (v := ?_) nth37 (by kernel_rfl) (by kernel_rfl) (by kernel_rfl) (fun _ _ _ h => h) (Or.inl ⟨by rfl, ?_⟩) hHeld ?_; rotate_left; focus (intro wS hSw; (have k0 := kept hSw h0; have k1 := kept hSw h1); go_simp; try with_reducible rfl; done)) | (refine wpAnyH_take (i := 37) (v := undef) nth37 (by kernel_rfl) (by kernel_rfl) (by kernel_rfl) (fun _ _ _ h => h) (Or.inr ⟨by rfl, rfl⟩) hHeld ?_)
  (try simp only [Act.put]); (try simp only [List.setIfInBounds_toArray]); (try simp only [List.set_cons_succ]); (try simp only [List.set_cons_zero])
  first | (refine wpAnyH_take (i := 38) (v := ?_) nth38 (by kernel_rfl) (by kernel_rfl) (by kernel_rfl) (fun _ _ _ h => h) (Or.inl ⟨by rfl, ?_⟩) hHeld ?_; rotate_left; focus (intro wS hSw; (have k0 := kept hSw h0; have k1 := kept hSw h1); go_simp; try with_reducible rfl; done)) | (refine wpAnyH_take (i := 38) (v := undef) nth38 (by kernel_rfl) (by kernel_rfl) (by kernel_rfl) (fun _ _ _ h => h) (Or.inr ⟨by rfl, rfl⟩) hHeld ?_)
  (try simp only [Act.put]); (try simp only [List.setIfInBounds_toArray]); (try simp only [List.set_cons_succ]); (try simp only [List.set_cons_zero])
  refine wpAnyH_done (by kernel_rfl) ?_ _
  go_wp2_with fail
  go_ret
  exact ⟨rfl, HB9.out.trans (hHeld.mono HB9.out.size)⟩
end Go.Proofs.YtammpddkeinijaaDoor
