/- The walk of ValueSays. -/
import Derived.Test.YtammpddkeinijaaDoorAwakeV
namespace Go.Proofs.YtammpddkeinijaaDoor
set_option linter.unusedVariables false
open Go.ChangeShapes Go.WideShapes Go.ChangeAt Go.RowKit

/-- A block of cells. -/
def BoxIs (b : Nat) (xs : List Value) (w : World) : Prop := ∀ k u, xs[k]? = some u → w.cell? ⟨b, k, none⟩ = some u
theorem box_new (w : World) (cs : Array Value) (t : TypeId) : BoxIs w.heap.size cs.toList (w.alloc (.cells cs t)) := by
  intro k u hu
  rw [cell_of_row _ _ k _ _ _ (heap_alloc_new w _)]
  simpa using hu
theorem BoxIs.step {b : Nat} {xs : List Value} {a w : World} (h : BoxIs b xs a) (hb : Below a.heap.size a w) : BoxIs b xs w := fun k u hu => kept hb (h k u hu)
/-- Two values in their boxes. -/
structure FineV (w : World) (a b : ValV) (w' : World) : Prop where
  below : Below w.heap.size w w'
  vw : ValW w'
  ba : BoxIs w.heap.size (valCells a) w'
  bb : BoxIs (w.heap.size + 1) (valCells b) w'
theorem FineV.step {w x y : World} {a b : ValV} (h : FineV w a b x) (hb : Below x.heap.size x y) : FineV w a b y := ⟨Bel.then h.below hb, h.vw.keep hb, h.ba.step hb, h.bb.step hb⟩
theorem FineV.drew {w x : World} {a b : ValV} (h : FineV w a b x) : FineV w a b x.drew := h.step (Below.refl _ _).drew
theorem fineV_new (w : World) (a b : ValV) (hW : ValW w) (t t2 : TypeId) : FineV w a b ((w.alloc (.cells #[.int .i64 a.kind, .int .i64 a.num, .string a.str] t)).alloc (.cells #[.int .i64 b.kind, .int .i64 b.num, .string b.str] t2)) := by
  have h1 := Bel.one w (.cells #[.int .i64 a.kind, .int .i64 a.num, .string a.str] t)
  have h2 := Bel.one (w.alloc (.cells #[.int .i64 a.kind, .int .i64 a.num, .string a.str] t)) (.cells #[.int .i64 b.kind, .int .i64 b.num, .string b.str] t2)
  refine ⟨Bel.then h1 h2, (hW.keep h1).keep h2, (box_new w #[.int .i64 a.kind, .int .i64 a.num, .string a.str] t).step h2, ?_⟩
  have := box_new (w.alloc (.cells #[.int .i64 a.kind, .int .i64 a.num, .string a.str] t)) #[.int .i64 b.kind, .int .i64 b.num, .string b.str] t2
  rwa [World.size_alloc] at this
def OkV (v : ValV) : Prop := (-9223372036854775808 ≤ v.num ∧ v.num ≤ 9223372036854775807) ∧ v.str.size ≤ 1048576
set_option maxRecDepth 100000 in
set_option maxHeartbeats 4000000 in
theorem says_w (a b : ValV) (w : World) (hW : ValW w) (ha : OkV a) (hb : OkV b) :
    Calls Tryd.prog 3 #[valAgg a, valAgg b] w fun e w' => e = .returned (.bool true) ∧ Below w.heap.size w w' := by
  have F0 := hide (fineV_new w a b hW 23 23)
  have q1 := fun W => compare_c a b W
  have q2 := fun W => rcompare_c a b W (by have := ha.2; omega) (by have := hb.2; omega)
  have q3 := fun W => right_c a.kind a.num a.str W (by have := ha.2; unfold maxLen; omega)
  have q4 := fun W => rright_c a.kind a.num a.str W (by have := ha.2; unfold maxLen; omega)
  have q5 := fun W => order_c a b W
  have q6 := fun W => rorder_c a b W (by have := ha.2; omega) (by have := hb.2; omega)
  have q7 := fun W hW => vtext_c a W hW ha.1 ha.2
  have q8 := fun W => rtextV_c a W ha.1 ha.2
  unfold valAgg at *
  obtain ⟨ak, an, ax⟩ := a
  obtain ⟨bk, bn, bs⟩ := b
  simp only at *
  generalize compV ⟨ak, an, ax⟩ ⟨bk, bn, bs⟩ = r at *
  generalize cmpV ⟨ak, an, ax⟩ ⟨bk, bn, bs⟩ = o at *
  generalize rightV ak an ax = ri at *
  generalize textV ⟨ak, an, ax⟩ = tx at *
  obtain ⟨r1, r2⟩ := r
  have Q1 := hide q1
  have Q2 := hide q2
  have Q3 := hide q3
  have Q4 := hide q4
  have Q5 := hide q5
  have Q6 := hide q6
  have Q7 := hide q7
  have Q8 := hide q8
  have b1 : ∀ y : Int, (y != y) = false := fun y => by simp
  have b2 : ∀ y : Bool, (y != y) = false := fun y => by simp
  clear hW ha hb q1 q2 q3 q4 q5 q6 q7 q8
  go_enter Tryd.func3, Tryd.ntmps3
  go_wp2_with fail
  refine (Q1.out _).mono ?_
  rintro e w1 ⟨rfl, hb⟩
  have F1 := hide (F0.out.step hb)
  obtain ⟨e0, e1, e2, f0, f1, f2⟩ := (show _ ∧ _ ∧ _ ∧ _ ∧ _ ∧ _ from ⟨F1.out.ba 0 _ rfl, F1.out.ba 1 _ rfl, F1.out.ba 2 _ rfl, F1.out.bb 0 _ rfl, F1.out.bb 1 _ rfl, F1.out.bb 2 _ rfl⟩)
  clear hb F0
  go_wp2_with fail
  refine (Q2.out _).mono ?_
  rintro e w2 ⟨rfl, hb⟩
  have F2 := hide (F1.out.step hb)
  clear hb F1 e0 e1 e2 f0 f1 f2
  go_wp2_with fail
  refine wp_region_held_drew (S := (fun w' => FineV w ⟨ak, an, ax⟩ ⟨bk, bn, bs⟩ w')) (by kernel_rfl) (F2.out.drew) (fun hHeld => ?_)
  refine wpAnyH_ready (rs := [0]) (by kernel_rfl) (by simp) ?_
  refine AllReadyH.cons nth0 (fun K hK => ?_) AllReadyH.nil
  go_simp
  first | (go_at_call 12; refine (awake_c _ hHeld.vw).mono ?_; rintro e w' ⟨rfl, hb⟩) | (go_at_call 13; refine (Q3.out _).mono ?_; rintro e w' ⟨rfl, hb⟩) | (go_at_call 14; refine (Q4.out _).mono ?_; rintro e w' ⟨rfl, hb⟩) | (go_at_call 15; refine (Q5.out _).mono ?_; rintro e w' ⟨rfl, hb⟩) | (go_at_call 16; refine (Q6.out _).mono ?_; rintro e w' ⟨rfl, hb⟩) | (go_at_call 17; refine (Q7.out _ hHeld.vw).mono ?_; rintro e w' ⟨rfl, hb⟩) | (go_at_call 18; refine (Q8.out _).mono ?_; rintro e w' ⟨rfl, hb⟩)
  refine hK.out _ _ (hHeld.step hb) (fun hHeld => ?_)
  clear hK K
  (try simp only [Act.put]); (try simp only [List.setIfInBounds_toArray]); (try simp only [List.set_cons_succ]); (try simp only [List.set_cons_zero])
  first | (refine wpAnyH_take (i := 1) (v := ?_) nth1 (by kernel_rfl) (by kernel_rfl) (by kernel_rfl) (fun _ _ _ h => h) (Or.inl ⟨by rfl, ?_⟩) hHeld ?_; rotate_left; focus (intro wS hSw; (have e0 := hSw.ba 0 _ rfl; have e1 := hSw.ba 1 _ rfl; have e2 := hSw.ba 2 _ rfl; have f0 := hSw.bb 0 _ rfl; have f1 := hSw.bb 1 _ rfl; have f2 := hSw.bb 2 _ rfl); go_simp; try with_reducible rfl; done)) | (refine wpAnyH_take (i := 1) (v := undef) nth1 (by kernel_rfl) (by kernel_rfl) (by kernel_rfl) (fun _ _ _ h => h) (Or.inr ⟨by rfl, rfl⟩) hHeld ?_)
  (try simp only [Act.put]); (try simp only [List.setIfInBounds_toArray]); (try simp only [List.set_cons_succ]); (try simp only [List.set_cons_zero])
  first | (refine wpAnyH_take (i := 2) (v := ?_) nth2 (by kernel_rfl) (by kernel_rfl) (by kernel_rfl) (fun _ _ _ h => h) (Or.inl ⟨by rfl, ?_⟩) hHeld ?_; rotate_left; focus (intro wS hSw; (have e0 := hSw.ba 0 _ rfl; have e1 := hSw.ba 1 _ rfl; have e2 := hSw.ba 2 _ rfl; have f0 := hSw.bb 0 _ rfl; have f1 := hSw.bb 1 _ rfl; have f2 := hSw.bb 2 _ rfl); go_simp; try with_reducible rfl; done)) | (refine wpAnyH_take (i := 2) (v := undef) nth2 (by kernel_rfl) (by kernel_rfl) (by kernel_rfl) (fun _ _ _ h => h) (Or.inr ⟨by rfl, rfl⟩) hHeld ?_)
  (try simp only [Act.put]); (try simp only [List.setIfInBounds_toArray]); (try simp only [List.set_cons_succ]); (try simp only [List.set_cons_zero])
  first | (refine wpAnyH_take (i := 3) (v := ?_) nth3 (by kernel_rfl) (by kernel_rfl) (by kernel_rfl) (fun _ _ _ h => h) (Or.inl ⟨by rfl, ?_⟩) hHeld ?_; rotate_left; focus (intro wS hSw; (have e0 := hSw.ba 0 _ rfl; have e1 := hSw.ba 1 _ rfl; have e2 := hSw.ba 2 _ rfl; have f0 := hSw.bb 0 _ rfl; have f1 := hSw.bb 1 _ rfl; have f2 := hSw.bb 2 _ rfl); go_simp; try with_reducible rfl; done)) | (refine wpAnyH_take (i := 3) (v := undef) nth3 (by kernel_rfl) (by kernel_rfl) (by kernel_rfl) (fun _ _ _ h => h) (Or.inr ⟨by rfl, rfl⟩) hHeld ?_)
  (try simp only [Act.put]); (try simp only [List.setIfInBounds_toArray]); (try simp only [List.set_cons_succ]); (try simp only [List.set_cons_zero])
  first | (refine wpAnyH_take (i := 4) (v := ?_) nth4 (by kernel_rfl) (by kernel_rfl) (by kernel_rfl) (fun _ _ _ h => h) (Or.inl ⟨by rfl, ?_⟩) hHeld ?_; rotate_left; focus (intro wS hSw; (have e0 := hSw.ba 0 _ rfl; have e1 := hSw.ba 1 _ rfl; have e2 := hSw.ba 2 _ rfl; have f0 := hSw.bb 0 _ rfl; have f1 := hSw.bb 1 _ rfl; have f2 := hSw.bb 2 _ rfl); go_simp; try with_reducible rfl; done)) | (refine wpAnyH_take (i := 4) (v := undef) nth4 (by kernel_rfl) (by kernel_rfl) (by kernel_rfl) (fun _ _ _ h => h) (Or.inr ⟨by rfl, rfl⟩) hHeld ?_)
  (try simp only [Act.put]); (try simp only [List.setIfInBounds_toArray]); (try simp only [List.set_cons_succ]); (try simp only [List.set_cons_zero])
  first | (refine wpAnyH_take (i := 5) (v := ?_) nth5 (by kernel_rfl) (by kernel_rfl) (by kernel_rfl) (fun _ _ _ h => h) (Or.inl ⟨by rfl, ?_⟩) hHeld ?_; rotate_left; focus (intro wS hSw; (have e0 := hSw.ba 0 _ rfl; have e1 := hSw.ba 1 _ rfl; have e2 := hSw.ba 2 _ rfl; have f0 := hSw.bb 0 _ rfl; have f1 := hSw.bb 1 _ rfl; have f2 := hSw.bb 2 _ rfl); go_simp; try with_reducible rfl; done)) | (refine wpAnyH_take (i := 5) (v := undef) nth5 (by kernel_rfl) (by kernel_rfl) (by kernel_rfl) (fun _ _ _ h => h) (Or.inr ⟨by rfl, rfl⟩) hHeld ?_)
  (try simp only [Act.put]); (try simp only [List.setIfInBounds_toArray]); (try simp only [List.set_cons_succ]); (try simp only [List.set_cons_zero])
  first | (refine wpAnyH_take (i := 6) (v := ?_) nth6 (by kernel_rfl) (by kernel_rfl) (by kernel_rfl) (fun _ _ _ h => h) (Or.inl ⟨by rfl, ?_⟩) hHeld ?_; rotate_left; focus (intro wS hSw; (have e0 := hSw.ba 0 _ rfl; have e1 := hSw.ba 1 _ rfl; have e2 := hSw.ba 2 _ rfl; have f0 := hSw.bb 0 _ rfl; have f1 := hSw.bb 1 _ rfl; have f2 := hSw.bb 2 _ rfl); go_simp; try with_reducible rfl; done)) | (refine wpAnyH_take (i := 6) (v := undef) nth6 (by kernel_rfl) (by kernel_rfl) (by kernel_rfl) (fun _ _ _ h => h) (Or.inr ⟨by rfl, rfl⟩) hHeld ?_)
  (try simp only [Act.put]); (try simp only [List.setIfInBounds_toArray]); (try simp only [List.set_cons_succ]); (try simp only [List.set_cons_zero])
  first | (refine wpAnyH_take (i := 7) (v := ?_) nth7 (by kernel_rfl) (by kernel_rfl) (by kernel_rfl) (fun _ _ _ h => h) (Or.inl ⟨by rfl, ?_⟩) hHeld ?_; rotate_left; focus (intro wS hSw; (have e0 := hSw.ba 0 _ rfl; have e1 := hSw.ba 1 _ rfl; have e2 := hSw.ba 2 _ rfl; have f0 := hSw.bb 0 _ rfl; have f1 := hSw.bb 1 _ rfl; have f2 := hSw.bb 2 _ rfl); go_simp; try with_reducible rfl; done)) | (refine wpAnyH_take (i := 7) (v := undef) nth7 (by kernel_rfl) (by kernel_rfl) (by kernel_rfl) (fun _ _ _ h => h) (Or.inr ⟨by rfl, rfl⟩) hHeld ?_)
  (try simp only [Act.put]); (try simp only [List.setIfInBounds_toArray]); (try simp only [List.set_cons_succ]); (try simp only [List.set_cons_zero])
  first | (refine wpAnyH_take (i := 8) (v := ?_) nth8 (by kernel_rfl) (by kernel_rfl) (by kernel_rfl) (fun _ _ _ h => h) (Or.inl ⟨by rfl, ?_⟩) hHeld ?_; rotate_left; focus (intro wS hSw; (have e0 := hSw.ba 0 _ rfl; have e1 := hSw.ba 1 _ rfl; have e2 := hSw.ba 2 _ rfl; have f0 := hSw.bb 0 _ rfl; have f1 := hSw.bb 1 _ rfl; have f2 := hSw.bb 2 _ rfl); go_simp; try with_reducible rfl; done)) | (refine wpAnyH_take (i := 8) (v := undef) nth8 (by kernel_rfl) (by kernel_rfl) (by kernel_rfl) (fun _ _ _ h => h) (Or.inr ⟨by rfl, rfl⟩) hHeld ?_)
  (try simp only [Act.put]); (try simp only [List.setIfInBounds_toArray]); (try simp only [List.set_cons_succ]); (try simp only [List.set_cons_zero])
  first | (refine wpAnyH_take (i := 9) (v := ?_) nth9 (by kernel_rfl) (by kernel_rfl) (by kernel_rfl) (fun _ _ _ h => h) (Or.inl ⟨by rfl, ?_⟩) hHeld ?_; rotate_left; focus (intro wS hSw; (have e0 := hSw.ba 0 _ rfl; have e1 := hSw.ba 1 _ rfl; have e2 := hSw.ba 2 _ rfl; have f0 := hSw.bb 0 _ rfl; have f1 := hSw.bb 1 _ rfl; have f2 := hSw.bb 2 _ rfl); go_simp; try with_reducible rfl; done)) | (refine wpAnyH_take (i := 9) (v := undef) nth9 (by kernel_rfl) (by kernel_rfl) (by kernel_rfl) (fun _ _ _ h => h) (Or.inr ⟨by rfl, rfl⟩) hHeld ?_)
  (try simp only [Act.put]); (try simp only [List.setIfInBounds_toArray]); (try simp only [List.set_cons_succ]); (try simp only [List.set_cons_zero])
  first | (refine wpAnyH_take (i := 10) (v := ?_) nth10 (by kernel_rfl) (by kernel_rfl) (by kernel_rfl) (fun _ _ _ h => h) (Or.inl ⟨by rfl, ?_⟩) hHeld ?_; rotate_left; focus (intro wS hSw; (have e0 := hSw.ba 0 _ rfl; have e1 := hSw.ba 1 _ rfl; have e2 := hSw.ba 2 _ rfl; have f0 := hSw.bb 0 _ rfl; have f1 := hSw.bb 1 _ rfl; have f2 := hSw.bb 2 _ rfl); go_simp; try with_reducible rfl; done)) | (refine wpAnyH_take (i := 10) (v := undef) nth10 (by kernel_rfl) (by kernel_rfl) (by kernel_rfl) (fun _ _ _ h => h) (Or.inr ⟨by rfl, rfl⟩) hHeld ?_)
  (try simp only [Act.put]); (try simp only [List.setIfInBounds_toArray]); (try simp only [List.set_cons_succ]); (try simp only [List.set_cons_zero])
  first | (refine wpAnyH_take (i := 11) (v := ?_) nth11 (by kernel_rfl) (by kernel_rfl) (by kernel_rfl) (fun _ _ _ h => h) (Or.inl ⟨by rfl, ?_⟩) hHeld ?_; rotate_left; focus (intro wS hSw; (have e0 := hSw.ba 0 _ rfl; have e1 := hSw.ba 1 _ rfl; have e2 := hSw.ba 2 _ rfl; have f0 := hSw.bb 0 _ rfl; have f1 := hSw.bb 1 _ rfl; have f2 := hSw.bb 2 _ rfl); go_simp; try with_reducible rfl; done)) | (refine wpAnyH_take (i := 11) (v := undef) nth11 (by kernel_rfl) (by kernel_rfl) (by kernel_rfl) (fun _ _ _ h => h) (Or.inr ⟨by rfl, rfl⟩) hHeld ?_)
  (try simp only [Act.put]); (try simp only [List.setIfInBounds_toArray]); (try simp only [List.set_cons_succ]); (try simp only [List.set_cons_zero])
  first | (refine wpAnyH_take (i := 12) (v := ?_) nth12 (by kernel_rfl) (by kernel_rfl) (by kernel_rfl) (fun _ _ _ h => h) (Or.inl ⟨by rfl, ?_⟩) hHeld ?_; rotate_left; focus (intro wS hSw; (have e0 := hSw.ba 0 _ rfl; have e1 := hSw.ba 1 _ rfl; have e2 := hSw.ba 2 _ rfl; have f0 := hSw.bb 0 _ rfl; have f1 := hSw.bb 1 _ rfl; have f2 := hSw.bb 2 _ rfl); go_simp; try with_reducible rfl; done)) | (refine wpAnyH_take (i := 12) (v := undef) nth12 (by kernel_rfl) (by kernel_rfl) (by kernel_rfl) (fun _ _ _ h => h) (Or.inr ⟨by rfl, rfl⟩) hHeld ?_)
  (try simp only [Act.put]); (try simp only [List.setIfInBounds_toArray]); (try simp only [List.set_cons_succ]); (try simp only [List.set_cons_zero])
  first | (refine wpAnyH_take (i := 13) (v := ?_) nth13 (by kernel_rfl) (by kernel_rfl) (by kernel_rfl) (fun _ _ _ h => h) (Or.inl ⟨by rfl, ?_⟩) hHeld ?_; rotate_left; focus (intro wS hSw; (have e0 := hSw.ba 0 _ rfl; have e1 := hSw.ba 1 _ rfl; have e2 := hSw.ba 2 _ rfl; have f0 := hSw.bb 0 _ rfl; have f1 := hSw.bb 1 _ rfl; have f2 := hSw.bb 2 _ rfl); go_simp; try with_reducible rfl; done)) | (refine wpAnyH_take (i := 13) (v := undef) nth13 (by kernel_rfl) (by kernel_rfl) (by kernel_rfl) (fun _ _ _ h => h) (Or.inr ⟨by rfl, rfl⟩) hHeld ?_)
  (try simp only [Act.put]); (try simp only [List.setIfInBounds_toArray]); (try simp only [List.set_cons_succ]); (try simp only [List.set_cons_zero])
  first | (refine wpAnyH_take (i := 15) (v := ?_) nth15 (by kernel_rfl) (by kernel_rfl) (by kernel_rfl) (fun _ _ _ h => h) (Or.inl ⟨by rfl, ?_⟩) hHeld ?_; rotate_left; focus (intro wS hSw; (have e0 := hSw.ba 0 _ rfl; have e1 := hSw.ba 1 _ rfl; have e2 := hSw.ba 2 _ rfl; have f0 := hSw.bb 0 _ rfl; have f1 := hSw.bb 1 _ rfl; have f2 := hSw.bb 2 _ rfl); go_simp; try with_reducible rfl; done)) | (refine wpAnyH_take (i := 15) (v := undef) nth15 (by kernel_rfl) (by kernel_rfl) (by kernel_rfl) (fun _ _ _ h => h) (Or.inr ⟨by rfl, rfl⟩) hHeld ?_)
  (try simp only [Act.put]); (try simp only [List.setIfInBounds_toArray]); (try simp only [List.set_cons_succ]); (try simp only [List.set_cons_zero])
  refine wpAnyH_ready (rs := [14]) (by kernel_rfl) (by simp) ?_
  refine AllReadyH.cons nth14 (fun K hK => ?_) AllReadyH.nil
  go_simp
  first | (go_at_call 12; refine (awake_c _ hHeld.vw).mono ?_; rintro e w' ⟨rfl, hb⟩) | (go_at_call 13; refine (Q3.out _).mono ?_; rintro e w' ⟨rfl, hb⟩) | (go_at_call 14; refine (Q4.out _).mono ?_; rintro e w' ⟨rfl, hb⟩) | (go_at_call 15; refine (Q5.out _).mono ?_; rintro e w' ⟨rfl, hb⟩) | (go_at_call 16; refine (Q6.out _).mono ?_; rintro e w' ⟨rfl, hb⟩) | (go_at_call 17; refine (Q7.out _ hHeld.vw).mono ?_; rintro e w' ⟨rfl, hb⟩) | (go_at_call 18; refine (Q8.out _).mono ?_; rintro e w' ⟨rfl, hb⟩)
  refine hK.out _ _ (hHeld.step hb) (fun hHeld => ?_)
  clear hK K
  (try simp only [Act.put]); (try simp only [List.setIfInBounds_toArray]); (try simp only [List.set_cons_succ]); (try simp only [List.set_cons_zero])
  refine wpAnyH_ready (rs := [16]) (by kernel_rfl) (by simp) ?_
  refine AllReadyH.cons nth16 (fun K hK => ?_) AllReadyH.nil
  go_simp
  first | (go_at_call 12; refine (awake_c _ hHeld.vw).mono ?_; rintro e w' ⟨rfl, hb⟩) | (go_at_call 13; refine (Q3.out _).mono ?_; rintro e w' ⟨rfl, hb⟩) | (go_at_call 14; refine (Q4.out _).mono ?_; rintro e w' ⟨rfl, hb⟩) | (go_at_call 15; refine (Q5.out _).mono ?_; rintro e w' ⟨rfl, hb⟩) | (go_at_call 16; refine (Q6.out _).mono ?_; rintro e w' ⟨rfl, hb⟩) | (go_at_call 17; refine (Q7.out _ hHeld.vw).mono ?_; rintro e w' ⟨rfl, hb⟩) | (go_at_call 18; refine (Q8.out _).mono ?_; rintro e w' ⟨rfl, hb⟩)
  refine hK.out _ _ (hHeld.step hb) (fun hHeld => ?_)
  clear hK K
  (try simp only [Act.put]); (try simp only [List.setIfInBounds_toArray]); (try simp only [List.set_cons_succ]); (try simp only [List.set_cons_zero])
  first | (refine wpAnyH_take (i := 17) (v := ?_) nth17 (by kernel_rfl) (by kernel_rfl) (by kernel_rfl) (fun _ _ _ h => h) (Or.inl ⟨by rfl, ?_⟩) hHeld ?_; rotate_left; focus (intro wS hSw; (have e0 := hSw.ba 0 _ rfl; have e1 := hSw.ba 1 _ rfl; have e2 := hSw.ba 2 _ rfl; have f0 := hSw.bb 0 _ rfl; have f1 := hSw.bb 1 _ rfl; have f2 := hSw.bb 2 _ rfl); go_simp; try with_reducible rfl; done)) | (refine wpAnyH_take (i := 17) (v := undef) nth17 (by kernel_rfl) (by kernel_rfl) (by kernel_rfl) (fun _ _ _ h => h) (Or.inr ⟨by rfl, rfl⟩) hHeld ?_)
  (try simp only [Act.put]); (try simp only [List.setIfInBounds_toArray]); (try simp only [List.set_cons_succ]); (try simp only [List.set_cons_zero])
  first | (refine wpAnyH_take (i := 18) (v := ?_) nth18 (by kernel_rfl) (by kernel_rfl) (by kernel_rfl) (fun _ _ _ h => h) (Or.inl ⟨by rfl, ?_⟩) hHeld ?_; rotate_left; focus (intro wS hSw; (have e0 := hSw.ba 0 _ rfl; have e1 := hSw.ba 1 _ rfl; have e2 := hSw.ba 2 _ rfl; have f0 := hSw.bb 0 _ rfl; have f1 := hSw.bb 1 _ rfl; have f2 := hSw.bb 2 _ rfl); go_simp; try with_reducible rfl; done)) | (refine wpAnyH_take (i := 18) (v := undef) nth18 (by kernel_rfl) (by kernel_rfl) (by kernel_rfl) (fun _ _ _ h => h) (Or.inr ⟨by rfl, rfl⟩) hHeld ?_)
  (try simp only [Act.put]); (try simp only [List.setIfInBounds_toArray]); (try simp only [List.set_cons_succ]); (try simp only [List.set_cons_zero])
  first | (refine wpAnyH_take (i := 19) (v := ?_) nth19 (by kernel_rfl) (by kernel_rfl) (by kernel_rfl) (fun _ _ _ h => h) (Or.inl ⟨by rfl, ?_⟩) hHeld ?_; rotate_left; focus (intro wS hSw; (have e0 := hSw.ba 0 _ rfl; have e1 := hSw.ba 1 _ rfl; have e2 := hSw.ba 2 _ rfl; have f0 := hSw.bb 0 _ rfl; have f1 := hSw.bb 1 _ rfl; have f2 := hSw.bb 2 _ rfl); go_simp; try with_reducible rfl; done)) | (refine wpAnyH_take (i := 19) (v := undef) nth19 (by kernel_rfl) (by kernel_rfl) (by kernel_rfl) (fun _ _ _ h => h) (Or.inr ⟨by rfl, rfl⟩) hHeld ?_)
  (try simp only [Act.put]); (try simp only [List.setIfInBounds_toArray]); (try simp only [List.set_cons_succ]); (try simp only [List.set_cons_zero])
  first | (refine wpAnyH_take (i := 20) (v := ?_) nth20 (by kernel_rfl) (by kernel_rfl) (by kernel_rfl) (fun _ _ _ h => h) (Or.inl ⟨by rfl, ?_⟩) hHeld ?_; rotate_left; focus (intro wS hSw; (have e0 := hSw.ba 0 _ rfl; have e1 := hSw.ba 1 _ rfl; have e2 := hSw.ba 2 _ rfl; have f0 := hSw.bb 0 _ rfl; have f1 := hSw.bb 1 _ rfl; have f2 := hSw.bb 2 _ rfl); go_simp; try with_reducible rfl; done)) | (refine wpAnyH_take (i := 20) (v := undef) nth20 (by kernel_rfl) (by kernel_rfl) (by kernel_rfl) (fun _ _ _ h => h) (Or.inr ⟨by rfl, rfl⟩) hHeld ?_)
  (try simp only [Act.put]); (try simp only [List.setIfInBounds_toArray]); (try simp only [List.set_cons_succ]); (try simp only [List.set_cons_zero])
  first | (refine wpAnyH_take (i := 21) (v := ?_) nth21 (by kernel_rfl) (by kernel_rfl) (by kernel_rfl) (fun _ _ _ h => h) (Or.inl ⟨by rfl, ?_⟩) hHeld ?_; rotate_left; focus (intro wS hSw; (have e0 := hSw.ba 0 _ rfl; have e1 := hSw.ba 1 _ rfl; have e2 := hSw.ba 2 _ rfl; have f0 := hSw.bb 0 _ rfl; have f1 := hSw.bb 1 _ rfl; have f2 := hSw.bb 2 _ rfl); go_simp; try with_reducible rfl; done)) | (refine wpAnyH_take (i := 21) (v := undef) nth21 (by kernel_rfl) (by kernel_rfl) (by kernel_rfl) (fun _ _ _ h => h) (Or.inr ⟨by rfl, rfl⟩) hHeld ?_)
  (try simp only [Act.put]); (try simp only [List.setIfInBounds_toArray]); (try simp only [List.set_cons_succ]); (try simp only [List.set_cons_zero])
  first | (refine wpAnyH_take (i := 23) (v := ?_) nth23 (by kernel_rfl) (by kernel_rfl) (by kernel_rfl) (fun _ _ _ h => h) (Or.inl ⟨by rfl, ?_⟩) hHeld ?_; rotate_left; focus (intro wS hSw; (have e0 := hSw.ba 0 _ rfl; have e1 := hSw.ba 1 _ rfl; have e2 := hSw.ba 2 _ rfl; have f0 := hSw.bb 0 _ rfl; have f1 := hSw.bb 1 _ rfl; have f2 := hSw.bb 2 _ rfl); go_simp; try with_reducible rfl; done)) | (refine wpAnyH_take (i := 23) (v := undef) nth23 (by kernel_rfl) (by kernel_rfl) (by kernel_rfl) (fun _ _ _ h => h) (Or.inr ⟨by rfl, rfl⟩) hHeld ?_)
  (try simp only [Act.put]); (try simp only [List.setIfInBounds_toArray]); (try simp only [List.set_cons_succ]); (try simp only [List.set_cons_zero])
  first | (refine wpAnyH_take (i := 24) (v := ?_) nth24 (by kernel_rfl) (by kernel_rfl) (by kernel_rfl) (fun _ _ _ h => h) (Or.inl ⟨by rfl, ?_⟩) hHeld ?_; rotate_left; focus (intro wS hSw; (have e0 := hSw.ba 0 _ rfl; have e1 := hSw.ba 1 _ rfl; have e2 := hSw.ba 2 _ rfl; have f0 := hSw.bb 0 _ rfl; have f1 := hSw.bb 1 _ rfl; have f2 := hSw.bb 2 _ rfl); go_simp; try with_reducible rfl; done)) | (refine wpAnyH_take (i := 24) (v := undef) nth24 (by kernel_rfl) (by kernel_rfl) (by kernel_rfl) (fun _ _ _ h => h) (Or.inr ⟨by rfl, rfl⟩) hHeld ?_)
  (try simp only [Act.put]); (try simp only [List.setIfInBounds_toArray]); (try simp only [List.set_cons_succ]); (try simp only [List.set_cons_zero])
  refine wpAnyH_ready (rs := [22]) (by kernel_rfl) (by simp) ?_
  refine AllReadyH.cons nth22 (fun K hK => ?_) AllReadyH.nil
  go_simp
  first | (go_at_call 12; refine (awake_c _ hHeld.vw).mono ?_; rintro e w' ⟨rfl, hb⟩) | (go_at_call 13; refine (Q3.out _).mono ?_; rintro e w' ⟨rfl, hb⟩) | (go_at_call 14; refine (Q4.out _).mono ?_; rintro e w' ⟨rfl, hb⟩) | (go_at_call 15; refine (Q5.out _).mono ?_; rintro e w' ⟨rfl, hb⟩) | (go_at_call 16; refine (Q6.out _).mono ?_; rintro e w' ⟨rfl, hb⟩) | (go_at_call 17; refine (Q7.out _ hHeld.vw).mono ?_; rintro e w' ⟨rfl, hb⟩) | (go_at_call 18; refine (Q8.out _).mono ?_; rintro e w' ⟨rfl, hb⟩)
  refine hK.out _ _ (hHeld.step hb) (fun hHeld => ?_)
  clear hK K
  (try simp only [Act.put]); (try simp only [List.setIfInBounds_toArray]); (try simp only [List.set_cons_succ]); (try simp only [List.set_cons_zero])
  refine wpAnyH_ready (rs := [25]) (by kernel_rfl) (by simp) ?_
  refine AllReadyH.cons nth25 (fun K hK => ?_) AllReadyH.nil
  go_simp
  first | (go_at_call 12; refine (awake_c _ hHeld.vw).mono ?_; rintro e w' ⟨rfl, hb⟩) | (go_at_call 13; refine (Q3.out _).mono ?_; rintro e w' ⟨rfl, hb⟩) | (go_at_call 14; refine (Q4.out _).mono ?_; rintro e w' ⟨rfl, hb⟩) | (go_at_call 15; refine (Q5.out _).mono ?_; rintro e w' ⟨rfl, hb⟩) | (go_at_call 16; refine (Q6.out _).mono ?_; rintro e w' ⟨rfl, hb⟩) | (go_at_call 17; refine (Q7.out _ hHeld.vw).mono ?_; rintro e w' ⟨rfl, hb⟩) | (go_at_call 18; refine (Q8.out _).mono ?_; rintro e w' ⟨rfl, hb⟩)
  refine hK.out _ _ (hHeld.step hb) (fun hHeld => ?_)
  clear hK K
  (try simp only [Act.put]); (try simp only [List.setIfInBounds_toArray]); (try simp only [List.set_cons_succ]); (try simp only [List.set_cons_zero])
  first | (refine wpAnyH_take (i := 26) (v := ?_) nth26 (by kernel_rfl) (by kernel_rfl) (by kernel_rfl) (fun _ _ _ h => h) (Or.inl ⟨by rfl, ?_⟩) hHeld ?_; rotate_left; focus (intro wS hSw; (have e0 := hSw.ba 0 _ rfl; have e1 := hSw.ba 1 _ rfl; have e2 := hSw.ba 2 _ rfl; have f0 := hSw.bb 0 _ rfl; have f1 := hSw.bb 1 _ rfl; have f2 := hSw.bb 2 _ rfl); go_simp; try with_reducible rfl; done)) | (refine wpAnyH_take (i := 26) (v := undef) nth26 (by kernel_rfl) (by kernel_rfl) (by kernel_rfl) (fun _ _ _ h => h) (Or.inr ⟨by rfl, rfl⟩) hHeld ?_)
  (try simp only [Act.put]); (try simp only [List.setIfInBounds_toArray]); (try simp only [List.set_cons_succ]); (try simp only [List.set_cons_zero])
  first | (refine wpAnyH_take (i := 27) (v := ?_) nth27 (by kernel_rfl) (by kernel_rfl) (by kernel_rfl) (fun _ _ _ h => h) (Or.inl ⟨by rfl, ?_⟩) hHeld ?_; rotate_left; focus (intro wS hSw; (have e0 := hSw.ba 0 _ rfl; have e1 := hSw.ba 1 _ rfl; have e2 := hSw.ba 2 _ rfl; have f0 := hSw.bb 0 _ rfl; have f1 := hSw.bb 1 _ rfl; have f2 := hSw.bb 2 _ rfl); go_simp; try with_reducible rfl; done)) | (refine wpAnyH_take (i := 27) (v := undef) nth27 (by kernel_rfl) (by kernel_rfl) (by kernel_rfl) (fun _ _ _ h => h) (Or.inr ⟨by rfl, rfl⟩) hHeld ?_)
  (try simp only [Act.put]); (try simp only [List.setIfInBounds_toArray]); (try simp only [List.set_cons_succ]); (try simp only [List.set_cons_zero])
  first | (refine wpAnyH_take (i := 28) (v := ?_) nth28 (by kernel_rfl) (by kernel_rfl) (by kernel_rfl) (fun _ _ _ h => h) (Or.inl ⟨by rfl, ?_⟩) hHeld ?_; rotate_left; focus (intro wS hSw; (have e0 := hSw.ba 0 _ rfl; have e1 := hSw.ba 1 _ rfl; have e2 := hSw.ba 2 _ rfl; have f0 := hSw.bb 0 _ rfl; have f1 := hSw.bb 1 _ rfl; have f2 := hSw.bb 2 _ rfl); go_simp; try with_reducible rfl; done)) | (refine wpAnyH_take (i := 28) (v := undef) nth28 (by kernel_rfl) (by kernel_rfl) (by kernel_rfl) (fun _ _ _ h => h) (Or.inr ⟨by rfl, rfl⟩) hHeld ?_)
  (try simp only [Act.put]); (try simp only [List.setIfInBounds_toArray]); (try simp only [List.set_cons_succ]); (try simp only [List.set_cons_zero])
  first | (refine wpAnyH_take (i := 29) (v := ?_) nth29 (by kernel_rfl) (by kernel_rfl) (by kernel_rfl) (fun _ _ _ h => h) (Or.inl ⟨by rfl, ?_⟩) hHeld ?_; rotate_left; focus (intro wS hSw; (have e0 := hSw.ba 0 _ rfl; have e1 := hSw.ba 1 _ rfl; have e2 := hSw.ba 2 _ rfl; have f0 := hSw.bb 0 _ rfl; have f1 := hSw.bb 1 _ rfl; have f2 := hSw.bb 2 _ rfl); go_simp; try with_reducible rfl; done)) | (refine wpAnyH_take (i := 29) (v := undef) nth29 (by kernel_rfl) (by kernel_rfl) (by kernel_rfl) (fun _ _ _ h => h) (Or.inr ⟨by rfl, rfl⟩) hHeld ?_)
  (try simp only [Act.put]); (try simp only [List.setIfInBounds_toArray]); (try simp only [List.set_cons_succ]); (try simp only [List.set_cons_zero])
  first | (refine wpAnyH_take (i := 31) (v := ?_) nth31 (by kernel_rfl) (by kernel_rfl) (by kernel_rfl) (fun _ _ _ h => h) (Or.inl ⟨by rfl, ?_⟩) hHeld ?_; rotate_left; focus (intro wS hSw; (have e0 := hSw.ba 0 _ rfl; have e1 := hSw.ba 1 _ rfl; have e2 := hSw.ba 2 _ rfl; have f0 := hSw.bb 0 _ rfl; have f1 := hSw.bb 1 _ rfl; have f2 := hSw.bb 2 _ rfl); go_simp; try with_reducible rfl; done)) | (refine wpAnyH_take (i := 31) (v := undef) nth31 (by kernel_rfl) (by kernel_rfl) (by kernel_rfl) (fun _ _ _ h => h) (Or.inr ⟨by rfl, rfl⟩) hHeld ?_)
  (try simp only [Act.put]); (try simp only [List.setIfInBounds_toArray]); (try simp only [List.set_cons_succ]); (try simp only [List.set_cons_zero])
  refine wpAnyH_ready (rs := [30]) (by kernel_rfl) (by simp) ?_
  refine AllReadyH.cons nth30 (fun K hK => ?_) AllReadyH.nil
  go_simp
  first | (go_at_call 12; refine (awake_c _ hHeld.vw).mono ?_; rintro e w' ⟨rfl, hb⟩) | (go_at_call 13; refine (Q3.out _).mono ?_; rintro e w' ⟨rfl, hb⟩) | (go_at_call 14; refine (Q4.out _).mono ?_; rintro e w' ⟨rfl, hb⟩) | (go_at_call 15; refine (Q5.out _).mono ?_; rintro e w' ⟨rfl, hb⟩) | (go_at_call 16; refine (Q6.out _).mono ?_; rintro e w' ⟨rfl, hb⟩) | (go_at_call 17; refine (Q7.out _ hHeld.vw).mono ?_; rintro e w' ⟨rfl, hb⟩) | (go_at_call 18; refine (Q8.out _).mono ?_; rintro e w' ⟨rfl, hb⟩)
  refine hK.out _ _ (hHeld.step hb) (fun hHeld => ?_)
  clear hK K
  (try simp only [Act.put]); (try simp only [List.setIfInBounds_toArray]); (try simp only [List.set_cons_succ]); (try simp only [List.set_cons_zero])
  refine wpAnyH_ready (rs := [32]) (by kernel_rfl) (by simp) ?_
  refine AllReadyH.cons nth32 (fun K hK => ?_) AllReadyH.nil
  go_simp
  first | (go_at_call 12; refine (awake_c _ hHeld.vw).mono ?_; rintro e w' ⟨rfl, hb⟩) | (go_at_call 13; refine (Q3.out _).mono ?_; rintro e w' ⟨rfl, hb⟩) | (go_at_call 14; refine (Q4.out _).mono ?_; rintro e w' ⟨rfl, hb⟩) | (go_at_call 15; refine (Q5.out _).mono ?_; rintro e w' ⟨rfl, hb⟩) | (go_at_call 16; refine (Q6.out _).mono ?_; rintro e w' ⟨rfl, hb⟩) | (go_at_call 17; refine (Q7.out _ hHeld.vw).mono ?_; rintro e w' ⟨rfl, hb⟩) | (go_at_call 18; refine (Q8.out _).mono ?_; rintro e w' ⟨rfl, hb⟩)
  refine hK.out _ _ (hHeld.step hb) (fun hHeld => ?_)
  clear hK K
  (try simp only [Act.put]); (try simp only [List.setIfInBounds_toArray]); (try simp only [List.set_cons_succ]); (try simp only [List.set_cons_zero])
  first | (refine wpAnyH_take (i := 33) (v := ?_) nth33 (by kernel_rfl) (by kernel_rfl) (by kernel_rfl) (fun _ _ _ h => h) (Or.inl ⟨by rfl, ?_⟩) hHeld ?_; rotate_left; focus (intro wS hSw; (have e0 := hSw.ba 0 _ rfl; have e1 := hSw.ba 1 _ rfl; have e2 := hSw.ba 2 _ rfl; have f0 := hSw.bb 0 _ rfl; have f1 := hSw.bb 1 _ rfl; have f2 := hSw.bb 2 _ rfl); go_simp; try with_reducible rfl; done)) | (refine wpAnyH_take (i := 33) (v := undef) nth33 (by kernel_rfl) (by kernel_rfl) (by kernel_rfl) (fun _ _ _ h => h) (Or.inr ⟨by rfl, rfl⟩) hHeld ?_)
  (try simp only [Act.put]); (try simp only [List.setIfInBounds_toArray]); (try simp only [List.set_cons_succ]); (try simp only [List.set_cons_zero])
  first | (refine wpAnyH_take (i := 34) (v := ?_) nth34 (by kernel_rfl) (by kernel_rfl) (by kernel_rfl) (fun _ _ _ h => h) (Or.inl ⟨by rfl, ?_⟩) hHeld ?_; rotate_left; focus (intro wS hSw; (have e0 := hSw.ba 0 _ rfl; have e1 := hSw.ba 1 _ rfl; have e2 := hSw.ba 2 _ rfl; have f0 := hSw.bb 0 _ rfl; have f1 := hSw.bb 1 _ rfl; have f2 := hSw.bb 2 _ rfl); go_simp; try with_reducible rfl; done)) | (refine wpAnyH_take (i := 34) (v := undef) nth34 (by kernel_rfl) (by kernel_rfl) (by kernel_rfl) (fun _ _ _ h => h) (Or.inr ⟨by rfl, rfl⟩) hHeld ?_)
  (try simp only [Act.put]); (try simp only [List.setIfInBounds_toArray]); (try simp only [List.set_cons_succ]); (try simp only [List.set_cons_zero])
  refine wpAnyH_done (by kernel_rfl) ?_ _
  go_wp2_with fail
  have F3 := hHeld
  clear hHeld Q1 Q2 Q3 Q4 Q5 Q6 Q7 Q8 F2
  have R1 : Hid (∀ (n : Int) (W : World), Calls Tryd.prog 19 #[.int .i64 n] W fun e w' => e = .returned (.agg #[.int .i64 2, .int .i64 n, .string { data := #[] }]) ∧ Below W.heap.size W w') := fun n W => num_c n W
  have R2 : Hid (∀ (n : Int) (W : World), Calls Tryd.prog 20 #[.int .i64 n] W fun e w' => e = .returned (.agg #[.int .i64 2, .int .i64 n, .string { data := #[] }]) ∧ Below W.heap.size W w') := fun n W => rnum_c n W
  have R3 : Hid (∀ (s : ByteArray) (W : World), Calls Tryd.prog 21 #[.string s] W fun e w' => e = .returned (.agg #[.int .i64 3, .int .i64 0, .string s]) ∧ Below W.heap.size W w') := fun s W => str_c s W
  have R4 : Hid (∀ (s : ByteArray) (W : World), Calls Tryd.prog 22 #[.string s] W fun e w' => e = .returned (.agg #[.int .i64 3, .int .i64 0, .string s]) ∧ Below W.heap.size W w') := fun s W => rstr_c s W
  have R5 : Hid (∀ (b : Bool) (W : World), Calls Tryd.prog 23 #[.bool b] W fun e w' => e = .returned (.agg #[.int .i64 1, .int .i64 (if b then 1 else 0), .string { data := #[] }]) ∧ Below W.heap.size W w') := fun b W => bool_c b W
  have R6 : Hid (∀ (b : Bool) (W : World), Calls Tryd.prog 24 #[.bool b] W fun e w' => e = .returned (.agg #[.int .i64 1, .int .i64 (if b then 1 else 0), .string { data := #[] }]) ∧ Below W.heap.size W w') := fun b W => rbool_c b W
  refine wp_region_held_drew (S := (fun w' => FineV w ⟨ak, an, ax⟩ ⟨bk, bn, bs⟩ w')) (by kernel_rfl) (F3.drew) (fun hHeld => ?_)
  first | (refine wpAnyH_take (i := 0) (v := ?_) nth0 (by kernel_rfl) (by kernel_rfl) (by kernel_rfl) (fun _ _ _ h => h) (Or.inl ⟨by rfl, ?_⟩) hHeld ?_; rotate_left; focus (intro wS hSw; (have e0 := hSw.ba 0 _ rfl; have e1 := hSw.ba 1 _ rfl; have e2 := hSw.ba 2 _ rfl; have f0 := hSw.bb 0 _ rfl; have f1 := hSw.bb 1 _ rfl; have f2 := hSw.bb 2 _ rfl); go_simp; try with_reducible rfl; done)) | (refine wpAnyH_take (i := 0) (v := undef) nth0 (by kernel_rfl) (by kernel_rfl) (by kernel_rfl) (fun _ _ _ h => h) (Or.inr ⟨by rfl, rfl⟩) hHeld ?_)
  (try simp only [Act.put]); (try simp only [List.setIfInBounds_toArray]); (try simp only [List.set_cons_succ]); (try simp only [List.set_cons_zero])
  first | (refine wpAnyH_take (i := 1) (v := ?_) nth1 (by kernel_rfl) (by kernel_rfl) (by kernel_rfl) (fun _ _ _ h => h) (Or.inl ⟨by rfl, ?_⟩) hHeld ?_; rotate_left; focus (intro wS hSw; (have e0 := hSw.ba 0 _ rfl; have e1 := hSw.ba 1 _ rfl; have e2 := hSw.ba 2 _ rfl; have f0 := hSw.bb 0 _ rfl; have f1 := hSw.bb 1 _ rfl; have f2 := hSw.bb 2 _ rfl); go_simp; try with_reducible rfl; done)) | (refine wpAnyH_take (i := 1) (v := undef) nth1 (by kernel_rfl) (by kernel_rfl) (by kernel_rfl) (fun _ _ _ h => h) (Or.inr ⟨by rfl, rfl⟩) hHeld ?_)
  (try simp only [Act.put]); (try simp only [List.setIfInBounds_toArray]); (try simp only [List.set_cons_succ]); (try simp only [List.set_cons_zero])
  first | (refine wpAnyH_take (i := 3) (v := ?_) nth3 (by kernel_rfl) (by kernel_rfl) (by kernel_rfl) (fun _ _ _ h => h) (Or.inl ⟨by rfl, ?_⟩) hHeld ?_; rotate_left; focus (intro wS hSw; (have e0 := hSw.ba 0 _ rfl; have e1 := hSw.ba 1 _ rfl; have e2 := hSw.ba 2 _ rfl; have f0 := hSw.bb 0 _ rfl; have f1 := hSw.bb 1 _ rfl; have f2 := hSw.bb 2 _ rfl); go_simp; try with_reducible rfl; done)) | (refine wpAnyH_take (i := 3) (v := undef) nth3 (by kernel_rfl) (by kernel_rfl) (by kernel_rfl) (fun _ _ _ h => h) (Or.inr ⟨by rfl, rfl⟩) hHeld ?_)
  (try simp only [Act.put]); (try simp only [List.setIfInBounds_toArray]); (try simp only [List.set_cons_succ]); (try simp only [List.set_cons_zero])
  first | (refine wpAnyH_take (i := 4) (v := ?_) nth4 (by kernel_rfl) (by kernel_rfl) (by kernel_rfl) (fun _ _ _ h => h) (Or.inl ⟨by rfl, ?_⟩) hHeld ?_; rotate_left; focus (intro wS hSw; (have e0 := hSw.ba 0 _ rfl; have e1 := hSw.ba 1 _ rfl; have e2 := hSw.ba 2 _ rfl; have f0 := hSw.bb 0 _ rfl; have f1 := hSw.bb 1 _ rfl; have f2 := hSw.bb 2 _ rfl); go_simp; try with_reducible rfl; done)) | (refine wpAnyH_take (i := 4) (v := undef) nth4 (by kernel_rfl) (by kernel_rfl) (by kernel_rfl) (fun _ _ _ h => h) (Or.inr ⟨by rfl, rfl⟩) hHeld ?_)
  (try simp only [Act.put]); (try simp only [List.setIfInBounds_toArray]); (try simp only [List.set_cons_succ]); (try simp only [List.set_cons_zero])
  refine wpAnyH_ready (rs := [2]) (by kernel_rfl) (by simp) ?_
  refine AllReadyH.cons nth2 (fun K hK => ?_) AllReadyH.nil
  go_simp
  first | (go_at_call 19; refine (R1.out _ _).mono ?_; rintro e w' ⟨rfl, hb⟩) | (go_at_call 20; refine (R2.out _ _).mono ?_; rintro e w' ⟨rfl, hb⟩) | (go_at_call 21; refine (R3.out _ _).mono ?_; rintro e w' ⟨rfl, hb⟩) | (go_at_call 22; refine (R4.out _ _).mono ?_; rintro e w' ⟨rfl, hb⟩) | (go_at_call 23; refine (R5.out _ _).mono ?_; rintro e w' ⟨rfl, hb⟩) | (go_at_call 24; refine (R6.out _ _).mono ?_; rintro e w' ⟨rfl, hb⟩)
  refine hK.out _ _ (hHeld.step hb) (fun hHeld => ?_)
  clear hK K
  (try simp only [Act.put]); (try simp only [List.setIfInBounds_toArray]); (try simp only [List.set_cons_succ]); (try simp only [List.set_cons_zero])
  refine wpAnyH_ready (rs := [5]) (by kernel_rfl) (by simp) ?_
  refine AllReadyH.cons nth5 (fun K hK => ?_) AllReadyH.nil
  go_simp
  first | (go_at_call 19; refine (R1.out _ _).mono ?_; rintro e w' ⟨rfl, hb⟩) | (go_at_call 20; refine (R2.out _ _).mono ?_; rintro e w' ⟨rfl, hb⟩) | (go_at_call 21; refine (R3.out _ _).mono ?_; rintro e w' ⟨rfl, hb⟩) | (go_at_call 22; refine (R4.out _ _).mono ?_; rintro e w' ⟨rfl, hb⟩) | (go_at_call 23; refine (R5.out _ _).mono ?_; rintro e w' ⟨rfl, hb⟩) | (go_at_call 24; refine (R6.out _ _).mono ?_; rintro e w' ⟨rfl, hb⟩)
  refine hK.out _ _ (hHeld.step hb) (fun hHeld => ?_)
  clear hK K
  (try simp only [Act.put]); (try simp only [List.setIfInBounds_toArray]); (try simp only [List.set_cons_succ]); (try simp only [List.set_cons_zero])
  first | (refine wpAnyH_take (i := 6) (v := ?_) nth6 (by kernel_rfl) (by kernel_rfl) (by kernel_rfl) (fun _ _ _ h => h) (Or.inl ⟨by rfl, ?_⟩) hHeld ?_; rotate_left; focus (intro wS hSw; (have e0 := hSw.ba 0 _ rfl; have e1 := hSw.ba 1 _ rfl; have e2 := hSw.ba 2 _ rfl; have f0 := hSw.bb 0 _ rfl; have f1 := hSw.bb 1 _ rfl; have f2 := hSw.bb 2 _ rfl); go_simp; try with_reducible rfl; done)) | (refine wpAnyH_take (i := 6) (v := undef) nth6 (by kernel_rfl) (by kernel_rfl) (by kernel_rfl) (fun _ _ _ h => h) (Or.inr ⟨by rfl, rfl⟩) hHeld ?_)
  (try simp only [Act.put]); (try simp only [List.setIfInBounds_toArray]); (try simp only [List.set_cons_succ]); (try simp only [List.set_cons_zero])
  first | (refine wpAnyH_take (i := 7) (v := ?_) nth7 (by kernel_rfl) (by kernel_rfl) (by kernel_rfl) (fun _ _ _ h => h) (Or.inl ⟨by rfl, ?_⟩) hHeld ?_; rotate_left; focus (intro wS hSw; (have e0 := hSw.ba 0 _ rfl; have e1 := hSw.ba 1 _ rfl; have e2 := hSw.ba 2 _ rfl; have f0 := hSw.bb 0 _ rfl; have f1 := hSw.bb 1 _ rfl; have f2 := hSw.bb 2 _ rfl); go_simp; try with_reducible rfl; done)) | (refine wpAnyH_take (i := 7) (v := undef) nth7 (by kernel_rfl) (by kernel_rfl) (by kernel_rfl) (fun _ _ _ h => h) (Or.inr ⟨by rfl, rfl⟩) hHeld ?_)
  (try simp only [Act.put]); (try simp only [List.setIfInBounds_toArray]); (try simp only [List.set_cons_succ]); (try simp only [List.set_cons_zero])
  first | (refine wpAnyH_take (i := 8) (v := ?_) nth8 (by kernel_rfl) (by kernel_rfl) (by kernel_rfl) (fun _ _ _ h => h) (Or.inl ⟨by rfl, ?_⟩) hHeld ?_; rotate_left; focus (intro wS hSw; (have e0 := hSw.ba 0 _ rfl; have e1 := hSw.ba 1 _ rfl; have e2 := hSw.ba 2 _ rfl; have f0 := hSw.bb 0 _ rfl; have f1 := hSw.bb 1 _ rfl; have f2 := hSw.bb 2 _ rfl); go_simp; try with_reducible rfl; done)) | (refine wpAnyH_take (i := 8) (v := undef) nth8 (by kernel_rfl) (by kernel_rfl) (by kernel_rfl) (fun _ _ _ h => h) (Or.inr ⟨by rfl, rfl⟩) hHeld ?_)
  (try simp only [Act.put]); (try simp only [List.setIfInBounds_toArray]); (try simp only [List.set_cons_succ]); (try simp only [List.set_cons_zero])
  first | (refine wpAnyH_take (i := 9) (v := ?_) nth9 (by kernel_rfl) (by kernel_rfl) (by kernel_rfl) (fun _ _ _ h => h) (Or.inl ⟨by rfl, ?_⟩) hHeld ?_; rotate_left; focus (intro wS hSw; (have e0 := hSw.ba 0 _ rfl; have e1 := hSw.ba 1 _ rfl; have e2 := hSw.ba 2 _ rfl; have f0 := hSw.bb 0 _ rfl; have f1 := hSw.bb 1 _ rfl; have f2 := hSw.bb 2 _ rfl); go_simp; try with_reducible rfl; done)) | (refine wpAnyH_take (i := 9) (v := undef) nth9 (by kernel_rfl) (by kernel_rfl) (by kernel_rfl) (fun _ _ _ h => h) (Or.inr ⟨by rfl, rfl⟩) hHeld ?_)
  (try simp only [Act.put]); (try simp only [List.setIfInBounds_toArray]); (try simp only [List.set_cons_succ]); (try simp only [List.set_cons_zero])
  first | (refine wpAnyH_take (i := 11) (v := ?_) nth11 (by kernel_rfl) (by kernel_rfl) (by kernel_rfl) (fun _ _ _ h => h) (Or.inl ⟨by rfl, ?_⟩) hHeld ?_; rotate_left; focus (intro wS hSw; (have e0 := hSw.ba 0 _ rfl; have e1 := hSw.ba 1 _ rfl; have e2 := hSw.ba 2 _ rfl; have f0 := hSw.bb 0 _ rfl; have f1 := hSw.bb 1 _ rfl; have f2 := hSw.bb 2 _ rfl); go_simp; try with_reducible rfl; done)) | (refine wpAnyH_take (i := 11) (v := undef) nth11 (by kernel_rfl) (by kernel_rfl) (by kernel_rfl) (fun _ _ _ h => h) (Or.inr ⟨by rfl, rfl⟩) hHeld ?_)
  (try simp only [Act.put]); (try simp only [List.setIfInBounds_toArray]); (try simp only [List.set_cons_succ]); (try simp only [List.set_cons_zero])
  first | (refine wpAnyH_take (i := 12) (v := ?_) nth12 (by kernel_rfl) (by kernel_rfl) (by kernel_rfl) (fun _ _ _ h => h) (Or.inl ⟨by rfl, ?_⟩) hHeld ?_; rotate_left; focus (intro wS hSw; (have e0 := hSw.ba 0 _ rfl; have e1 := hSw.ba 1 _ rfl; have e2 := hSw.ba 2 _ rfl; have f0 := hSw.bb 0 _ rfl; have f1 := hSw.bb 1 _ rfl; have f2 := hSw.bb 2 _ rfl); go_simp; try with_reducible rfl; done)) | (refine wpAnyH_take (i := 12) (v := undef) nth12 (by kernel_rfl) (by kernel_rfl) (by kernel_rfl) (fun _ _ _ h => h) (Or.inr ⟨by rfl, rfl⟩) hHeld ?_)
  (try simp only [Act.put]); (try simp only [List.setIfInBounds_toArray]); (try simp only [List.set_cons_succ]); (try simp only [List.set_cons_zero])
  refine wpAnyH_ready (rs := [10]) (by kernel_rfl) (by simp) ?_
  refine AllReadyH.cons nth10 (fun K hK => ?_) AllReadyH.nil
  go_simp
  first | (go_at_call 19; refine (R1.out _ _).mono ?_; rintro e w' ⟨rfl, hb⟩) | (go_at_call 20; refine (R2.out _ _).mono ?_; rintro e w' ⟨rfl, hb⟩) | (go_at_call 21; refine (R3.out _ _).mono ?_; rintro e w' ⟨rfl, hb⟩) | (go_at_call 22; refine (R4.out _ _).mono ?_; rintro e w' ⟨rfl, hb⟩) | (go_at_call 23; refine (R5.out _ _).mono ?_; rintro e w' ⟨rfl, hb⟩) | (go_at_call 24; refine (R6.out _ _).mono ?_; rintro e w' ⟨rfl, hb⟩)
  refine hK.out _ _ (hHeld.step hb) (fun hHeld => ?_)
  clear hK K
  (try simp only [Act.put]); (try simp only [List.setIfInBounds_toArray]); (try simp only [List.set_cons_succ]); (try simp only [List.set_cons_zero])
  refine wpAnyH_ready (rs := [13]) (by kernel_rfl) (by simp) ?_
  refine AllReadyH.cons nth13 (fun K hK => ?_) AllReadyH.nil
  go_simp
  first | (go_at_call 19; refine (R1.out _ _).mono ?_; rintro e w' ⟨rfl, hb⟩) | (go_at_call 20; refine (R2.out _ _).mono ?_; rintro e w' ⟨rfl, hb⟩) | (go_at_call 21; refine (R3.out _ _).mono ?_; rintro e w' ⟨rfl, hb⟩) | (go_at_call 22; refine (R4.out _ _).mono ?_; rintro e w' ⟨rfl, hb⟩) | (go_at_call 23; refine (R5.out _ _).mono ?_; rintro e w' ⟨rfl, hb⟩) | (go_at_call 24; refine (R6.out _ _).mono ?_; rintro e w' ⟨rfl, hb⟩)
  refine hK.out _ _ (hHeld.step hb) (fun hHeld => ?_)
  clear hK K
  (try simp only [Act.put]); (try simp only [List.setIfInBounds_toArray]); (try simp only [List.set_cons_succ]); (try simp only [List.set_cons_zero])
  first | (refine wpAnyH_take (i := 14) (v := ?_) nth14 (by kernel_rfl) (by kernel_rfl) (by kernel_rfl) (fun _ _ _ h => h) (Or.inl ⟨by rfl, ?_⟩) hHeld ?_; rotate_left; focus (intro wS hSw; (have e0 := hSw.ba 0 _ rfl; have e1 := hSw.ba 1 _ rfl; have e2 := hSw.ba 2 _ rfl; have f0 := hSw.bb 0 _ rfl; have f1 := hSw.bb 1 _ rfl; have f2 := hSw.bb 2 _ rfl); go_simp; try with_reducible rfl; done)) | (refine wpAnyH_take (i := 14) (v := undef) nth14 (by kernel_rfl) (by kernel_rfl) (by kernel_rfl) (fun _ _ _ h => h) (Or.inr ⟨by rfl, rfl⟩) hHeld ?_)
  (try simp only [Act.put]); (try simp only [List.setIfInBounds_toArray]); (try simp only [List.set_cons_succ]); (try simp only [List.set_cons_zero])
  first | (refine wpAnyH_take (i := 15) (v := ?_) nth15 (by kernel_rfl) (by kernel_rfl) (by kernel_rfl) (fun _ _ _ h => h) (Or.inl ⟨by rfl, ?_⟩) hHeld ?_; rotate_left; focus (intro wS hSw; (have e0 := hSw.ba 0 _ rfl; have e1 := hSw.ba 1 _ rfl; have e2 := hSw.ba 2 _ rfl; have f0 := hSw.bb 0 _ rfl; have f1 := hSw.bb 1 _ rfl; have f2 := hSw.bb 2 _ rfl); go_simp; try with_reducible rfl; done)) | (refine wpAnyH_take (i := 15) (v := undef) nth15 (by kernel_rfl) (by kernel_rfl) (by kernel_rfl) (fun _ _ _ h => h) (Or.inr ⟨by rfl, rfl⟩) hHeld ?_)
  (try simp only [Act.put]); (try simp only [List.setIfInBounds_toArray]); (try simp only [List.set_cons_succ]); (try simp only [List.set_cons_zero])
  first | (refine wpAnyH_take (i := 16) (v := ?_) nth16 (by kernel_rfl) (by kernel_rfl) (by kernel_rfl) (fun _ _ _ h => h) (Or.inl ⟨by rfl, ?_⟩) hHeld ?_; rotate_left; focus (intro wS hSw; (have e0 := hSw.ba 0 _ rfl; have e1 := hSw.ba 1 _ rfl; have e2 := hSw.ba 2 _ rfl; have f0 := hSw.bb 0 _ rfl; have f1 := hSw.bb 1 _ rfl; have f2 := hSw.bb 2 _ rfl); go_simp; try with_reducible rfl; done)) | (refine wpAnyH_take (i := 16) (v := undef) nth16 (by kernel_rfl) (by kernel_rfl) (by kernel_rfl) (fun _ _ _ h => h) (Or.inr ⟨by rfl, rfl⟩) hHeld ?_)
  (try simp only [Act.put]); (try simp only [List.setIfInBounds_toArray]); (try simp only [List.set_cons_succ]); (try simp only [List.set_cons_zero])
  first | (refine wpAnyH_take (i := 17) (v := ?_) nth17 (by kernel_rfl) (by kernel_rfl) (by kernel_rfl) (fun _ _ _ h => h) (Or.inl ⟨by rfl, ?_⟩) hHeld ?_; rotate_left; focus (intro wS hSw; (have e0 := hSw.ba 0 _ rfl; have e1 := hSw.ba 1 _ rfl; have e2 := hSw.ba 2 _ rfl; have f0 := hSw.bb 0 _ rfl; have f1 := hSw.bb 1 _ rfl; have f2 := hSw.bb 2 _ rfl); go_simp; try with_reducible rfl; done)) | (refine wpAnyH_take (i := 17) (v := undef) nth17 (by kernel_rfl) (by kernel_rfl) (by kernel_rfl) (fun _ _ _ h => h) (Or.inr ⟨by rfl, rfl⟩) hHeld ?_)
  (try simp only [Act.put]); (try simp only [List.setIfInBounds_toArray]); (try simp only [List.set_cons_succ]); (try simp only [List.set_cons_zero])
  first | (refine wpAnyH_take (i := 18) (v := ?_) nth18 (by kernel_rfl) (by kernel_rfl) (by kernel_rfl) (fun _ _ _ h => h) (Or.inl ⟨by rfl, ?_⟩) hHeld ?_; rotate_left; focus (intro wS hSw; (have e0 := hSw.ba 0 _ rfl; have e1 := hSw.ba 1 _ rfl; have e2 := hSw.ba 2 _ rfl; have f0 := hSw.bb 0 _ rfl; have f1 := hSw.bb 1 _ rfl; have f2 := hSw.bb 2 _ rfl); go_simp; try with_reducible rfl; done)) | (refine wpAnyH_take (i := 18) (v := undef) nth18 (by kernel_rfl) (by kernel_rfl) (by kernel_rfl) (fun _ _ _ h => h) (Or.inr ⟨by rfl, rfl⟩) hHeld ?_)
  (try simp only [Act.put]); (try simp only [List.setIfInBounds_toArray]); (try simp only [List.set_cons_succ]); (try simp only [List.set_cons_zero])
  first | (refine wpAnyH_take (i := 19) (v := ?_) nth19 (by kernel_rfl) (by kernel_rfl) (by kernel_rfl) (fun _ _ _ h => h) (Or.inl ⟨by rfl, ?_⟩) hHeld ?_; rotate_left; focus (intro wS hSw; (have e0 := hSw.ba 0 _ rfl; have e1 := hSw.ba 1 _ rfl; have e2 := hSw.ba 2 _ rfl; have f0 := hSw.bb 0 _ rfl; have f1 := hSw.bb 1 _ rfl; have f2 := hSw.bb 2 _ rfl); go_simp; try with_reducible rfl; done)) | (refine wpAnyH_take (i := 19) (v := undef) nth19 (by kernel_rfl) (by kernel_rfl) (by kernel_rfl) (fun _ _ _ h => h) (Or.inr ⟨by rfl, rfl⟩) hHeld ?_)
  (try simp only [Act.put]); (try simp only [List.setIfInBounds_toArray]); (try simp only [List.set_cons_succ]); (try simp only [List.set_cons_zero])
  first | (refine wpAnyH_take (i := 20) (v := ?_) nth20 (by kernel_rfl) (by kernel_rfl) (by kernel_rfl) (fun _ _ _ h => h) (Or.inl ⟨by rfl, ?_⟩) hHeld ?_; rotate_left; focus (intro wS hSw; (have e0 := hSw.ba 0 _ rfl; have e1 := hSw.ba 1 _ rfl; have e2 := hSw.ba 2 _ rfl; have f0 := hSw.bb 0 _ rfl; have f1 := hSw.bb 1 _ rfl; have f2 := hSw.bb 2 _ rfl); go_simp; try with_reducible rfl; done)) | (refine wpAnyH_take (i := 20) (v := undef) nth20 (by kernel_rfl) (by kernel_rfl) (by kernel_rfl) (fun _ _ _ h => h) (Or.inr ⟨by rfl, rfl⟩) hHeld ?_)
  (try simp only [Act.put]); (try simp only [List.setIfInBounds_toArray]); (try simp only [List.set_cons_succ]); (try simp only [List.set_cons_zero])
  first | (refine wpAnyH_take (i := 21) (v := ?_) nth21 (by kernel_rfl) (by kernel_rfl) (by kernel_rfl) (fun _ _ _ h => h) (Or.inl ⟨by rfl, ?_⟩) hHeld ?_; rotate_left; focus (intro wS hSw; (have e0 := hSw.ba 0 _ rfl; have e1 := hSw.ba 1 _ rfl; have e2 := hSw.ba 2 _ rfl; have f0 := hSw.bb 0 _ rfl; have f1 := hSw.bb 1 _ rfl; have f2 := hSw.bb 2 _ rfl); go_simp; try with_reducible rfl; done)) | (refine wpAnyH_take (i := 21) (v := undef) nth21 (by kernel_rfl) (by kernel_rfl) (by kernel_rfl) (fun _ _ _ h => h) (Or.inr ⟨by rfl, rfl⟩) hHeld ?_)
  (try simp only [Act.put]); (try simp only [List.setIfInBounds_toArray]); (try simp only [List.set_cons_succ]); (try simp only [List.set_cons_zero])
  first | (refine wpAnyH_take (i := 23) (v := ?_) nth23 (by kernel_rfl) (by kernel_rfl) (by kernel_rfl) (fun _ _ _ h => h) (Or.inl ⟨by rfl, ?_⟩) hHeld ?_; rotate_left; focus (intro wS hSw; (have e0 := hSw.ba 0 _ rfl; have e1 := hSw.ba 1 _ rfl; have e2 := hSw.ba 2 _ rfl; have f0 := hSw.bb 0 _ rfl; have f1 := hSw.bb 1 _ rfl; have f2 := hSw.bb 2 _ rfl); go_simp; try with_reducible rfl; done)) | (refine wpAnyH_take (i := 23) (v := undef) nth23 (by kernel_rfl) (by kernel_rfl) (by kernel_rfl) (fun _ _ _ h => h) (Or.inr ⟨by rfl, rfl⟩) hHeld ?_)
  (try simp only [Act.put]); (try simp only [List.setIfInBounds_toArray]); (try simp only [List.set_cons_succ]); (try simp only [List.set_cons_zero])
  first | (refine wpAnyH_take (i := 24) (v := ?_) nth24 (by kernel_rfl) (by kernel_rfl) (by kernel_rfl) (fun _ _ _ h => h) (Or.inl ⟨by rfl, ?_⟩) hHeld ?_; rotate_left; focus (intro wS hSw; (have e0 := hSw.ba 0 _ rfl; have e1 := hSw.ba 1 _ rfl; have e2 := hSw.ba 2 _ rfl; have f0 := hSw.bb 0 _ rfl; have f1 := hSw.bb 1 _ rfl; have f2 := hSw.bb 2 _ rfl); go_simp; try with_reducible rfl; done)) | (refine wpAnyH_take (i := 24) (v := undef) nth24 (by kernel_rfl) (by kernel_rfl) (by kernel_rfl) (fun _ _ _ h => h) (Or.inr ⟨by rfl, rfl⟩) hHeld ?_)
  (try simp only [Act.put]); (try simp only [List.setIfInBounds_toArray]); (try simp only [List.set_cons_succ]); (try simp only [List.set_cons_zero])
  first | (refine wpAnyH_take (i := 25) (v := ?_) nth25 (by kernel_rfl) (by kernel_rfl) (by kernel_rfl) (fun _ _ _ h => h) (Or.inl ⟨by rfl, ?_⟩) hHeld ?_; rotate_left; focus (intro wS hSw; (have e0 := hSw.ba 0 _ rfl; have e1 := hSw.ba 1 _ rfl; have e2 := hSw.ba 2 _ rfl; have f0 := hSw.bb 0 _ rfl; have f1 := hSw.bb 1 _ rfl; have f2 := hSw.bb 2 _ rfl); go_simp; try with_reducible rfl; done)) | (refine wpAnyH_take (i := 25) (v := undef) nth25 (by kernel_rfl) (by kernel_rfl) (by kernel_rfl) (fun _ _ _ h => h) (Or.inr ⟨by rfl, rfl⟩) hHeld ?_)
  (try simp only [Act.put]); (try simp only [List.setIfInBounds_toArray]); (try simp only [List.set_cons_succ]); (try simp only [List.set_cons_zero])
  first | (refine wpAnyH_take (i := 26) (v := ?_) nth26 (by kernel_rfl) (by kernel_rfl) (by kernel_rfl) (fun _ _ _ h => h) (Or.inl ⟨by rfl, ?_⟩) hHeld ?_; rotate_left; focus (intro wS hSw; (have e0 := hSw.ba 0 _ rfl; have e1 := hSw.ba 1 _ rfl; have e2 := hSw.ba 2 _ rfl; have f0 := hSw.bb 0 _ rfl; have f1 := hSw.bb 1 _ rfl; have f2 := hSw.bb 2 _ rfl); go_simp; try with_reducible rfl; done)) | (refine wpAnyH_take (i := 26) (v := undef) nth26 (by kernel_rfl) (by kernel_rfl) (by kernel_rfl) (fun _ _ _ h => h) (Or.inr ⟨by rfl, rfl⟩) hHeld ?_)
  (try simp only [Act.put]); (try simp only [List.setIfInBounds_toArray]); (try simp only [List.set_cons_succ]); (try simp only [List.set_cons_zero])
  first | (refine wpAnyH_take (i := 27) (v := ?_) nth27 (by kernel_rfl) (by kernel_rfl) (by kernel_rfl) (fun _ _ _ h => h) (Or.inl ⟨by rfl, ?_⟩) hHeld ?_; rotate_left; focus (intro wS hSw; (have e0 := hSw.ba 0 _ rfl; have e1 := hSw.ba 1 _ rfl; have e2 := hSw.ba 2 _ rfl; have f0 := hSw.bb 0 _ rfl; have f1 := hSw.bb 1 _ rfl; have f2 := hSw.bb 2 _ rfl); go_simp; try with_reducible rfl; done)) | (refine wpAnyH_take (i := 27) (v := undef) nth27 (by kernel_rfl) (by kernel_rfl) (by kernel_rfl) (fun _ _ _ h => h) (Or.inr ⟨by rfl, rfl⟩) hHeld ?_)
  (try simp only [Act.put]); (try simp only [List.setIfInBounds_toArray]); (try simp only [List.set_cons_succ]); (try simp only [List.set_cons_zero])
  refine wpAnyH_ready (rs := [22]) (by kernel_rfl) (by simp) ?_
  refine AllReadyH.cons nth22 (fun K hK => ?_) AllReadyH.nil
  go_simp
  first | (go_at_call 19; refine (R1.out _ _).mono ?_; rintro e w' ⟨rfl, hb⟩) | (go_at_call 20; refine (R2.out _ _).mono ?_; rintro e w' ⟨rfl, hb⟩) | (go_at_call 21; refine (R3.out _ _).mono ?_; rintro e w' ⟨rfl, hb⟩) | (go_at_call 22; refine (R4.out _ _).mono ?_; rintro e w' ⟨rfl, hb⟩) | (go_at_call 23; refine (R5.out _ _).mono ?_; rintro e w' ⟨rfl, hb⟩) | (go_at_call 24; refine (R6.out _ _).mono ?_; rintro e w' ⟨rfl, hb⟩)
  refine hK.out _ _ (hHeld.step hb) (fun hHeld => ?_)
  clear hK K
  (try simp only [Act.put]); (try simp only [List.setIfInBounds_toArray]); (try simp only [List.set_cons_succ]); (try simp only [List.set_cons_zero])
  refine wpAnyH_ready (rs := [28]) (by kernel_rfl) (by simp) ?_
  refine AllReadyH.cons nth28 (fun K hK => ?_) AllReadyH.nil
  go_simp
  first | (go_at_call 19; refine (R1.out _ _).mono ?_; rintro e w' ⟨rfl, hb⟩) | (go_at_call 20; refine (R2.out _ _).mono ?_; rintro e w' ⟨rfl, hb⟩) | (go_at_call 21; refine (R3.out _ _).mono ?_; rintro e w' ⟨rfl, hb⟩) | (go_at_call 22; refine (R4.out _ _).mono ?_; rintro e w' ⟨rfl, hb⟩) | (go_at_call 23; refine (R5.out _ _).mono ?_; rintro e w' ⟨rfl, hb⟩) | (go_at_call 24; refine (R6.out _ _).mono ?_; rintro e w' ⟨rfl, hb⟩)
  refine hK.out _ _ (hHeld.step hb) (fun hHeld => ?_)
  clear hK K
  (try simp only [Act.put]); (try simp only [List.setIfInBounds_toArray]); (try simp only [List.set_cons_succ]); (try simp only [List.set_cons_zero])
  first | (refine wpAnyH_take (i := 29) (v := ?_) nth29 (by kernel_rfl) (by kernel_rfl) (by kernel_rfl) (fun _ _ _ h => h) (Or.inl ⟨by rfl, ?_⟩) hHeld ?_; rotate_left; focus (intro wS hSw; (have e0 := hSw.ba 0 _ rfl; have e1 := hSw.ba 1 _ rfl; have e2 := hSw.ba 2 _ rfl; have f0 := hSw.bb 0 _ rfl; have f1 := hSw.bb 1 _ rfl; have f2 := hSw.bb 2 _ rfl); go_simp; try with_reducible rfl; done)) | (refine wpAnyH_take (i := 29) (v := undef) nth29 (by kernel_rfl) (by kernel_rfl) (by kernel_rfl) (fun _ _ _ h => h) (Or.inr ⟨by rfl, rfl⟩) hHeld ?_)
  (try simp only [Act.put]); (try simp only [List.setIfInBounds_toArray]); (try simp only [List.set_cons_succ]); (try simp only [List.set_cons_zero])
  first | (refine wpAnyH_take (i := 30) (v := ?_) nth30 (by kernel_rfl) (by kernel_rfl) (by kernel_rfl) (fun _ _ _ h => h) (Or.inl ⟨by rfl, ?_⟩) hHeld ?_; rotate_left; focus (intro wS hSw; (have e0 := hSw.ba 0 _ rfl; have e1 := hSw.ba 1 _ rfl; have e2 := hSw.ba 2 _ rfl; have f0 := hSw.bb 0 _ rfl; have f1 := hSw.bb 1 _ rfl; have f2 := hSw.bb 2 _ rfl); go_simp; try with_reducible rfl; done)) | (refine wpAnyH_take (i := 30) (v := undef) nth30 (by kernel_rfl) (by kernel_rfl) (by kernel_rfl) (fun _ _ _ h => h) (Or.inr ⟨by rfl, rfl⟩) hHeld ?_)
  (try simp only [Act.put]); (try simp only [List.setIfInBounds_toArray]); (try simp only [List.set_cons_succ]); (try simp only [List.set_cons_zero])
  first | (refine wpAnyH_take (i := 31) (v := ?_) nth31 (by kernel_rfl) (by kernel_rfl) (by kernel_rfl) (fun _ _ _ h => h) (Or.inl ⟨by rfl, ?_⟩) hHeld ?_; rotate_left; focus (intro wS hSw; (have e0 := hSw.ba 0 _ rfl; have e1 := hSw.ba 1 _ rfl; have e2 := hSw.ba 2 _ rfl; have f0 := hSw.bb 0 _ rfl; have f1 := hSw.bb 1 _ rfl; have f2 := hSw.bb 2 _ rfl); go_simp; try with_reducible rfl; done)) | (refine wpAnyH_take (i := 31) (v := undef) nth31 (by kernel_rfl) (by kernel_rfl) (by kernel_rfl) (fun _ _ _ h => h) (Or.inr ⟨by rfl, rfl⟩) hHeld ?_)
  (try simp only [Act.put]); (try simp only [List.setIfInBounds_toArray]); (try simp only [List.set_cons_succ]); (try simp only [List.set_cons_zero])
  refine wpAnyH_done (by kernel_rfl) ?_ _
  go_wp2_with fail
  all_goals
    go_ret
    exact ⟨rfl, hHeld.below⟩
end Go.Proofs.YtammpddkeinijaaDoor
