/- The walk of ValueOrder. -/
import Derived.Test.YtammpddkeinijaaDoorEqV
namespace Go.Proofs.YtammpddkeinijaaDoor
set_option linter.unusedVariables false
open Go.ChangeShapes Go.WideShapes Go.ChangeAt Go.RowKit

/-- Three values in their boxes. -/
structure FineT (w : World) (a b c : ValV) (w' : World) : Prop where
  below : Below w.heap.size w w'
  vw : ValW w'
  ba : BoxIs w.heap.size (valCells a) w'
  bb : BoxIs (w.heap.size + 1) (valCells b) w'
  bc : BoxIs (w.heap.size + 2) (valCells c) w'
theorem FineT.step {w x y : World} {a b c : ValV} (h : FineT w a b c x) (hb : Below x.heap.size x y) : FineT w a b c y := ⟨Bel.then h.below hb, h.vw.keep hb, h.ba.step hb, h.bb.step hb, h.bc.step hb⟩
theorem FineT.drew {w x : World} {a b c : ValV} (h : FineT w a b c x) : FineT w a b c x.drew := h.step (Below.refl _ _).drew
abbrev boxV (v : ValV) (t : TypeId) : Obj := .cells #[.int .i64 v.kind, .int .i64 v.num, .string v.str] t
theorem fineT_new (w : World) (a b c : ValV) (hW : ValW w) (t : TypeId) : FineT w a b c (((w.alloc (boxV a t)).alloc (boxV b t)).alloc (boxV c t)) := by
  have h1 := Bel.one w (boxV a t)
  have h2 := Bel.one (w.alloc (boxV a t)) (boxV b t)
  have h3 := Bel.one ((w.alloc (boxV a t)).alloc (boxV b t)) (boxV c t)
  have b1 := box_new w #[.int .i64 a.kind, .int .i64 a.num, .string a.str] t
  have b2 := box_new (w.alloc (boxV a t)) #[.int .i64 b.kind, .int .i64 b.num, .string b.str] t
  have b3 := box_new ((w.alloc (boxV a t)).alloc (boxV b t)) #[.int .i64 c.kind, .int .i64 c.num, .string c.str] t
  rw [World.size_alloc] at b2
  rw [World.size_alloc, World.size_alloc] at b3
  exact ⟨Bel.then (Bel.then h1 h2) h3, ((hW.keep h1).keep h2).keep h3, (b1.step h2).step h3, b2.step h3, b3⟩
set_option maxRecDepth 100000 in
set_option maxHeartbeats 1000000 in
theorem order_w (a b c : ValV) (w : World) (hW : ValW w) (ha : OkV a) (hb : OkV b) (hc : OkV c) :
    Calls Tryd.prog 5 #[valAgg a, valAgg b, valAgg c] w fun e w' => e = .returned (.bool true) ∧ Below w.heap.size w w' := by
  have F0 := hide (fineT_new w a b c hW 23)
  have q1 := fun W => order_c a b W
  have q2 := fun W => order_c b a W
  have q3 := fun W => order_c b c W
  have q4 := fun W => order_c a c W
  have q5 := fun W => compare_c a b W
  have q6 := fun W => right_c a.kind a.num a.str W (by have := ha.2; unfold maxLen; omega)
  have q7 := fun W => right_c b.kind b.num b.str W (by have := hb.2; unfold maxLen; omega)
  have y1 := cmpV_trans a b c
  have y2 := comp_kind a b
  have y3 := comp_right a b
  have z1 := cmpV_zero (a := a) (b := b)
  have z2 := cmpV_neg a b
  have z3 := cmpV_range a b
  unfold valAgg at *
  obtain ⟨ak, an, ax⟩ := a
  obtain ⟨bk, bn, bs⟩ := b
  obtain ⟨ck, cn, cs⟩ := c
  obtain ⟨e, he, hE⟩ := eqV_run ak an bk bn ax bs
  simp only [boxV] at *
  generalize cmpV ⟨ak, an, ax⟩ ⟨bk, bn, bs⟩ = o at *
  generalize cmpV ⟨bk, bn, bs⟩ ⟨ak, an, ax⟩ = o' at *
  generalize cmpV ⟨bk, bn, bs⟩ ⟨ck, cn, cs⟩ = o2 at *
  generalize cmpV ⟨ak, an, ax⟩ ⟨ck, cn, cs⟩ = o3 at *
  generalize compV ⟨ak, an, ax⟩ ⟨bk, bn, bs⟩ = r at *
  generalize rightV ak an ax = ra at *
  generalize rightV bk bn bs = rb at *
  obtain ⟨r1, r2⟩ := r
  simp only at *
  have Y1 := hide y1
  have Y2 := hide y2
  have Y3 := hide y3
  have Q3 := hide q3
  have Q4 := hide q4
  have Q5 := hide q5
  have Q6 := hide q6
  have Q7 := hide q7
  have Q1 := hide q1
  have Q2 := hide q2
  have heo : (o == 0) = e := by
    rw [Bool.eq_iff_iff, he, ← z1]
    simp
  have hng : IntKind.i64.wrap (-o') = o := by
    rw [z2, Int.neg_neg]
    rcases (show o = -1 ∨ o = 0 ∨ o = 1 by omega) with h | h | h <;> rw [h] <;> decide
  have b1 : (o != o) = false := by simp
  have b2 : (e != e) = false := by simp
  clear hW ha hb hc q1 q2 q3 q4 q5 q6 q7 y1 y2 y3 z1 z2 z3 he
  go_enter Tryd.func5, Tryd.ntmps5
  go_wp2_with fail
  refine wp_region_held_drew (S := (fun w' => FineT w ⟨ak, an, ax⟩ ⟨bk, bn, bs⟩ ⟨ck, cn, cs⟩ w')) (by kernel_rfl) (F0.out.drew) (fun hHeld => ?_)
  refine wpAnyH_ready (rs := [0]) (by kernel_rfl) (by simp) ?_
  refine AllReadyH.cons nth0 (fun K hK => ?_) AllReadyH.nil
  go_simp
  first | (go_at_call 12; refine (awake_c _ hHeld.vw).mono ?_; rintro e w' ⟨rfl, hb⟩) | (go_at_call 15; (first | with_reducible refine (Q1.out _).mono ?_ | with_reducible refine (Q2.out _).mono ?_); rintro e w' ⟨rfl, hb⟩)
  refine hK.out _ _ (hHeld.step hb) (fun hHeld => ?_)
  clear hK K
  (try simp only [Act.put]); (try simp only [List.setIfInBounds_toArray]); (try simp only [List.set_cons_succ]); (try simp only [List.set_cons_zero])
  first | (refine wpAnyH_take (i := 1) (v := ?_) nth1 (by kernel_rfl) (by kernel_rfl) (by kernel_rfl) (fun _ _ _ h => h) (Or.inl ⟨by rfl, ?_⟩) hHeld ?_; rotate_left; focus (intro wS hSw; (have e0 := hSw.ba 0 _ rfl; have e1 := hSw.ba 1 _ rfl; have e2 := hSw.ba 2 _ rfl; have f0 := hSw.bb 0 _ rfl; have f1 := hSw.bb 1 _ rfl; have f2 := hSw.bb 2 _ rfl); go_simp; try with_reducible rfl; done)) | (refine wpAnyH_take (i := 1) (v := undef) nth1 (by kernel_rfl) (by kernel_rfl) (by kernel_rfl) (fun _ _ _ h => h) (Or.inr ⟨by rfl, rfl⟩) hHeld ?_)
  (try simp only [Act.put]); (try simp only [List.setIfInBounds_toArray]); (try simp only [List.set_cons_succ]); (try simp only [List.set_cons_zero])
  first | (refine wpAnyH_take (i := 2) (v := ?_) nth2 (by kernel_rfl) (by kernel_rfl) (by kernel_rfl) (fun _ _ _ h => h) (Or.inl ⟨by rfl, ?_⟩) hHeld ?_; rotate_left; focus (intro wS hSw; (have e0 := hSw.ba 0 _ rfl; have e1 := hSw.ba 1 _ rfl; have e2 := hSw.ba 2 _ rfl; have f0 := hSw.bb 0 _ rfl; have f1 := hSw.bb 1 _ rfl; have f2 := hSw.bb 2 _ rfl); go_simp; try with_reducible rfl; done)) | (refine wpAnyH_take (i := 2) (v := undef) nth2 (by kernel_rfl) (by kernel_rfl) (by kernel_rfl) (fun _ _ _ h => h) (Or.inr ⟨by rfl, rfl⟩) hHeld ?_)
  (try simp only [Act.put]); (try simp only [List.setIfInBounds_toArray]); (try simp only [List.set_cons_succ]); (try simp only [List.set_cons_zero])
  first | (refine wpAnyH_take (i := 3) (v := ?_) nth3 (by kernel_rfl) (by kernel_rfl) (by kernel_rfl) (fun _ _ _ h => h) (Or.inl ⟨by rfl, ?_⟩) hHeld ?_; rotate_left; focus (intro wS hSw; (have e0 := hSw.ba 0 _ rfl; have e1 := hSw.ba 1 _ rfl; have e2 := hSw.ba 2 _ rfl; have f0 := hSw.bb 0 _ rfl; have f1 := hSw.bb 1 _ rfl; have f2 := hSw.bb 2 _ rfl); go_simp; try with_reducible rfl; done)) | (refine wpAnyH_take (i := 3) (v := undef) nth3 (by kernel_rfl) (by kernel_rfl) (by kernel_rfl) (fun _ _ _ h => h) (Or.inr ⟨by rfl, rfl⟩) hHeld ?_)
  (try simp only [Act.put]); (try simp only [List.setIfInBounds_toArray]); (try simp only [List.set_cons_succ]); (try simp only [List.set_cons_zero])
  first | (refine wpAnyH_take (i := 4) (v := ?_) nth4 (by kernel_rfl) (by kernel_rfl) (by kernel_rfl) (fun _ _ _ h => h) (Or.inl ⟨by rfl, ?_⟩) hHeld ?_; rotate_left; focus (intro wS hSw; (have e0 := hSw.ba 0 _ rfl; have e1 := hSw.ba 1 _ rfl; have e2 := hSw.ba 2 _ rfl; have f0 := hSw.bb 0 _ rfl; have f1 := hSw.bb 1 _ rfl; have f2 := hSw.bb 2 _ rfl); go_simp; try with_reducible rfl; done)) | (refine wpAnyH_take (i := 4) (v := undef) nth4 (by kernel_rfl) (by kernel_rfl) (by kernel_rfl) (fun _ _ _ h => h) (Or.inr ⟨by rfl, rfl⟩) hHeld ?_)
  (try simp only [Act.put]); (try simp only [List.setIfInBounds_toArray]); (try simp only [List.set_cons_succ]); (try simp only [List.set_cons_zero])
  first | (refine wpAnyH_take (i := 6) (v := ?_) nth6 (by kernel_rfl) (by kernel_rfl) (by kernel_rfl) (fun _ _ _ h => h) (Or.inl ⟨by rfl, ?_⟩) hHeld ?_; rotate_left; focus (intro wS hSw; (have e0 := hSw.ba 0 _ rfl; have e1 := hSw.ba 1 _ rfl; have e2 := hSw.ba 2 _ rfl; have f0 := hSw.bb 0 _ rfl; have f1 := hSw.bb 1 _ rfl; have f2 := hSw.bb 2 _ rfl); go_simp; try with_reducible rfl; done)) | (refine wpAnyH_take (i := 6) (v := undef) nth6 (by kernel_rfl) (by kernel_rfl) (by kernel_rfl) (fun _ _ _ h => h) (Or.inr ⟨by rfl, rfl⟩) hHeld ?_)
  (try simp only [Act.put]); (try simp only [List.setIfInBounds_toArray]); (try simp only [List.set_cons_succ]); (try simp only [List.set_cons_zero])
  first | (refine wpAnyH_take (i := 7) (v := ?_) nth7 (by kernel_rfl) (by kernel_rfl) (by kernel_rfl) (fun _ _ _ h => h) (Or.inl ⟨by rfl, ?_⟩) hHeld ?_; rotate_left; focus (intro wS hSw; (have e0 := hSw.ba 0 _ rfl; have e1 := hSw.ba 1 _ rfl; have e2 := hSw.ba 2 _ rfl; have f0 := hSw.bb 0 _ rfl; have f1 := hSw.bb 1 _ rfl; have f2 := hSw.bb 2 _ rfl); go_simp; try with_reducible rfl; done)) | (refine wpAnyH_take (i := 7) (v := undef) nth7 (by kernel_rfl) (by kernel_rfl) (by kernel_rfl) (fun _ _ _ h => h) (Or.inr ⟨by rfl, rfl⟩) hHeld ?_)
  (try simp only [Act.put]); (try simp only [List.setIfInBounds_toArray]); (try simp only [List.set_cons_succ]); (try simp only [List.set_cons_zero])
  refine wpAnyH_ready (rs := [5]) (by kernel_rfl) (by simp) ?_
  refine AllReadyH.cons nth5 (fun K hK => ?_) AllReadyH.nil
  go_simp
  first | (go_at_call 12; refine (awake_c _ hHeld.vw).mono ?_; rintro e w' ⟨rfl, hb⟩) | (go_at_call 15; (first | with_reducible refine (Q1.out _).mono ?_ | with_reducible refine (Q2.out _).mono ?_); rintro e w' ⟨rfl, hb⟩)
  refine hK.out _ _ (hHeld.step hb) (fun hHeld => ?_)
  clear hK K
  (try simp only [Act.put]); (try simp only [List.setIfInBounds_toArray]); (try simp only [List.set_cons_succ]); (try simp only [List.set_cons_zero])
  refine wpAnyH_ready (rs := [8]) (by kernel_rfl) (by simp) ?_
  refine AllReadyH.cons nth8 (fun K hK => ?_) AllReadyH.nil
  go_simp
  first | (go_at_call 12; refine (awake_c _ hHeld.vw).mono ?_; rintro e w' ⟨rfl, hb⟩) | (go_at_call 15; (first | with_reducible refine (Q1.out _).mono ?_ | with_reducible refine (Q2.out _).mono ?_); rintro e w' ⟨rfl, hb⟩)
  refine hK.out _ _ (hHeld.step hb) (fun hHeld => ?_)
  clear hK K
  (try simp only [Act.put]); (try simp only [List.setIfInBounds_toArray]); (try simp only [List.set_cons_succ]); (try simp only [List.set_cons_zero])
  first | (refine wpAnyH_take (i := 9) (v := ?_) nth9 (by kernel_rfl) (by kernel_rfl) (by kernel_rfl) (fun _ _ _ h => h) (Or.inl ⟨by rfl, ?_⟩) hHeld ?_; rotate_left; focus (intro wS hSw; (have e0 := hSw.ba 0 _ rfl; have e1 := hSw.ba 1 _ rfl; have e2 := hSw.ba 2 _ rfl; have f0 := hSw.bb 0 _ rfl; have f1 := hSw.bb 1 _ rfl; have f2 := hSw.bb 2 _ rfl); go_simp; try with_reducible rfl; done)) | (refine wpAnyH_take (i := 9) (v := undef) nth9 (by kernel_rfl) (by kernel_rfl) (by kernel_rfl) (fun _ _ _ h => h) (Or.inr ⟨by rfl, rfl⟩) hHeld ?_)
  (try simp only [Act.put]); (try simp only [List.setIfInBounds_toArray]); (try simp only [List.set_cons_succ]); (try simp only [List.set_cons_zero])
  first | (refine wpAnyH_take (i := 10) (v := ?_) nth10 (by kernel_rfl) (by kernel_rfl) (by kernel_rfl) (fun _ _ _ h => h) (Or.inl ⟨by rfl, ?_⟩) hHeld ?_; rotate_left; focus (intro wS hSw; (have e0 := hSw.ba 0 _ rfl; have e1 := hSw.ba 1 _ rfl; have e2 := hSw.ba 2 _ rfl; have f0 := hSw.bb 0 _ rfl; have f1 := hSw.bb 1 _ rfl; have f2 := hSw.bb 2 _ rfl); go_simp; try with_reducible rfl; done)) | (refine wpAnyH_take (i := 10) (v := undef) nth10 (by kernel_rfl) (by kernel_rfl) (by kernel_rfl) (fun _ _ _ h => h) (Or.inr ⟨by rfl, rfl⟩) hHeld ?_)
  (try simp only [Act.put]); (try simp only [List.setIfInBounds_toArray]); (try simp only [List.set_cons_succ]); (try simp only [List.set_cons_zero])
  first | (refine wpAnyH_take (i := 11) (v := ?_) nth11 (by kernel_rfl) (by kernel_rfl) (by kernel_rfl) (fun _ _ _ h => h) (Or.inl ⟨by rfl, ?_⟩) hHeld ?_; rotate_left; focus (intro wS hSw; (have e0 := hSw.ba 0 _ rfl; have e1 := hSw.ba 1 _ rfl; have e2 := hSw.ba 2 _ rfl; have f0 := hSw.bb 0 _ rfl; have f1 := hSw.bb 1 _ rfl; have f2 := hSw.bb 2 _ rfl); go_simp; try with_reducible rfl; done)) | (refine wpAnyH_take (i := 11) (v := undef) nth11 (by kernel_rfl) (by kernel_rfl) (by kernel_rfl) (fun _ _ _ h => h) (Or.inr ⟨by rfl, rfl⟩) hHeld ?_)
  (try simp only [Act.put]); (try simp only [List.setIfInBounds_toArray]); (try simp only [List.set_cons_succ]); (try simp only [List.set_cons_zero])
  first | (refine wpAnyH_take (i := 12) (v := ?_) nth12 (by kernel_rfl) (by kernel_rfl) (by kernel_rfl) (fun _ _ _ h => h) (Or.inl ⟨by rfl, ?_⟩) hHeld ?_; rotate_left; focus (intro wS hSw; (have e0 := hSw.ba 0 _ rfl; have e1 := hSw.ba 1 _ rfl; have e2 := hSw.ba 2 _ rfl; have f0 := hSw.bb 0 _ rfl; have f1 := hSw.bb 1 _ rfl; have f2 := hSw.bb 2 _ rfl); go_simp; try with_reducible rfl; done)) | (refine wpAnyH_take (i := 12) (v := undef) nth12 (by kernel_rfl) (by kernel_rfl) (by kernel_rfl) (fun _ _ _ h => h) (Or.inr ⟨by rfl, rfl⟩) hHeld ?_)
  (try simp only [Act.put]); (try simp only [List.setIfInBounds_toArray]); (try simp only [List.set_cons_succ]); (try simp only [List.set_cons_zero])
  first | (refine wpAnyH_take (i := 13) (v := ?_) nth13 (by kernel_rfl) (by kernel_rfl) (by kernel_rfl) (fun _ _ _ h => h) (Or.inl ⟨by rfl, ?_⟩) hHeld ?_; rotate_left; focus (intro wS hSw; (have e0 := hSw.ba 0 _ rfl; have e1 := hSw.ba 1 _ rfl; have e2 := hSw.ba 2 _ rfl; have f0 := hSw.bb 0 _ rfl; have f1 := hSw.bb 1 _ rfl; have f2 := hSw.bb 2 _ rfl); go_simp; try with_reducible rfl; done)) | (refine wpAnyH_take (i := 13) (v := undef) nth13 (by kernel_rfl) (by kernel_rfl) (by kernel_rfl) (fun _ _ _ h => h) (Or.inr ⟨by rfl, rfl⟩) hHeld ?_)
  (try simp only [Act.put]); (try simp only [List.setIfInBounds_toArray]); (try simp only [List.set_cons_succ]); (try simp only [List.set_cons_zero])
  first | (refine wpAnyH_take (i := 14) (v := ?_) nth14 (by kernel_rfl) (by kernel_rfl) (by kernel_rfl) (fun _ _ _ h => h) (Or.inl ⟨by rfl, ?_⟩) hHeld ?_; rotate_left; focus (intro wS hSw; (have e0 := hSw.ba 0 _ rfl; have e1 := hSw.ba 1 _ rfl; have e2 := hSw.ba 2 _ rfl; have f0 := hSw.bb 0 _ rfl; have f1 := hSw.bb 1 _ rfl; have f2 := hSw.bb 2 _ rfl); go_simp; try with_reducible rfl; done)) | (refine wpAnyH_take (i := 14) (v := undef) nth14 (by kernel_rfl) (by kernel_rfl) (by kernel_rfl) (fun _ _ _ h => h) (Or.inr ⟨by rfl, rfl⟩) hHeld ?_)
  (try simp only [Act.put]); (try simp only [List.setIfInBounds_toArray]); (try simp only [List.set_cons_succ]); (try simp only [List.set_cons_zero])
  first | (refine wpAnyH_take (i := 17) (v := ?_) nth17 (by kernel_rfl) (by kernel_rfl) (by kernel_rfl) (fun _ _ _ h => h) (Or.inl ⟨by rfl, ?_⟩) hHeld ?_; rotate_left; focus (intro wS hSw; (have e0 := hSw.ba 0 _ rfl; have e1 := hSw.ba 1 _ rfl; have e2 := hSw.ba 2 _ rfl; have f0 := hSw.bb 0 _ rfl; have f1 := hSw.bb 1 _ rfl; have f2 := hSw.bb 2 _ rfl); go_simp; try with_reducible rfl; done)) | (refine wpAnyH_take (i := 17) (v := undef) nth17 (by kernel_rfl) (by kernel_rfl) (by kernel_rfl) (fun _ _ _ h => h) (Or.inr ⟨by rfl, rfl⟩) hHeld ?_)
  (try simp only [Act.put]); (try simp only [List.setIfInBounds_toArray]); (try simp only [List.set_cons_succ]); (try simp only [List.set_cons_zero])
  first | (refine wpAnyH_take (i := 18) (v := ?_) nth18 (by kernel_rfl) (by kernel_rfl) (by kernel_rfl) (fun _ _ _ h => h) (Or.inl ⟨by rfl, ?_⟩) hHeld ?_; rotate_left; focus (intro wS hSw; (have e0 := hSw.ba 0 _ rfl; have e1 := hSw.ba 1 _ rfl; have e2 := hSw.ba 2 _ rfl; have f0 := hSw.bb 0 _ rfl; have f1 := hSw.bb 1 _ rfl; have f2 := hSw.bb 2 _ rfl); go_simp; try with_reducible rfl; done)) | (refine wpAnyH_take (i := 18) (v := undef) nth18 (by kernel_rfl) (by kernel_rfl) (by kernel_rfl) (fun _ _ _ h => h) (Or.inr ⟨by rfl, rfl⟩) hHeld ?_)
  (try simp only [Act.put]); (try simp only [List.setIfInBounds_toArray]); (try simp only [List.set_cons_succ]); (try simp only [List.set_cons_zero])
  first | (refine wpAnyH_take (i := 19) (v := ?_) nth19 (by kernel_rfl) (by kernel_rfl) (by kernel_rfl) (fun _ _ _ h => h) (Or.inl ⟨by rfl, ?_⟩) hHeld ?_; rotate_left; focus (intro wS hSw; (have e0 := hSw.ba 0 _ rfl; have e1 := hSw.ba 1 _ rfl; have e2 := hSw.ba 2 _ rfl; have f0 := hSw.bb 0 _ rfl; have f1 := hSw.bb 1 _ rfl; have f2 := hSw.bb 2 _ rfl); go_simp; try with_reducible rfl; done)) | (refine wpAnyH_take (i := 19) (v := undef) nth19 (by kernel_rfl) (by kernel_rfl) (by kernel_rfl) (fun _ _ _ h => h) (Or.inr ⟨by rfl, rfl⟩) hHeld ?_)
  (try simp only [Act.put]); (try simp only [List.setIfInBounds_toArray]); (try simp only [List.set_cons_succ]); (try simp only [List.set_cons_zero])
  refine wpAnyH_ready (rs := [15]) (by kernel_rfl) (by simp) ?_
  refine AllReadyH.cons nth15 (fun K hK => ?_) AllReadyH.nil
  go_simp
  first | (go_at_call 12; refine (awake_c _ hHeld.vw).mono ?_; rintro e w' ⟨rfl, hb⟩) | (go_at_call 15; (first | with_reducible refine (Q1.out _).mono ?_ | with_reducible refine (Q2.out _).mono ?_); rintro e w' ⟨rfl, hb⟩)
  refine hK.out _ _ (hHeld.step hb) (fun hHeld => ?_)
  clear hK K
  (try simp only [Act.put]); (try simp only [List.setIfInBounds_toArray]); (try simp only [List.set_cons_succ]); (try simp only [List.set_cons_zero])
  first | (refine wpAnyH_take (i := 16) (v := ?_) nth16 (by kernel_rfl) (by kernel_rfl) (by kernel_rfl) (fun _ _ _ h => h) (Or.inl ⟨by rfl, ?_⟩) hHeld ?_; rotate_left; focus (intro wS hSw; (have e0 := hSw.ba 0 _ rfl; have e1 := hSw.ba 1 _ rfl; have e2 := hSw.ba 2 _ rfl; have f0 := hSw.bb 0 _ rfl; have f1 := hSw.bb 1 _ rfl; have f2 := hSw.bb 2 _ rfl); go_simp; try with_reducible rfl; done)) | (refine wpAnyH_take (i := 16) (v := undef) nth16 (by kernel_rfl) (by kernel_rfl) (by kernel_rfl) (fun _ _ _ h => h) (Or.inr ⟨by rfl, rfl⟩) hHeld ?_)
  (try simp only [Act.put]); (try simp only [List.setIfInBounds_toArray]); (try simp only [List.set_cons_succ]); (try simp only [List.set_cons_zero])
  first | (refine wpAnyH_take (i := 20) (v := ?_) nth20 (by kernel_rfl) (by kernel_rfl) (by kernel_rfl) (fun _ _ _ h => h) (Or.inl ⟨by rfl, ?_⟩) hHeld ?_; rotate_left; focus (intro wS hSw; (have e0 := hSw.ba 0 _ rfl; have e1 := hSw.ba 1 _ rfl; have e2 := hSw.ba 2 _ rfl; have f0 := hSw.bb 0 _ rfl; have f1 := hSw.bb 1 _ rfl; have f2 := hSw.bb 2 _ rfl); go_simp; try with_reducible rfl; done)) | (refine wpAnyH_take (i := 20) (v := undef) nth20 (by kernel_rfl) (by kernel_rfl) (by kernel_rfl) (fun _ _ _ h => h) (Or.inr ⟨by rfl, rfl⟩) hHeld ?_)
  (try simp only [Act.put]); (try simp only [List.setIfInBounds_toArray]); (try simp only [List.set_cons_succ]); (try simp only [List.set_cons_zero])
  first | (refine wpAnyH_take (i := 21) (v := ?_) nth21 (by kernel_rfl) (by kernel_rfl) (by kernel_rfl) (fun _ _ _ h => h) (Or.inl ⟨by rfl, ?_⟩) hHeld ?_; rotate_left; focus (intro wS hSw; (have e0 := hSw.ba 0 _ rfl; have e1 := hSw.ba 1 _ rfl; have e2 := hSw.ba 2 _ rfl; have f0 := hSw.bb 0 _ rfl; have f1 := hSw.bb 1 _ rfl; have f2 := hSw.bb 2 _ rfl); go_simp; try with_reducible rfl; done)) | (refine wpAnyH_take (i := 21) (v := undef) nth21 (by kernel_rfl) (by kernel_rfl) (by kernel_rfl) (fun _ _ _ h => h) (Or.inr ⟨by rfl, rfl⟩) hHeld ?_)
  (try simp only [Act.put]); (try simp only [List.setIfInBounds_toArray]); (try simp only [List.set_cons_succ]); (try simp only [List.set_cons_zero])
  refine wpAnyH_done (by kernel_rfl) ?_ _
  have F := hide hHeld
  clear hHeld F0
  obtain ⟨e0, e1, e2, f0, f1, f2, g0, g1, g2⟩ := (show _ ∧ _ ∧ _ ∧ _ ∧ _ ∧ _ ∧ _ ∧ _ ∧ _ from ⟨F.out.ba 0 _ rfl, F.out.ba 1 _ rfl, F.out.ba 2 _ rfl, F.out.bb 0 _ rfl, F.out.bb 1 _ rfl, F.out.bb 2 _ rfl, F.out.bc 0 _ rfl, F.out.bc 1 _ rfl, F.out.bc 2 _ rfl⟩)
  clear heo hng b1 b2 hE Q2
  rcases (show (0 < o) ∨ (o ≤ 0 ∧ 0 < o2) ∨ (o ≤ 0 ∧ o2 ≤ 0 ∧ o3 ≤ 0) by
    by_cases h1 : o ≤ 0
    · by_cases h2 : o2 ≤ 0
      · exact .inr (.inr ⟨h1, h2, Y1.out h1 h2⟩)
      · exact .inr (.inl ⟨h1, by omega⟩)
    · exact .inl (by omega)) with h1 | ⟨h1, h2⟩ | ⟨h1, h2, h3⟩
  all_goals
    clear Y1
    rcases (show (r2 = false) ∨ (r2 = true ∧ (ak == 0) = false ∧ (ak != bk) = false ∧ (ra = false ∨ (ra = true ∧ rb = false) ∨ (ra = true ∧ rb = true ∧ (r1 == o) = true))) by
      cases r2
      · exact .inl rfl
      · obtain ⟨k1, k2⟩ := Y2.out rfl
        refine .inr ⟨rfl, by simp [k1], by simp [k2], ?_⟩
        cases ra
        · exact .inl rfl
        · cases rb
          · exact .inr (.inl ⟨rfl, rfl⟩)
          · exact .inr (.inr ⟨rfl, rfl, by simp [Y3.out rfl rfl rfl]⟩)) with rfl | ⟨rfl, k1, k2, rfl | ⟨rfl, rfl⟩ | ⟨rfl, rfl, k3⟩⟩
    all_goals
      clear Y2 Y3
      go_wp2_with (first | (go_at_call 15; (first | with_reducible refine (Q1.out _).mono ?_ | with_reducible refine (Q3.out _).mono ?_ | with_reducible refine (Q4.out _).mono ?_); rintro ee w' ⟨rfl, hb⟩; replace F := hide (F.out.step hb); clear hb; replace e0 := F.out.ba 0 _ rfl; replace e1 := F.out.ba 1 _ rfl; replace e2 := F.out.ba 2 _ rfl; replace f0 := F.out.bb 0 _ rfl; replace f1 := F.out.bb 1 _ rfl; replace f2 := F.out.bb 2 _ rfl; replace g0 := F.out.bc 0 _ rfl; replace g1 := F.out.bc 1 _ rfl; replace g2 := F.out.bc 2 _ rfl) | (go_at_call 10; refine (Q5.out _).mono ?_; rintro ee w' ⟨rfl, hb⟩; replace F := hide (F.out.step hb); clear hb; replace e0 := F.out.ba 0 _ rfl; replace e1 := F.out.ba 1 _ rfl; replace e2 := F.out.ba 2 _ rfl; replace f0 := F.out.bb 0 _ rfl; replace f1 := F.out.bb 1 _ rfl; replace f2 := F.out.bb 2 _ rfl; replace g0 := F.out.bc 0 _ rfl; replace g1 := F.out.bc 1 _ rfl; replace g2 := F.out.bc 2 _ rfl) | (go_at_call 13; (first | with_reducible refine (Q6.out _).mono ?_ | with_reducible refine (Q7.out _).mono ?_); rintro ee w' ⟨rfl, hb⟩; replace F := hide (F.out.step hb); clear hb; replace e0 := F.out.ba 0 _ rfl; replace e1 := F.out.ba 1 _ rfl; replace e2 := F.out.ba 2 _ rfl; replace f0 := F.out.bb 0 _ rfl; replace f1 := F.out.bb 1 _ rfl; replace f2 := F.out.bb 2 _ rfl; replace g0 := F.out.bc 0 _ rfl; replace g1 := F.out.bc 1 _ rfl; replace g2 := F.out.bc 2 _ rfl))
      go_ret
      exact ⟨rfl, F.out.below⟩
end Go.Proofs.YtammpddkeinijaaDoor
