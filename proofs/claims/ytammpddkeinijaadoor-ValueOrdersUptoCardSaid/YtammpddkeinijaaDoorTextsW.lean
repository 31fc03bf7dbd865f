/- The walk of ValueTexts. -/
import Derived.Test.YtammpddkeinijaaDoorTextM
namespace Go.Proofs.YtammpddkeinijaaDoor
set_option linter.unusedVariables false
open Go.ChangeShapes Go.WideShapes Go.ChangeAt Go.RowKit

theorem beq_of {s t : ByteArray} {e : Bool} (h : s = t ↔ e = true) : (s.toList == t.toList) = e := by
  rw [Bool.eq_iff_iff, ← h]
  constructor
  · intro q
    have := eq_of_beq q
    rw [ByteArray.toList_eq, ByteArray.toList_eq] at this
    exact ByteArray.ext (Array.toList_inj.1 this)
  · intro q
    rw [q]
    simp
set_option maxRecDepth 100000 in
set_option maxHeartbeats 1000000 in
theorem texts_w (a b : ValV) (w : World) (hW : ValW w) (ha : OkV a) (hb : OkV b) :
    Calls Tryd.prog 9 #[valAgg a, valAgg b] w fun e w' => e = .returned (.bool true) ∧ Below w.heap.size w w' := by
  have F0 := hide (fineV_new w a b hW 23 23)
  have q1 := fun W hW => vtext_c a W hW ha.1 ha.2
  have q2 := fun W hW => vtext_c b W hW hb.1 hb.2
  have q3 := fun W => right_c a.kind a.num a.str W (by have := ha.2; unfold maxLen; omega)
  have q4 := fun W => right_c b.kind b.num b.str W (by have := hb.2; unfold maxLen; omega)
  have y1 := text_inj a b
  have y2 : (textV a).toList.isEmpty = false := by
    cases h : (textV a).toList.isEmpty
    · rfl
    · exact absurd (empty_of h) (text_ne a)
  unfold valAgg at *
  obtain ⟨ak, an, ax⟩ := a
  obtain ⟨bk, bn, bs⟩ := b
  obtain ⟨e, he, hE⟩ := eqV_run ak an bk bn ax bs
  simp only at *
  have y3 : rightV ak an ax = true → rightV bk bn bs = true → ((textV ⟨ak, an, ax⟩).toList == (textV ⟨bk, bn, bs⟩).toList) = e := fun h1 h2 => beq_of ⟨fun h => he.2 (y1 h1 h2 h), fun h => by rw [he.1 h]⟩
  generalize textV ⟨ak, an, ax⟩ = ta at *
  generalize textV ⟨bk, bn, bs⟩ = tb at *
  generalize rightV ak an ax = ra at *
  generalize rightV bk bn bs = rb at *
  have Y3 := hide y3
  have Q1 := hide q1
  have Q2 := hide q2
  have Q3 := hide q3
  have Q4 := hide q4
  have b2 : (e == e) = true := by simp
  clear hW ha hb q1 q2 q3 q4 y1 y3 he
  go_enter Tryd.func9, Tryd.ntmps9
  go_wp2_with fail
  refine (awake_c _ F0.out.vw).mono ?_
  rintro ee w1 ⟨rfl, hb⟩
  have F1 := hide (F0.out.step hb)
  obtain ⟨e0, e1, e2⟩ := (show _ ∧ _ ∧ _ from ⟨F1.out.ba 0 _ rfl, F1.out.ba 1 _ rfl, F1.out.ba 2 _ rfl⟩)
  clear hb F0
  go_wp2_with fail
  refine (Q1.out _ F1.out.vw).mono ?_
  rintro ee w2 ⟨rfl, hb⟩
  have F2 := hide (F1.out.step hb)
  clear hb F1 e0 e1 e2
  go_wp2_with fail
  rcases (show ra = false ∨ (ra = true ∧ rb = false) ∨ (ra = true ∧ rb = true ∧ (ta.toList == tb.toList) = e) by
    cases ra
    · exact .inl rfl
    · cases rb
      · exact .inr (.inl ⟨rfl, rfl⟩)
      · exact .inr (.inr ⟨rfl, rfl, Y3.out rfl rfl⟩)) with rfl | ⟨rfl, rfl⟩ | ⟨rfl, rfl, k3⟩
  · clear Y3
    refine wp_region_held_drew (S := (fun w' => FineV w ⟨ak, an, ax⟩ ⟨bk, bn, bs⟩ w')) (by kernel_rfl) (F2.out.drew) (fun hHeld => ?_)
    first | (refine wpAnyH_take (i := 0) (v := ?_) nth0 (by kernel_rfl) (by kernel_rfl) (by kernel_rfl) (fun _ _ _ h => h) (Or.inl ⟨by rfl, ?_⟩) hHeld ?_; rotate_left; focus (intro wS hSw; (have e0 := hSw.ba 0 _ rfl; have e1 := hSw.ba 1 _ rfl; have e2 := hSw.ba 2 _ rfl; have f0 := hSw.bb 0 _ rfl; have f1 := hSw.bb 1 _ rfl; have f2 := hSw.bb 2 _ rfl); go_simp; try with_reducible rfl; done)) | (refine wpAnyH_take (i := 0) (v := undef) nth0 (by kernel_rfl) (by kernel_rfl) (by kernel_rfl) (fun _ _ _ h => h) (Or.inr ⟨by rfl, rfl⟩) hHeld ?_)
    (try simp only [Act.put]); (try simp only [List.setIfInBounds_toArray]); (try simp only [List.set_cons_succ]); (try simp only [List.set_cons_zero])
    refine wpAnyH_ready (rs := [1]) (by kernel_rfl) (by simp) ?_
    refine AllReadyH.cons nth1 (fun K hK => ?_) AllReadyH.nil
    go_simp
    first | (go_at_call 13; (first | with_reducible refine (Q3.out _).mono ?_ | with_reducible refine (Q4.out _).mono ?_); rintro ee w' ⟨rfl, hb⟩) | (go_at_call 17; (first | with_reducible refine (Q1.out _ hHeld.vw).mono ?_ | with_reducible refine (Q2.out _ hHeld.vw).mono ?_); rintro ee w' ⟨rfl, hb⟩)
    refine hK.out _ _ (hHeld.step hb) (fun hHeld => ?_)
    clear hK K
    (try simp only [Act.put]); (try simp only [List.setIfInBounds_toArray]); (try simp only [List.set_cons_succ]); (try simp only [List.set_cons_zero])
    first | (refine wpAnyH_take (i := 2) (v := ?_) nth2 (by kernel_rfl) (by kernel_rfl) (by kernel_rfl) (fun _ _ _ h => h) (Or.inl ⟨by rfl, ?_⟩) hHeld ?_; rotate_left; focus (intro wS hSw; (have e0 := hSw.ba 0 _ rfl; have e1 := hSw.ba 1 _ rfl; have e2 := hSw.ba 2 _ rfl; have f0 := hSw.bb 0 _ rfl; have f1 := hSw.bb 1 _ rfl; have f2 := hSw.bb 2 _ rfl); go_simp; try with_reducible rfl; done)) | (refine wpAnyH_take (i := 2) (v := undef) nth2 (by kernel_rfl) (by kernel_rfl) (by kernel_rfl) (fun _ _ _ h => h) (Or.inr ⟨by rfl, rfl⟩) hHeld ?_)
    (try simp only [Act.put]); (try simp only [List.setIfInBounds_toArray]); (try simp only [List.set_cons_succ]); (try simp only [List.set_cons_zero])
    first | (refine wpAnyH_take (i := 3) (v := ?_) nth3 (by kernel_rfl) (by kernel_rfl) (by kernel_rfl) (fun _ _ _ h => h) (Or.inl ⟨by rfl, ?_⟩) hHeld ?_; rotate_left; focus (intro wS hSw; (have e0 := hSw.ba 0 _ rfl; have e1 := hSw.ba 1 _ rfl; have e2 := hSw.ba 2 _ rfl; have f0 := hSw.bb 0 _ rfl; have f1 := hSw.bb 1 _ rfl; have f2 := hSw.bb 2 _ rfl); go_simp; try with_reducible rfl; done)) | (refine wpAnyH_take (i := 3) (v := undef) nth3 (by kernel_rfl) (by kernel_rfl) (by kernel_rfl) (fun _ _ _ h => h) (Or.inr ⟨by rfl, rfl⟩) hHeld ?_)
    (try simp only [Act.put]); (try simp only [List.setIfInBounds_toArray]); (try simp only [List.set_cons_succ]); (try simp only [List.set_cons_zero])
    first | (refine wpAnyH_take (i := 4) (v := ?_) nth4 (by kernel_rfl) (by kernel_rfl) (by kernel_rfl) (fun _ _ _ h => h) (Or.inl ⟨by rfl, ?_⟩) hHeld ?_; rotate_left; focus (intro wS hSw; (have e0 := hSw.ba 0 _ rfl; have e1 := hSw.ba 1 _ rfl; have e2 := hSw.ba 2 _ rfl; have f0 := hSw.bb 0 _ rfl; have f1 := hSw.bb 1 _ rfl; have f2 := hSw.bb 2 _ rfl); go_simp; try with_reducible rfl; done)) | (refine wpAnyH_take (i := 4) (v := undef) nth4 (by kernel_rfl) (by kernel_rfl) (by kernel_rfl) (fun _ _ _ h => h) (Or.inr ⟨by rfl, rfl⟩) hHeld ?_)
    (try simp only [Act.put]); (try simp only [List.setIfInBounds_toArray]); (try simp only [List.set_cons_succ]); (try simp only [List.set_cons_zero])
    first | (refine wpAnyH_take (i := 5) (v := ?_) nth5 (by kernel_rfl) (by kernel_rfl) (by kernel_rfl) (fun _ _ _ h => h) (Or.inl ⟨by rfl, ?_⟩) hHeld ?_; rotate_left; focus (intro wS hSw; (have e0 := hSw.ba 0 _ rfl; have e1 := hSw.ba 1 _ rfl; have e2 := hSw.ba 2 _ rfl; have f0 := hSw.bb 0 _ rfl; have f1 := hSw.bb 1 _ rfl; have f2 := hSw.bb 2 _ rfl); go_simp; try with_reducible rfl; done)) | (refine wpAnyH_take (i := 5) (v := undef) nth5 (by kernel_rfl) (by kernel_rfl) (by kernel_rfl) (fun _ _ _ h => h) (Or.inr ⟨by rfl, rfl⟩) hHeld ?_)
    (try simp only [Act.put]); (try simp only [List.setIfInBounds_toArray]); (try simp only [List.set_cons_succ]); (try simp only [List.set_cons_zero])
    first | (refine wpAnyH_take (i := 6) (v := ?_) nth6 (by kernel_rfl) (by kernel_rfl) (by kernel_rfl) (fun _ _ _ h => h) (Or.inl ⟨by rfl, ?_⟩) hHeld ?_; rotate_left; focus (intro wS hSw; (have e0 := hSw.ba 0 _ rfl; have e1 := hSw.ba 1 _ rfl; have e2 := hSw.ba 2 _ rfl; have f0 := hSw.bb 0 _ rfl; have f1 := hSw.bb 1 _ rfl; have f2 := hSw.bb 2 _ rfl); go_simp; try with_reducible rfl; done)) | (refine wpAnyH_take (i := 6) (v := undef) nth6 (by kernel_rfl) (by kernel_rfl) (by kernel_rfl) (fun _ _ _ h => h) (Or.inr ⟨by rfl, rfl⟩) hHeld ?_)
    (try simp only [Act.put]); (try simp only [List.setIfInBounds_toArray]); (try simp only [List.set_cons_succ]); (try simp only [List.set_cons_zero])
    first | (refine wpAnyH_take (i := 7) (v := ?_) nth7 (by kernel_rfl) (by kernel_rfl) (by kernel_rfl) (fun _ _ _ h => h) (Or.inl ⟨by rfl, ?_⟩) hHeld ?_; rotate_left; focus (intro wS hSw; (have e0 := hSw.ba 0 _ rfl; have e1 := hSw.ba 1 _ rfl; have e2 := hSw.ba 2 _ rfl; have f0 := hSw.bb 0 _ rfl; have f1 := hSw.bb 1 _ rfl; have f2 := hSw.bb 2 _ rfl); go_simp; try with_reducible rfl; done)) | (refine wpAnyH_take (i := 7) (v := undef) nth7 (by kernel_rfl) (by kernel_rfl) (by kernel_rfl) (fun _ _ _ h => h) (Or.inr ⟨by rfl, rfl⟩) hHeld ?_)
    (try simp only [Act.put]); (try simp only [List.setIfInBounds_toArray]); (try simp only [List.set_cons_succ]); (try simp only [List.set_cons_zero])
    first | (refine wpAnyH_take (i := 8) (v := ?_) nth8 (by kernel_rfl) (by kernel_rfl) (by kernel_rfl) (fun _ _ _ h => h) (Or.inl ⟨by rfl, ?_⟩) hHeld ?_; rotate_left; focus (intro wS hSw; (have e0 := hSw.ba 0 _ rfl; have e1 := hSw.ba 1 _ rfl; have e2 := hSw.ba 2 _ rfl; have f0 := hSw.bb 0 _ rfl; have f1 := hSw.bb 1 _ rfl; have f2 := hSw.bb 2 _ rfl); go_simp; try with_reducible rfl; done)) | (refine wpAnyH_take (i := 8) (v := undef) nth8 (by kernel_rfl) (by kernel_rfl) (by kernel_rfl) (fun _ _ _ h => h) (Or.inr ⟨by rfl, rfl⟩) hHeld ?_)
    (try simp only [Act.put]); (try simp only [List.setIfInBounds_toArray]); (try simp only [List.set_cons_succ]); (try simp only [List.set_cons_zero])
    first | (refine wpAnyH_take (i := 9) (v := ?_) nth9 (by kernel_rfl) (by kernel_rfl) (by kernel_rfl) (fun _ _ _ h => h) (Or.inl ⟨by rfl, ?_⟩) hHeld ?_; rotate_left; focus (intro wS hSw; (have e0 := hSw.ba 0 _ rfl; have e1 := hSw.ba 1 _ rfl; have e2 := hSw.ba 2 _ rfl; have f0 := hSw.bb 0 _ rfl; have f1 := hSw.bb 1 _ rfl; have f2 := hSw.bb 2 _ rfl); go_simp; try with_reducible rfl; done)) | (refine wpAnyH_take (i := 9) (v := undef) nth9 (by kernel_rfl) (by kernel_rfl) (by kernel_rfl) (fun _ _ _ h => h) (Or.inr ⟨by rfl, rfl⟩) hHeld ?_)
    (try simp only [Act.put]); (try simp only [List.setIfInBounds_toArray]); (try simp only [List.set_cons_succ]); (try simp only [List.set_cons_zero])
    first | (refine wpAnyH_take (i := 10) (v := ?_) nth10 (by kernel_rfl) (by kernel_rfl) (by kernel_rfl) (fun _ _ _ h => h) (Or.inl ⟨by rfl, ?_⟩) hHeld ?_; rotate_left; focus (intro wS hSw; (have e0 := hSw.ba 0 _ rfl; have e1 := hSw.ba 1 _ rfl; have e2 := hSw.ba 2 _ rfl; have f0 := hSw.bb 0 _ rfl; have f1 := hSw.bb 1 _ rfl; have f2 := hSw.bb 2 _ rfl); go_simp; try with_reducible rfl; done)) | (refine wpAnyH_take (i := 10) (v := undef) nth10 (by kernel_rfl) (by kernel_rfl) (by kernel_rfl) (fun _ _ _ h => h) (Or.inr ⟨by rfl, rfl⟩) hHeld ?_)
    (try simp only [Act.put]); (try simp only [List.setIfInBounds_toArray]); (try simp only [List.set_cons_succ]); (try simp only [List.set_cons_zero])
    first | (refine wpAnyH_take (i := 11) (v := ?_) nth11 (by kernel_rfl) (by kernel_rfl) (by kernel_rfl) (fun _ _ _ h => h) (Or.inl ⟨by rfl, ?_⟩) hHeld ?_; rotate_left; focus (intro wS hSw; (have e0 := hSw.ba 0 _ rfl; have e1 := hSw.ba 1 _ rfl; have e2 := hSw.ba 2 _ rfl; have f0 := hSw.bb 0 _ rfl; have f1 := hSw.bb 1 _ rfl; have f2 := hSw.bb 2 _ rfl); go_simp; try with_reducible rfl; done)) | (refine wpAnyH_take (i := 11) (v := undef) nth11 (by kernel_rfl) (by kernel_rfl) (by kernel_rfl) (fun _ _ _ h => h) (Or.inr ⟨by rfl, rfl⟩) hHeld ?_)
    (try simp only [Act.put]); (try simp only [List.setIfInBounds_toArray]); (try simp only [List.set_cons_succ]); (try simp only [List.set_cons_zero])
    first | (refine wpAnyH_take (i := 12) (v := ?_) nth12 (by kernel_rfl) (by kernel_rfl) (by kernel_rfl) (fun _ _ _ h => h) (Or.inl ⟨by rfl, ?_⟩) hHeld ?_; rotate_left; focus (intro wS hSw; (have e0 := hSw.ba 0 _ rfl; have e1 := hSw.ba 1 _ rfl; have e2 := hSw.ba 2 _ rfl; have f0 := hSw.bb 0 _ rfl; have f1 := hSw.bb 1 _ rfl; have f2 := hSw.bb 2 _ rfl); go_simp; try with_reducible rfl; done)) | (refine wpAnyH_take (i := 12) (v := undef) nth12 (by kernel_rfl) (by kernel_rfl) (by kernel_rfl) (fun _ _ _ h => h) (Or.inr ⟨by rfl, rfl⟩) hHeld ?_)
    (try simp only [Act.put]); (try simp only [List.setIfInBounds_toArray]); (try simp only [List.set_cons_succ]); (try simp only [List.set_cons_zero])
    first | (refine wpAnyH_take (i := 13) (v := ?_) nth13 (by kernel_rfl) (by kernel_rfl) (by kernel_rfl) (fun _ _ _ h => h) (Or.inl ⟨by rfl, ?_⟩) hHeld ?_; rotate_left; focus (intro wS hSw; (have e0 := hSw.ba 0 _ rfl; have e1 := hSw.ba 1 _ rfl; have e2 := hSw.ba 2 _ rfl; have f0 := hSw.bb 0 _ rfl; have f1 := hSw.bb 1 _ rfl; have f2 := hSw.bb 2 _ rfl); go_simp; try with_reducible rfl; done)) | (refine wpAnyH_take (i := 13) (v := undef) nth13 (by kernel_rfl) (by kernel_rfl) (by kernel_rfl) (fun _ _ _ h => h) (Or.inr ⟨by rfl, rfl⟩) hHeld ?_)
    (try simp only [Act.put]); (try simp only [List.setIfInBounds_toArray]); (try simp only [List.set_cons_succ]); (try simp only [List.set_cons_zero])
    first | (refine wpAnyH_take (i := 14) (v := ?_) nth14 (by kernel_rfl) (by kernel_rfl) (by kernel_rfl) (fun _ _ _ h => h) (Or.inl ⟨by rfl, ?_⟩) hHeld ?_; rotate_left; focus (intro wS hSw; (have e0 := hSw.ba 0 _ rfl; have e1 := hSw.ba 1 _ rfl; have e2 := hSw.ba 2 _ rfl; have f0 := hSw.bb 0 _ rfl; have f1 := hSw.bb 1 _ rfl; have f2 := hSw.bb 2 _ rfl); go_simp; try with_reducible rfl; done)) | (refine wpAnyH_take (i := 14) (v := undef) nth14 (by kernel_rfl) (by kernel_rfl) (by kernel_rfl) (fun _ _ _ h => h) (Or.inr ⟨by rfl, rfl⟩) hHeld ?_)
    (try simp only [Act.put]); (try simp only [List.setIfInBounds_toArray]); (try simp only [List.set_cons_succ]); (try simp only [List.set_cons_zero])
    first | (refine wpAnyH_take (i := 15) (v := ?_) nth15 (by kernel_rfl) (by kernel_rfl) (by kernel_rfl) (fun _ _ _ h => h) (Or.inl ⟨by rfl, ?_⟩) hHeld ?_; rotate_left; focus (intro wS hSw; (have e0 := hSw.ba 0 _ rfl; have e1 := hSw.ba 1 _ rfl; have e2 := hSw.ba 2 _ rfl; have f0 := hSw.bb 0 _ rfl; have f1 := hSw.bb 1 _ rfl; have f2 := hSw.bb 2 _ rfl); go_simp; try with_reducible rfl; done)) | (refine wpAnyH_take (i := 15) (v := undef) nth15 (by kernel_rfl) (by kernel_rfl) (by kernel_rfl) (fun _ _ _ h => h) (Or.inr ⟨by rfl, rfl⟩) hHeld ?_)
    (try simp only [Act.put]); (try simp only [List.setIfInBounds_toArray]); (try simp only [List.set_cons_succ]); (try simp only [List.set_cons_zero])
    first | (refine wpAnyH_take (i := 16) (v := ?_) nth16 (by kernel_rfl) (by kernel_rfl) (by kernel_rfl) (fun _ _ _ h => h) (Or.inl ⟨by rfl, ?_⟩) hHeld ?_; rotate_left; focus (intro wS hSw; (have e0 := hSw.ba 0 _ rfl; have e1 := hSw.ba 1 _ rfl; have e2 := hSw.ba 2 _ rfl; have f0 := hSw.bb 0 _ rfl; have f1 := hSw.bb 1 _ rfl; have f2 := hSw.bb 2 _ rfl); go_simp; try with_reducible rfl; done)) | (refine wpAnyH_take (i := 16) (v := undef) nth16 (by kernel_rfl) (by kernel_rfl) (by kernel_rfl) (fun _ _ _ h => h) (Or.inr ⟨by rfl, rfl⟩) hHeld ?_)
    (try simp only [Act.put]); (try simp only [List.setIfInBounds_toArray]); (try simp only [List.set_cons_succ]); (try simp only [List.set_cons_zero])
    first | (refine wpAnyH_take (i := 17) (v := ?_) nth17 (by kernel_rfl) (by kernel_rfl) (by kernel_rfl) (fun _ _ _ h => h) (Or.inl ⟨by rfl, ?_⟩) hHeld ?_; rotate_left; focus (intro wS hSw; (have e0 := hSw.ba 0 _ rfl; have e1 := hSw.ba 1 _ rfl; have e2 := hSw.ba 2 _ rfl; have f0 := hSw.bb 0 _ rfl; have f1 := hSw.bb 1 _ rfl; have f2 := hSw.bb 2 _ rfl); go_simp; try with_reducible rfl; done)) | (refine wpAnyH_take (i := 17) (v := undef) nth17 (by kernel_rfl) (by kernel_rfl) (by kernel_rfl) (fun _ _ _ h => h) (Or.inr ⟨by rfl, rfl⟩) hHeld ?_)
    (try simp only [Act.put]); (try simp only [List.setIfInBounds_toArray]); (try simp only [List.set_cons_succ]); (try simp only [List.set_cons_zero])
    first | (refine wpAnyH_take (i := 18) (v := ?_) nth18 (by kernel_rfl) (by kernel_rfl) (by kernel_rfl) (fun _ _ _ h => h) (Or.inl ⟨by rfl, ?_⟩) hHeld ?_; rotate_left; focus (intro wS hSw; (have e0 := hSw.ba 0 _ rfl; have e1 := hSw.ba 1 _ rfl; have e2 := hSw.ba 2 _ rfl; have f0 := hSw.bb 0 _ rfl; have f1 := hSw.bb 1 _ rfl; have f2 := hSw.bb 2 _ rfl); go_simp; try with_reducible rfl; done)) | (refine wpAnyH_take (i := 18) (v := undef) nth18 (by kernel_rfl) (by kernel_rfl) (by kernel_rfl) (fun _ _ _ h => h) (Or.inr ⟨by rfl, rfl⟩) hHeld ?_)
    (try simp only [Act.put]); (try simp only [List.setIfInBounds_toArray]); (try simp only [List.set_cons_succ]); (try simp only [List.set_cons_zero])
    first | (refine wpAnyH_take (i := 19) (v := ?_) nth19 (by kernel_rfl) (by kernel_rfl) (by kernel_rfl) (fun _ _ _ h => h) (Or.inl ⟨by rfl, ?_⟩) hHeld ?_; rotate_left; focus (intro wS hSw; (have e0 := hSw.ba 0 _ rfl; have e1 := hSw.ba 1 _ rfl; have e2 := hSw.ba 2 _ rfl; have f0 := hSw.bb 0 _ rfl; have f1 := hSw.bb 1 _ rfl; have f2 := hSw.bb 2 _ rfl); go_simp; try with_reducible rfl; done)) | (refine wpAnyH_take (i := 19) (v := undef) nth19 (by kernel_rfl) (by kernel_rfl) (by kernel_rfl) (fun _ _ _ h => h) (Or.inr ⟨by rfl, rfl⟩) hHeld ?_)
    (try simp only [Act.put]); (try simp only [List.setIfInBounds_toArray]); (try simp only [List.set_cons_succ]); (try simp only [List.set_cons_zero])
    refine wpAnyH_done (by kernel_rfl) ?_ _
    go_wp2_with fail
    all_goals
      go_ret
      exact ⟨rfl, hHeld.below⟩
  · clear Y3
    refine wp_region_held_drew (S := (fun w' => FineV w ⟨ak, an, ax⟩ ⟨bk, bn, bs⟩ w')) (by kernel_rfl) (F2.out.drew) (fun hHeld => ?_)
    first | (refine wpAnyH_take (i := 0) (v := ?_) nth0 (by kernel_rfl) (by kernel_rfl) (by kernel_rfl) (fun _ _ _ h => h) (Or.inl ⟨by rfl, ?_⟩) hHeld ?_; rotate_left; focus (intro wS hSw; (have e0 := hSw.ba 0 _ rfl; have e1 := hSw.ba 1 _ rfl; have e2 := hSw.ba 2 _ rfl; have f0 := hSw.bb 0 _ rfl; have f1 := hSw.bb 1 _ rfl; have f2 := hSw.bb 2 _ rfl); go_simp; try with_reducible rfl; done)) | (refine wpAnyH_take (i := 0) (v := undef) nth0 (by kernel_rfl) (by kernel_rfl) (by kernel_rfl) (fun _ _ _ h => h) (Or.inr ⟨by rfl, rfl⟩) hHeld ?_)
    (try simp only [Act.put]); (try simp only [List.setIfInBounds_toArray]); (try simp only [List.set_cons_succ]); (try simp only [List.set_cons_zero])
    refine wpAnyH_ready (rs := [1]) (by kernel_rfl) (by simp) ?_
    refine AllReadyH.cons nth1 (fun K hK => ?_) AllReadyH.nil
    go_simp
    first | (go_at_call 13; (first | with_reducible refine (Q3.out _).mono ?_ | with_reducible refine (Q4.out _).mono ?_); rintro ee w' ⟨rfl, hb⟩) | (go_at_call 17; (first | with_reducible refine (Q1.out _ hHeld.vw).mono ?_ | with_reducible refine (Q2.out _ hHeld.vw).mono ?_); rintro ee w' ⟨rfl, hb⟩)
    refine hK.out _ _ (hHeld.step hb) (fun hHeld => ?_)
    clear hK K
    (try simp only [Act.put]); (try simp only [List.setIfInBounds_toArray]); (try simp only [List.set_cons_succ]); (try simp only [List.set_cons_zero])
    first | (refine wpAnyH_take (i := 2) (v := ?_) nth2 (by kernel_rfl) (by kernel_rfl) (by kernel_rfl) (fun _ _ _ h => h) (Or.inl ⟨by rfl, ?_⟩) hHeld ?_; rotate_left; focus (intro wS hSw; (have e0 := hSw.ba 0 _ rfl; have e1 := hSw.ba 1 _ rfl; have e2 := hSw.ba 2 _ rfl; have f0 := hSw.bb 0 _ rfl; have f1 := hSw.bb 1 _ rfl; have f2 := hSw.bb 2 _ rfl); go_simp; try with_reducible rfl; done)) | (refine wpAnyH_take (i := 2) (v := undef) nth2 (by kernel_rfl) (by kernel_rfl) (by kernel_rfl) (fun _ _ _ h => h) (Or.inr ⟨by rfl, rfl⟩) hHeld ?_)
    (try simp only [Act.put]); (try simp only [List.setIfInBounds_toArray]); (try simp only [List.set_cons_succ]); (try simp only [List.set_cons_zero])
    first | (refine wpAnyH_take (i := 3) (v := ?_) nth3 (by kernel_rfl) (by kernel_rfl) (by kernel_rfl) (fun _ _ _ h => h) (Or.inl ⟨by rfl, ?_⟩) hHeld ?_; rotate_left; focus (intro wS hSw; (have e0 := hSw.ba 0 _ rfl; have e1 := hSw.ba 1 _ rfl; have e2 := hSw.ba 2 _ rfl; have f0 := hSw.bb 0 _ rfl; have f1 := hSw.bb 1 _ rfl; have f2 := hSw.bb 2 _ rfl); go_simp; try with_reducible rfl; done)) | (refine wpAnyH_take (i := 3) (v := undef) nth3 (by kernel_rfl) (by kernel_rfl) (by kernel_rfl) (fun _ _ _ h => h) (Or.inr ⟨by rfl, rfl⟩) hHeld ?_)
    (try simp only [Act.put]); (try simp only [List.setIfInBounds_toArray]); (try simp only [List.set_cons_succ]); (try simp only [List.set_cons_zero])
    first | (refine wpAnyH_take (i := 4) (v := ?_) nth4 (by kernel_rfl) (by kernel_rfl) (by kernel_rfl) (fun _ _ _ h => h) (Or.inl ⟨by rfl, ?_⟩) hHeld ?_; rotate_left; focus (intro wS hSw; (have e0 := hSw.ba 0 _ rfl; have e1 := hSw.ba 1 _ rfl; have e2 := hSw.ba 2 _ rfl; have f0 := hSw.bb 0 _ rfl; have f1 := hSw.bb 1 _ rfl; have f2 := hSw.bb 2 _ rfl); go_simp; try with_reducible rfl; done)) | (refine wpAnyH_take (i := 4) (v := undef) nth4 (by kernel_rfl) (by kernel_rfl) (by kernel_rfl) (fun _ _ _ h => h) (Or.inr ⟨by rfl, rfl⟩) hHeld ?_)
    (try simp only [Act.put]); (try simp only [List.setIfInBounds_toArray]); (try simp only [List.set_cons_succ]); (try simp only [List.set_cons_zero])
    refine wpAnyH_ready (rs := [5]) (by kernel_rfl) (by simp) ?_
    refine AllReadyH.cons nth5 (fun K hK => ?_) AllReadyH.nil
    go_simp
    first | (go_at_call 13; (first | with_reducible refine (Q3.out _).mono ?_ | with_reducible refine (Q4.out _).mono ?_); rintro ee w' ⟨rfl, hb⟩) | (go_at_call 17; (first | with_reducible refine (Q1.out _ hHeld.vw).mono ?_ | with_reducible refine (Q2.out _ hHeld.vw).mono ?_); rintro ee w' ⟨rfl, hb⟩)
    refine hK.out _ _ (hHeld.step hb) (fun hHeld => ?_)
    clear hK K
    (try simp only [Act.put]); (try simp only [List.setIfInBounds_toArray]); (try simp only [List.set_cons_succ]); (try simp only [List.set_cons_zero])
    first | (refine wpAnyH_take (i := 6) (v := ?_) nth6 (by kernel_rfl) (by kernel_rfl) (by kernel_rfl) (fun _ _ _ h => h) (Or.inl ⟨by rfl, ?_⟩) hHeld ?_; rotate_left; focus (intro wS hSw; (have e0 := hSw.ba 0 _ rfl; have e1 := hSw.ba 1 _ rfl; have e2 := hSw.ba 2 _ rfl; have f0 := hSw.bb 0 _ rfl; have f1 := hSw.bb 1 _ rfl; have f2 := hSw.bb 2 _ rfl); go_simp; try with_reducible rfl; done)) | (refine wpAnyH_take (i := 6) (v := undef) nth6 (by kernel_rfl) (by kernel_rfl) (by kernel_rfl) (fun _ _ _ h => h) (Or.inr ⟨by rfl, rfl⟩) hHeld ?_)
    (try simp only [Act.put]); (try simp only [List.setIfInBounds_toArray]); (try simp only [List.set_cons_succ]); (try simp only [List.set_cons_zero])
    first | (refine wpAnyH_take (i := 7) (v := ?_) nth7 (by kernel_rfl) (by kernel_rfl) (by kernel_rfl) (fun _ _ _ h => h) (Or.inl ⟨by rfl, ?_⟩) hHeld ?_; rotate_left; focus (intro wS hSw; (have e0 := hSw.ba 0 _ rfl; have e1 := hSw.ba 1 _ rfl; have e2 := hSw.ba 2 _ rfl; have f0 := hSw.bb 0 _ rfl; have f1 := hSw.bb 1 _ rfl; have f2 := hSw.bb 2 _ rfl); go_simp; try with_reducible rfl; done)) | (refine wpAnyH_take (i := 7) (v := undef) nth7 (by kernel_rfl) (by kernel_rfl) (by kernel_rfl) (fun _ _ _ h => h) (Or.inr ⟨by rfl, rfl⟩) hHeld ?_)
    (try simp only [Act.put]); (try simp only [List.setIfInBounds_toArray]); (try simp only [List.set_cons_succ]); (try simp only [List.set_cons_zero])
    first | (refine wpAnyH_take (i := 8) (v := ?_) nth8 (by kernel_rfl) (by kernel_rfl) (by kernel_rfl) (fun _ _ _ h => h) (Or.inl ⟨by rfl, ?_⟩) hHeld ?_; rotate_left; focus (intro wS hSw; (have e0 := hSw.ba 0 _ rfl; have e1 := hSw.ba 1 _ rfl; have e2 := hSw.ba 2 _ rfl; have f0 := hSw.bb 0 _ rfl; have f1 := hSw.bb 1 _ rfl; have f2 := hSw.bb 2 _ rfl); go_simp; try with_reducible rfl; done)) | (refine wpAnyH_take (i := 8) (v := undef) nth8 (by kernel_rfl) (by kernel_rfl) (by kernel_rfl) (fun _ _ _ h => h) (Or.inr ⟨by rfl, rfl⟩) hHeld ?_)
    (try simp only [Act.put]); (try simp only [List.setIfInBounds_toArray]); (try simp only [List.set_cons_succ]); (try simp only [List.set_cons_zero])
    first | (refine wpAnyH_take (i := 9) (v := ?_) nth9 (by kernel_rfl) (by kernel_rfl) (by kernel_rfl) (fun _ _ _ h => h) (Or.inl ⟨by rfl, ?_⟩) hHeld ?_; rotate_left; focus (intro wS hSw; (have e0 := hSw.ba 0 _ rfl; have e1 := hSw.ba 1 _ rfl; have e2 := hSw.ba 2 _ rfl; have f0 := hSw.bb 0 _ rfl; have f1 := hSw.bb 1 _ rfl; have f2 := hSw.bb 2 _ rfl); go_simp; try with_reducible rfl; done)) | (refine wpAnyH_take (i := 9) (v := undef) nth9 (by kernel_rfl) (by kernel_rfl) (by kernel_rfl) (fun _ _ _ h => h) (Or.inr ⟨by rfl, rfl⟩) hHeld ?_)
    (try simp only [Act.put]); (try simp only [List.setIfInBounds_toArray]); (try simp only [List.set_cons_succ]); (try simp only [List.set_cons_zero])
    first | (refine wpAnyH_take (i := 10) (v := ?_) nth10 (by kernel_rfl) (by kernel_rfl) (by kernel_rfl) (fun _ _ _ h => h) (Or.inl ⟨by rfl, ?_⟩) hHeld ?_; rotate_left; focus (intro wS hSw; (have e0 := hSw.ba 0 _ rfl; have e1 := hSw.ba 1 _ rfl; have e2 := hSw.ba 2 _ rfl; have f0 := hSw.bb 0 _ rfl; have f1 := hSw.bb 1 _ rfl; have f2 := hSw.bb 2 _ rfl); go_simp; try with_reducible rfl; done)) | (refine wpAnyH_take (i := 10) (v := undef) nth10 (by kernel_rfl) (by kernel_rfl) (by kernel_rfl) (fun _ _ _ h => h) (Or.inr ⟨by rfl, rfl⟩) hHeld ?_)
    (try simp only [Act.put]); (try simp only [List.setIfInBounds_toArray]); (try simp only [List.set_cons_succ]); (try simp only [List.set_cons_zero])
    first | (refine wpAnyH_take (i := 11) (v := ?_) nth11 (by kernel_rfl) (by kernel_rfl) (by kernel_rfl) (fun _ _ _ h => h) (Or.inl ⟨by rfl, ?_⟩) hHeld ?_; rotate_left; focus (intro wS hSw; (have e0 := hSw.ba 0 _ rfl; have e1 := hSw.ba 1 _ rfl; have e2 := hSw.ba 2 _ rfl; have f0 := hSw.bb 0 _ rfl; have f1 := hSw.bb 1 _ rfl; have f2 := hSw.bb 2 _ rfl); go_simp; try with_reducible rfl; done)) | (refine wpAnyH_take (i := 11) (v := undef) nth11 (by kernel_rfl) (by kernel_rfl) (by kernel_rfl) (fun _ _ _ h => h) (Or.inr ⟨by rfl, rfl⟩) hHeld ?_)
    (try simp only [Act.put]); (try simp only [List.setIfInBounds_toArray]); (try simp only [List.set_cons_succ]); (try simp only [List.set_cons_zero])
    first | (refine wpAnyH_take (i := 12) (v := ?_) nth12 (by kernel_rfl) (by kernel_rfl) (by kernel_rfl) (fun _ _ _ h => h) (Or.inl ⟨by rfl, ?_⟩) hHeld ?_; rotate_left; focus (intro wS hSw; (have e0 := hSw.ba 0 _ rfl; have e1 := hSw.ba 1 _ rfl; have e2 := hSw.ba 2 _ rfl; have f0 := hSw.bb 0 _ rfl; have f1 := hSw.bb 1 _ rfl; have f2 := hSw.bb 2 _ rfl); go_simp; try with_reducible rfl; done)) | (refine wpAnyH_take (i := 12) (v := undef) nth12 (by kernel_rfl) (by kernel_rfl) (by kernel_rfl) (fun _ _ _ h => h) (Or.inr ⟨by rfl, rfl⟩) hHeld ?_)
    (try simp only [Act.put]); (try simp only [List.setIfInBounds_toArray]); (try simp only [List.set_cons_succ]); (try simp only [List.set_cons_zero])
    first | (refine wpAnyH_take (i := 13) (v := ?_) nth13 (by kernel_rfl) (by kernel_rfl) (by kernel_rfl) (fun _ _ _ h => h) (Or.inl ⟨by rfl, ?_⟩) hHeld ?_; rotate_left; focus (intro wS hSw; (have e0 := hSw.ba 0 _ rfl; have e1 := hSw.ba 1 _ rfl; have e2 := hSw.ba 2 _ rfl; have f0 := hSw.bb 0 _ rfl; have f1 := hSw.bb 1 _ rfl; have f2 := hSw.bb 2 _ rfl); go_simp; try with_reducible rfl; done)) | (refine wpAnyH_take (i := 13) (v := undef) nth13 (by kernel_rfl) (by kernel_rfl) (by kernel_rfl) (fun _ _ _ h => h) (Or.inr ⟨by rfl, rfl⟩) hHeld ?_)
    (try simp only [Act.put]); (try simp only [List.setIfInBounds_toArray]); (try simp only [List.set_cons_succ]); (try simp only [List.set_cons_zero])
    first | (refine wpAnyH_take (i := 14) (v := ?_) nth14 (by kernel_rfl) (by kernel_rfl) (by kernel_rfl) (fun _ _ _ h => h) (Or.inl ⟨by rfl, ?_⟩) hHeld ?_; rotate_left; focus (intro wS hSw; (have e0 := hSw.ba 0 _ rfl; have e1 := hSw.ba 1 _ rfl; have e2 := hSw.ba 2 _ rfl; have f0 := hSw.bb 0 _ rfl; have f1 := hSw.bb 1 _ rfl; have f2 := hSw.bb 2 _ rfl); go_simp; try with_reducible rfl; done)) | (refine wpAnyH_take (i := 14) (v := undef) nth14 (by kernel_rfl) (by kernel_rfl) (by kernel_rfl) (fun _ _ _ h => h) (Or.inr ⟨by rfl, rfl⟩) hHeld ?_)
    (try simp only [Act.put]); (try simp only [List.setIfInBounds_toArray]); (try simp only [List.set_cons_succ]); (try simp only [List.set_cons_zero])
    first | (refine wpAnyH_take (i := 15) (v := ?_) nth15 (by kernel_rfl) (by kernel_rfl) (by kernel_rfl) (fun _ _ _ h => h) (Or.inl ⟨by rfl, ?_⟩) hHeld ?_; rotate_left; focus (intro wS hSw; (have e0 := hSw.ba 0 _ rfl; have e1 := hSw.ba 1 _ rfl; have e2 := hSw.ba 2 _ rfl; have f0 := hSw.bb 0 _ rfl; have f1 := hSw.bb 1 _ rfl; have f2 := hSw.bb 2 _ rfl); go_simp; try with_reducible rfl; done)) | (refine wpAnyH_take (i := 15) (v := undef) nth15 (by kernel_rfl) (by kernel_rfl) (by kernel_rfl) (fun _ _ _ h => h) (Or.inr ⟨by rfl, rfl⟩) hHeld ?_)
    (try simp only [Act.put]); (try simp only [List.setIfInBounds_toArray]); (try simp only [List.set_cons_succ]); (try simp only [List.set_cons_zero])
    first | (refine wpAnyH_take (i := 16) (v := ?_) nth16 (by kernel_rfl) (by kernel_rfl) (by kernel_rfl) (fun _ _ _ h => h) (Or.inl ⟨by rfl, ?_⟩) hHeld ?_; rotate_left; focus (intro wS hSw; (have e0 := hSw.ba 0 _ rfl; have e1 := hSw.ba 1 _ rfl; have e2 := hSw.ba 2 _ rfl; have f0 := hSw.bb 0 _ rfl; have f1 := hSw.bb 1 _ rfl; have f2 := hSw.bb 2 _ rfl); go_simp; try with_reducible rfl; done)) | (refine wpAnyH_take (i := 16) (v := undef) nth16 (by kernel_rfl) (by kernel_rfl) (by kernel_rfl) (fun _ _ _ h => h) (Or.inr ⟨by rfl, rfl⟩) hHeld ?_)
    (try simp only [Act.put]); (try simp only [List.setIfInBounds_toArray]); (try simp only [List.set_cons_succ]); (try simp only [List.set_cons_zero])
    first | (refine wpAnyH_take (i := 17) (v := ?_) nth17 (by kernel_rfl) (by kernel_rfl) (by kernel_rfl) (fun _ _ _ h => h) (Or.inl ⟨by rfl, ?_⟩) hHeld ?_; rotate_left; focus (intro wS hSw; (have e0 := hSw.ba 0 _ rfl; have e1 := hSw.ba 1 _ rfl; have e2 := hSw.ba 2 _ rfl; have f0 := hSw.bb 0 _ rfl; have f1 := hSw.bb 1 _ rfl; have f2 := hSw.bb 2 _ rfl); go_simp; try with_reducible rfl; done)) | (refine wpAnyH_take (i := 17) (v := undef) nth17 (by kernel_rfl) (by kernel_rfl) (by kernel_rfl) (fun _ _ _ h => h) (Or.inr ⟨by rfl, rfl⟩) hHeld ?_)
    (try simp only [Act.put]); (try simp only [List.setIfInBounds_toArray]); (try simp only [List.set_cons_succ]); (try simp only [List.set_cons_zero])
    first | (refine wpAnyH_take (i := 18) (v := ?_) nth18 (by kernel_rfl) (by kernel_rfl) (by kernel_rfl) (fun _ _ _ h => h) (Or.inl ⟨by rfl, ?_⟩) hHeld ?_; rotate_left; focus (intro wS hSw; (have e0 := hSw.ba 0 _ rfl; have e1 := hSw.ba 1 _ rfl; have e2 := hSw.ba 2 _ rfl; have f0 := hSw.bb 0 _ rfl; have f1 := hSw.bb 1 _ rfl; have f2 := hSw.bb 2 _ rfl); go_simp; try with_reducible rfl; done)) | (refine wpAnyH_take (i := 18) (v := undef) nth18 (by kernel_rfl) (by kernel_rfl) (by kernel_rfl) (fun _ _ _ h => h) (Or.inr ⟨by rfl, rfl⟩) hHeld ?_)
    (try simp only [Act.put]); (try simp only [List.setIfInBounds_toArray]); (try simp only [List.set_cons_succ]); (try simp only [List.set_cons_zero])
    first | (refine wpAnyH_take (i := 19) (v := ?_) nth19 (by kernel_rfl) (by kernel_rfl) (by kernel_rfl) (fun _ _ _ h => h) (Or.inl ⟨by rfl, ?_⟩) hHeld ?_; rotate_left; focus (intro wS hSw; (have e0 := hSw.ba 0 _ rfl; have e1 := hSw.ba 1 _ rfl; have e2 := hSw.ba 2 _ rfl; have f0 := hSw.bb 0 _ rfl; have f1 := hSw.bb 1 _ rfl; have f2 := hSw.bb 2 _ rfl); go_simp; try with_reducible rfl; done)) | (refine wpAnyH_take (i := 19) (v := undef) nth19 (by kernel_rfl) (by kernel_rfl) (by kernel_rfl) (fun _ _ _ h => h) (Or.inr ⟨by rfl, rfl⟩) hHeld ?_)
    (try simp only [Act.put]); (try simp only [List.setIfInBounds_toArray]); (try simp only [List.set_cons_succ]); (try simp only [List.set_cons_zero])
    refine wpAnyH_done (by kernel_rfl) ?_ _
    go_wp2_with fail
    all_goals
      go_ret
      exact ⟨rfl, hHeld.below⟩
  · clear Y3
    refine wp_region_held_drew (S := (fun w' => FineV w ⟨ak, an, ax⟩ ⟨bk, bn, bs⟩ w')) (by kernel_rfl) (F2.out.drew) (fun hHeld => ?_)
    first | (refine wpAnyH_take (i := 0) (v := ?_) nth0 (by kernel_rfl) (by kernel_rfl) (by kernel_rfl) (fun _ _ _ h => h) (Or.inl ⟨by rfl, ?_⟩) hHeld ?_; rotate_left; focus (intro wS hSw; (have e0 := hSw.ba 0 _ rfl; have e1 := hSw.ba 1 _ rfl; have e2 := hSw.ba 2 _ rfl; have f0 := hSw.bb 0 _ rfl; have f1 := hSw.bb 1 _ rfl; have f2 := hSw.bb 2 _ rfl); go_simp; try with_reducible rfl; done)) | (refine wpAnyH_take (i := 0) (v := undef) nth0 (by kernel_rfl) (by kernel_rfl) (by kernel_rfl) (fun _ _ _ h => h) (Or.inr ⟨by rfl, rfl⟩) hHeld ?_)
    (try simp only [Act.put]); (try simp only [List.setIfInBounds_toArray]); (try simp only [List.set_cons_succ]); (try simp only [List.set_cons_zero])
    refine wpAnyH_ready (rs := [1]) (by kernel_rfl) (by simp) ?_
    refine AllReadyH.cons nth1 (fun K hK => ?_) AllReadyH.nil
    go_simp
    first | (go_at_call 13; (first | with_reducible refine (Q3.out _).mono ?_ | with_reducible refine (Q4.out _).mono ?_); rintro ee w' ⟨rfl, hb⟩) | (go_at_call 17; (first | with_reducible refine (Q1.out _ hHeld.vw).mono ?_ | with_reducible refine (Q2.out _ hHeld.vw).mono ?_); rintro ee w' ⟨rfl, hb⟩)
    refine hK.out _ _ (hHeld.step hb) (fun hHeld => ?_)
    clear hK K
    (try simp only [Act.put]); (try simp only [List.setIfInBounds_toArray]); (try simp only [List.set_cons_succ]); (try simp only [List.set_cons_zero])
    first | (refine wpAnyH_take (i := 2) (v := ?_) nth2 (by kernel_rfl) (by kernel_rfl) (by kernel_rfl) (fun _ _ _ h => h) (Or.inl ⟨by rfl, ?_⟩) hHeld ?_; rotate_left; focus (intro wS hSw; (have e0 := hSw.ba 0 _ rfl; have e1 := hSw.ba 1 _ rfl; have e2 := hSw.ba 2 _ rfl; have f0 := hSw.bb 0 _ rfl; have f1 := hSw.bb 1 _ rfl; have f2 := hSw.bb 2 _ rfl); go_simp; try with_reducible rfl; done)) | (refine wpAnyH_take (i := 2) (v := undef) nth2 (by kernel_rfl) (by kernel_rfl) (by kernel_rfl) (fun _ _ _ h => h) (Or.inr ⟨by rfl, rfl⟩) hHeld ?_)
    (try simp only [Act.put]); (try simp only [List.setIfInBounds_toArray]); (try simp only [List.set_cons_succ]); (try simp only [List.set_cons_zero])
    first | (refine wpAnyH_take (i := 3) (v := ?_) nth3 (by kernel_rfl) (by kernel_rfl) (by kernel_rfl) (fun _ _ _ h => h) (Or.inl ⟨by rfl, ?_⟩) hHeld ?_; rotate_left; focus (intro wS hSw; (have e0 := hSw.ba 0 _ rfl; have e1 := hSw.ba 1 _ rfl; have e2 := hSw.ba 2 _ rfl; have f0 := hSw.bb 0 _ rfl; have f1 := hSw.bb 1 _ rfl; have f2 := hSw.bb 2 _ rfl); go_simp; try with_reducible rfl; done)) | (refine wpAnyH_take (i := 3) (v := undef) nth3 (by kernel_rfl) (by kernel_rfl) (by kernel_rfl) (fun _ _ _ h => h) (Or.inr ⟨by rfl, rfl⟩) hHeld ?_)
    (try simp only [Act.put]); (try simp only [List.setIfInBounds_toArray]); (try simp only [List.set_cons_succ]); (try simp only [List.set_cons_zero])
    first | (refine wpAnyH_take (i := 4) (v := ?_) nth4 (by kernel_rfl) (by kernel_rfl) (by kernel_rfl) (fun _ _ _ h => h) (Or.inl ⟨by rfl, ?_⟩) hHeld ?_; rotate_left; focus (intro wS hSw; (have e0 := hSw.ba 0 _ rfl; have e1 := hSw.ba 1 _ rfl; have e2 := hSw.ba 2 _ rfl; have f0 := hSw.bb 0 _ rfl; have f1 := hSw.bb 1 _ rfl; have f2 := hSw.bb 2 _ rfl); go_simp; try with_reducible rfl; done)) | (refine wpAnyH_take (i := 4) (v := undef) nth4 (by kernel_rfl) (by kernel_rfl) (by kernel_rfl) (fun _ _ _ h => h) (Or.inr ⟨by rfl, rfl⟩) hHeld ?_)
    (try simp only [Act.put]); (try simp only [List.setIfInBounds_toArray]); (try simp only [List.set_cons_succ]); (try simp only [List.set_cons_zero])
    refine wpAnyH_ready (rs := [5]) (by kernel_rfl) (by simp) ?_
    refine AllReadyH.cons nth5 (fun K hK => ?_) AllReadyH.nil
    go_simp
    first | (go_at_call 13; (first | with_reducible refine (Q3.out _).mono ?_ | with_reducible refine (Q4.out _).mono ?_); rintro ee w' ⟨rfl, hb⟩) | (go_at_call 17; (first | with_reducible refine (Q1.out _ hHeld.vw).mono ?_ | with_reducible refine (Q2.out _ hHeld.vw).mono ?_); rintro ee w' ⟨rfl, hb⟩)
    refine hK.out _ _ (hHeld.step hb) (fun hHeld => ?_)
    clear hK K
    (try simp only [Act.put]); (try simp only [List.setIfInBounds_toArray]); (try simp only [List.set_cons_succ]); (try simp only [List.set_cons_zero])
    first | (refine wpAnyH_take (i := 6) (v := ?_) nth6 (by kernel_rfl) (by kernel_rfl) (by kernel_rfl) (fun _ _ _ h => h) (Or.inl ⟨by rfl, ?_⟩) hHeld ?_; rotate_left; focus (intro wS hSw; (have e0 := hSw.ba 0 _ rfl; have e1 := hSw.ba 1 _ rfl; have e2 := hSw.ba 2 _ rfl; have f0 := hSw.bb 0 _ rfl; have f1 := hSw.bb 1 _ rfl; have f2 := hSw.bb 2 _ rfl); go_simp; try with_reducible rfl; done)) | (refine wpAnyH_take (i := 6) (v := undef) nth6 (by kernel_rfl) (by kernel_rfl) (by kernel_rfl) (fun _ _ _ h => h) (Or.inr ⟨by rfl, rfl⟩) hHeld ?_)
    (try simp only [Act.put]); (try simp only [List.setIfInBounds_toArray]); (try simp only [List.set_cons_succ]); (try simp only [List.set_cons_zero])
    first | (refine wpAnyH_take (i := 7) (v := ?_) nth7 (by kernel_rfl) (by kernel_rfl) (by kernel_rfl) (fun _ _ _ h => h) (Or.inl ⟨by rfl, ?_⟩) hHeld ?_; rotate_left; focus (intro wS hSw; (have e0 := hSw.ba 0 _ rfl; have e1 := hSw.ba 1 _ rfl; have e2 := hSw.ba 2 _ rfl; have f0 := hSw.bb 0 _ rfl; have f1 := hSw.bb 1 _ rfl; have f2 := hSw.bb 2 _ rfl); go_simp; try with_reducible rfl; done)) | (refine wpAnyH_take (i := 7) (v := undef) nth7 (by kernel_rfl) (by kernel_rfl) (by kernel_rfl) (fun _ _ _ h => h) (Or.inr ⟨by rfl, rfl⟩) hHeld ?_)
    (try simp only [Act.put]); (try simp only [List.setIfInBounds_toArray]); (try simp only [List.set_cons_succ]); (try simp only [List.set_cons_zero])
    first | (refine wpAnyH_take (i := 8) (v := ?_) nth8 (by kernel_rfl) (by kernel_rfl) (by kernel_rfl) (fun _ _ _ h => h) (Or.inl ⟨by rfl, ?_⟩) hHeld ?_; rotate_left; focus (intro wS hSw; (have e0 := hSw.ba 0 _ rfl; have e1 := hSw.ba 1 _ rfl; have e2 := hSw.ba 2 _ rfl; have f0 := hSw.bb 0 _ rfl; have f1 := hSw.bb 1 _ rfl; have f2 := hSw.bb 2 _ rfl); go_simp; try with_reducible rfl; done)) | (refine wpAnyH_take (i := 8) (v := undef) nth8 (by kernel_rfl) (by kernel_rfl) (by kernel_rfl) (fun _ _ _ h => h) (Or.inr ⟨by rfl, rfl⟩) hHeld ?_)
    (try simp only [Act.put]); (try simp only [List.setIfInBounds_toArray]); (try simp only [List.set_cons_succ]); (try simp only [List.set_cons_zero])
    first | (refine wpAnyH_take (i := 9) (v := ?_) nth9 (by kernel_rfl) (by kernel_rfl) (by kernel_rfl) (fun _ _ _ h => h) (Or.inl ⟨by rfl, ?_⟩) hHeld ?_; rotate_left; focus (intro wS hSw; (have e0 := hSw.ba 0 _ rfl; have e1 := hSw.ba 1 _ rfl; have e2 := hSw.ba 2 _ rfl; have f0 := hSw.bb 0 _ rfl; have f1 := hSw.bb 1 _ rfl; have f2 := hSw.bb 2 _ rfl); go_simp; try with_reducible rfl; done)) | (refine wpAnyH_take (i := 9) (v := undef) nth9 (by kernel_rfl) (by kernel_rfl) (by kernel_rfl) (fun _ _ _ h => h) (Or.inr ⟨by rfl, rfl⟩) hHeld ?_)
    (try simp only [Act.put]); (try simp only [List.setIfInBounds_toArray]); (try simp only [List.set_cons_succ]); (try simp only [List.set_cons_zero])
    first | (refine wpAnyH_take (i := 11) (v := ?_) nth11 (by kernel_rfl) (by kernel_rfl) (by kernel_rfl) (fun _ _ _ h => h) (Or.inl ⟨by rfl, ?_⟩) hHeld ?_; rotate_left; focus (intro wS hSw; (have e0 := hSw.ba 0 _ rfl; have e1 := hSw.ba 1 _ rfl; have e2 := hSw.ba 2 _ rfl; have f0 := hSw.bb 0 _ rfl; have f1 := hSw.bb 1 _ rfl; have f2 := hSw.bb 2 _ rfl); go_simp; try with_reducible rfl; done)) | (refine wpAnyH_take (i := 11) (v := undef) nth11 (by kernel_rfl) (by kernel_rfl) (by kernel_rfl) (fun _ _ _ h => h) (Or.inr ⟨by rfl, rfl⟩) hHeld ?_)
    (try simp only [Act.put]); (try simp only [List.setIfInBounds_toArray]); (try simp only [List.set_cons_succ]); (try simp only [List.set_cons_zero])
    first | (refine wpAnyH_take (i := 14) (v := ?_) nth14 (by kernel_rfl) (by kernel_rfl) (by kernel_rfl) (fun _ _ _ h => h) (Or.inl ⟨by rfl, ?_⟩) hHeld ?_; rotate_left; focus (intro wS hSw; (have e0 := hSw.ba 0 _ rfl; have e1 := hSw.ba 1 _ rfl; have e2 := hSw.ba 2 _ rfl; have f0 := hSw.bb 0 _ rfl; have f1 := hSw.bb 1 _ rfl; have f2 := hSw.bb 2 _ rfl); go_simp; try with_reducible rfl; done)) | (refine wpAnyH_take (i := 14) (v := undef) nth14 (by kernel_rfl) (by kernel_rfl) (by kernel_rfl) (fun _ _ _ h => h) (Or.inr ⟨by rfl, rfl⟩) hHeld ?_)
    (try simp only [Act.put]); (try simp only [List.setIfInBounds_toArray]); (try simp only [List.set_cons_succ]); (try simp only [List.set_cons_zero])
    first | (refine wpAnyH_take (i := 15) (v := ?_) nth15 (by kernel_rfl) (by kernel_rfl) (by kernel_rfl) (fun _ _ _ h => h) (Or.inl ⟨by rfl, ?_⟩) hHeld ?_; rotate_left; focus (intro wS hSw; (have e0 := hSw.ba 0 _ rfl; have e1 := hSw.ba 1 _ rfl; have e2 := hSw.ba 2 _ rfl; have f0 := hSw.bb 0 _ rfl; have f1 := hSw.bb 1 _ rfl; have f2 := hSw.bb 2 _ rfl); go_simp; try with_reducible rfl; done)) | (refine wpAnyH_take (i := 15) (v := undef) nth15 (by kernel_rfl) (by kernel_rfl) (by kernel_rfl) (fun _ _ _ h => h) (Or.inr ⟨by rfl, rfl⟩) hHeld ?_)
    (try simp only [Act.put]); (try simp only [List.setIfInBounds_toArray]); (try simp only [List.set_cons_succ]); (try simp only [List.set_cons_zero])
    first | (refine wpAnyH_take (i := 16) (v := ?_) nth16 (by kernel_rfl) (by kernel_rfl) (by kernel_rfl) (fun _ _ _ h => h) (Or.inl ⟨by rfl, ?_⟩) hHeld ?_; rotate_left; focus (intro wS hSw; (have e0 := hSw.ba 0 _ rfl; have e1 := hSw.ba 1 _ rfl; have e2 := hSw.ba 2 _ rfl; have f0 := hSw.bb 0 _ rfl; have f1 := hSw.bb 1 _ rfl; have f2 := hSw.bb 2 _ rfl); go_simp; try with_reducible rfl; done)) | (refine wpAnyH_take (i := 16) (v := undef) nth16 (by kernel_rfl) (by kernel_rfl) (by kernel_rfl) (fun _ _ _ h => h) (Or.inr ⟨by rfl, rfl⟩) hHeld ?_)
    (try simp only [Act.put]); (try simp only [List.setIfInBounds_toArray]); (try simp only [List.set_cons_succ]); (try simp only [List.set_cons_zero])
    refine wpAnyH_ready (rs := [10]) (by kernel_rfl) (by simp) ?_
    refine AllReadyH.cons nth10 (fun K hK => ?_) AllReadyH.nil
    go_simp
    first | (go_at_call 13; (first | with_reducible refine (Q3.out _).mono ?_ | with_reducible refine (Q4.out _).mono ?_); rintro ee w' ⟨rfl, hb⟩) | (go_at_call 17; (first | with_reducible refine (Q1.out _ hHeld.vw).mono ?_ | with_reducible refine (Q2.out _ hHeld.vw).mono ?_); rintro ee w' ⟨rfl, hb⟩)
    refine hK.out _ _ (hHeld.step hb) (fun hHeld => ?_)
    clear hK K
    (try simp only [Act.put]); (try simp only [List.setIfInBounds_toArray]); (try simp only [List.set_cons_succ]); (try simp only [List.set_cons_zero])
    refine wpAnyH_ready (rs := [12]) (by kernel_rfl) (by simp) ?_
    refine AllReadyH.cons nth12 (fun K hK => ?_) AllReadyH.nil
    go_simp
    first | (go_at_call 13; (first | with_reducible refine (Q3.out _).mono ?_ | with_reducible refine (Q4.out _).mono ?_); rintro ee w' ⟨rfl, hb⟩) | (go_at_call 17; (first | with_reducible refine (Q1.out _ hHeld.vw).mono ?_ | with_reducible refine (Q2.out _ hHeld.vw).mono ?_); rintro ee w' ⟨rfl, hb⟩)
    refine hK.out _ _ (hHeld.step hb) (fun hHeld => ?_)
    clear hK K
    (try simp only [Act.put]); (try simp only [List.setIfInBounds_toArray]); (try simp only [List.set_cons_succ]); (try simp only [List.set_cons_zero])
    first | (refine wpAnyH_take (i := 13) (v := ?_) nth13 (by kernel_rfl) (by kernel_rfl) (by kernel_rfl) (fun _ _ _ h => h) (Or.inl ⟨by rfl, ?_⟩) hHeld ?_; rotate_left; focus (intro wS hSw; (have e0 := hSw.ba 0 _ rfl; have e1 := hSw.ba 1 _ rfl; have e2 := hSw.ba 2 _ rfl; have f0 := hSw.bb 0 _ rfl; have f1 := hSw.bb 1 _ rfl; have f2 := hSw.bb 2 _ rfl); go_simp; try with_reducible rfl; done)) | (refine wpAnyH_take (i := 13) (v := undef) nth13 (by kernel_rfl) (by kernel_rfl) (by kernel_rfl) (fun _ _ _ h => h) (Or.inr ⟨by rfl, rfl⟩) hHeld ?_)
    (try simp only [Act.put]); (try simp only [List.setIfInBounds_toArray]); (try simp only [List.set_cons_succ]); (try simp only [List.set_cons_zero])
    first | (refine wpAnyH_take (i := 17) (v := ?_) nth17 (by kernel_rfl) (by kernel_rfl) (by kernel_rfl) (fun _ _ _ h => h) (Or.inl ⟨by rfl, ?_⟩) hHeld ?_; rotate_left; focus (intro wS hSw; (have e0 := hSw.ba 0 _ rfl; have e1 := hSw.ba 1 _ rfl; have e2 := hSw.ba 2 _ rfl; have f0 := hSw.bb 0 _ rfl; have f1 := hSw.bb 1 _ rfl; have f2 := hSw.bb 2 _ rfl); go_simp; try with_reducible rfl; done)) | (refine wpAnyH_take (i := 17) (v := undef) nth17 (by kernel_rfl) (by kernel_rfl) (by kernel_rfl) (fun _ _ _ h => h) (Or.inr ⟨by rfl, rfl⟩) hHeld ?_)
    (try simp only [Act.put]); (try simp only [List.setIfInBounds_toArray]); (try simp only [List.set_cons_succ]); (try simp only [List.set_cons_zero])
    first | (refine wpAnyH_take (i := 18) (v := ?_) nth18 (by kernel_rfl) (by kernel_rfl) (by kernel_rfl) (fun _ _ _ h => h) (Or.inl ⟨by rfl, ?_⟩) hHeld ?_; rotate_left; focus (intro wS hSw; (have e0 := hSw.ba 0 _ rfl; have e1 := hSw.ba 1 _ rfl; have e2 := hSw.ba 2 _ rfl; have f0 := hSw.bb 0 _ rfl; have f1 := hSw.bb 1 _ rfl; have f2 := hSw.bb 2 _ rfl); go_simp; try with_reducible rfl; done)) | (refine wpAnyH_take (i := 18) (v := undef) nth18 (by kernel_rfl) (by kernel_rfl) (by kernel_rfl) (fun _ _ _ h => h) (Or.inr ⟨by rfl, rfl⟩) hHeld ?_)
    (try simp only [Act.put]); (try simp only [List.setIfInBounds_toArray]); (try simp only [List.set_cons_succ]); (try simp only [List.set_cons_zero])
    first | (refine wpAnyH_take (i := 19) (v := ?_) nth19 (by kernel_rfl) (by kernel_rfl) (by kernel_rfl) (fun _ _ _ h => h) (Or.inl ⟨by rfl, ?_⟩) hHeld ?_; rotate_left; focus (intro wS hSw; (have e0 := hSw.ba 0 _ rfl; have e1 := hSw.ba 1 _ rfl; have e2 := hSw.ba 2 _ rfl; have f0 := hSw.bb 0 _ rfl; have f1 := hSw.bb 1 _ rfl; have f2 := hSw.bb 2 _ rfl); go_simp; try with_reducible rfl; done)) | (refine wpAnyH_take (i := 19) (v := undef) nth19 (by kernel_rfl) (by kernel_rfl) (by kernel_rfl) (fun _ _ _ h => h) (Or.inr ⟨by rfl, rfl⟩) hHeld ?_)
    (try simp only [Act.put]); (try simp only [List.setIfInBounds_toArray]); (try simp only [List.set_cons_succ]); (try simp only [List.set_cons_zero])
    refine wpAnyH_done (by kernel_rfl) ?_ _
    go_wp2_with fail
    all_goals
      go_ret
      exact ⟨rfl, hHeld.below⟩
end Go.Proofs.YtammpddkeinijaaDoor
