/- The contract of scalar's binary. -/
import Derived.Test.YtlkeghfdpbfhbaaScB
namespace Go.Proofs.Ytlkeghfdpbfhbaa
set_option linter.unusedVariables false
open Go.ChangeShapes Go.WideShapes Go.ChangeAt Go.RowKit

theorem binV_cmp {op : Int} (h : 11 ≤ op ∧ op ≤ 16) (a b : ValV) : binV op a b = cmpOpV op a b := by
  unfold binV
  rw [if_neg (by omega), if_neg (by omega), if_pos h]
theorem binV_text {op : Int} (h : op = 10 ∨ op = 20) (a b : ValV) : binV op a b = if a.kind = 3 ∧ b.kind = 3 then txV op a.str b.str else nullV := by
  unfold binV
  rw [if_neg (by omega), if_neg (by omega), if_neg (by omega), if_pos h]
theorem binV_num {op : Int} (h1 : op ≠ 17) (h2 : op ≠ 18) (h3 : ¬ (11 ≤ op ∧ op ≤ 16)) (h4 : ¬ (op = 10 ∨ op = 20)) (a b : ValV) : binV op a b = if a.kind = 2 ∧ b.kind = 2 then toldV (arP op a.num b.num) else nullV := by
  unfold binV
  rw [if_neg h1, if_neg h2, if_neg h3, if_neg h4]
set_option maxRecDepth 100000 in
set_option maxHeartbeats 4000000 in
theorem binary_c (op : Int) (a b : ValV) (w : World) (hsz : op = 10 ∨ op = 20 → a.str.size ≤ 1048576 ∧ b.str.size ≤ 1048576) : Calls Try.prog 26 #[.int .i64 op, valAgg a, valAgg b] w (GivesV w (binV op a b)) := by
  obtain ⟨h1, h2, h3, h4⟩ := vb_three w a.kind a.num a.str b.kind b.num b.str
  have H1 := hide h1
  have H2 := hide h2
  have HX := hide h3
  have HB := hide h4
  have QF1 := hide (fun W => fromv_c a W)
  have QF2 := hide (fun W => fromv_c b W)
  clear h1 h2 h3 h4
  by_cases h17 : op = 17
  · subst h17
    have hV : binV 17 a b = trV (andI (frV a) (frV b)) := rfl
    rw [hV]
    clear hV
    unfold valAgg at QF1 QF2 ⊢
    obtain ⟨k, n, s⟩ := a
    obtain ⟨k2, n2, s2⟩ := b
    simp only at QF1 QF2 H1 H2 HX HB ⊢
    generalize frV ⟨k, n, s⟩ = f1 at *
    generalize frV ⟨k2, n2, s2⟩ = f2 at *
    obtain ⟨x, hx⟩ : ∃ x, andI f1 f2 = x := ⟨_, rfl⟩
    have QA := hide (fun W => and14 f1 f2 W)
    rw [hx] at QA ⊢
    have QV := hide (fun W => triv_c x W)
    generalize trV x = R at *
    clear hx
    go_enter Try.func26, Try.ntmps26
    go_upto_region 1 with (fail)
    generalize ((w.alloc (.cells #[.int .i64 k, .int .i64 n, .string s] 26)).alloc (.cells #[.int .i64 k2, .int .i64 n2, .string s2] 26)).alloc (.cells #[.int .i64 0, .int .i64 0, .string { data := #[] }] 26) = w1 at *
    go_upto_region 3 with (fail)
    refine wp_region_held_drew (S := (fun w' => VB w' w.heap.size ⟨k, n, s⟩ ∧ VB w' (w.heap.size + 1) ⟨k2, n2, s2⟩ ∧ (∃ u, VB w' (w.heap.size + 2) u) ∧ Below w.heap.size w w')) (by kernel_rfl) (⟨H1.out.kept (Below.refl _ _).drew, H2.out.kept (Below.refl _ _).drew, ⟨_, HX.out.kept (Below.refl _ _).drew⟩, HB.out.drew⟩) (fun hHeld => ?_)
    first | (refine wpAnyH_take (i := 0) (v := ?_) nth0 (by kernel_rfl) (by kernel_rfl) (by kernel_rfl) (fun _ _ _ h => h) (Or.inl ⟨by rfl, ?_⟩) hHeld ?_; rotate_left; focus (intro wS hSw; (obtain ⟨⟨_, _, _⟩, _⟩ := hSw.1.all; obtain ⟨⟨_, _, _⟩, _⟩ := hSw.2.1.all); go_simp; try with_reducible rfl; done)) | (refine wpAnyH_take (i := 0) (v := undef) nth0 (by kernel_rfl) (by kernel_rfl) (by kernel_rfl) (fun _ _ _ h => h) (Or.inr ⟨by rfl, rfl⟩) hHeld ?_)
    (try simp only [Act.put]); (try simp only [List.setIfInBounds_toArray]); (try simp only [List.set_cons_succ]); (try simp only [List.set_cons_zero])
    first | (refine wpAnyH_take (i := 2) (v := ?_) nth2 (by kernel_rfl) (by kernel_rfl) (by kernel_rfl) (fun _ _ _ h => h) (Or.inl ⟨by rfl, ?_⟩) hHeld ?_; rotate_left; focus (intro wS hSw; (obtain ⟨⟨_, _, _⟩, _⟩ := hSw.1.all; obtain ⟨⟨_, _, _⟩, _⟩ := hSw.2.1.all); go_simp; try with_reducible rfl; done)) | (refine wpAnyH_take (i := 2) (v := undef) nth2 (by kernel_rfl) (by kernel_rfl) (by kernel_rfl) (fun _ _ _ h => h) (Or.inr ⟨by rfl, rfl⟩) hHeld ?_)
    (try simp only [Act.put]); (try simp only [List.setIfInBounds_toArray]); (try simp only [List.set_cons_succ]); (try simp only [List.set_cons_zero])
    refine wpAnyH_ready (rs := [1]) (by kernel_rfl) (by simp) ?_
    refine AllReadyH.cons nth1 (fun K hK => ?_) AllReadyH.nil
    go_simp
    (first | (go_at_call 20; with_reducible refine (QF1.out _).mono ?_; rintro e w' ⟨rfl, hb⟩) | (go_at_call 20; with_reducible refine (QF2.out _).mono ?_; rintro e w' ⟨rfl, hb⟩) | (go_at_call 21; refine (QA.out _).mono ?_; rintro e w' ⟨rfl, rfl⟩; have hb := Below.refl w'.heap.size w') | (go_at_call 43; refine (QV.out _).mono ?_; rintro e w' ⟨rfl, hb⟩; simp only [valAgg]))
    refine hK.out _ _ (⟨hHeld.1.kept hb, hHeld.2.1.kept hb, ⟨_, hHeld.2.2.1.choose_spec.kept hb⟩, Bel.then hHeld.2.2.2 hb⟩) (fun hHeld => ?_)
    clear hK K
    (try simp only [Act.put]); (try simp only [List.setIfInBounds_toArray]); (try simp only [List.set_cons_succ]); (try simp only [List.set_cons_zero])
    refine wpAnyH_ready (rs := [3]) (by kernel_rfl) (by simp) ?_
    refine AllReadyH.cons nth3 (fun K hK => ?_) AllReadyH.nil
    go_simp
    (first | (go_at_call 20; with_reducible refine (QF1.out _).mono ?_; rintro e w' ⟨rfl, hb⟩) | (go_at_call 20; with_reducible refine (QF2.out _).mono ?_; rintro e w' ⟨rfl, hb⟩) | (go_at_call 21; refine (QA.out _).mono ?_; rintro e w' ⟨rfl, rfl⟩; have hb := Below.refl w'.heap.size w') | (go_at_call 43; refine (QV.out _).mono ?_; rintro e w' ⟨rfl, hb⟩; simp only [valAgg]))
    refine hK.out _ _ (⟨hHeld.1.kept hb, hHeld.2.1.kept hb, ⟨_, hHeld.2.2.1.choose_spec.kept hb⟩, Bel.then hHeld.2.2.2 hb⟩) (fun hHeld => ?_)
    clear hK K
    (try simp only [Act.put]); (try simp only [List.setIfInBounds_toArray]); (try simp only [List.set_cons_succ]); (try simp only [List.set_cons_zero])
    refine wpAnyH_ready (rs := [4]) (by kernel_rfl) (by simp) ?_
    refine AllReadyH.cons nth4 (fun K hK => ?_) AllReadyH.nil
    go_simp
    (first | (go_at_call 20; with_reducible refine (QF1.out _).mono ?_; rintro e w' ⟨rfl, hb⟩) | (go_at_call 20; with_reducible refine (QF2.out _).mono ?_; rintro e w' ⟨rfl, hb⟩) | (go_at_call 21; refine (QA.out _).mono ?_; rintro e w' ⟨rfl, rfl⟩; have hb := Below.refl w'.heap.size w') | (go_at_call 43; refine (QV.out _).mono ?_; rintro e w' ⟨rfl, hb⟩; simp only [valAgg]))
    refine hK.out _ _ (⟨hHeld.1.kept hb, hHeld.2.1.kept hb, ⟨_, hHeld.2.2.1.choose_spec.kept hb⟩, Bel.then hHeld.2.2.2 hb⟩) (fun hHeld => ?_)
    clear hK K
    (try simp only [Act.put]); (try simp only [List.setIfInBounds_toArray]); (try simp only [List.set_cons_succ]); (try simp only [List.set_cons_zero])
    refine wpAnyH_ready (rs := [5]) (by kernel_rfl) (by simp) ?_
    refine AllReadyH.cons nth5 (fun K hK => ?_) AllReadyH.nil
    go_simp
    (first | (go_at_call 20; with_reducible refine (QF1.out _).mono ?_; rintro e w' ⟨rfl, hb⟩) | (go_at_call 20; with_reducible refine (QF2.out _).mono ?_; rintro e w' ⟨rfl, hb⟩) | (go_at_call 21; refine (QA.out _).mono ?_; rintro e w' ⟨rfl, rfl⟩; have hb := Below.refl w'.heap.size w') | (go_at_call 43; refine (QV.out _).mono ?_; rintro e w' ⟨rfl, hb⟩; simp only [valAgg]))
    refine hK.out _ _ (⟨hHeld.1.kept hb, hHeld.2.1.kept hb, ⟨_, hHeld.2.2.1.choose_spec.kept hb⟩, Bel.then hHeld.2.2.2 hb⟩) (fun hHeld => ?_)
    clear hK K
    (try simp only [Act.put]); (try simp only [List.setIfInBounds_toArray]); (try simp only [List.set_cons_succ]); (try simp only [List.set_cons_zero])
    refine wpAnyH_ready (rs := [6]) (by kernel_rfl) (by simp) ?_
    refine AllReadyH.cons nth6 (fun K hK => ?_) AllReadyH.nil
    obtain ⟨u3, hu3⟩ := hHeld.2.2.1
    have HS := hide (hu3.set3 R)
    have HBS := hide (below_setV hHeld.2.2.2 (show w.heap.size ≤ w.heap.size + 2 by omega) R)
    obtain ⟨⟨c0, c1, c2⟩, ⟨y0, y1, y2⟩⟩ := hu3.all
    go_simp
    refine hK.out _ _ (⟨hHeld.1.far (by omega) R, hHeld.2.1.far (by omega) R, ⟨R, HS.out⟩, HBS.out⟩) (fun hHeld => ?_)
    clear hK K
    (try simp only [Act.put]); (try simp only [List.setIfInBounds_toArray]); (try simp only [List.set_cons_succ]); (try simp only [List.set_cons_zero])
    refine wpAnyH_done (by kernel_rfl) ?_ _
    clear hHeld
    go_wp2_with fail
    exact end_v Try.results26 rfl rfl HS.out ⟨rfl, HBS.out⟩
  by_cases h18 : op = 18
  · subst h18
    have hV : binV 18 a b = trV (orI (frV a) (frV b)) := rfl
    rw [hV]
    clear hV
    unfold valAgg at QF1 QF2 ⊢
    obtain ⟨k, n, s⟩ := a
    obtain ⟨k2, n2, s2⟩ := b
    simp only at QF1 QF2 H1 H2 HX HB ⊢
    generalize frV ⟨k, n, s⟩ = f1 at *
    generalize frV ⟨k2, n2, s2⟩ = f2 at *
    obtain ⟨x, hx⟩ : ∃ x, orI f1 f2 = x := ⟨_, rfl⟩
    have QA := hide (fun W => or16 f1 f2 W)
    rw [hx] at QA ⊢
    have QV := hide (fun W => triv_c x W)
    generalize trV x = R at *
    clear hx
    go_enter Try.func26, Try.ntmps26
    go_upto_region 1 with (fail)
    generalize ((w.alloc (.cells #[.int .i64 k, .int .i64 n, .string s] 26)).alloc (.cells #[.int .i64 k2, .int .i64 n2, .string s2] 26)).alloc (.cells #[.int .i64 0, .int .i64 0, .string { data := #[] }] 26) = w1 at *
    go_upto_region 5 with (fail)
    refine wp_region_held_drew (S := (fun w' => VB w' w.heap.size ⟨k, n, s⟩ ∧ VB w' (w.heap.size + 1) ⟨k2, n2, s2⟩ ∧ (∃ u, VB w' (w.heap.size + 2) u) ∧ Below w.heap.size w w')) (by kernel_rfl) (⟨H1.out.kept (Below.refl _ _).drew, H2.out.kept (Below.refl _ _).drew, ⟨_, HX.out.kept (Below.refl _ _).drew⟩, HB.out.drew⟩) (fun hHeld => ?_)
    first | (refine wpAnyH_take (i := 0) (v := ?_) nth0 (by kernel_rfl) (by kernel_rfl) (by kernel_rfl) (fun _ _ _ h => h) (Or.inl ⟨by rfl, ?_⟩) hHeld ?_; rotate_left; focus (intro wS hSw; (obtain ⟨⟨_, _, _⟩, _⟩ := hSw.1.all; obtain ⟨⟨_, _, _⟩, _⟩ := hSw.2.1.all); go_simp; try with_reducible rfl; done)) | (refine wpAnyH_take (i := 0) (v := undef) nth0 (by kernel_rfl) (by kernel_rfl) (by kernel_rfl) (fun _ _ _ h => h) (Or.inr ⟨by rfl, rfl⟩) hHeld ?_)
    (try simp only [Act.put]); (try simp only [List.setIfInBounds_toArray]); (try simp only [List.set_cons_succ]); (try simp only [List.set_cons_zero])
    first | (refine wpAnyH_take (i := 2) (v := ?_) nth2 (by kernel_rfl) (by kernel_rfl) (by kernel_rfl) (fun _ _ _ h => h) (Or.inl ⟨by rfl, ?_⟩) hHeld ?_; rotate_left; focus (intro wS hSw; (obtain ⟨⟨_, _, _⟩, _⟩ := hSw.1.all; obtain ⟨⟨_, _, _⟩, _⟩ := hSw.2.1.all); go_simp; try with_reducible rfl; done)) | (refine wpAnyH_take (i := 2) (v := undef) nth2 (by kernel_rfl) (by kernel_rfl) (by kernel_rfl) (fun _ _ _ h => h) (Or.inr ⟨by rfl, rfl⟩) hHeld ?_)
    (try simp only [Act.put]); (try simp only [List.setIfInBounds_toArray]); (try simp only [List.set_cons_succ]); (try simp only [List.set_cons_zero])
    refine wpAnyH_ready (rs := [1]) (by kernel_rfl) (by simp) ?_
    refine AllReadyH.cons nth1 (fun K hK => ?_) AllReadyH.nil
    go_simp
    (first | (go_at_call 20; with_reducible refine (QF1.out _).mono ?_; rintro e w' ⟨rfl, hb⟩) | (go_at_call 20; with_reducible refine (QF2.out _).mono ?_; rintro e w' ⟨rfl, hb⟩) | (go_at_call 47; refine (QA.out _).mono ?_; rintro e w' ⟨rfl, rfl⟩; have hb := Below.refl w'.heap.size w') | (go_at_call 43; refine (QV.out _).mono ?_; rintro e w' ⟨rfl, hb⟩; simp only [valAgg]))
    refine hK.out _ _ (⟨hHeld.1.kept hb, hHeld.2.1.kept hb, ⟨_, hHeld.2.2.1.choose_spec.kept hb⟩, Bel.then hHeld.2.2.2 hb⟩) (fun hHeld => ?_)
    clear hK K
    (try simp only [Act.put]); (try simp only [List.setIfInBounds_toArray]); (try simp only [List.set_cons_succ]); (try simp only [List.set_cons_zero])
    refine wpAnyH_ready (rs := [3]) (by kernel_rfl) (by simp) ?_
    refine AllReadyH.cons nth3 (fun K hK => ?_) AllReadyH.nil
    go_simp
    (first | (go_at_call 20; with_reducible refine (QF1.out _).mono ?_; rintro e w' ⟨rfl, hb⟩) | (go_at_call 20; with_reducible refine (QF2.out _).mono ?_; rintro e w' ⟨rfl, hb⟩) | (go_at_call 47; refine (QA.out _).mono ?_; rintro e w' ⟨rfl, rfl⟩; have hb := Below.refl w'.heap.size w') | (go_at_call 43; refine (QV.out _).mono ?_; rintro e w' ⟨rfl, hb⟩; simp only [valAgg]))
    refine hK.out _ _ (⟨hHeld.1.kept hb, hHeld.2.1.kept hb, ⟨_, hHeld.2.2.1.choose_spec.kept hb⟩, Bel.then hHeld.2.2.2 hb⟩) (fun hHeld => ?_)
    clear hK K
    (try simp only [Act.put]); (try simp only [List.setIfInBounds_toArray]); (try simp only [List.set_cons_succ]); (try simp only [List.set_cons_zero])
    refine wpAnyH_ready (rs := [4]) (by kernel_rfl) (by simp) ?_
    refine AllReadyH.cons nth4 (fun K hK => ?_) AllReadyH.nil
    go_simp
    (first | (go_at_call 20; with_reducible refine (QF1.out _).mono ?_; rintro e w' ⟨rfl, hb⟩) | (go_at_call 20; with_reducible refine (QF2.out _).mono ?_; rintro e w' ⟨rfl, hb⟩) | (go_at_call 47; refine (QA.out _).mono ?_; rintro e w' ⟨rfl, rfl⟩; have hb := Below.refl w'.heap.size w') | (go_at_call 43; refine (QV.out _).mono ?_; rintro e w' ⟨rfl, hb⟩; simp only [valAgg]))
    refine hK.out _ _ (⟨hHeld.1.kept hb, hHeld.2.1.kept hb, ⟨_, hHeld.2.2.1.choose_spec.kept hb⟩, Bel.then hHeld.2.2.2 hb⟩) (fun hHeld => ?_)
    clear hK K
    (try simp only [Act.put]); (try simp only [List.setIfInBounds_toArray]); (try simp only [List.set_cons_succ]); (try simp only [List.set_cons_zero])
    refine wpAnyH_ready (rs := [5]) (by kernel_rfl) (by simp) ?_
    refine AllReadyH.cons nth5 (fun K hK => ?_) AllReadyH.nil
    go_simp
    (first | (go_at_call 20; with_reducible refine (QF1.out _).mono ?_; rintro e w' ⟨rfl, hb⟩) | (go_at_call 20; with_reducible refine (QF2.out _).mono ?_; rintro e w' ⟨rfl, hb⟩) | (go_at_call 47; refine (QA.out _).mono ?_; rintro e w' ⟨rfl, rfl⟩; have hb := Below.refl w'.heap.size w') | (go_at_call 43; refine (QV.out _).mono ?_; rintro e w' ⟨rfl, hb⟩; simp only [valAgg]))
    refine hK.out _ _ (⟨hHeld.1.kept hb, hHeld.2.1.kept hb, ⟨_, hHeld.2.2.1.choose_spec.kept hb⟩, Bel.then hHeld.2.2.2 hb⟩) (fun hHeld => ?_)
    clear hK K
    (try simp only [Act.put]); (try simp only [List.setIfInBounds_toArray]); (try simp only [List.set_cons_succ]); (try simp only [List.set_cons_zero])
    refine wpAnyH_ready (rs := [6]) (by kernel_rfl) (by simp) ?_
    refine AllReadyH.cons nth6 (fun K hK => ?_) AllReadyH.nil
    obtain ⟨u3, hu3⟩ := hHeld.2.2.1
    have HS := hide (hu3.set3 R)
    have HBS := hide (below_setV hHeld.2.2.2 (show w.heap.size ≤ w.heap.size + 2 by omega) R)
    obtain ⟨⟨c0, c1, c2⟩, ⟨y0, y1, y2⟩⟩ := hu3.all
    go_simp
    refine hK.out _ _ (⟨hHeld.1.far (by omega) R, hHeld.2.1.far (by omega) R, ⟨R, HS.out⟩, HBS.out⟩) (fun hHeld => ?_)
    clear hK K
    (try simp only [Act.put]); (try simp only [List.setIfInBounds_toArray]); (try simp only [List.set_cons_succ]); (try simp only [List.set_cons_zero])
    refine wpAnyH_done (by kernel_rfl) ?_ _
    clear hHeld
    go_wp2_with fail
    exact end_v Try.results26 rfl rfl HS.out ⟨rfl, HBS.out⟩
  clear QF1 QF2
  have e17 : (op == 17) = false := by simpa using h17
  have e18 : (op == 18) = false := by simpa using h18
  by_cases hcmp : 11 ≤ op ∧ op ≤ 16
  · rw [binV_cmp hcmp]
    have QC := hide (fun W => cmpop_c op a b W)
    generalize cmpOpV op a b = r at *
    unfold valAgg at QC ⊢
    obtain ⟨k, n, s⟩ := a
    obtain ⟨k2, n2, s2⟩ := b
    simp only at QC H1 H2 HX HB ⊢
    clear hsz h17 h18
    rcases (show op = 11 ∨ op = 12 ∨ op = 13 ∨ op = 14 ∨ op = 15 ∨ op = 16 by omega) with rfl | rfl | rfl | rfl | rfl | rfl
    all_goals
      clear hcmp e17 e18
      go_enter Try.func26, Try.ntmps26
      go_upto_region 1 with (fail)
      generalize ((w.alloc (.cells #[.int .i64 k, .int .i64 n, .string s] 26)).alloc (.cells #[.int .i64 k2, .int .i64 n2, .string s2] 26)).alloc (.cells #[.int .i64 0, .int .i64 0, .string { data := #[] }] 26) = w1 at *
      obtain ⟨⟨c0, c1, c2⟩, _⟩ := H1.out.all
      obtain ⟨⟨d0, d1, d2⟩, _⟩ := H2.out.all
      go_wp2_with fail
      refine (QC.out _).mono ?_
      rintro e w2 ⟨rfl, hb⟩
      replace HX := hide (HX.out.kept hb)
      replace HB := hide (Bel.then HB.out hb)
      clear hb
      clear c0 c1 c2 d0 d1 d2 H1 H2
      unfold valAgg
      obtain ⟨⟨c0, c1, c2⟩, ⟨y0, y1, y2⟩⟩ := HX.out.all
      have HS := hide (HX.out.set3 (r))
      have HBS := hide (below_setV HB.out (show w.heap.size ≤ w.heap.size + 2 by omega) (r))
      clear HX HB 
      go_wp2_with fail
      exact end_v Try.results26 rfl rfl HS.out ⟨rfl, HBS.out⟩
  have e11 : (op == 11) = false := by rw [beq_eq_false_iff_ne]; omega
  have e12 : (op == 12) = false := by rw [beq_eq_false_iff_ne]; omega
  have e13 : (op == 13) = false := by rw [beq_eq_false_iff_ne]; omega
  have e14 : (op == 14) = false := by rw [beq_eq_false_iff_ne]; omega
  have e15 : (op == 15) = false := by rw [beq_eq_false_iff_ne]; omega
  have e16 : (op == 16) = false := by rw [beq_eq_false_iff_ne]; omega
  have QZ : Hid (∀ W g, VB W g nullV → VB (setV W g nullV) g nullV) := fun W g h => h.set3 nullV
  by_cases htx : op = 10 ∨ op = 20
  · rw [binV_text htx]
    obtain ⟨z1, z2⟩ := hsz htx
    have QC := hide (fun W => text_c op a.str b.str W z1 z2)
    generalize txV op a.str b.str = r at *
    unfold valAgg
    obtain ⟨k, n, s⟩ := a
    obtain ⟨k2, n2, s2⟩ := b
    simp only at QC H1 H2 HX HB ⊢
    by_cases hk : k = 3 ∧ k2 = 3
    · rw [if_pos hk]
      have q1 : (k == 3) = true := by simp [hk.1]
      have q2 : (k2 == 3) = true := by simp [hk.2]
      clear hk
      clear hsz h17 h18 hcmp z1 z2 QZ
      rcases htx with rfl | rfl
      all_goals
        clear e17 e18 e11 e12 e13 e14 e15 e16
        go_enter Try.func26, Try.ntmps26
        go_upto_region 1 with (fail)
        generalize ((w.alloc (.cells #[.int .i64 k, .int .i64 n, .string s] 26)).alloc (.cells #[.int .i64 k2, .int .i64 n2, .string s2] 26)).alloc (.cells #[.int .i64 0, .int .i64 0, .string { data := #[] }] 26) = w1 at *
        obtain ⟨⟨c0, c1, c2⟩, _⟩ := H1.out.all
        obtain ⟨⟨d0, d1, d2⟩, _⟩ := H2.out.all
        go_wp2_with fail
        refine (QC.out _).mono ?_
        rintro e w2 ⟨rfl, hb⟩
        replace HX := hide (HX.out.kept hb)
        replace HB := hide (Bel.then HB.out hb)
        clear hb
        clear c0 c1 c2 d0 d1 d2 H1 H2
        unfold valAgg
        obtain ⟨⟨c0, c1, c2⟩, ⟨y0, y1, y2⟩⟩ := HX.out.all
        have HS := hide (HX.out.set3 (r))
        have HBS := hide (below_setV HB.out (show w.heap.size ≤ w.heap.size + 2 by omega) (r))
        clear HX HB 
        go_wp2_with fail
        exact end_v Try.results26 rfl rfl HS.out ⟨rfl, HBS.out⟩
    · rw [if_neg hk]
      have hkk : (k == 3) = false ∨ ((k == 3) = true ∧ (k2 == 3) = false) := by
        simp only [beq_eq_false_iff_ne, beq_iff_eq]
        omega
      clear hk hsz h17 h18 hcmp z1 z2 QC
      rcases htx with rfl | rfl
      all_goals
        rcases hkk with q1 | ⟨q1, q2⟩
        all_goals
          clear e17 e18 e11 e12 e13 e14 e15 e16
          go_enter Try.func26, Try.ntmps26
          go_upto_region 1 with (fail)
          generalize ((w.alloc (.cells #[.int .i64 k, .int .i64 n, .string s] 26)).alloc (.cells #[.int .i64 k2, .int .i64 n2, .string s2] 26)).alloc (.cells #[.int .i64 0, .int .i64 0, .string { data := #[] }] 26) = w1 at *
          obtain ⟨⟨d0, d1, d2⟩, _⟩ := H1.out.all
          obtain ⟨⟨m0, m1, m2⟩, _⟩ := H2.out.all
          clear H1 H2
          obtain ⟨⟨c0, c1, c2⟩, ⟨y0, y1, y2⟩⟩ := HX.out.all
          have HS := hide (HX.out.set3 (nullV))
          have HBS := hide (below_setV HB.out (show w.heap.size ≤ w.heap.size + 2 by omega) (nullV))
          clear HX HB 
          go_wp2_with fail
          exact end_v Try.results26 rfl rfl HS.out ⟨rfl, HBS.out⟩
  · rw [binV_num h17 h18 hcmp htx]
    have e10 : (op == 10) = false := by rw [beq_eq_false_iff_ne]; omega
    have e20 : (op == 20) = false := by rw [beq_eq_false_iff_ne]; omega
    have QC := hide (fun W => arith_c op a.num b.num W)
    generalize toldV (arP op a.num b.num) = r at *
    unfold valAgg
    obtain ⟨k, n, s⟩ := a
    obtain ⟨k2, n2, s2⟩ := b
    simp only at QC H1 H2 HX HB ⊢
    clear hsz h17 h18 hcmp htx QZ
    by_cases hk : k = 2 ∧ k2 = 2
    · rw [if_pos hk]
      have q1 : (k == 2) = true := by simp [hk.1]
      have q2 : (k2 == 2) = true := by simp [hk.2]
      clear hk
      go_enter Try.func26, Try.ntmps26
      go_upto_region 1 with (fail)
      generalize ((w.alloc (.cells #[.int .i64 k, .int .i64 n, .string s] 26)).alloc (.cells #[.int .i64 k2, .int .i64 n2, .string s2] 26)).alloc (.cells #[.int .i64 0, .int .i64 0, .string { data := #[] }] 26) = w1 at *
      obtain ⟨⟨c0, c1, c2⟩, _⟩ := H1.out.all
      obtain ⟨⟨d0, d1, d2⟩, _⟩ := H2.out.all
      go_wp2_with fail
      refine (QC.out _).mono ?_
      rintro e w2 ⟨rfl, hb⟩
      replace HX := hide (HX.out.kept hb)
      replace HB := hide (Bel.then HB.out hb)
      clear hb
      clear c0 c1 c2 d0 d1 d2 H1 H2
      unfold valAgg
      obtain ⟨⟨c0, c1, c2⟩, ⟨y0, y1, y2⟩⟩ := HX.out.all
      have HS := hide (HX.out.set3 (r))
      have HBS := hide (below_setV HB.out (show w.heap.size ≤ w.heap.size + 2 by omega) (r))
      clear HX HB 
      go_wp2_with fail
      exact end_v Try.results26 rfl rfl HS.out ⟨rfl, HBS.out⟩
    · rw [if_neg hk]
      have hkk : (k == 2) = false ∨ ((k == 2) = true ∧ (k2 == 2) = false) := by
        simp only [beq_eq_false_iff_ne, beq_iff_eq]
        omega
      clear hk QC
      rcases hkk with q1 | ⟨q1, q2⟩
      all_goals
        go_enter Try.func26, Try.ntmps26
        go_upto_region 1 with (fail)
        generalize ((w.alloc (.cells #[.int .i64 k, .int .i64 n, .string s] 26)).alloc (.cells #[.int .i64 k2, .int .i64 n2, .string s2] 26)).alloc (.cells #[.int .i64 0, .int .i64 0, .string { data := #[] }] 26) = w1 at *
        obtain ⟨⟨d0, d1, d2⟩, _⟩ := H1.out.all
        obtain ⟨⟨m0, m1, m2⟩, _⟩ := H2.out.all
        clear H1 H2
        obtain ⟨⟨c0, c1, c2⟩, ⟨y0, y1, y2⟩⟩ := HX.out.all
        have HS := hide (HX.out.set3 (nullV))
        have HBS := hide (below_setV HB.out (show w.heap.size ≤ w.heap.size + 2 by omega) (nullV))
        clear HX HB 
        go_wp2_with fail
        exact end_v Try.results26 rfl rfl HS.out ⟨rfl, HBS.out⟩
end Go.Proofs.Ytlkeghfdpbfhbaa
