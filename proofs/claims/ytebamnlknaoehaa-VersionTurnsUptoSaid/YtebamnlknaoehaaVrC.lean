/- Contracts: the reference's bytes of a version. -/
import Derived.Test.YtebamnlknaoehaaVrB
namespace Go.Proofs.Ytebamnlknaoehaa
set_option linter.unusedVariables false
open Go.ChangeShapes Go.WideShapes Go.ChangeAt Go.RowKit

theorem rput6 (n : Int) (w : World) : Calls Try.prog 27 #[.int .i64 n, .int .i64 6] w fun e w' => e = .returned (.string (strOfNums (putL n 6))) ∧ Below w.heap.size w w' := by
  rw [← put_same n 6 (by omega)]
  exact rput_yes n 6 (by omega) (by omega) w
set_option maxRecDepth 100000 in
set_option maxHeartbeats 1000000 in
theorem rvput_c (a b c : Int) (A : Option Addr) (n k : Nat) (r : List ValV) (w : World) (h : RowAt w w.heap.size A n k r) (hn : n ≤ 1048576) (hr : ∀ a ∈ r, OkV a) :
    Calls Try.prog 10 #[verAgg a b c A n k] w (GivesP w (putVG a b c r)) := by
  have QI := hide (fun (x : Int) W => rfits_c x W)
  have QP := hide (fun (W : World) (hW : Below w.heap.size w W) => rputR_c A n k r W (h.kept hW) hn hr)
  clear h hr
  unfold verAgg putVG
  by_cases hfit : fit3 a b c = true
  · rw [if_pos hfit]
    obtain ⟨ha, hb, hc⟩ := fit3_iff.1 hfit
    have Qa := hide (QI.out a)
    have Qb := hide (QI.out b)
    have Qc := hide (QI.out c)
    rw [ha] at Qa
    rw [hb] at Qb
    rw [hc] at Qc
    have hput : (putG r).1 = 0 ∧ (putG r).2.length ≤ 400 ∨ ((putG r).1 == 0) = false ∧ (putG r).1 ≠ 0 := by
      rcases putG_cases r with ⟨ho, hp⟩ | ⟨_, hp⟩ | ⟨_, _, hp⟩
      · rw [hp]; exact .inl ⟨rfl, ho.size⟩
      · rw [hp]; exact .inr ⟨rfl, by decide⟩
      · rw [hp]; exact .inr ⟨rfl, by decide⟩
    generalize putG r = x at *
    obtain ⟨x1, x2⟩ := x
    unfold GivesP at QP
    simp only at QP hput ⊢
    clear QI ha hb hc hfit
    rcases hput with ⟨rfl, hx2⟩ | ⟨hx1, hx0⟩
    · rw [if_pos rfl]
      have hz : (strL x2).size = x2.length := strL_size _
      have Q1 := hide (fun W => rput6 a W)
      have Q2 := hide (fun W => rput6 b W)
      have Q3 := hide (fun W => rput6 c W)
      have z1 : (strL (six a)).size = 6 := by rw [strL_size, six_len]
      have z2 : (strL (six b)).size = 6 := by rw [strL_size, six_len]
      have z3 : (strL (six c)).size = 6 := by rw [strL_size, six_len]
      have hall : strL (six a) ++ strL (six b) ++ strL (six c) ++ strL x2 = strL (headG a b c ++ x2) := by rw [strL_two, strL_two, strL_two]; rfl
      simp only [six_str] at Q1 Q2 Q3
      have A1 : ∀ W, (Op.stringOp .add (strL (six a)) (strL (six b))).run Try.prog W = .ok (.string (strL (six a) ++ strL (six b))) W := fun W => run_string_add_sum W _ _ (by omega)
      have A2 : ∀ W, (Op.stringOp .add (strL (six a) ++ strL (six b)) (strL (six c))).run Try.prog W = .ok (.string (strL (six a) ++ strL (six b) ++ strL (six c))) W := fun W => run_string_add_sum W _ _ (by rw [ByteArray.size_append]; omega)
      have A3 : ∀ W, (Op.stringOp .add (strL (six a) ++ strL (six b) ++ strL (six c)) (strL x2)).run Try.prog W = .ok (.string (strL (six a) ++ strL (six b) ++ strL (six c) ++ strL x2)) W := fun W => run_string_add_sum W _ _ (by rw [ByteArray.size_append, ByteArray.size_append]; omega)
      have hzall : ((strL (headG a b c ++ x2)).size : Int) = 18 + x2.length := by rw [strL_size, List.length_append, head_len]; omega
      rw [hall] at A3
      have hz' : ((strL x2).size : Int) = x2.length := by omega
      generalize htt : strL (headG a b c ++ x2) = tt at *
      have HTT := hide htt
      generalize strL x2 = t at *
      generalize strL (six a) ++ strL (six b) ++ strL (six c) = t123 at *
      generalize strL (six a) ++ strL (six b) = t12 at *
      generalize strL (six a) = t1 at *
      generalize strL (six b) = t2 at *
      generalize strL (six c) = t3 at *
      generalize x2.length = m at *
      clear hz z1 z2 z3 hall htt
      by_cases hm : 400 < 18 + m
      · rw [if_pos hm]
        go_enter Try.func10, Try.ntmps10
        go_wp2_with fail
        refine (Qa.out _).mono ?_
        rintro e w1 ⟨rfl, rfl⟩
        go_wp2_with fail
        refine (Qb.out _).mono ?_
        rintro e w1 ⟨rfl, rfl⟩
        go_wp2_with fail
        refine (Qc.out _).mono ?_
        rintro e w1 ⟨rfl, rfl⟩
        go_wp2_with fail
        refine (QP.out _ (Bel.one _ _)).mono ?_
        rintro e w2 ⟨rfl, hb2⟩
        have HB2 := hide (Bel.then (Bel.one w _) hb2)
        have c0 := kept hb2 (verbox w a b c A n k).1
        have c1 := kept hb2 (verbox w a b c A n k).2.1
        have c2 := kept hb2 (verbox w a b c A n k).2.2.1
        have c3 := kept hb2 (verbox w a b c A n k).2.2.2
        clear hb2 QP
        go_wp2_with fail
        refine wp_region_held_drew (S := (fun w' => Below w2.heap.size w2 w')) (by kernel_rfl) ((Below.refl _ _).drew) (fun hHeld => ?_)
        first | (refine wpAnyH_take (i := 0) (v := ?_) nth0 (by kernel_rfl) (by kernel_rfl) (by kernel_rfl) (fun _ _ _ h => h) (Or.inl ⟨by rfl, ?_⟩) hHeld ?_; rotate_left; focus (intro wS hSw; (have k0 := kept hSw c0; have k1 := kept hSw c1; have k2 := kept hSw c2; have k3 := kept hSw c3); go_simp; try with_reducible rfl; done)) | (refine wpAnyH_take (i := 0) (v := undef) nth0 (by kernel_rfl) (by kernel_rfl) (by kernel_rfl) (fun _ _ _ h => h) (Or.inr ⟨by rfl, rfl⟩) hHeld ?_)
        (try simp only [Act.put]); (try simp only [List.setIfInBounds_toArray]); (try simp only [List.set_cons_succ]); (try simp only [List.set_cons_zero])
        first | (refine wpAnyH_take (i := 1) (v := ?_) nth1 (by kernel_rfl) (by kernel_rfl) (by kernel_rfl) (fun _ _ _ h => h) (Or.inl ⟨by rfl, ?_⟩) hHeld ?_; rotate_left; focus (intro wS hSw; (have k0 := kept hSw c0; have k1 := kept hSw c1; have k2 := kept hSw c2; have k3 := kept hSw c3); go_simp; try with_reducible rfl; done)) | (refine wpAnyH_take (i := 1) (v := undef) nth1 (by kernel_rfl) (by kernel_rfl) (by kernel_rfl) (fun _ _ _ h => h) (Or.inr ⟨by rfl, rfl⟩) hHeld ?_)
        (try simp only [Act.put]); (try simp only [List.setIfInBounds_toArray]); (try simp only [List.set_cons_succ]); (try simp only [List.set_cons_zero])
        first | (refine wpAnyH_take (i := 3) (v := ?_) nth3 (by kernel_rfl) (by kernel_rfl) (by kernel_rfl) (fun _ _ _ h => h) (Or.inl ⟨by rfl, ?_⟩) hHeld ?_; rotate_left; focus (intro wS hSw; (have k0 := kept hSw c0; have k1 := kept hSw c1; have k2 := kept hSw c2; have k3 := kept hSw c3); go_simp; try with_reducible rfl; done)) | (refine wpAnyH_take (i := 3) (v := undef) nth3 (by kernel_rfl) (by kernel_rfl) (by kernel_rfl) (fun _ _ _ h => h) (Or.inr ⟨by rfl, rfl⟩) hHeld ?_)
        (try simp only [Act.put]); (try simp only [List.setIfInBounds_toArray]); (try simp only [List.set_cons_succ]); (try simp only [List.set_cons_zero])
        first | (refine wpAnyH_take (i := 4) (v := ?_) nth4 (by kernel_rfl) (by kernel_rfl) (by kernel_rfl) (fun _ _ _ h => h) (Or.inl ⟨by rfl, ?_⟩) hHeld ?_; rotate_left; focus (intro wS hSw; (have k0 := kept hSw c0; have k1 := kept hSw c1; have k2 := kept hSw c2; have k3 := kept hSw c3); go_simp; try with_reducible rfl; done)) | (refine wpAnyH_take (i := 4) (v := undef) nth4 (by kernel_rfl) (by kernel_rfl) (by kernel_rfl) (fun _ _ _ h => h) (Or.inr ⟨by rfl, rfl⟩) hHeld ?_)
        (try simp only [Act.put]); (try simp only [List.setIfInBounds_toArray]); (try simp only [List.set_cons_succ]); (try simp only [List.set_cons_zero])
        first | (refine wpAnyH_take (i := 7) (v := ?_) nth7 (by kernel_rfl) (by kernel_rfl) (by kernel_rfl) (fun _ _ _ h => h) (Or.inl ⟨by rfl, ?_⟩) hHeld ?_; rotate_left; focus (intro wS hSw; (have k0 := kept hSw c0; have k1 := kept hSw c1; have k2 := kept hSw c2; have k3 := kept hSw c3); go_simp; try with_reducible rfl; done)) | (refine wpAnyH_take (i := 7) (v := undef) nth7 (by kernel_rfl) (by kernel_rfl) (by kernel_rfl) (fun _ _ _ h => h) (Or.inr ⟨by rfl, rfl⟩) hHeld ?_)
        (try simp only [Act.put]); (try simp only [List.setIfInBounds_toArray]); (try simp only [List.set_cons_succ]); (try simp only [List.set_cons_zero])
        first | (refine wpAnyH_take (i := 8) (v := ?_) nth8 (by kernel_rfl) (by kernel_rfl) (by kernel_rfl) (fun _ _ _ h => h) (Or.inl ⟨by rfl, ?_⟩) hHeld ?_; rotate_left; focus (intro wS hSw; (have k0 := kept hSw c0; have k1 := kept hSw c1; have k2 := kept hSw c2; have k3 := kept hSw c3); go_simp; try with_reducible rfl; done)) | (refine wpAnyH_take (i := 8) (v := undef) nth8 (by kernel_rfl) (by kernel_rfl) (by kernel_rfl) (fun _ _ _ h => h) (Or.inr ⟨by rfl, rfl⟩) hHeld ?_)
        (try simp only [Act.put]); (try simp only [List.setIfInBounds_toArray]); (try simp only [List.set_cons_succ]); (try simp only [List.set_cons_zero])
        first | (refine wpAnyH_take (i := 11) (v := ?_) nth11 (by kernel_rfl) (by kernel_rfl) (by kernel_rfl) (fun _ _ _ h => h) (Or.inl ⟨by rfl, ?_⟩) hHeld ?_; rotate_left; focus (intro wS hSw; (have k0 := kept hSw c0; have k1 := kept hSw c1; have k2 := kept hSw c2; have k3 := kept hSw c3); go_simp; try with_reducible rfl; done)) | (refine wpAnyH_take (i := 11) (v := undef) nth11 (by kernel_rfl) (by kernel_rfl) (by kernel_rfl) (fun _ _ _ h => h) (Or.inr ⟨by rfl, rfl⟩) hHeld ?_)
        (try simp only [Act.put]); (try simp only [List.setIfInBounds_toArray]); (try simp only [List.set_cons_succ]); (try simp only [List.set_cons_zero])
        refine wpAnyH_ready (rs := [2]) (by kernel_rfl) (by simp) ?_
        refine AllReadyH.cons nth2 (fun K hK => ?_) AllReadyH.nil
        go_simp
        (go_at_call 27; first | with_reducible refine (Q1.out _).mono ?_ | with_reducible refine (Q2.out _).mono ?_ | with_reducible refine (Q3.out _).mono ?_); rintro e w' ⟨rfl, hb⟩
        refine hK.out _ _ (Bel.then hHeld hb) (fun hHeld => ?_)
        clear hK K
        (try simp only [Act.put]); (try simp only [List.setIfInBounds_toArray]); (try simp only [List.set_cons_succ]); (try simp only [List.set_cons_zero])
        refine wpAnyH_ready (rs := [5]) (by kernel_rfl) (by simp) ?_
        refine AllReadyH.cons nth5 (fun K hK => ?_) AllReadyH.nil
        go_simp
        (go_at_call 27; first | with_reducible refine (Q1.out _).mono ?_ | with_reducible refine (Q2.out _).mono ?_ | with_reducible refine (Q3.out _).mono ?_); rintro e w' ⟨rfl, hb⟩
        refine hK.out _ _ (Bel.then hHeld hb) (fun hHeld => ?_)
        clear hK K
        (try simp only [Act.put]); (try simp only [List.setIfInBounds_toArray]); (try simp only [List.set_cons_succ]); (try simp only [List.set_cons_zero])
        first | (refine wpAnyH_take (i := 6) (v := ?_) nth6 (by kernel_rfl) (by kernel_rfl) (by kernel_rfl) (fun _ _ _ h => h) (Or.inl ⟨by rfl, ?_⟩) hHeld ?_; rotate_left; focus (intro wS hSw; (have k0 := kept hSw c0; have k1 := kept hSw c1; have k2 := kept hSw c2; have k3 := kept hSw c3); go_simp; try with_reducible rfl; done)) | (refine wpAnyH_take (i := 6) (v := undef) nth6 (by kernel_rfl) (by kernel_rfl) (by kernel_rfl) (fun _ _ _ h => h) (Or.inr ⟨by rfl, rfl⟩) hHeld ?_)
        (try simp only [Act.put]); (try simp only [List.setIfInBounds_toArray]); (try simp only [List.set_cons_succ]); (try simp only [List.set_cons_zero])
        refine wpAnyH_ready (rs := [9]) (by kernel_rfl) (by simp) ?_
        refine AllReadyH.cons nth9 (fun K hK => ?_) AllReadyH.nil
        go_simp
        (go_at_call 27; first | with_reducible refine (Q1.out _).mono ?_ | with_reducible refine (Q2.out _).mono ?_ | with_reducible refine (Q3.out _).mono ?_); rintro e w' ⟨rfl, hb⟩
        refine hK.out _ _ (Bel.then hHeld hb) (fun hHeld => ?_)
        clear hK K
        (try simp only [Act.put]); (try simp only [List.setIfInBounds_toArray]); (try simp only [List.set_cons_succ]); (try simp only [List.set_cons_zero])
        first | (refine wpAnyH_take (i := 10) (v := ?_) nth10 (by kernel_rfl) (by kernel_rfl) (by kernel_rfl) (fun _ _ _ h => h) (Or.inl ⟨by rfl, ?_⟩) hHeld ?_; rotate_left; focus (intro wS hSw; (have k0 := kept hSw c0; have k1 := kept hSw c1; have k2 := kept hSw c2; have k3 := kept hSw c3); go_simp; try with_reducible rfl; done)) | (refine wpAnyH_take (i := 10) (v := undef) nth10 (by kernel_rfl) (by kernel_rfl) (by kernel_rfl) (fun _ _ _ h => h) (Or.inr ⟨by rfl, rfl⟩) hHeld ?_)
        (try simp only [Act.put]); (try simp only [List.setIfInBounds_toArray]); (try simp only [List.set_cons_succ]); (try simp only [List.set_cons_zero])
        first | (refine wpAnyH_take (i := 12) (v := ?_) nth12 (by kernel_rfl) (by kernel_rfl) (by kernel_rfl) (fun _ _ _ h => h) (Or.inl ⟨by rfl, ?_⟩) hHeld ?_; rotate_left; focus (intro wS hSw; (have k0 := kept hSw c0; have k1 := kept hSw c1; have k2 := kept hSw c2; have k3 := kept hSw c3); go_simp; try with_reducible rfl; done)) | (refine wpAnyH_take (i := 12) (v := undef) nth12 (by kernel_rfl) (by kernel_rfl) (by kernel_rfl) (fun _ _ _ h => h) (Or.inr ⟨by rfl, rfl⟩) hHeld ?_)
        (try simp only [Act.put]); (try simp only [List.setIfInBounds_toArray]); (try simp only [List.set_cons_succ]); (try simp only [List.set_cons_zero])
        first | (refine wpAnyH_take (i := 13) (v := ?_) nth13 (by kernel_rfl) (by kernel_rfl) (by kernel_rfl) (fun _ _ _ h => h) (Or.inl ⟨by rfl, ?_⟩) hHeld ?_; rotate_left; focus (intro wS hSw; (have k0 := kept hSw c0; have k1 := kept hSw c1; have k2 := kept hSw c2; have k3 := kept hSw c3); go_simp; try with_reducible rfl; done)) | (refine wpAnyH_take (i := 13) (v := undef) nth13 (by kernel_rfl) (by kernel_rfl) (by kernel_rfl) (fun _ _ _ h => h) (Or.inr ⟨by rfl, rfl⟩) hHeld ?_)
        (try simp only [Act.put]); (try simp only [List.setIfInBounds_toArray]); (try simp only [List.set_cons_succ]); (try simp only [List.set_cons_zero])
        refine wpAnyH_done (by kernel_rfl) ?_ _
        go_wp2_with fail
        go_ret2
        exact ⟨rfl, HB2.out.trans (hHeld.mono HB2.out.size)⟩
      · rw [if_neg hm]
        unfold GivesP
        simp only
        go_enter Try.func10, Try.ntmps10
        go_wp2_with fail
        refine (Qa.out _).mono ?_
        rintro e w1 ⟨rfl, rfl⟩
        go_wp2_with fail
        refine (Qb.out _).mono ?_
        rintro e w1 ⟨rfl, rfl⟩
        go_wp2_with fail
        refine (Qc.out _).mono ?_
        rintro e w1 ⟨rfl, rfl⟩
        go_wp2_with fail
        refine (QP.out _ (Bel.one _ _)).mono ?_
        rintro e w2 ⟨rfl, hb2⟩
        have HB2 := hide (Bel.then (Bel.one w _) hb2)
        have c0 := kept hb2 (verbox w a b c A n k).1
        have c1 := kept hb2 (verbox w a b c A n k).2.1
        have c2 := kept hb2 (verbox w a b c A n k).2.2.1
        have c3 := kept hb2 (verbox w a b c A n k).2.2.2
        clear hb2 QP
        go_wp2_with fail
        refine wp_region_held_drew (S := (fun w' => Below w2.heap.size w2 w')) (by kernel_rfl) ((Below.refl _ _).drew) (fun hHeld => ?_)
        first | (refine wpAnyH_take (i := 0) (v := ?_) nth0 (by kernel_rfl) (by kernel_rfl) (by kernel_rfl) (fun _ _ _ h => h) (Or.inl ⟨by rfl, ?_⟩) hHeld ?_; rotate_left; focus (intro wS hSw; (have k0 := kept hSw c0; have k1 := kept hSw c1; have k2 := kept hSw c2; have k3 := kept hSw c3); go_simp; try with_reducible rfl; done)) | (refine wpAnyH_take (i := 0) (v := undef) nth0 (by kernel_rfl) (by kernel_rfl) (by kernel_rfl) (fun _ _ _ h => h) (Or.inr ⟨by rfl, rfl⟩) hHeld ?_)
        (try simp only [Act.put]); (try simp only [List.setIfInBounds_toArray]); (try simp only [List.set_cons_succ]); (try simp only [List.set_cons_zero])
        first | (refine wpAnyH_take (i := 1) (v := ?_) nth1 (by kernel_rfl) (by kernel_rfl) (by kernel_rfl) (fun _ _ _ h => h) (Or.inl ⟨by rfl, ?_⟩) hHeld ?_; rotate_left; focus (intro wS hSw; (have k0 := kept hSw c0; have k1 := kept hSw c1; have k2 := kept hSw c2; have k3 := kept hSw c3); go_simp; try with_reducible rfl; done)) | (refine wpAnyH_take (i := 1) (v := undef) nth1 (by kernel_rfl) (by kernel_rfl) (by kernel_rfl) (fun _ _ _ h => h) (Or.inr ⟨by rfl, rfl⟩) hHeld ?_)
        (try simp only [Act.put]); (try simp only [List.setIfInBounds_toArray]); (try simp only [List.set_cons_succ]); (try simp only [List.set_cons_zero])
        first | (refine wpAnyH_take (i := 3) (v := ?_) nth3 (by kernel_rfl) (by kernel_rfl) (by kernel_rfl) (fun _ _ _ h => h) (Or.inl ⟨by rfl, ?_⟩) hHeld ?_; rotate_left; focus (intro wS hSw; (have k0 := kept hSw c0; have k1 := kept hSw c1; have k2 := kept hSw c2; have k3 := kept hSw c3); go_simp; try with_reducible rfl; done)) | (refine wpAnyH_take (i := 3) (v := undef) nth3 (by kernel_rfl) (by kernel_rfl) (by kernel_rfl) (fun _ _ _ h => h) (Or.inr ⟨by rfl, rfl⟩) hHeld ?_)
        (try simp only [Act.put]); (try simp only [List.setIfInBounds_toArray]); (try simp only [List.set_cons_succ]); (try simp only [List.set_cons_zero])
        first | (refine wpAnyH_take (i := 4) (v := ?_) nth4 (by kernel_rfl) (by kernel_rfl) (by kernel_rfl) (fun _ _ _ h => h) (Or.inl ⟨by rfl, ?_⟩) hHeld ?_; rotate_left; focus (intro wS hSw; (have k0 := kept hSw c0; have k1 := kept hSw c1; have k2 := kept hSw c2; have k3 := kept hSw c3); go_simp; try with_reducible rfl; done)) | (refine wpAnyH_take (i := 4) (v := undef) nth4 (by kernel_rfl) (by kernel_rfl) (by kernel_rfl) (fun _ _ _ h => h) (Or.inr ⟨by rfl, rfl⟩) hHeld ?_)
        (try simp only [Act.put]); (try simp only [List.setIfInBounds_toArray]); (try simp only [List.set_cons_succ]); (try simp only [List.set_cons_zero])
        first | (refine wpAnyH_take (i := 7) (v := ?_) nth7 (by kernel_rfl) (by kernel_rfl) (by kernel_rfl) (fun _ _ _ h => h) (Or.inl ⟨by rfl, ?_⟩) hHeld ?_; rotate_left; focus (intro wS hSw; (have k0 := kept hSw c0; have k1 := kept hSw c1; have k2 := kept hSw c2; have k3 := kept hSw c3); go_simp; try with_reducible rfl; done)) | (refine wpAnyH_take (i := 7) (v := undef) nth7 (by kernel_rfl) (by kernel_rfl) (by kernel_rfl) (fun _ _ _ h => h) (Or.inr ⟨by rfl, rfl⟩) hHeld ?_)
        (try simp only [Act.put]); (try simp only [List.setIfInBounds_toArray]); (try simp only [List.set_cons_succ]); (try simp only [List.set_cons_zero])
        first | (refine wpAnyH_take (i := 8) (v := ?_) nth8 (by kernel_rfl) (by kernel_rfl) (by kernel_rfl) (fun _ _ _ h => h) (Or.inl ⟨by rfl, ?_⟩) hHeld ?_; rotate_left; focus (intro wS hSw; (have k0 := kept hSw c0; have k1 := kept hSw c1; have k2 := kept hSw c2; have k3 := kept hSw c3); go_simp; try with_reducible rfl; done)) | (refine wpAnyH_take (i := 8) (v := undef) nth8 (by kernel_rfl) (by kernel_rfl) (by kernel_rfl) (fun _ _ _ h => h) (Or.inr ⟨by rfl, rfl⟩) hHeld ?_)
        (try simp only [Act.put]); (try simp only [List.setIfInBounds_toArray]); (try simp only [List.set_cons_succ]); (try simp only [List.set_cons_zero])
        first | (refine wpAnyH_take (i := 11) (v := ?_) nth11 (by kernel_rfl) (by kernel_rfl) (by kernel_rfl) (fun _ _ _ h => h) (Or.inl ⟨by rfl, ?_⟩) hHeld ?_; rotate_left; focus (intro wS hSw; (have k0 := kept hSw c0; have k1 := kept hSw c1; have k2 := kept hSw c2; have k3 := kept hSw c3); go_simp; try with_reducible rfl; done)) | (refine wpAnyH_take (i := 11) (v := undef) nth11 (by kernel_rfl) (by kernel_rfl) (by kernel_rfl) (fun _ _ _ h => h) (Or.inr ⟨by rfl, rfl⟩) hHeld ?_)
        (try simp only [Act.put]); (try simp only [List.setIfInBounds_toArray]); (try simp only [List.set_cons_succ]); (try simp only [List.set_cons_zero])
        refine wpAnyH_ready (rs := [2]) (by kernel_rfl) (by simp) ?_
        refine AllReadyH.cons nth2 (fun K hK => ?_) AllReadyH.nil
        go_simp
        (go_at_call 27; first | with_reducible refine (Q1.out _).mono ?_ | with_reducible refine (Q2.out _).mono ?_ | with_reducible refine (Q3.out _).mono ?_); rintro e w' ⟨rfl, hb⟩
        refine hK.out _ _ (Bel.then hHeld hb) (fun hHeld => ?_)
        clear hK K
        (try simp only [Act.put]); (try simp only [List.setIfInBounds_toArray]); (try simp only [List.set_cons_succ]); (try simp only [List.set_cons_zero])
        refine wpAnyH_ready (rs := [5]) (by kernel_rfl) (by simp) ?_
        refine AllReadyH.cons nth5 (fun K hK => ?_) AllReadyH.nil
        go_simp
        (go_at_call 27; first | with_reducible refine (Q1.out _).mono ?_ | with_reducible refine (Q2.out _).mono ?_ | with_reducible refine (Q3.out _).mono ?_); rintro e w' ⟨rfl, hb⟩
        refine hK.out _ _ (Bel.then hHeld hb) (fun hHeld => ?_)
        clear hK K
        (try simp only [Act.put]); (try simp only [List.setIfInBounds_toArray]); (try simp only [List.set_cons_succ]); (try simp only [List.set_cons_zero])
        first | (refine wpAnyH_take (i := 6) (v := ?_) nth6 (by kernel_rfl) (by kernel_rfl) (by kernel_rfl) (fun _ _ _ h => h) (Or.inl ⟨by rfl, ?_⟩) hHeld ?_; rotate_left; focus (intro wS hSw; (have k0 := kept hSw c0; have k1 := kept hSw c1; have k2 := kept hSw c2; have k3 := kept hSw c3); go_simp; try with_reducible rfl; done)) | (refine wpAnyH_take (i := 6) (v := undef) nth6 (by kernel_rfl) (by kernel_rfl) (by kernel_rfl) (fun _ _ _ h => h) (Or.inr ⟨by rfl, rfl⟩) hHeld ?_)
        (try simp only [Act.put]); (try simp only [List.setIfInBounds_toArray]); (try simp only [List.set_cons_succ]); (try simp only [List.set_cons_zero])
        refine wpAnyH_ready (rs := [9]) (by kernel_rfl) (by simp) ?_
        refine AllReadyH.cons nth9 (fun K hK => ?_) AllReadyH.nil
        go_simp
        (go_at_call 27; first | with_reducible refine (Q1.out _).mono ?_ | with_reducible refine (Q2.out _).mono ?_ | with_reducible refine (Q3.out _).mono ?_); rintro e w' ⟨rfl, hb⟩
        refine hK.out _ _ (Bel.then hHeld hb) (fun hHeld => ?_)
        clear hK K
        (try simp only [Act.put]); (try simp only [List.setIfInBounds_toArray]); (try simp only [List.set_cons_succ]); (try simp only [List.set_cons_zero])
        first | (refine wpAnyH_take (i := 10) (v := ?_) nth10 (by kernel_rfl) (by kernel_rfl) (by kernel_rfl) (fun _ _ _ h => h) (Or.inl ⟨by rfl, ?_⟩) hHeld ?_; rotate_left; focus (intro wS hSw; (have k0 := kept hSw c0; have k1 := kept hSw c1; have k2 := kept hSw c2; have k3 := kept hSw c3); go_simp; try with_reducible rfl; done)) | (refine wpAnyH_take (i := 10) (v := undef) nth10 (by kernel_rfl) (by kernel_rfl) (by kernel_rfl) (fun _ _ _ h => h) (Or.inr ⟨by rfl, rfl⟩) hHeld ?_)
        (try simp only [Act.put]); (try simp only [List.setIfInBounds_toArray]); (try simp only [List.set_cons_succ]); (try simp only [List.set_cons_zero])
        first | (refine wpAnyH_take (i := 12) (v := ?_) nth12 (by kernel_rfl) (by kernel_rfl) (by kernel_rfl) (fun _ _ _ h => h) (Or.inl ⟨by rfl, ?_⟩) hHeld ?_; rotate_left; focus (intro wS hSw; (have k0 := kept hSw c0; have k1 := kept hSw c1; have k2 := kept hSw c2; have k3 := kept hSw c3); go_simp; try with_reducible rfl; done)) | (refine wpAnyH_take (i := 12) (v := undef) nth12 (by kernel_rfl) (by kernel_rfl) (by kernel_rfl) (fun _ _ _ h => h) (Or.inr ⟨by rfl, rfl⟩) hHeld ?_)
        (try simp only [Act.put]); (try simp only [List.setIfInBounds_toArray]); (try simp only [List.set_cons_succ]); (try simp only [List.set_cons_zero])
        first | (refine wpAnyH_take (i := 13) (v := ?_) nth13 (by kernel_rfl) (by kernel_rfl) (by kernel_rfl) (fun _ _ _ h => h) (Or.inl ⟨by rfl, ?_⟩) hHeld ?_; rotate_left; focus (intro wS hSw; (have k0 := kept hSw c0; have k1 := kept hSw c1; have k2 := kept hSw c2; have k3 := kept hSw c3); go_simp; try with_reducible rfl; done)) | (refine wpAnyH_take (i := 13) (v := undef) nth13 (by kernel_rfl) (by kernel_rfl) (by kernel_rfl) (fun _ _ _ h => h) (Or.inr ⟨by rfl, rfl⟩) hHeld ?_)
        (try simp only [Act.put]); (try simp only [List.setIfInBounds_toArray]); (try simp only [List.set_cons_succ]); (try simp only [List.set_cons_zero])
        refine wpAnyH_done (by kernel_rfl) ?_ _
        go_wp2_with fail
        go_ret2
        refine ⟨?_, HB2.out.trans (hHeld.mono HB2.out.size)⟩
        rw [HTT.out]
        rfl
    · rw [if_neg hx0]
      go_enter Try.func10, Try.ntmps10
      go_wp2_with fail
      refine (Qa.out _).mono ?_
      rintro e w1 ⟨rfl, rfl⟩
      go_wp2_with fail
      refine (Qb.out _).mono ?_
      rintro e w1 ⟨rfl, rfl⟩
      go_wp2_with fail
      refine (Qc.out _).mono ?_
      rintro e w1 ⟨rfl, rfl⟩
      go_wp2_with fail
      refine (QP.out _ (Bel.one _ _)).mono ?_
      rintro e w2 ⟨rfl, hb2⟩
      have HB2 := hide (Bel.then (Bel.one w _) hb2)
      have c0 := kept hb2 (verbox w a b c A n k).1
      have c1 := kept hb2 (verbox w a b c A n k).2.1
      have c2 := kept hb2 (verbox w a b c A n k).2.2.1
      have c3 := kept hb2 (verbox w a b c A n k).2.2.2
      clear hb2 QP
      go_wp2_with fail
      go_ret2
      exact ⟨rfl, HB2.out⟩
  · rw [if_neg hfit]
    have hf3 : fitN a = false ∨ (fitN a = true ∧ fitN b = false) ∨ (fitN a = true ∧ fitN b = true ∧ fitN c = false) := by
      unfold fit3 at hfit
      cases h1 : fitN a <;> cases h2 : fitN b <;> cases h3 : fitN c <;> simp_all
    have Qa := hide (QI.out a)
    have Qb := hide (QI.out b)
    have Qc := hide (QI.out c)
    clear QI QP hfit
    rcases hf3 with ha | ⟨ha, hb⟩ | ⟨ha, hb, hc⟩
    · rw [ha] at Qa
      go_enter Try.func10, Try.ntmps10
      go_wp2_with fail
      refine (Qa.out _).mono ?_
      rintro e w1 ⟨rfl, rfl⟩
      go_wp2_with fail
      go_ret2
      exact ⟨rfl, Bel.one _ _⟩
    · rw [ha] at Qa
      rw [hb] at Qb
      go_enter Try.func10, Try.ntmps10
      go_wp2_with fail
      refine (Qa.out _).mono ?_
      rintro e w1 ⟨rfl, rfl⟩
      go_wp2_with fail
      refine (Qb.out _).mono ?_
      rintro e w1 ⟨rfl, rfl⟩
      go_wp2_with fail
      go_ret2
      exact ⟨rfl, Bel.one _ _⟩
    · rw [ha] at Qa
      rw [hb] at Qb
      rw [hc] at Qc
      go_enter Try.func10, Try.ntmps10
      go_wp2_with fail
      refine (Qa.out _).mono ?_
      rintro e w1 ⟨rfl, rfl⟩
      go_wp2_with fail
      refine (Qb.out _).mono ?_
      rintro e w1 ⟨rfl, rfl⟩
      go_wp2_with fail
      refine (Qc.out _).mono ?_
      rintro e w1 ⟨rfl, rfl⟩
      go_wp2_with fail
      go_ret2
      exact ⟨rfl, Bel.one _ _⟩
end Go.Proofs.Ytebamnlknaoehaa
