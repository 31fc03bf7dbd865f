/- Contracts: are two versions the same; a version's bytes. -/
import Derived.Test.YtebamnlknaoehaaVrA
import Derived.Test.YtebamnlknaoehaaCloneA
namespace Go.Proofs.Ytebamnlknaoehaa
set_option linter.unusedVariables false
open Go.ChangeShapes Go.WideShapes Go.ChangeAt Go.RowKit

def sameG (a b c a2 b2 c2 : Int) (y : Int) : Bool := a == a2 && b == b2 && c == c2 && y == 0
theorem same_cases (a b c a2 b2 c2 y : Int) : ((a == a2) = false ∧ sameG a b c a2 b2 c2 y = false) ∨ (a = a2 ∧ (b == b2) = false ∧ sameG a b c a2 b2 c2 y = false) ∨ (a = a2 ∧ b = b2 ∧ (c == c2) = false ∧ sameG a b c a2 b2 c2 y = false) ∨ (a = a2 ∧ b = b2 ∧ c = c2 ∧ sameG a b c a2 b2 c2 y = (y == 0)) := by
  unfold sameG
  by_cases h1 : a = a2
  · by_cases h2 : b = b2
    · by_cases h3 : c = c2
      · right; right; right; simp [h1, h2, h3]
      · right; right; left; simp [h1, h2, h3]
    · right; left; simp [h1, h2]
  · left; simp [h1]
set_option maxHeartbeats 1000000 in
theorem same_c (a b c a2 b2 c2 : Int) (A A2 : Option Addr) (n k n2 k2 : Nat) (r s : List ValV) (w : World) (h : RowAt w w.heap.size A n k r) (h2 : RowAt w w.heap.size A2 n2 k2 s) (hr : StrsOk r) (hs : StrsOk s) :
    Calls Try.prog 13 #[verAgg a b c A n k, verAgg a2 b2 c2 A2 n2 k2] w fun e w' => e = .returned (.bool (sameG a b c a2 b2 c2 (cmpR r s))) ∧ Below w.heap.size w w' := by
  have QO := hide (fun (W : World) (hW : Below w.heap.size w W) => rorders_c A A2 n k n2 k2 r s W (h.kept hW) (h2.kept hW) hr hs)
  clear h h2 hr hs
  generalize cmpR r s = y at *
  have hc := same_cases a b c a2 b2 c2 y
  generalize sameG a b c a2 b2 c2 y = z at *
  unfold verAgg
  rcases hc with ⟨h1, rfl⟩ | ⟨rfl, h1, rfl⟩ | ⟨rfl, rfl, h1, rfl⟩ | ⟨rfl, rfl, rfl, hz⟩
  · go_enter Try.func13, Try.ntmps13
    go_wp2
    go_ret
    exact ⟨rfl, Bel.alloc (Bel.one _ _) _⟩
  · go_enter Try.func13, Try.ntmps13
    go_wp2
    go_ret
    exact ⟨rfl, Bel.alloc (Bel.one _ _) _⟩
  · go_enter Try.func13, Try.ntmps13
    go_wp2
    go_ret
    exact ⟨rfl, Bel.alloc (Bel.one _ _) _⟩
  · have HZ := hide hz
    clear hz
    go_enter Try.func13, Try.ntmps13
    go_wp2_with fail
    refine (QO.out _ (Bel.alloc (Bel.one _ _) _)).mono ?_
    rintro e w1 ⟨rfl, hb⟩
    have HB := hide (Bel.then (Bel.alloc (Bel.one w _) _) hb)
    clear hb QO
    go_wp2_with fail
    go_ret
    exact ⟨ret_bool (by rw [HZ.out]), HB.out⟩
theorem verbox (w : World) (a b c : Int) (A : Option Addr) (n k : Nat) : (w.alloc (.cells #[.int .i64 a, .int .i64 b, .int .i64 c, .slice A n k] 25)).cell? ⟨w.heap.size, 0, none⟩ = some (.int .i64 a) ∧ (w.alloc (.cells #[.int .i64 a, .int .i64 b, .int .i64 c, .slice A n k] 25)).cell? ⟨w.heap.size, 1, none⟩ = some (.int .i64 b) ∧ (w.alloc (.cells #[.int .i64 a, .int .i64 b, .int .i64 c, .slice A n k] 25)).cell? ⟨w.heap.size, 2, none⟩ = some (.int .i64 c) ∧ (w.alloc (.cells #[.int .i64 a, .int .i64 b, .int .i64 c, .slice A n k] 25)).cell? ⟨w.heap.size, 3, none⟩ = some (.slice A n k) := box4 w _ _ _ _ _
set_option maxRecDepth 100000 in
set_option maxHeartbeats 1000000 in
theorem vput_c (a b c : Int) (A : Option Addr) (n k : Nat) (r : List ValV) (w : World) (h : RowAt w w.heap.size A n k r) (hn : n ≤ 1048576) (hr : ∀ a ∈ r, OkV a) :
    Calls Try.prog 9 #[verAgg a b c A n k] w (GivesP w (putVG a b c r)) := by
  have QI := hide (fun (x : Int) W => isNumber_c x W)
  have QP := hide (fun (W : World) (hW : Below w.heap.size w W) => putR_c A n k r W (h.kept hW) hn hr)
  clear h hr
  unfold verAgg putVG
  by_cases hfit : fit3 a b c = true
  · rw [if_pos hfit]
    obtain ⟨ha, hb, hc⟩ := fit3_iff.1 hfit
    have Qa := hide (QI.out a)
    have Qb := hide (QI.out b)
    have Qc := hide (QI.out c)
    rw [ha] at Qa
    rw [hb] at Qb
    rw [hc] at Qc
    have hput : (putG r).1 = 0 ∧ (putG r).2.length ≤ 400 ∨ ((putG r).1 == 0) = false ∧ (putG r).1 ≠ 0 := by
      rcases putG_cases r with ⟨ho, hp⟩ | ⟨_, hp⟩ | ⟨_, _, hp⟩
      · rw [hp]; exact .inl ⟨rfl, ho.size⟩
      · rw [hp]; exact .inr ⟨rfl, by decide⟩
      · rw [hp]; exact .inr ⟨rfl, by decide⟩
    generalize putG r = x at *
    obtain ⟨x1, x2⟩ := x
    unfold GivesP at QP
    simp only at QP hput ⊢
    clear QI ha hb hc hfit
    rcases hput with ⟨rfl, hx2⟩ | ⟨hx1, hx0⟩
    · rw [if_pos rfl]
      have hz : (strL x2).size = x2.length := strL_size _
      have Q1 := hide (fun W => put6 a W)
      have Q2 := hide (fun W => put6 b W)
      have Q3 := hide (fun W => put6 c W)
      have z1 : (strL (six a)).size = 6 := by rw [strL_size, six_len]
      have z2 : (strL (six b)).size = 6 := by rw [strL_size, six_len]
      have z3 : (strL (six c)).size = 6 := by rw [strL_size, six_len]
      have hall : strL (six a) ++ strL (six b) ++ strL (six c) ++ strL x2 = strL (headG a b c ++ x2) := by rw [strL_two, strL_two, strL_two]; rfl
      simp only [six_str] at Q1 Q2 Q3
      have A1 : ∀ W, (Op.stringOp .add (strL (six a)) (strL (six b))).run Try.prog W = .ok (.string (strL (six a) ++ strL (six b))) W := fun W => run_string_add_sum W _ _ (by omega)
      have A2 : ∀ W, (Op.stringOp .add (strL (six a) ++ strL (six b)) (strL (six c))).run Try.prog W = .ok (.string (strL (six a) ++ strL (six b) ++ strL (six c))) W := fun W => run_string_add_sum W _ _ (by rw [ByteArray.size_append]; omega)
      have A3 : ∀ W, (Op.stringOp .add (strL (six a) ++ strL (six b) ++ strL (six c)) (strL x2)).run Try.prog W = .ok (.string (strL (six a) ++ strL (six b) ++ strL (six c) ++ strL x2)) W := fun W => run_string_add_sum W _ _ (by rw [ByteArray.size_append, ByteArray.size_append]; omega)
      have hzall : ((strL (headG a b c ++ x2)).size : Int) = 18 + x2.length := by rw [strL_size, List.length_append, head_len]; omega
      rw [hall] at A3
      have hz' : ((strL x2).size : Int) = x2.length := by omega
      generalize htt : strL (headG a b c ++ x2) = tt at *
      have HTT := hide htt
      generalize strL x2 = t at *
      generalize strL (six a) ++ strL (six b) ++ strL (six c) = t123 at *
      generalize strL (six a) ++ strL (six b) = t12 at *
      generalize strL (six a) = t1 at *
      generalize strL (six b) = t2 at *
      generalize strL (six c) = t3 at *
      generalize x2.length = m at *
      clear hz z1 z2 z3 hall htt
      by_cases hm : 400 < 18 + m
      · rw [if_pos hm]
        go_enter Try.func9, Try.ntmps9
        go_wp2_with fail
        refine (Qa.out _).mono ?_
        rintro e w1 ⟨rfl, rfl⟩
        go_wp2_with fail
        refine (Qb.out _).mono ?_
        rintro e w1 ⟨rfl, rfl⟩
        go_wp2_with fail
        refine (Qc.out _).mono ?_
        rintro e w1 ⟨rfl, rfl⟩
        go_wp2_with fail
        refine (QP.out _ (Bel.one _ _)).mono ?_
        rintro e w2 ⟨rfl, hb2⟩
        have HB2 := hide (Bel.then (Bel.one w _) hb2)
        have c0 := kept hb2 (verbox w a b c A n k).1
        have c1 := kept hb2 (verbox w a b c A n k).2.1
        have c2 := kept hb2 (verbox w a b c A n k).2.2.1
        have c3 := kept hb2 (verbox w a b c A n k).2.2.2
        clear hb2 QP
        go_wp2_with fail
        go_ret2
        exact ⟨rfl, HB2.out⟩
      · rw [if_neg hm]
        unfold GivesP
        simp only
        go_enter Try.func9, Try.ntmps9
        go_wp2_with fail
        refine (Qa.out _).mono ?_
        rintro e w1 ⟨rfl, rfl⟩
        go_wp2_with fail
        refine (Qb.out _).mono ?_
        rintro e w1 ⟨rfl, rfl⟩
        go_wp2_with fail
        refine (Qc.out _).mono ?_
        rintro e w1 ⟨rfl, rfl⟩
        go_wp2_with fail
        refine (QP.out _ (Bel.one _ _)).mono ?_
        rintro e w2 ⟨rfl, hb2⟩
        have HB2 := hide (Bel.then (Bel.one w _) hb2)
        have c0 := kept hb2 (verbox w a b c A n k).1
        have c1 := kept hb2 (verbox w a b c A n k).2.1
        have c2 := kept hb2 (verbox w a b c A n k).2.2.1
        have c3 := kept hb2 (verbox w a b c A n k).2.2.2
        clear hb2 QP
        go_wp2_with fail
        refine wp_region_held_drew (S := (fun w' => Below w2.heap.size w2 w')) (by kernel_rfl) ((Below.refl _ _).drew) (fun hHeld => ?_)
        first | (refine wpAnyH_take (i := 0) (v := ?_) nth0 (by kernel_rfl) (by kernel_rfl) (by kernel_rfl) (fun _ _ _ h => h) (Or.inl ⟨by rfl, ?_⟩) hHeld ?_; rotate_left; focus (intro wS hSw; (have k0 := kept hSw c0; have k1 := kept hSw c1; have k2 := kept hSw c2; have k3 := kept hSw c3); go_simp; try with_reducible rfl; done)) | (refine wpAnyH_take (i := 0) (v := undef) nth0 (by kernel_rfl) (by kernel_rfl) (by kernel_rfl) (fun _ _ _ h => h) (Or.inr ⟨by rfl, rfl⟩) hHeld ?_)
        (try simp only [Act.put]); (try simp only [List.setIfInBounds_toArray]); (try simp only [List.set_cons_succ]); (try simp only [List.set_cons_zero])
        first | (refine wpAnyH_take (i := 1) (v := ?_) nth1 (by kernel_rfl) (by kernel_rfl) (by kernel_rfl) (fun _ _ _ h => h) (Or.inl ⟨by rfl, ?_⟩) hHeld ?_; rotate_left; focus (intro wS hSw; (have k0 := kept hSw c0; have k1 := kept hSw c1; have k2 := kept hSw c2; have k3 := kept hSw c3); go_simp; try with_reducible rfl; done)) | (refine wpAnyH_take (i := 1) (v := undef) nth1 (by kernel_rfl) (by kernel_rfl) (by kernel_rfl) (fun _ _ _ h => h) (Or.inr ⟨by rfl, rfl⟩) hHeld ?_)
        (try simp only [Act.put]); (try simp only [List.setIfInBounds_toArray]); (try simp only [List.set_cons_succ]); (try simp only [List.set_cons_zero])
        first | (refine wpAnyH_take (i := 3) (v := ?_) nth3 (by kernel_rfl) (by kernel_rfl) (by kernel_rfl) (fun _ _ _ h => h) (Or.inl ⟨by rfl, ?_⟩) hHeld ?_; rotate_left; focus (intro wS hSw; (have k0 := kept hSw c0; have k1 := kept hSw c1; have k2 := kept hSw c2; have k3 := kept hSw c3); go_simp; try with_reducible rfl; done)) | (refine wpAnyH_take (i := 3) (v := undef) nth3 (by kernel_rfl) (by kernel_rfl) (by kernel_rfl) (fun _ _ _ h => h) (Or.inr ⟨by rfl, rfl⟩) hHeld ?_)
        (try simp only [Act.put]); (try simp only [List.setIfInBounds_toArray]); (try simp only [List.set_cons_succ]); (try simp only [List.set_cons_zero])
        first | (refine wpAnyH_take (i := 4) (v := ?_) nth4 (by kernel_rfl) (by kernel_rfl) (by kernel_rfl) (fun _ _ _ h => h) (Or.inl ⟨by rfl, ?_⟩) hHeld ?_; rotate_left; focus (intro wS hSw; (have k0 := kept hSw c0; have k1 := kept hSw c1; have k2 := kept hSw c2; have k3 := kept hSw c3); go_simp; try with_reducible rfl; done)) | (refine wpAnyH_take (i := 4) (v := undef) nth4 (by kernel_rfl) (by kernel_rfl) (by kernel_rfl) (fun _ _ _ h => h) (Or.inr ⟨by rfl, rfl⟩) hHeld ?_)
        (try simp only [Act.put]); (try simp only [List.setIfInBounds_toArray]); (try simp only [List.set_cons_succ]); (try simp only [List.set_cons_zero])
        first | (refine wpAnyH_take (i := 7) (v := ?_) nth7 (by kernel_rfl) (by kernel_rfl) (by kernel_rfl) (fun _ _ _ h => h) (Or.inl ⟨by rfl, ?_⟩) hHeld ?_; rotate_left; focus (intro wS hSw; (have k0 := kept hSw c0; have k1 := kept hSw c1; have k2 := kept hSw c2; have k3 := kept hSw c3); go_simp; try with_reducible rfl; done)) | (refine wpAnyH_take (i := 7) (v := undef) nth7 (by kernel_rfl) (by kernel_rfl) (by kernel_rfl) (fun _ _ _ h => h) (Or.inr ⟨by rfl, rfl⟩) hHeld ?_)
        (try simp only [Act.put]); (try simp only [List.setIfInBounds_toArray]); (try simp only [List.set_cons_succ]); (try simp only [List.set_cons_zero])
        first | (refine wpAnyH_take (i := 8) (v := ?_) nth8 (by kernel_rfl) (by kernel_rfl) (by kernel_rfl) (fun _ _ _ h => h) (Or.inl ⟨by rfl, ?_⟩) hHeld ?_; rotate_left; focus (intro wS hSw; (have k0 := kept hSw c0; have k1 := kept hSw c1; have k2 := kept hSw c2; have k3 := kept hSw c3); go_simp; try with_reducible rfl; done)) | (refine wpAnyH_take (i := 8) (v := undef) nth8 (by kernel_rfl) (by kernel_rfl) (by kernel_rfl) (fun _ _ _ h => h) (Or.inr ⟨by rfl, rfl⟩) hHeld ?_)
        (try simp only [Act.put]); (try simp only [List.setIfInBounds_toArray]); (try simp only [List.set_cons_succ]); (try simp only [List.set_cons_zero])
        first | (refine wpAnyH_take (i := 11) (v := ?_) nth11 (by kernel_rfl) (by kernel_rfl) (by kernel_rfl) (fun _ _ _ h => h) (Or.inl ⟨by rfl, ?_⟩) hHeld ?_; rotate_left; focus (intro wS hSw; (have k0 := kept hSw c0; have k1 := kept hSw c1; have k2 := kept hSw c2; have k3 := kept hSw c3); go_simp; try with_reducible rfl; done)) | (refine wpAnyH_take (i := 11) (v := undef) nth11 (by kernel_rfl) (by kernel_rfl) (by kernel_rfl) (fun _ _ _ h => h) (Or.inr ⟨by rfl, rfl⟩) hHeld ?_)
        (try simp only [Act.put]); (try simp only [List.setIfInBounds_toArray]); (try simp only [List.set_cons_succ]); (try simp only [List.set_cons_zero])
        refine wpAnyH_ready (rs := [2]) (by kernel_rfl) (by simp) ?_
        refine AllReadyH.cons nth2 (fun K hK => ?_) AllReadyH.nil
        go_simp
        (go_at_call 24; first | with_reducible refine (Q1.out _).mono ?_ | with_reducible refine (Q2.out _).mono ?_ | with_reducible refine (Q3.out _).mono ?_); rintro e w' ⟨rfl, hb⟩
        refine hK.out _ _ (Bel.then hHeld hb) (fun hHeld => ?_)
        clear hK K
        (try simp only [Act.put]); (try simp only [List.setIfInBounds_toArray]); (try simp only [List.set_cons_succ]); (try simp only [List.set_cons_zero])
        refine wpAnyH_ready (rs := [5]) (by kernel_rfl) (by simp) ?_
        refine AllReadyH.cons nth5 (fun K hK => ?_) AllReadyH.nil
        go_simp
        (go_at_call 24; first | with_reducible refine (Q1.out _).mono ?_ | with_reducible refine (Q2.out _).mono ?_ | with_reducible refine (Q3.out _).mono ?_); rintro e w' ⟨rfl, hb⟩
        refine hK.out _ _ (Bel.then hHeld hb) (fun hHeld => ?_)
        clear hK K
        (try simp only [Act.put]); (try simp only [List.setIfInBounds_toArray]); (try simp only [List.set_cons_succ]); (try simp only [List.set_cons_zero])
        first | (refine wpAnyH_take (i := 6) (v := ?_) nth6 (by kernel_rfl) (by kernel_rfl) (by kernel_rfl) (fun _ _ _ h => h) (Or.inl ⟨by rfl, ?_⟩) hHeld ?_; rotate_left; focus (intro wS hSw; (have k0 := kept hSw c0; have k1 := kept hSw c1; have k2 := kept hSw c2; have k3 := kept hSw c3); go_simp; try with_reducible rfl; done)) | (refine wpAnyH_take (i := 6) (v := undef) nth6 (by kernel_rfl) (by kernel_rfl) (by kernel_rfl) (fun _ _ _ h => h) (Or.inr ⟨by rfl, rfl⟩) hHeld ?_)
        (try simp only [Act.put]); (try simp only [List.setIfInBounds_toArray]); (try simp only [List.set_cons_succ]); (try simp only [List.set_cons_zero])
        refine wpAnyH_ready (rs := [9]) (by kernel_rfl) (by simp) ?_
        refine AllReadyH.cons nth9 (fun K hK => ?_) AllReadyH.nil
        go_simp
        (go_at_call 24; first | with_reducible refine (Q1.out _).mono ?_ | with_reducible refine (Q2.out _).mono ?_ | with_reducible refine (Q3.out _).mono ?_); rintro e w' ⟨rfl, hb⟩
        refine hK.out _ _ (Bel.then hHeld hb) (fun hHeld => ?_)
        clear hK K
        (try simp only [Act.put]); (try simp only [List.setIfInBounds_toArray]); (try simp only [List.set_cons_succ]); (try simp only [List.set_cons_zero])
        first | (refine wpAnyH_take (i := 10) (v := ?_) nth10 (by kernel_rfl) (by kernel_rfl) (by kernel_rfl) (fun _ _ _ h => h) (Or.inl ⟨by rfl, ?_⟩) hHeld ?_; rotate_left; focus (intro wS hSw; (have k0 := kept hSw c0; have k1 := kept hSw c1; have k2 := kept hSw c2; have k3 := kept hSw c3); go_simp; try with_reducible rfl; done)) | (refine wpAnyH_take (i := 10) (v := undef) nth10 (by kernel_rfl) (by kernel_rfl) (by kernel_rfl) (fun _ _ _ h => h) (Or.inr ⟨by rfl, rfl⟩) hHeld ?_)
        (try simp only [Act.put]); (try simp only [List.setIfInBounds_toArray]); (try simp only [List.set_cons_succ]); (try simp only [List.set_cons_zero])
        first | (refine wpAnyH_take (i := 12) (v := ?_) nth12 (by kernel_rfl) (by kernel_rfl) (by kernel_rfl) (fun _ _ _ h => h) (Or.inl ⟨by rfl, ?_⟩) hHeld ?_; rotate_left; focus (intro wS hSw; (have k0 := kept hSw c0; have k1 := kept hSw c1; have k2 := kept hSw c2; have k3 := kept hSw c3); go_simp; try with_reducible rfl; done)) | (refine wpAnyH_take (i := 12) (v := undef) nth12 (by kernel_rfl) (by kernel_rfl) (by kernel_rfl) (fun _ _ _ h => h) (Or.inr ⟨by rfl, rfl⟩) hHeld ?_)
        (try simp only [Act.put]); (try simp only [List.setIfInBounds_toArray]); (try simp only [List.set_cons_succ]); (try simp only [List.set_cons_zero])
        first | (refine wpAnyH_take (i := 13) (v := ?_) nth13 (by kernel_rfl) (by kernel_rfl) (by kernel_rfl) (fun _ _ _ h => h) (Or.inl ⟨by rfl, ?_⟩) hHeld ?_; rotate_left; focus (intro wS hSw; (have k0 := kept hSw c0; have k1 := kept hSw c1; have k2 := kept hSw c2; have k3 := kept hSw c3); go_simp; try with_reducible rfl; done)) | (refine wpAnyH_take (i := 13) (v := undef) nth13 (by kernel_rfl) (by kernel_rfl) (by kernel_rfl) (fun _ _ _ h => h) (Or.inr ⟨by rfl, rfl⟩) hHeld ?_)
        (try simp only [Act.put]); (try simp only [List.setIfInBounds_toArray]); (try simp only [List.set_cons_succ]); (try simp only [List.set_cons_zero])
        first | (refine wpAnyH_take (i := 14) (v := ?_) nth14 (by kernel_rfl) (by kernel_rfl) (by kernel_rfl) (fun _ _ _ h => h) (Or.inl ⟨by rfl, ?_⟩) hHeld ?_; rotate_left; focus (intro wS hSw; (have k0 := kept hSw c0; have k1 := kept hSw c1; have k2 := kept hSw c2; have k3 := kept hSw c3); go_simp; try with_reducible rfl; done)) | (refine wpAnyH_take (i := 14) (v := undef) nth14 (by kernel_rfl) (by kernel_rfl) (by kernel_rfl) (fun _ _ _ h => h) (Or.inr ⟨by rfl, rfl⟩) hHeld ?_)
        (try simp only [Act.put]); (try simp only [List.setIfInBounds_toArray]); (try simp only [List.set_cons_succ]); (try simp only [List.set_cons_zero])
        refine wpAnyH_done (by kernel_rfl) ?_ _
        go_wp2_with fail
        go_ret2
        refine ⟨?_, HB2.out.trans (hHeld.mono HB2.out.size)⟩
        rw [HTT.out]
        rfl
    · rw [if_neg hx0]
      go_enter Try.func9, Try.ntmps9
      go_wp2_with fail
      refine (Qa.out _).mono ?_
      rintro e w1 ⟨rfl, rfl⟩
      go_wp2_with fail
      refine (Qb.out _).mono ?_
      rintro e w1 ⟨rfl, rfl⟩
      go_wp2_with fail
      refine (Qc.out _).mono ?_
      rintro e w1 ⟨rfl, rfl⟩
      go_wp2_with fail
      refine (QP.out _ (Bel.one _ _)).mono ?_
      rintro e w2 ⟨rfl, hb2⟩
      have HB2 := hide (Bel.then (Bel.one w _) hb2)
      have c0 := kept hb2 (verbox w a b c A n k).1
      have c1 := kept hb2 (verbox w a b c A n k).2.1
      have c2 := kept hb2 (verbox w a b c A n k).2.2.1
      have c3 := kept hb2 (verbox w a b c A n k).2.2.2
      clear hb2 QP
      go_wp2_with fail
      go_ret2
      exact ⟨rfl, HB2.out⟩
  · rw [if_neg hfit]
    have hf3 : fitN a = false ∨ (fitN a = true ∧ fitN b = false) ∨ (fitN a = true ∧ fitN b = true ∧ fitN c = false) := by
      unfold fit3 at hfit
      cases h1 : fitN a <;> cases h2 : fitN b <;> cases h3 : fitN c <;> simp_all
    have Qa := hide (QI.out a)
    have Qb := hide (QI.out b)
    have Qc := hide (QI.out c)
    clear QI QP hfit
    rcases hf3 with ha | ⟨ha, hb⟩ | ⟨ha, hb, hc⟩
    · rw [ha] at Qa
      go_enter Try.func9, Try.ntmps9
      go_wp2_with fail
      refine (Qa.out _).mono ?_
      rintro e w1 ⟨rfl, rfl⟩
      go_wp2_with fail
      go_ret2
      exact ⟨rfl, Bel.one _ _⟩
    · rw [ha] at Qa
      rw [hb] at Qb
      go_enter Try.func9, Try.ntmps9
      go_wp2_with fail
      refine (Qa.out _).mono ?_
      rintro e w1 ⟨rfl, rfl⟩
      go_wp2_with fail
      refine (Qb.out _).mono ?_
      rintro e w1 ⟨rfl, rfl⟩
      go_wp2_with fail
      go_ret2
      exact ⟨rfl, Bel.one _ _⟩
    · rw [ha] at Qa
      rw [hb] at Qb
      rw [hc] at Qc
      go_enter Try.func9, Try.ntmps9
      go_wp2_with fail
      refine (Qa.out _).mono ?_
      rintro e w1 ⟨rfl, rfl⟩
      go_wp2_with fail
      refine (Qb.out _).mono ?_
      rintro e w1 ⟨rfl, rfl⟩
      go_wp2_with fail
      refine (Qc.out _).mono ?_
      rintro e w1 ⟨rfl, rfl⟩
      go_wp2_with fail
      go_ret2
      exact ⟨rfl, Bel.one _ _⟩
end Go.Proofs.Ytebamnlknaoehaa
