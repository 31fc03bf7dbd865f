/- The contract of sorter.merged. -/
import Derived.Test.YtahdkfenpflahaaSoP
namespace Go.Proofs.Ytahdkfenpflahaa
set_option linter.unusedVariables false
open Go.ChangeShapes Go.WideShapes Go.ChangeAt Go.RowKit

theorem HsAt.empty (w : World) : HsAt w none 0 0 [] := ⟨SlAt.empty _ _ _ _, by intro p hp; cases hp⟩
set_option maxRecDepth 100000 in
set_option maxHeartbeats 2000000 in
theorem mergedN_c (A3 : Option Addr) (n3 c3 gk : Nat) (ks : List (Int × Bool)) : ∀ (f : Nat) (gs : List GRun) (A : Option Addr) (n c : Nat) (w : World), gs.length < f → GsAt w A n c gs → ByBox w gk A3 n3 c3 → KeysAt w w.heap.size A3 n3 c3 ks → n ≤ 1048576 → sumL (gs.map Prod.snd) ≤ 1048576 →
    Calls Try.prog 33 #[.slice A n c, .func (.func 42) #[] #[.pointer (some ⟨gk, 0, none⟩)]] w fun e w' => ∃ A4 c4, e = .returned (.slice A4 (sumL (gs.map Prod.snd)) c4) ∧ HsAt w' A4 (sumL (gs.map Prod.snd)) c4 (mergeN (ltK ks) f (gs.map Prod.snd)) ∧ Below w.heap.size w w' := by
  intro f
  induction f with
  | zero => intro gs A n c w hf; omega
  | succ f ih =>
    intro gs A n c w hf h hg hk hn hsum
    have hl := h.sl.len
    have hc := h.sl.cap
    by_cases h0 : n = 0
    · subst h0
      obtain rfl : gs = [] := List.eq_nil_of_length_eq_zero hl
      have HE := hide (HsAt.empty w)
      clear h hg hk ih hl hc hf hsum
      go_enter Try.func33, Try.ntmps33
      go_wp2_with fail
      go_ret
      exact ⟨none, 0, rfl, HE.out, Below.refl _ _⟩
    have h0i : ((n : Int) == 0) = false := by rw [beq_eq_false_iff_ne]; omega
    by_cases h1 : n = 1
    · subst h1
      obtain ⟨g, rfl⟩ : ∃ g, gs = [g] := List.length_eq_one_iff.1 hl
      obtain ⟨b, off, p, rfl, hb, hp, hcell⟩ := h.cell (i := 0) (by omega)
      injection hp with hp
      subst hp
      rw [Nat.add_zero] at hcell
      unfold gdV at hcell
      have hs := h.each g (by simp)
      have hlen : sumL ([g].map Prod.snd) = g.1.n := by
        show ([g.2].flatten).length = _
        rw [List.flatten_cons, List.flatten_nil, List.append_nil]
        exact hs.sl.len
      have hm : mergeN (ltK ks) (f + 1) ([g].map Prod.snd) = g.2 := by
        rw [mergeN, if_neg (by simp), if_pos (by simp)]
        simp
      rw [hlen, hm]
      have HE := hide hs
      clear h hg hk ih hl hc hf hsum hs hlen hm
      go_enter Try.func33, Try.ntmps33
      go_wp2_with fail
      go_ret
      exact ⟨g.1.A, g.1.c, rfl, HE.out, Below.refl _ _⟩
    have h1i : ((n : Int) == 1) = false := by rw [beq_eq_false_iff_ne]; omega
    obtain ⟨m, hm⟩ : ∃ m, n / 2 = m := ⟨_, rfl⟩
    have hq1 : Int.tdiv (n : Int) 2 = (m : Int) := by rw [Int.tdiv_eq_ediv_of_nonneg (by omega)]; omega
    have hm1 : m ≤ n := by omega
    have hcut := sumL_cut (gs.map Prod.snd) m
    have hE : mergeN (ltK ks) (f + 1) (gs.map Prod.snd) = mergeL (ltK ks) (mergeN (ltK ks) f ((gs.take m).map Prod.snd)) (mergeN (ltK ks) f ((gs.drop m).map Prod.snd)) := by
      rw [mergeN, if_neg (by rw [List.length_map]; omega), if_neg (by rw [List.length_map]; omega), List.length_map, hl, hm, List.map_take, List.map_drop]
    rw [hE]
    rw [← List.map_take, ← List.map_drop] at hcut
    have I1 := hide (fun (W : World) (hW : Below w.heap.size w W) => ih (gs.take m) (fstA c A) m c W (by rw [List.length_take]; omega) (gs_front (h.kept hW) hm1) (hg.kept hW) (hk.kept hW) (by omega) (by omega))
    have I2 := hide (fun (W : World) (hW : Below w.heap.size w W) => ih (gs.drop m) (sndA c m A) (n - m) (c - m) W (by rw [List.length_drop]; omega) (gs_back (h.kept hW) hm1) (hg.kept hW) (hk.kept hW) (by omega) (by omega))
    generalize sumL ((gs.take m).map Prod.snd) = z1 at *
    generalize sumL ((gs.drop m).map Prod.snd) = z2 at *
    have QB := hide (fun (B1 B2 : Option Addr) (e1 e2 : Nat) (W : World) (hW : Below w.heap.size w W) (s1 : HsAt W B1 z1 e1 (mergeN (ltK ks) f ((gs.take m).map Prod.snd))) (s2 : HsAt W B2 z2 e2 (mergeN (ltK ks) f ((gs.drop m).map Prod.snd))) => both_c B1 B2 A3 z1 e1 z2 e2 n3 c3 gk _ _ ks W s1 s2 (hg.kept hW) (hk.kept hW) (by omega))
    rw [hcut] at QB
    have hf1 := fun W => gfront_run (A := A) (n := n) (c := c) (k := m) (by omega) W
    have hf2 := fun W => gback_run (A := A) (n := n) (c := c) (j := m) hm1 W
    generalize mergeN (ltK ks) f ((gs.take m).map Prod.snd) = L1 at *
    generalize mergeN (ltK ks) f ((gs.drop m).map Prod.snd) = L2 at *
    generalize mergeL (ltK ks) L1 L2 = L3 at *
    generalize sumL (gs.map Prod.snd) = z at *
    generalize fstA c A = B1 at *
    generalize sndA c m A = B2 at *
    generalize n - m = n2 at *
    generalize c - m = c2 at *
    clear h hg hk ih hE hl hm hcut hf hsum
    go_enter Try.func33, Try.ntmps33
    go_upto_region 7 with (fail)
    refine wp_region_held_drew (S := (fun w' => Below w.heap.size w w')) (by kernel_rfl) ((Below.refl w.heap.size w).drew) (fun hHeld => ?_)
    first | (refine wpAnyH_take (i := 0) (v := ?_) nth0 (by kernel_rfl) (by kernel_rfl) (by kernel_rfl) (fun _ _ _ h => h) (Or.inl ⟨by rfl, ?_⟩) hHeld ?_; rotate_left; focus (intro wS hSw; go_simp; try with_reducible rfl; done)) | (refine wpAnyH_take (i := 0) (v := undef) nth0 (by kernel_rfl) (by kernel_rfl) (by kernel_rfl) (fun _ _ _ h => h) (Or.inr ⟨by rfl, rfl⟩) hHeld ?_)
    (try simp only [Act.put]); (try simp only [List.setIfInBounds_toArray]); (try simp only [List.set_cons_succ]); (try simp only [List.set_cons_zero])
    first | (refine wpAnyH_take (i := 1) (v := ?_) nth1 (by kernel_rfl) (by kernel_rfl) (by kernel_rfl) (fun _ _ _ h => h) (Or.inl ⟨by rfl, ?_⟩) hHeld ?_; rotate_left; focus (intro wS hSw; go_simp; try with_reducible rfl; done)) | (refine wpAnyH_take (i := 1) (v := undef) nth1 (by kernel_rfl) (by kernel_rfl) (by kernel_rfl) (fun _ _ _ h => h) (Or.inr ⟨by rfl, rfl⟩) hHeld ?_)
    (try simp only [Act.put]); (try simp only [List.setIfInBounds_toArray]); (try simp only [List.set_cons_succ]); (try simp only [List.set_cons_zero])
    first | (refine wpAnyH_take (i := 2) (v := ?_) nth2 (by kernel_rfl) (by kernel_rfl) (by kernel_rfl) (fun _ _ _ h => h) (Or.inl ⟨by rfl, ?_⟩) hHeld ?_; rotate_left; focus (intro wS hSw; go_simp; try with_reducible rfl; done)) | (refine wpAnyH_take (i := 2) (v := undef) nth2 (by kernel_rfl) (by kernel_rfl) (by kernel_rfl) (fun _ _ _ h => h) (Or.inr ⟨by rfl, rfl⟩) hHeld ?_)
    (try simp only [Act.put]); (try simp only [List.setIfInBounds_toArray]); (try simp only [List.set_cons_succ]); (try simp only [List.set_cons_zero])
    first | (refine wpAnyH_take (i := 3) (v := ?_) nth3 (by kernel_rfl) (by kernel_rfl) (by kernel_rfl) (fun _ _ _ h => h) (Or.inl ⟨by rfl, ?_⟩) hHeld ?_; rotate_left; focus (intro wS hSw; go_simp; try with_reducible rfl; done)) | (refine wpAnyH_take (i := 3) (v := undef) nth3 (by kernel_rfl) (by kernel_rfl) (by kernel_rfl) (fun _ _ _ h => h) (Or.inr ⟨by rfl, rfl⟩) hHeld ?_)
    (try simp only [Act.put]); (try simp only [List.setIfInBounds_toArray]); (try simp only [List.set_cons_succ]); (try simp only [List.set_cons_zero])
    first | (refine wpAnyH_take (i := 5) (v := ?_) nth5 (by kernel_rfl) (by kernel_rfl) (by kernel_rfl) (fun _ _ _ h => h) (Or.inl ⟨by rfl, ?_⟩) hHeld ?_; rotate_left; focus (intro wS hSw; go_simp; try with_reducible rfl; done)) | (refine wpAnyH_take (i := 5) (v := undef) nth5 (by kernel_rfl) (by kernel_rfl) (by kernel_rfl) (fun _ _ _ h => h) (Or.inr ⟨by rfl, rfl⟩) hHeld ?_)
    (try simp only [Act.put]); (try simp only [List.setIfInBounds_toArray]); (try simp only [List.set_cons_succ]); (try simp only [List.set_cons_zero])
    first | (refine wpAnyH_take (i := 6) (v := ?_) nth6 (by kernel_rfl) (by kernel_rfl) (by kernel_rfl) (fun _ _ _ h => h) (Or.inl ⟨by rfl, ?_⟩) hHeld ?_; rotate_left; focus (intro wS hSw; go_simp; try with_reducible rfl; done)) | (refine wpAnyH_take (i := 6) (v := undef) nth6 (by kernel_rfl) (by kernel_rfl) (by kernel_rfl) (fun _ _ _ h => h) (Or.inr ⟨by rfl, rfl⟩) hHeld ?_)
    (try simp only [Act.put]); (try simp only [List.setIfInBounds_toArray]); (try simp only [List.set_cons_succ]); (try simp only [List.set_cons_zero])
    first | (refine wpAnyH_take (i := 7) (v := ?_) nth7 (by kernel_rfl) (by kernel_rfl) (by kernel_rfl) (fun _ _ _ h => h) (Or.inl ⟨by rfl, ?_⟩) hHeld ?_; rotate_left; focus (intro wS hSw; go_simp; try with_reducible rfl; done)) | (refine wpAnyH_take (i := 7) (v := undef) nth7 (by kernel_rfl) (by kernel_rfl) (by kernel_rfl) (fun _ _ _ h => h) (Or.inr ⟨by rfl, rfl⟩) hHeld ?_)
    (try simp only [Act.put]); (try simp only [List.setIfInBounds_toArray]); (try simp only [List.set_cons_succ]); (try simp only [List.set_cons_zero])
    first | (refine wpAnyH_take (i := 8) (v := ?_) nth8 (by kernel_rfl) (by kernel_rfl) (by kernel_rfl) (fun _ _ _ h => h) (Or.inl ⟨by rfl, ?_⟩) hHeld ?_; rotate_left; focus (intro wS hSw; go_simp; try with_reducible rfl; done)) | (refine wpAnyH_take (i := 8) (v := undef) nth8 (by kernel_rfl) (by kernel_rfl) (by kernel_rfl) (fun _ _ _ h => h) (Or.inr ⟨by rfl, rfl⟩) hHeld ?_)
    (try simp only [Act.put]); (try simp only [List.setIfInBounds_toArray]); (try simp only [List.set_cons_succ]); (try simp only [List.set_cons_zero])
    first | (refine wpAnyH_take (i := 10) (v := ?_) nth10 (by kernel_rfl) (by kernel_rfl) (by kernel_rfl) (fun _ _ _ h => h) (Or.inl ⟨by rfl, ?_⟩) hHeld ?_; rotate_left; focus (intro wS hSw; go_simp; try with_reducible rfl; done)) | (refine wpAnyH_take (i := 10) (v := undef) nth10 (by kernel_rfl) (by kernel_rfl) (by kernel_rfl) (fun _ _ _ h => h) (Or.inr ⟨by rfl, rfl⟩) hHeld ?_)
    (try simp only [Act.put]); (try simp only [List.setIfInBounds_toArray]); (try simp only [List.set_cons_succ]); (try simp only [List.set_cons_zero])
    refine wpAnyH_ready (rs := [4]) (by kernel_rfl) (by simp) ?_
    refine AllReadyH.cons nth4 (fun K hK => ?_) AllReadyH.nil
    go_simp
    (first | (go_at_call 33; with_reducible refine (I1.out _ hHeld).mono ?_; rintro e w' ⟨A4, c4, rfl, hS, hb⟩; have R1 := hide hS; clear hS) | (go_at_call 33; with_reducible refine (I2.out _ hHeld).mono ?_; rintro e w' ⟨A5, c5, rfl, hS, hb⟩; have R2 := hide hS; replace R1 := hide (R1.out.kept hb); clear hS) | (go_at_call 41; with_reducible refine (QB.out _ _ _ _ _ hHeld R1.out R2.out).mono ?_; rintro e w' ⟨A6, c6, rfl, hS, hb⟩; have R3 := hide hS; clear hS))
    refine hK.out _ _ (Bel.then hHeld hb) (fun hHeld => ?_)
    clear hK K
    (try simp only [Act.put]); (try simp only [List.setIfInBounds_toArray]); (try simp only [List.set_cons_succ]); (try simp only [List.set_cons_zero])
    refine wpAnyH_ready (rs := [9]) (by kernel_rfl) (by simp) ?_
    refine AllReadyH.cons nth9 (fun K hK => ?_) AllReadyH.nil
    go_simp
    (first | (go_at_call 33; with_reducible refine (I1.out _ hHeld).mono ?_; rintro e w' ⟨A4, c4, rfl, hS, hb⟩; have R1 := hide hS; clear hS) | (go_at_call 33; with_reducible refine (I2.out _ hHeld).mono ?_; rintro e w' ⟨A5, c5, rfl, hS, hb⟩; have R2 := hide hS; replace R1 := hide (R1.out.kept hb); clear hS) | (go_at_call 41; with_reducible refine (QB.out _ _ _ _ _ hHeld R1.out R2.out).mono ?_; rintro e w' ⟨A6, c6, rfl, hS, hb⟩; have R3 := hide hS; clear hS))
    refine hK.out _ _ (Bel.then hHeld hb) (fun hHeld => ?_)
    clear hK K
    (try simp only [Act.put]); (try simp only [List.setIfInBounds_toArray]); (try simp only [List.set_cons_succ]); (try simp only [List.set_cons_zero])
    refine wpAnyH_ready (rs := [11]) (by kernel_rfl) (by simp) ?_
    refine AllReadyH.cons nth11 (fun K hK => ?_) AllReadyH.nil
    go_simp
    (first | (go_at_call 33; with_reducible refine (I1.out _ hHeld).mono ?_; rintro e w' ⟨A4, c4, rfl, hS, hb⟩; have R1 := hide hS; clear hS) | (go_at_call 33; with_reducible refine (I2.out _ hHeld).mono ?_; rintro e w' ⟨A5, c5, rfl, hS, hb⟩; have R2 := hide hS; replace R1 := hide (R1.out.kept hb); clear hS) | (go_at_call 41; with_reducible refine (QB.out _ _ _ _ _ hHeld R1.out R2.out).mono ?_; rintro e w' ⟨A6, c6, rfl, hS, hb⟩; have R3 := hide hS; clear hS))
    refine hK.out _ _ (Bel.then hHeld hb) (fun hHeld => ?_)
    clear hK K
    (try simp only [Act.put]); (try simp only [List.setIfInBounds_toArray]); (try simp only [List.set_cons_succ]); (try simp only [List.set_cons_zero])
    first | (refine wpAnyH_take (i := 12) (v := ?_) nth12 (by kernel_rfl) (by kernel_rfl) (by kernel_rfl) (fun _ _ _ h => h) (Or.inl ⟨by rfl, ?_⟩) hHeld ?_; rotate_left; focus (intro wS hSw; go_simp; try with_reducible rfl; done)) | (refine wpAnyH_take (i := 12) (v := undef) nth12 (by kernel_rfl) (by kernel_rfl) (by kernel_rfl) (fun _ _ _ h => h) (Or.inr ⟨by rfl, rfl⟩) hHeld ?_)
    (try simp only [Act.put]); (try simp only [List.setIfInBounds_toArray]); (try simp only [List.set_cons_succ]); (try simp only [List.set_cons_zero])
    refine wpAnyH_done (by kernel_rfl) ?_ _
    go_wp2_with fail
    go_ret
    exact ⟨A6, c6, rfl, R3.out, hHeld⟩
end Go.Proofs.Ytahdkfenpflahaa
