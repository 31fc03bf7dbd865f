/- The walk of slices.symMergeCmpFunc where the second part is one row. -/
import Derived.Test.YtobepbpiagclnaaDoorSymC
namespace Go.Proofs.YtobepbpiagclnaaDoor
set_option linter.unusedVariables false
open Go.ChangeShapes Go.WideShapes Go.ChangeAt Go.RowKit

set_option maxRecDepth 100000 in
set_option maxHeartbeats 4000000 in
theorem symLast_c (base g n cap a m b : Nat) (w : World) (P U S : List RowP) (y : RowP) (h : SortR base w g n cap (P ++ (U ++ ([y] ++ S)))) (ha : P.length = a) (hm : a + U.length = m) (hb : m + 1 = b) (hu : 2 ≤ U.length) (hU : RisesP U) (hg : base ≤ g) (hbw : base ≤ w.heap.size) (hn : n ≤ 1048576) :
    Calls Tryd.prog 39 #[.slice (some ⟨g, 0, none⟩) n cap, .int .i64 a, .int .i64 m, .int .i64 b, .func (.func 6) #[] #[]] w (GivesSym base g n cap w P (U ++ [y]) S) := by
  have hl := h.len
  simp only [List.length_append] at hl
  obtain ⟨lu, hlu⟩ : ∃ lu, U.length = lu := ⟨_, rfl⟩
  rw [hlu] at hm hu hl
  have w1 : IntKind.i64.wrap ((m : Int) - (a : Int)) = (lu : Int) := by rw [IntWalk.i64_in _ (by omega)]; omega
  have w2 : ((m : Int) - (a : Int)) = (lu : Int) := by omega
  have w2' : IntKind.i64.wrap (lu : Int) = (lu : Int) := IntWalk.i64_in _ (by omega)
  have q1 : ((lu : Int) == 1) = false := by rw [beq_eq_false_iff_ne]; omega
  have w3' : IntKind.i64.wrap ((b : Int) - (m : Int)) = 1 := by rw [IntWalk.i64_in _ (by omega)]; omega
  have w4' : ((b : Int) - (m : Int)) = 1 := by omega
  have HM0 : Hid (MovR base g n cap w w (P ++ (U ++ ([y] ++ S)))) := ⟨Below.refl _ _, h⟩
  have hbn : b ≤ n := by simp at hl; omega
  have ham : a ≤ m := by omega
  clear h hl
  go_enter Tryd.func39, Tryd.ntmps39
  go_wp2_with fail
  clear w1 w2 w2' q1 w3' w4'
  go_loopw [14, 15] (fun iv jv wr => ∃ i j : Nat, iv = .int .i64 i ∧ jv = .int .i64 j ∧ a ≤ i ∧ i ≤ j ∧ j ≤ m ∧ Hid (i = a ∨ ∃ u, U[i - a - 1]? = some u ∧ cmpR u.2 y.2 ≤ 0) ∧ Hid (j = m ∨ ∃ u, U[j - a]? = some u ∧ cmpR y.2 u.2 ≤ 0) ∧ Hid (MovR base g n cap w wr (P ++ (U ++ ([y] ++ S))))) (fun iv jv _ => (intOf jv).toNat - (intOf iv).toNat)
  case atStart => exact ⟨a, m, rfl, rfl, Nat.le_refl _, ham, Nat.le_refl _, .inl rfl, .inl rfl, HM0⟩
  case round =>
    clear HM0
    obtain ⟨i, j, rfl, rfl, hmi, hij, hjb, HI, HJ, HM⟩ := hrel
    by_cases hlt : i < j
    · have hlti : (i : Int) < j := by omega
      obtain ⟨h, hh⟩ : ∃ h, (i + j) / 2 = h := ⟨_, rfl⟩
      have w3 : ((i : Int) + (j : Int)) / 2 = (h : Int) := by omega
      obtain ⟨u, hx⟩ : ∃ u, U[h - a]? = some u := ⟨_, List.getElem?_eq_getElem (by omega)⟩
      obtain ⟨c1, s1, l1⟩ := HM.out.cellAt (i := m) (p := y) (by have := at_v P U [y] S (i := 0) (y := y) rfl; rw [ha, hlu] at this; rw [show a + lu + 0 = m from by omega] at this; exact this)
      obtain ⟨c2, s2, l2⟩ := HM.out.cellAt (i := h) (p := u) (by have := at_u P U ([y] ++ S) hx; rw [ha, show a + (h - a) = h from by omega] at this; exact this)
      have Q := hide (fun (W : World) (hW : Below wr.heap.size wr W) => orders_c y.1.A u.1.A y.1.n y.1.c u.1.n u.1.c y.2 u.2 W (s1.kept hW) (s2.kept hW))
      have l3 : (h : Int) < n := by omega
      have l4 : (m : Int) < n := by omega
      have hwh : IntKind.i64.wrap ((h : Int) + 1) = (h : Int) + 1 := IntWalk.i64_in _ (by omega)
      obtain ⟨z, hz⟩ : ∃ z, cmpR y.2 u.2 = z := ⟨_, rfl⟩
      rw [hz] at Q
      clear s1 s2 l1 l2
      go_wp2_with fail
      refine wp_region_held_drew (S := (fun w' => Below wr.heap.size wr w')) (by kernel_rfl) ((Below.refl _ _).drew) (fun hHeld => ?_)
      first | (refine wpAnyH_take (i := 0) (v := ?_) nth0 (by kernel_rfl) (by kernel_rfl) (by kernel_rfl) (fun _ _ _ h => h) (Or.inl ⟨by rfl, ?_⟩) hHeld ?_; rotate_left; focus (intro wS hSw; (have k0 := kept hSw c1; have k1 := kept hSw c2); go_simp; try with_reducible rfl; done)) | (refine wpAnyH_take (i := 0) (v := undef) nth0 (by kernel_rfl) (by kernel_rfl) (by kernel_rfl) (fun _ _ _ h => h) (Or.inr ⟨by rfl, rfl⟩) hHeld ?_)
      (try simp only [Act.put]); (try simp only [List.setIfInBounds_toArray]); (try simp only [List.set_cons_succ]); (try simp only [List.set_cons_zero])
      first | (refine wpAnyH_take (i := 1) (v := ?_) nth1 (by kernel_rfl) (by kernel_rfl) (by kernel_rfl) (fun _ _ _ h => h) (Or.inl ⟨by rfl, ?_⟩) hHeld ?_; rotate_left; focus (intro wS hSw; (have k0 := kept hSw c1; have k1 := kept hSw c2); go_simp; try with_reducible rfl; done)) | (refine wpAnyH_take (i := 1) (v := undef) nth1 (by kernel_rfl) (by kernel_rfl) (by kernel_rfl) (fun _ _ _ h => h) (Or.inr ⟨by rfl, rfl⟩) hHeld ?_)
      (try simp only [Act.put]); (try simp only [List.setIfInBounds_toArray]); (try simp only [List.set_cons_succ]); (try simp only [List.set_cons_zero])
      first | (refine wpAnyH_take (i := 2) (v := ?_) nth2 (by kernel_rfl) (by kernel_rfl) (by kernel_rfl) (fun _ _ _ h => h) (Or.inl ⟨by rfl, ?_⟩) hHeld ?_; rotate_left; focus (intro wS hSw; (have k0 := kept hSw c1; have k1 := kept hSw c2); go_simp; try with_reducible rfl; done)) | (refine wpAnyH_take (i := 2) (v := undef) nth2 (by kernel_rfl) (by kernel_rfl) (by kernel_rfl) (fun _ _ _ h => h) (Or.inr ⟨by rfl, rfl⟩) hHeld ?_)
      (try simp only [Act.put]); (try simp only [List.setIfInBounds_toArray]); (try simp only [List.set_cons_succ]); (try simp only [List.set_cons_zero])
      first | (refine wpAnyH_take (i := 3) (v := ?_) nth3 (by kernel_rfl) (by kernel_rfl) (by kernel_rfl) (fun _ _ _ h => h) (Or.inl ⟨by rfl, ?_⟩) hHeld ?_; rotate_left; focus (intro wS hSw; (have k0 := kept hSw c1; have k1 := kept hSw c2); go_simp; try with_reducible rfl; done)) | (refine wpAnyH_take (i := 3) (v := undef) nth3 (by kernel_rfl) (by kernel_rfl) (by kernel_rfl) (fun _ _ _ h => h) (Or.inr ⟨by rfl, rfl⟩) hHeld ?_)
      (try simp only [Act.put]); (try simp only [List.setIfInBounds_toArray]); (try simp only [List.set_cons_succ]); (try simp only [List.set_cons_zero])
      first | (refine wpAnyH_take (i := 4) (v := ?_) nth4 (by kernel_rfl) (by kernel_rfl) (by kernel_rfl) (fun _ _ _ h => h) (Or.inl ⟨by rfl, ?_⟩) hHeld ?_; rotate_left; focus (intro wS hSw; (have k0 := kept hSw c1; have k1 := kept hSw c2); go_simp; try with_reducible rfl; done)) | (refine wpAnyH_take (i := 4) (v := undef) nth4 (by kernel_rfl) (by kernel_rfl) (by kernel_rfl) (fun _ _ _ h => h) (Or.inr ⟨by rfl, rfl⟩) hHeld ?_)
      (try simp only [Act.put]); (try simp only [List.setIfInBounds_toArray]); (try simp only [List.set_cons_succ]); (try simp only [List.set_cons_zero])
      first | (refine wpAnyH_take (i := 5) (v := ?_) nth5 (by kernel_rfl) (by kernel_rfl) (by kernel_rfl) (fun _ _ _ h => h) (Or.inl ⟨by rfl, ?_⟩) hHeld ?_; rotate_left; focus (intro wS hSw; (have k0 := kept hSw c1; have k1 := kept hSw c2); go_simp; try with_reducible rfl; done)) | (refine wpAnyH_take (i := 5) (v := undef) nth5 (by kernel_rfl) (by kernel_rfl) (by kernel_rfl) (fun _ _ _ h => h) (Or.inr ⟨by rfl, rfl⟩) hHeld ?_)
      (try simp only [Act.put]); (try simp only [List.setIfInBounds_toArray]); (try simp only [List.set_cons_succ]); (try simp only [List.set_cons_zero])
      first | (refine wpAnyH_take (i := 6) (v := ?_) nth6 (by kernel_rfl) (by kernel_rfl) (by kernel_rfl) (fun _ _ _ h => h) (Or.inl ⟨by rfl, ?_⟩) hHeld ?_; rotate_left; focus (intro wS hSw; (have k0 := kept hSw c1; have k1 := kept hSw c2); go_simp; try with_reducible rfl; done)) | (refine wpAnyH_take (i := 6) (v := undef) nth6 (by kernel_rfl) (by kernel_rfl) (by kernel_rfl) (fun _ _ _ h => h) (Or.inr ⟨by rfl, rfl⟩) hHeld ?_)
      (try simp only [Act.put]); (try simp only [List.setIfInBounds_toArray]); (try simp only [List.set_cons_succ]); (try simp only [List.set_cons_zero])
      first | (refine wpAnyH_take (i := 7) (v := ?_) nth7 (by kernel_rfl) (by kernel_rfl) (by kernel_rfl) (fun _ _ _ h => h) (Or.inl ⟨by rfl, ?_⟩) hHeld ?_; rotate_left; focus (intro wS hSw; (have k0 := kept hSw c1; have k1 := kept hSw c2); go_simp; try with_reducible rfl; done)) | (refine wpAnyH_take (i := 7) (v := undef) nth7 (by kernel_rfl) (by kernel_rfl) (by kernel_rfl) (fun _ _ _ h => h) (Or.inr ⟨by rfl, rfl⟩) hHeld ?_)
      (try simp only [Act.put]); (try simp only [List.setIfInBounds_toArray]); (try simp only [List.set_cons_succ]); (try simp only [List.set_cons_zero])
      first | (refine wpAnyH_take (i := 8) (v := ?_) nth8 (by kernel_rfl) (by kernel_rfl) (by kernel_rfl) (fun _ _ _ h => h) (Or.inl ⟨by rfl, ?_⟩) hHeld ?_; rotate_left; focus (intro wS hSw; (have k0 := kept hSw c1; have k1 := kept hSw c2); go_simp; try with_reducible rfl; done)) | (refine wpAnyH_take (i := 8) (v := undef) nth8 (by kernel_rfl) (by kernel_rfl) (by kernel_rfl) (fun _ _ _ h => h) (Or.inr ⟨by rfl, rfl⟩) hHeld ?_)
      (try simp only [Act.put]); (try simp only [List.setIfInBounds_toArray]); (try simp only [List.set_cons_succ]); (try simp only [List.set_cons_zero])
      refine wpAnyH_ready (rs := [9]) (by kernel_rfl) (by simp) ?_
      refine AllReadyH.cons nth9 (fun K hK => ?_) AllReadyH.nil
      go_simp
      (go_at_call 6; refine (Q.out _ hHeld).mono ?_; rintro e w' ⟨rfl, hb⟩)
      refine hK.out _ _ (Bel.then hHeld hb) (fun hHeld => ?_)
      clear hK K
      (try simp only [Act.put]); (try simp only [List.setIfInBounds_toArray]); (try simp only [List.set_cons_succ]); (try simp only [List.set_cons_zero])
      first | (refine wpAnyH_take (i := 10) (v := ?_) nth10 (by kernel_rfl) (by kernel_rfl) (by kernel_rfl) (fun _ _ _ h => h) (Or.inl ⟨by rfl, ?_⟩) hHeld ?_; rotate_left; focus (intro wS hSw; (have k0 := kept hSw c1; have k1 := kept hSw c2); go_simp; try with_reducible rfl; done)) | (refine wpAnyH_take (i := 10) (v := undef) nth10 (by kernel_rfl) (by kernel_rfl) (by kernel_rfl) (fun _ _ _ h => h) (Or.inr ⟨by rfl, rfl⟩) hHeld ?_)
      (try simp only [Act.put]); (try simp only [List.setIfInBounds_toArray]); (try simp only [List.set_cons_succ]); (try simp only [List.set_cons_zero])
      first | (refine wpAnyH_take (i := 11) (v := ?_) nth11 (by kernel_rfl) (by kernel_rfl) (by kernel_rfl) (fun _ _ _ h => h) (Or.inl ⟨by rfl, ?_⟩) hHeld ?_; rotate_left; focus (intro wS hSw; (have k0 := kept hSw c1; have k1 := kept hSw c2); go_simp; try with_reducible rfl; done)) | (refine wpAnyH_take (i := 11) (v := undef) nth11 (by kernel_rfl) (by kernel_rfl) (by kernel_rfl) (fun _ _ _ h => h) (Or.inr ⟨by rfl, rfl⟩) hHeld ?_)
      (try simp only [Act.put]); (try simp only [List.setIfInBounds_toArray]); (try simp only [List.set_cons_succ]); (try simp only [List.set_cons_zero])
      refine wpAnyH_done (by kernel_rfl) ?_ _
      replace HM := hide (HM.out.kept (HM.out.low hbw) hHeld)
      clear hHeld c1 c2 Q
      generalize hq : decide (z < 0) = q
      cases q with
      | true =>
        have hz0 : z < 0 := of_decide_eq_true hq
        have HJ2 : Hid (h = m ∨ ∃ u, U[h - a]? = some u ∧ cmpR y.2 u.2 ≤ 0) := .inr ⟨u, hx, by omega⟩
        clear hz hx HJ hq hz0
        go_wp2_with fail
        go_roundw
        case rel => exact ⟨i, h, rfl, rfl, hmi, by omega, by omega, HI, HJ2, HM⟩
        case measure => simp [intOf]; omega
      | false =>
        have hz0 : ¬ z < 0 := of_decide_eq_false hq
        have HI2 : Hid (h + 1 = a ∨ ∃ u, U[h + 1 - a - 1]? = some u ∧ cmpR u.2 y.2 ≤ 0) := .inr ⟨u, by rw [show h + 1 - a - 1 = h - a from by omega]; exact hx, by have := cmpR_neg y.2 u.2; omega⟩
        clear hz hx HI hq hz0
        go_wp2_with fail
        go_roundw
        case rel => exact ⟨h + 1, j, by go_num, rfl, by omega, by omega, hjb, HI2, HJ, HM⟩
        case measure => simp [intOf]; omega
    · have hlti : ¬ (i : Int) < j := by omega
      obtain rfl : i = j := by omega
      obtain ⟨t, ht⟩ : ∃ t, i - a = t := ⟨_, rfl⟩
      have e1 : i = a → t = 0 := by omega
      have e2 : i = m → U.length ≤ t := by omega
      have hR : RisesP (U.take t ++ y :: U.drop t) ∧ (U.take t ++ y :: U.drop t).Perm (y :: U) := by
        have hI := HI.out
        have hJ := HJ.out
        rw [ht] at hI hJ
        exact one_in (i := t) hU (hI.elim (fun e => .inl (e1 e)) .inr) (hJ.elim (fun e => .inl (e2 e)) .inr)
      have HR := hide hR
      have hit : a + t = i := by omega
      have HM1 : Hid (MovR base g n cap w wr (mv1 P y U S lu)) := by
        have := HM.out
        show MovR _ _ _ _ _ _ _
        unfold mv1
        rw [List.take_of_length_le (by omega), List.drop_of_length_le (by omega)]
        simpa using this
      have htv : t ≤ lu := by omega
      have hati : a + lu + 1 ≤ n := by omega
      clear hR e1 e2 HI HJ HM ht
      go_wp2_with fail
      go_loopw [17] (fun v wr => ∃ k : Nat, t ≤ k ∧ k ≤ lu ∧ v = .int .i64 ((a + k : Nat) : Int) ∧ Hid (MovR base g n cap w wr (mv1 P y U S k))) (fun v _ => (intOf v).toNat)
      case atStart => exact ⟨lu, htv, Nat.le_refl _, by rw [hm], HM1⟩
      case round =>
        clear HM1
        obtain ⟨k, hk, hkl, rfl, HM⟩ := hrel
        by_cases hkt : t < k
        · obtain ⟨d, rfl⟩ : ∃ d, k = d + 1 := ⟨k - 1, by omega⟩
          obtain ⟨q, hq⟩ : ∃ q, U[d]? = some q := ⟨_, List.getElem?_eq_getElem (by omega)⟩
          have hh := HM.out
          rw [mv1_next P y U S hq] at hh
          have HN := hide (mv1_here P y U S hq)
          have hL : a + d = (P ++ U.take d).length := by rw [List.length_append, List.length_take]; omega
          have hM : a + (d + 1) = (P ++ U.take d).length + 1 + ([] : List RowP).length := by rw [← hL]; rfl
          obtain ⟨c1, c2, z1, z2, hbn2⟩ := hh.cells hL hM
          have HS := hide ((hh.kept (hh.low hbw) (Below.refl wr.heap.size wr).drew).swap hg hL hM)
          rw [← HN.out] at HS
          have hlt2 : (i : Int) < ((a + (d + 1) : Nat) : Int) := by omega
          have l1 : ((a + d : Nat) : Int) < n := by omega
          have l2 : ((a + (d + 1) : Nat) : Int) < n := by omega
          have l3 : (0 : Int) ≤ ((a + d : Nat) : Int) := by omega
          have l4 : (0 : Int) ≤ ((a + (d + 1) : Nat) : Int) := by omega
          have n1 : a + d ≠ a + (d + 1) := by omega
          have n2 : a + (d + 1) ≠ a + d := by omega
          have w5 : IntKind.i64.wrap (((a + (d + 1) : Nat) : Int) - 1) = ((a + d : Nat) : Int) := by rw [IntWalk.i64_in _ (by omega)]; omega
          have w6 : ((a + (d + 1) : Nat) : Int) - 1 = ((a + d : Nat) : Int) := by omega
          have w7 : IntKind.i64.wrap ((a + d : Nat) : Int) = ((a + d : Nat) : Int) := IntWalk.i64_in _ (by omega)
          have hms : a + d < a + (d + 1) := by omega
          clear hL hM hh HN HM hq
          generalize hk1 : a + (d + 1) = k1 at *
          generalize hk0 : a + d = k0 at *
          unfold headV at c1 c2 HS
          go_wp2_with fail
          go_region
          go_wp2_with fail
          go_roundw
          case rel => exact ⟨d, by omega, by omega, by rw [show k0 = a + d from by omega], HS⟩
          case measure => simp [intOf]; omega
        · obtain rfl : k = t := by omega
          have hlt2 : ¬ (i : Int) < ((a + k : Nat) : Int) := by omega
          have HE : Hid (MovR base g n cap w wr (P ++ ((U.take k ++ y :: U.drop k) ++ S))) := by
            have := HM.out
            show MovR _ _ _ _ _ _ _
            simpa [mv1] using this
          clear HM
          go_wp2_with fail
          go_end0
          exact ⟨rfl, _, HR.out.2.trans (List.perm_append_singleton y U).symm, HR.out.1, HE.out⟩
end Go.Proofs.YtobepbpiagclnaaDoor
