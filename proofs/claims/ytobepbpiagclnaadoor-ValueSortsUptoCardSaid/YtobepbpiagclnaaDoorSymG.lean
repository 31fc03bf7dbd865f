/- The walk of slices.stableCmpFunc, and of slices.SortStableFunc: any rows become a rising permutation. -/
import Derived.Test.YtobepbpiagclnaaDoorSymF
namespace Go.Proofs.YtobepbpiagclnaaDoor
set_option linter.unusedVariables false
open Go.ChangeShapes Go.WideShapes Go.ChangeAt Go.RowKit

theorem cutT (D : List RowP) (a s : Nat) (h : a + s ≤ D.length) : ∃ P T S, D = P ++ (T ++ S) ∧ P.length = a ∧ T.length = s :=
  ⟨D.take a, (D.drop a).take s, D.drop (a + s), (cut3 D a s).symm, by rw [List.length_take]; omega, by rw [List.length_take, List.length_drop]; omega⟩
theorem cut4 (D : List RowP) (a s t : Nat) (h : a + s + t ≤ D.length) : ∃ P U V S, D = P ++ ((U ++ V) ++ S) ∧ P.length = a ∧ U.length = s ∧ V.length = t := by
  obtain ⟨P, T, S, rfl, hP, hT⟩ := cutT D a (s + t) (by omega)
  exact ⟨P, T.take s, T.drop s, S, by rw [List.take_append_drop], hP, by rw [List.length_take]; omega, by rw [List.length_drop]; omega⟩
set_option maxRecDepth 100000 in
set_option maxHeartbeats 16000000 in
theorem stableG_c (base g n cap : Nat) (w : World) (D0 : List RowP) (h : SortR base w g n cap D0) (hg : base ≤ g) (hbw : base ≤ w.heap.size) (hn : n ≤ 1048576) :
    Calls Tryd.prog 28 #[.slice (some ⟨g, 0, none⟩) n cap, .int .i64 n, (.func (.func 6) #[] #[])] w (GivesStable base g n cap w D0) := by
  have hl := h.len
  have HM0 : Hid (MovR base g n cap w w D0) := ⟨Below.refl _ _, h⟩
  have HK0 := hide (blk_start 20 D0)
  have HP0 := hide (List.Perm.refl D0)
  clear h
  go_enter Tryd.func28, Tryd.ntmps28
  go_wp2_with fail
  go_loopw [7, 8] (fun av bv wr => ∃ (a b q : Nat) (D : List RowP), av = .int .i64 a ∧ bv = .int .i64 b ∧ a + 20 = b ∧ a ≤ n ∧ Hid (a = q * 20) ∧ Hid (BlkTo 20 1 a D) ∧ Hid (D.Perm D0) ∧ Hid (MovR base g n cap w wr D)) (fun av _ _ => n - (intOf av).toNat)
  case atStart => exact ⟨0, 20, 0, D0, rfl, rfl, rfl, Nat.zero_le _, rfl, HK0, HP0, HM0⟩
  case round =>
    clear HM0 HK0 HP0
    obtain ⟨a, b, q, D, rfl, rfl, hab, han, HQ, HK, HP, HM⟩ := hrel
    have hDl := HM.out.at_.len
    by_cases hbn : b ≤ n
    · have hbni : (b : Int) ≤ n := by omega
      obtain ⟨L, T, R, rfl, hL, hT⟩ := cutT D a 20 (by omega)
      have Q := hide (insertG_c base g n cap a b wr L T R (by have := HM.out.at_; rw [List.append_assoc]; exact this) hL (by omega) (by omega) hg (HM.out.low hbw) hn)
      have HN : Hid (∀ W, W.Perm T → RisesP W → BlkTo 20 1 b (L ++ (W ++ R)) ∧ (L ++ (W ++ R)).Perm D0) := fun W hp hr => ⟨by
        have := blk_step (T' := W) (by omega) HQ.out hL hp.length_eq (by omega) (.inl hT) HK.out hr
        rw [hab] at this
        exact this, perm_mid rfl hp HP.out⟩
      have HB := hide HM.out.below
      obtain ⟨b2, hb2⟩ : ∃ b2, b + 20 = b2 := ⟨_, rfl⟩
      have x4 : IntKind.i64.wrap ((b : Int) + 20) = (b2 : Int) := by rw [IntWalk.i64_in _ (by omega)]; omega
      have x5 : ((b : Int) + 20) = (b2 : Int) := by omega
      have x6 : IntKind.i64.wrap (b2 : Int) = (b2 : Int) := IntWalk.i64_in _ (by omega)
      have HQ2 : Hid (b = (q + 1) * 20) := by have := HQ.out; show _ = _; omega
      have hmeas : n - b < n - a := by omega
      clear HM HK HP HQ hL hT hDl
      go_wp2_with fail
      refine Q.out.mono ?_
      rintro e wa ⟨rfl, W, hO⟩
      have HM := hide (show MovR base g n cap w wa (L ++ (W ++ R)) from ⟨HB.out.trans hO.below, by have := hO.at_; rw [List.append_assoc] at this; exact this⟩)
      have HK := hide (HN.out W hO.perm hO.rises).1
      have HP := hide (HN.out W hO.perm hO.rises).2
      clear hO Q HN HB
      go_wp2_with fail
      go_roundw
      case rel => exact ⟨b, b2, q + 1, _, rfl, rfl, hb2, hbn, HQ2, HK, HP, HM⟩
      case measure => simp [intOf]; omega
    · have hbni : ¬ (b : Int) ≤ n := by omega
      by_cases han2 : a < n
      · obtain ⟨L, T, R, rfl, hL, hT⟩ := cutT D a (n - a) (by omega)
        have hS : R = [] := List.eq_nil_of_length_eq_zero (by simp only [List.length_append] at hDl; omega)
        have Q := hide (insertG_c base g n cap a n wr L T R (by have := HM.out.at_; rw [List.append_assoc]; exact this) hL (by omega) han2 hg (HM.out.low hbw) hn)
        have HN : Hid (∀ W, W.Perm T → RisesP W → (∃ t k, BlkTo 20 t k (L ++ (W ++ R)) ∧ (L ++ (W ++ R)).length ≤ k) ∧ (L ++ (W ++ R)).Perm D0) := fun W hp hr => ⟨⟨1, a + 20, blk_step (T' := W) (by omega) HQ.out hL hp.length_eq (by omega) (.inr hS) HK.out hr, by have := hp.length_eq; simp only [List.length_append] at hDl ⊢; omega⟩, perm_mid rfl hp HP.out⟩
        have HB := hide HM.out.below
        clear HM HK HP HQ hL hT hDl hS
        go_wp2_with fail
        refine Q.out.mono ?_
        rintro e wa ⟨rfl, W, hO⟩
        have HM := hide (show MovR base g n cap w wa (L ++ (W ++ R)) from ⟨HB.out.trans hO.below, by have := hO.at_; rw [List.append_assoc] at this; exact this⟩)
        have HK := hide (HN.out W hO.perm hO.rises).1
        have HP := hide (HN.out W hO.perm hO.rises).2
        clear hO Q HN HB
        go_wp2_with fail
        go_loopw [6] (fun sv wr => ∃ (s : Nat) (D : List RowP), sv = .int .i64 s ∧ 1 ≤ s ∧ s ≤ 2 * n + 20 ∧ Hid (∃ t k, BlkTo s t k D ∧ D.length ≤ k) ∧ Hid (D.Perm D0) ∧ Hid (MovR base g n cap w wr D)) (fun sv _ => n - (intOf sv).toNat)
        case atStart => exact ⟨20, _, rfl, by omega, by omega, HK, HP, HM⟩
        case round =>
          clear HK HP HM
          obtain ⟨s, D, rfl, hs1, hsn, HK, HP, HM⟩ := hrel
          by_cases hlt : s < n
          · have hlti : (s : Int) < n := by omega
            obtain ⟨s2, hs2⟩ : ∃ s2, 2 * s = s2 := ⟨_, rfl⟩
            have w1 : IntKind.i64.wrap (2 * (s : Int)) = (s2 : Int) := by rw [IntWalk.i64_in _ (by omega)]; omega
            have w2 : (2 * (s : Int)) = (s2 : Int) := by omega
            have w3 : IntKind.i64.wrap ((s : Int) * 2) = (s2 : Int) := by rw [IntWalk.i64_in _ (by omega)]; omega
            have w4 : ((s : Int) * 2) = (s2 : Int) := by omega
            have w5 : IntKind.i64.wrap (s2 : Int) = (s2 : Int) := IntWalk.i64_in _ (by omega)
            have HK2 : Hid (BlkTo s2 s 0 D) := by
              obtain ⟨t, k, h1, h2⟩ := HK.out
              exact blk_again h1 h2
            have hs2b : s2 ≤ 2 * n + 20 := by omega
            have hs20 : 1 ≤ s2 := by omega
            have hs21 : n - s2 < n - s := by omega
            clear HK
            go_wp2_with fail
            go_loopw [7, 8] (fun av bv wr => ∃ (a b q : Nat) (D : List RowP), av = .int .i64 a ∧ bv = .int .i64 b ∧ a + s2 = b ∧ a ≤ n ∧ Hid (a = (2 * q) * s) ∧ Hid (BlkTo s2 s a D) ∧ Hid (D.Perm D0) ∧ Hid (MovR base g n cap w wr D)) (fun av _ _ => n - (intOf av).toNat)
            case atStart => exact ⟨0, s2, 0, D, rfl, rfl, by omega, Nat.zero_le _, by show 0 = _; simp, HK2, HP, HM⟩
            case round =>
              clear HK2 HP HM
              obtain ⟨a, b, q, D, rfl, rfl, hab, han, HQ, HK, HP, HM⟩ := hrel
              have hDl := HM.out.at_.len
              obtain ⟨m, hm⟩ : ∃ m, a + s = m := ⟨_, rfl⟩
              have x1 : IntKind.i64.wrap ((a : Int) + (s : Int)) = (m : Int) := by rw [IntWalk.i64_in _ (by omega)]; omega
              have x2 : ((a : Int) + (s : Int)) = (m : Int) := by omega
              have x3 : IntKind.i64.wrap (m : Int) = (m : Int) := IntWalk.i64_in _ (by omega)
              have hq1 : a = q * s2 := by rw [HQ.out, ← hs2, Nat.mul_comm 2 q, Nat.mul_assoc]
              by_cases hbn : b ≤ n
              · have hbni : (b : Int) ≤ n := by omega
                obtain ⟨P, U, V, S, rfl, hP, hU, hV⟩ := cut4 D a s s (by omega)
                have rU : RisesP U := blk_part (L := P) (T := U) (R := V ++ S) (q := 2 * q) (by have := HK.out; rw [List.append_assoc] at this; exact this) (by omega) (by rw [hP]; exact HQ.out) (by omega)
                have rV : RisesP V := blk_part (L := P ++ U) (T := V) (R := S) (q := 2 * q + 1) (by have := HK.out; simpa using this) (by rw [List.length_append]; omega) (by rw [List.length_append, hP, hU, Nat.add_mul, Nat.one_mul, ← HQ.out]) (by omega)
                have Q := hide (symMerge_c base g n cap hg hn (U.length + V.length) P U V S a m b wr hP (by omega) (by omega) (by omega) (by omega) (Nat.le_refl _) rU rV (HM.out.low hbw) (by have := HM.out.at_; rw [List.append_assoc] at this; exact this))
                have HN : Hid (∀ W, W.Perm (U ++ V) → RisesP W → BlkTo s2 s b (P ++ (W ++ S)) ∧ (P ++ (W ++ S)).Perm D0) := fun W hp hr => ⟨by
                  have := blk_step (T' := W) (by omega) hq1 hP hp.length_eq (by rw [List.length_append]; omega) (.inl (by rw [List.length_append]; omega)) HK.out hr
                  rw [hab] at this
                  exact this, perm_mid rfl hp HP.out⟩
                have HB := hide HM.out.below
                obtain ⟨b2, hb2⟩ : ∃ b2, b + s2 = b2 := ⟨_, rfl⟩
                have x4 : IntKind.i64.wrap ((b : Int) + (s2 : Int)) = (b2 : Int) := by rw [IntWalk.i64_in _ (by omega)]; omega
                have x5 : ((b : Int) + (s2 : Int)) = (b2 : Int) := by omega
                have x6 : IntKind.i64.wrap (b2 : Int) = (b2 : Int) := IntWalk.i64_in _ (by omega)
                have HQ2 : Hid (b = (2 * (q + 1)) * s) := by show _ = _; rw [← hab, HQ.out, ← hs2, Nat.mul_add, Nat.add_mul]
                have hmeas : n - b < n - a := by omega
                clear HM HK HP HQ hq1 rU rV hP hU hV hDl
                go_wp2_with fail
                refine Q.out.mono ?_
                rintro e wa ⟨rfl, W, p, r, hM⟩
                have HM := hide (show MovR base g n cap w wa (P ++ (W ++ S)) from ⟨HB.out.trans hM.below, hM.at_⟩)
                have HK := hide (HN.out W p r).1
                have HP := hide (HN.out W p r).2
                clear hM p r Q HN HB
                go_wp2_with fail
                go_roundw
                case rel => exact ⟨b, b2, q + 1, _, rfl, rfl, hb2, hbn, HQ2, HK, HP, HM⟩
                case measure => simp [intOf]; omega
              · have hbni : ¬ (b : Int) ≤ n := by omega
                by_cases hmn : m < n
                · have hmni : (m : Int) < n := by omega
                  obtain ⟨P, U, V, S, rfl, hP, hU, hV⟩ := cut4 D a s (n - m) (by omega)
                  have hS : S = [] := List.eq_nil_of_length_eq_zero (by simp only [List.length_append] at hDl; omega)
                  have rU : RisesP U := blk_part (L := P) (T := U) (R := V ++ S) (q := 2 * q) (by have := HK.out; rw [List.append_assoc] at this; exact this) (by omega) (by rw [hP]; exact HQ.out) (by omega)
                  have rV : RisesP V := blk_part (L := P ++ U) (T := V) (R := S) (q := 2 * q + 1) (by have := HK.out; simpa using this) (by rw [List.length_append]; omega) (by rw [List.length_append, hP, hU, Nat.add_mul, Nat.one_mul, ← HQ.out]) (by omega)
                  have Q := hide (symMerge_c base g n cap hg hn (U.length + V.length) P U V S a m n wr hP (by omega) (by omega) (by omega) (by omega) (Nat.le_refl _) rU rV (HM.out.low hbw) (by have := HM.out.at_; rw [List.append_assoc] at this; exact this))
                  have HN : Hid (∀ W, W.Perm (U ++ V) → RisesP W → (∃ t k, BlkTo s2 t k (P ++ (W ++ S)) ∧ (P ++ (W ++ S)).length ≤ k) ∧ (P ++ (W ++ S)).Perm D0) := fun W hp hr => ⟨⟨s, a + s2, blk_step (T' := W) (by omega) hq1 hP hp.length_eq (by rw [List.length_append]; omega) (.inr hS) HK.out hr, by have := hp.length_eq; simp only [List.length_append] at this hDl ⊢; omega⟩, perm_mid rfl hp HP.out⟩
                  have HB := hide HM.out.below
                  clear HM HK HP HQ hq1 rU rV hP hU hV hDl hS
                  go_wp2_with fail
                  refine Q.out.mono ?_
                  rintro e wa ⟨rfl, W, p, r, hM⟩
                  have HM := hide (show MovR base g n cap w wa (P ++ (W ++ S)) from ⟨HB.out.trans hM.below, hM.at_⟩)
                  have HK := hide (HN.out W p r).1
                  have HP := hide (HN.out W p r).2
                  clear hM p r Q HN HB
                  go_wp2_with fail
                  go_roundw
                  case rel => exact ⟨s2, _, rfl, hs20, hs2b, HK, HP, HM⟩
                  case measure => simp [intOf]; omega
                · have hmni : ¬ (m : Int) < n := by omega
                  obtain ⟨P, T, S, rfl, hP, hT⟩ := cutT D a (n - a) (by omega)
                  have hS : S = [] := List.eq_nil_of_length_eq_zero (by simp only [List.length_append] at hDl; omega)
                  have rT : RisesP T := blk_part (L := P) (T := T) (R := S) (q := 2 * q) HK.out (by omega) (by rw [hP]; exact HQ.out) (by omega)
                  have HK2 : Hid (∃ t k, BlkTo s2 t k (P ++ (T ++ S)) ∧ (P ++ (T ++ S)).length ≤ k) := ⟨s, a + s2, blk_step (T' := T) (by omega) hq1 hP rfl (by omega) (.inr hS) HK.out rT, by omega⟩
                  clear HK HQ hq1 rT hP hT hDl hS
                  go_wp2_with fail
                  go_roundw
                  case rel => exact ⟨s2, _, rfl, hs20, hs2b, HK2, HP, HM⟩
                  case measure => simp [intOf]; omega
          · have hlti : ¬ (s : Int) < n := by omega
            have hDl := HM.out.at_.len
            have HR : Hid (RisesP D) := by
              obtain ⟨t, k, h1, h2⟩ := HK.out
              exact blk_end h1 h2 (by omega)
            clear HK hDl
            go_wp2_with fail
            go_end0
            exact ⟨rfl, D, HP.out, HR.out, HM.out⟩
      · have hna : n = a := by omega
        subst hna
        have Q := hide (insertE_c (.slice (some ⟨g, 0, none⟩) n cap) (.func (.func 6) #[] #[]) n wr hn)
        have HK2 : Hid (∃ t k, BlkTo 20 t k D ∧ D.length ≤ k) := ⟨1, n, HK.out, by omega⟩
        clear HK HQ
        go_wp2_with fail
        refine Q.out.mono ?_
        rintro e wa ⟨rfl, rfl⟩
        have HK := hide HK2.out
        clear HK2 hDl Q
        go_wp2_with fail
        go_loopw [6] (fun sv wr => ∃ (s : Nat) (D : List RowP), sv = .int .i64 s ∧ 1 ≤ s ∧ s ≤ 2 * n + 20 ∧ Hid (∃ t k, BlkTo s t k D ∧ D.length ≤ k) ∧ Hid (D.Perm D0) ∧ Hid (MovR base g n cap w wr D)) (fun sv _ => n - (intOf sv).toNat)
        case atStart => exact ⟨20, _, rfl, by omega, by omega, HK, HP, HM⟩
        case round =>
          clear HK HP HM
          obtain ⟨s, D, rfl, hs1, hsn, HK, HP, HM⟩ := hrel
          by_cases hlt : s < n
          · have hlti : (s : Int) < n := by omega
            obtain ⟨s2, hs2⟩ : ∃ s2, 2 * s = s2 := ⟨_, rfl⟩
            have w1 : IntKind.i64.wrap (2 * (s : Int)) = (s2 : Int) := by rw [IntWalk.i64_in _ (by omega)]; omega
            have w2 : (2 * (s : Int)) = (s2 : Int) := by omega
            have w3 : IntKind.i64.wrap ((s : Int) * 2) = (s2 : Int) := by rw [IntWalk.i64_in _ (by omega)]; omega
            have w4 : ((s : Int) * 2) = (s2 : Int) := by omega
            have w5 : IntKind.i64.wrap (s2 : Int) = (s2 : Int) := IntWalk.i64_in _ (by omega)
            have HK2 : Hid (BlkTo s2 s 0 D) := by
              obtain ⟨t, k, h1, h2⟩ := HK.out
              exact blk_again h1 h2
            have hs2b : s2 ≤ 2 * n + 20 := by omega
            have hs20 : 1 ≤ s2 := by omega
            have hs21 : n - s2 < n - s := by omega
            clear HK
            go_wp2_with fail
            go_loopw [7, 8] (fun av bv wr => ∃ (a b q : Nat) (D : List RowP), av = .int .i64 a ∧ bv = .int .i64 b ∧ a + s2 = b ∧ a ≤ n ∧ Hid (a = (2 * q) * s) ∧ Hid (BlkTo s2 s a D) ∧ Hid (D.Perm D0) ∧ Hid (MovR base g n cap w wr D)) (fun av _ _ => n - (intOf av).toNat)
            case atStart => exact ⟨0, s2, 0, D, rfl, rfl, by omega, Nat.zero_le _, by show 0 = _; simp, HK2, HP, HM⟩
            case round =>
              clear HK2 HP HM
              obtain ⟨a, b, q, D, rfl, rfl, hab, han, HQ, HK, HP, HM⟩ := hrel
              have hDl := HM.out.at_.len
              obtain ⟨m, hm⟩ : ∃ m, a + s = m := ⟨_, rfl⟩
              have x1 : IntKind.i64.wrap ((a : Int) + (s : Int)) = (m : Int) := by rw [IntWalk.i64_in _ (by omega)]; omega
              have x2 : ((a : Int) + (s : Int)) = (m : Int) := by omega
              have x3 : IntKind.i64.wrap (m : Int) = (m : Int) := IntWalk.i64_in _ (by omega)
              have hq1 : a = q * s2 := by rw [HQ.out, ← hs2, Nat.mul_comm 2 q, Nat.mul_assoc]
              by_cases hbn : b ≤ n
              · have hbni : (b : Int) ≤ n := by omega
                obtain ⟨P, U, V, S, rfl, hP, hU, hV⟩ := cut4 D a s s (by omega)
                have rU : RisesP U := blk_part (L := P) (T := U) (R := V ++ S) (q := 2 * q) (by have := HK.out; rw [List.append_assoc] at this; exact this) (by omega) (by rw [hP]; exact HQ.out) (by omega)
                have rV : RisesP V := blk_part (L := P ++ U) (T := V) (R := S) (q := 2 * q + 1) (by have := HK.out; simpa using this) (by rw [List.length_append]; omega) (by rw [List.length_append, hP, hU, Nat.add_mul, Nat.one_mul, ← HQ.out]) (by omega)
                have Q := hide (symMerge_c base g n cap hg hn (U.length + V.length) P U V S a m b wr hP (by omega) (by omega) (by omega) (by omega) (Nat.le_refl _) rU rV (HM.out.low hbw) (by have := HM.out.at_; rw [List.append_assoc] at this; exact this))
                have HN : Hid (∀ W, W.Perm (U ++ V) → RisesP W → BlkTo s2 s b (P ++ (W ++ S)) ∧ (P ++ (W ++ S)).Perm D0) := fun W hp hr => ⟨by
                  have := blk_step (T' := W) (by omega) hq1 hP hp.length_eq (by rw [List.length_append]; omega) (.inl (by rw [List.length_append]; omega)) HK.out hr
                  rw [hab] at this
                  exact this, perm_mid rfl hp HP.out⟩
                have HB := hide HM.out.below
                obtain ⟨b2, hb2⟩ : ∃ b2, b + s2 = b2 := ⟨_, rfl⟩
                have x4 : IntKind.i64.wrap ((b : Int) + (s2 : Int)) = (b2 : Int) := by rw [IntWalk.i64_in _ (by omega)]; omega
                have x5 : ((b : Int) + (s2 : Int)) = (b2 : Int) := by omega
                have x6 : IntKind.i64.wrap (b2 : Int) = (b2 : Int) := IntWalk.i64_in _ (by omega)
                have HQ2 : Hid (b = (2 * (q + 1)) * s) := by show _ = _; rw [← hab, HQ.out, ← hs2, Nat.mul_add, Nat.add_mul]
                have hmeas : n - b < n - a := by omega
                clear HM HK HP HQ hq1 rU rV hP hU hV hDl
                go_wp2_with fail
                refine Q.out.mono ?_
                rintro e wa ⟨rfl, W, p, r, hM⟩
                have HM := hide (show MovR base g n cap w wa (P ++ (W ++ S)) from ⟨HB.out.trans hM.below, hM.at_⟩)
                have HK := hide (HN.out W p r).1
                have HP := hide (HN.out W p r).2
                clear hM p r Q HN HB
                go_wp2_with fail
                go_roundw
                case rel => exact ⟨b, b2, q + 1, _, rfl, rfl, hb2, hbn, HQ2, HK, HP, HM⟩
                case measure => simp [intOf]; omega
              · have hbni : ¬ (b : Int) ≤ n := by omega
                by_cases hmn : m < n
                · have hmni : (m : Int) < n := by omega
                  obtain ⟨P, U, V, S, rfl, hP, hU, hV⟩ := cut4 D a s (n - m) (by omega)
                  have hS : S = [] := List.eq_nil_of_length_eq_zero (by simp only [List.length_append] at hDl; omega)
                  have rU : RisesP U := blk_part (L := P) (T := U) (R := V ++ S) (q := 2 * q) (by have := HK.out; rw [List.append_assoc] at this; exact this) (by omega) (by rw [hP]; exact HQ.out) (by omega)
                  have rV : RisesP V := blk_part (L := P ++ U) (T := V) (R := S) (q := 2 * q + 1) (by have := HK.out; simpa using this) (by rw [List.length_append]; omega) (by rw [List.length_append, hP, hU, Nat.add_mul, Nat.one_mul, ← HQ.out]) (by omega)
                  have Q := hide (symMerge_c base g n cap hg hn (U.length + V.length) P U V S a m n wr hP (by omega) (by omega) (by omega) (by omega) (Nat.le_refl _) rU rV (HM.out.low hbw) (by have := HM.out.at_; rw [List.append_assoc] at this; exact this))
                  have HN : Hid (∀ W, W.Perm (U ++ V) → RisesP W → (∃ t k, BlkTo s2 t k (P ++ (W ++ S)) ∧ (P ++ (W ++ S)).length ≤ k) ∧ (P ++ (W ++ S)).Perm D0) := fun W hp hr => ⟨⟨s, a + s2, blk_step (T' := W) (by omega) hq1 hP hp.length_eq (by rw [List.length_append]; omega) (.inr hS) HK.out hr, by have := hp.length_eq; simp only [List.length_append] at this hDl ⊢; omega⟩, perm_mid rfl hp HP.out⟩
                  have HB := hide HM.out.below
                  clear HM HK HP HQ hq1 rU rV hP hU hV hDl hS
                  go_wp2_with fail
                  refine Q.out.mono ?_
                  rintro e wa ⟨rfl, W, p, r, hM⟩
                  have HM := hide (show MovR base g n cap w wa (P ++ (W ++ S)) from ⟨HB.out.trans hM.below, hM.at_⟩)
                  have HK := hide (HN.out W p r).1
                  have HP := hide (HN.out W p r).2
                  clear hM p r Q HN HB
                  go_wp2_with fail
                  go_roundw
                  case rel => exact ⟨s2, _, rfl, hs20, hs2b, HK, HP, HM⟩
                  case measure => simp [intOf]; omega
                · have hmni : ¬ (m : Int) < n := by omega
                  obtain ⟨P, T, S, rfl, hP, hT⟩ := cutT D a (n - a) (by omega)
                  have hS : S = [] := List.eq_nil_of_length_eq_zero (by simp only [List.length_append] at hDl; omega)
                  have rT : RisesP T := blk_part (L := P) (T := T) (R := S) (q := 2 * q) HK.out (by omega) (by rw [hP]; exact HQ.out) (by omega)
                  have HK2 : Hid (∃ t k, BlkTo s2 t k (P ++ (T ++ S)) ∧ (P ++ (T ++ S)).length ≤ k) := ⟨s, a + s2, blk_step (T' := T) (by omega) hq1 hP rfl (by omega) (.inr hS) HK.out rT, by omega⟩
                  clear HK HQ hq1 rT hP hT hDl hS
                  go_wp2_with fail
                  go_roundw
                  case rel => exact ⟨s2, _, rfl, hs20, hs2b, HK2, HP, HM⟩
                  case measure => simp [intOf]; omega
          · have hlti : ¬ (s : Int) < n := by omega
            have hDl := HM.out.at_.len
            have HR : Hid (RisesP D) := by
              obtain ⟨t, k, h1, h2⟩ := HK.out
              exact blk_end h1 h2 (by omega)
            clear HK hDl
            go_wp2_with fail
            go_end0
            exact ⟨rfl, D, HP.out, HR.out, HM.out⟩
theorem sortStableG_c (base g n cap : Nat) (w : World) (D0 : List RowP) (h : SortR base w g n cap D0) (hg : base ≤ g) (hbw : base ≤ w.heap.size) (hn : n ≤ 1048576) :
    Calls Tryd.prog 13 #[.slice (some ⟨g, 0, none⟩) n cap, (.func (.func 6) #[] #[])] w (GivesStable base g n cap w D0) := by
  have Q := hide (stableG_c base g n cap w D0 h hg hbw hn)
  clear h
  go_enter Tryd.func13, Tryd.ntmps13
  go_wp2_with fail
  refine Q.out.mono ?_
  rintro e w1 ⟨rfl, D, p, r, hM⟩
  have HM := hide hM
  have HP := hide p
  have HR := hide r
  clear hM p r
  go_wp2_with fail
  go_end0
  exact ⟨rfl, D, HP.out, HR.out, HM.out⟩
end Go.Proofs.YtobepbpiagclnaaDoor
