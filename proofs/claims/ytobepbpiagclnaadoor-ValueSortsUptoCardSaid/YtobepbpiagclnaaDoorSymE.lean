/- The walk of slices.symMergeCmpFunc: two rising neighbours become one rising permutation. -/
import Derived.Test.YtobepbpiagclnaaDoorSymD
namespace Go.Proofs.YtobepbpiagclnaaDoor
set_option linter.unusedVariables false
open Go.ChangeShapes Go.WideShapes Go.ChangeAt Go.RowKit

theorem rot_same {P U1 U2 V1 V2 S : List RowP} (h : U2 = [] ∨ V1 = []) : P ++ ((U1 ++ U2) ++ ((V1 ++ V2) ++ S)) = P ++ (U1 ++ (V1 ++ (U2 ++ (V2 ++ S)))) := by
  rcases h with rfl | rfl <;> simp
theorem rises_one {U V : List RowP} (h : U = [] ∨ V = []) (hU : RisesP U) (hV : RisesP V) : RisesP (U ++ V) := by
  rcases h with rfl | rfl
  · simpa using hV
  · simpa using hU
set_option maxRecDepth 100000 in
set_option maxHeartbeats 16000000 in
theorem symMerge_c (base g n cap : Nat) (hg : base ≤ g) (hn : n ≤ 1048576) : ∀ (fu : Nat) (P U V S : List RowP) (a m b : Nat) (w : World), P.length = a → a + U.length = m → m + V.length = b → 1 ≤ U.length → 1 ≤ V.length → U.length + V.length ≤ fu → RisesP U → RisesP V → base ≤ w.heap.size → SortR base w g n cap (P ++ (U ++ (V ++ S))) →
    Calls Tryd.prog 39 #[.slice (some ⟨g, 0, none⟩) n cap, .int .i64 a, .int .i64 m, .int .i64 b, .func (.func 6) #[] #[]] w (GivesSym base g n cap w P (U ++ V) S) := by
  intro fu
  induction fu with
  | zero => intro P U V S a m b w _ _ _ h1 h2 h3; omega
  | succ fu ih =>
    intro P U V S a m b w ha hm hb hu hv hf hU hV hbw h
    by_cases hu1 : U.length = 1
    · obtain ⟨x, rfl⟩ := List.length_eq_one_iff.1 hu1
      exact symOne_c base g n cap a m b w P V S x h ha (by simpa using hm) hb hv hV hg hbw hn
    by_cases hv1 : V.length = 1
    · obtain ⟨y, rfl⟩ := List.length_eq_one_iff.1 hv1
      exact symLast_c base g n cap a m b w P U S y h ha hm (by simpa using hb) (by omega) hU hg hbw hn
    have hl := h.len
    simp only [List.length_append] at hl
    obtain ⟨lu, hlu⟩ : ∃ lu, U.length = lu := ⟨_, rfl⟩
    obtain ⟨lv, hlv⟩ : ∃ lv, V.length = lv := ⟨_, rfl⟩
    rw [hlu] at hm hu hl hu1 hf
    rw [hlv] at hb hv hl hv1 hf
    have w1 : IntKind.i64.wrap ((m : Int) - (a : Int)) = (lu : Int) := by rw [IntWalk.i64_in _ (by omega)]; omega
    have w2 : ((m : Int) - (a : Int)) = (lu : Int) := by omega
    have w2' : IntKind.i64.wrap (lu : Int) = (lu : Int) := IntWalk.i64_in _ (by omega)
    have q1 : ((lu : Int) == 1) = false := by rw [beq_eq_false_iff_ne]; omega
    have w3' : IntKind.i64.wrap ((b : Int) - (m : Int)) = (lv : Int) := by rw [IntWalk.i64_in _ (by omega)]; omega
    have w4' : ((b : Int) - (m : Int)) = (lv : Int) := by omega
    have w5' : IntKind.i64.wrap (lv : Int) = (lv : Int) := IntWalk.i64_in _ (by omega)
    have q2 : ((lv : Int) == 1) = false := by rw [beq_eq_false_iff_ne]; omega
    obtain ⟨mid, hmid⟩ : ∃ mid, (a + b) / 2 = mid := ⟨_, rfl⟩
    have w6' : ((a : Int) + (b : Int)) / 2 = (mid : Int) := by omega
    obtain ⟨nn, hnn⟩ : ∃ nn, mid + m = nn := ⟨_, rfl⟩
    have w7' : IntKind.i64.wrap ((mid : Int) + (m : Int)) = (nn : Int) := by rw [IntWalk.i64_in _ (by omega)]; omega
    have w8' : ((mid : Int) + (m : Int)) = (nn : Int) := by omega
    have w9' : IntKind.i64.wrap (nn : Int) = (nn : Int) := IntWalk.i64_in _ (by omega)
    obtain ⟨pp, hpp⟩ : ∃ pp, nn - 1 = pp := ⟨_, rfl⟩
    have x1 : IntKind.i64.wrap ((nn : Int) - 1) = (pp : Int) := by rw [IntWalk.i64_in _ (by omega)]; omega
    have x2 : ((nn : Int) - 1) = (pp : Int) := by omega
    have x3 : IntKind.i64.wrap (pp : Int) = (pp : Int) := IntWalk.i64_in _ (by omega)
    obtain ⟨K, hK⟩ : ∃ K, mid - a = K := ⟨_, rfl⟩
    have HM0 : Hid (MovR base g n cap w w (P ++ (U ++ (V ++ S)))) := ⟨Below.refl _ _, h⟩
    have hbn : b ≤ n := by omega
    clear h hl
    by_cases hmm : mid < m
    · have hmmi : (mid : Int) < m := by omega
      obtain ⟨st0, hst0⟩ : ∃ st0, nn - b = st0 := ⟨_, rfl⟩
      have x4 : IntKind.i64.wrap ((nn : Int) - (b : Int)) = (st0 : Int) := by rw [IntWalk.i64_in _ (by omega)]; omega
      have x5 : ((nn : Int) - (b : Int)) = (st0 : Int) := by omega
      have x6 : IntKind.i64.wrap (st0 : Int) = (st0 : Int) := IntWalk.i64_in _ (by omega)
      go_enter Tryd.func39, Tryd.ntmps39
      go_wp2_with fail
      clear w1 w2 w2' q1 w3' w4' w5' q2 w6' w7' w8' w9' x1 x2 x3 x4 x5 x6
      go_loopw [20, 21] (fun sv rv wr => ∃ s r : Nat, sv = .int .i64 s ∧ rv = .int .i64 r ∧ st0 ≤ s ∧ s ≤ r ∧ r ≤ mid ∧ Hid (s = st0 ∨ ∃ x y, U[s - a - 1]? = some x ∧ V[K - (s - a)]? = some y ∧ cmpR x.2 y.2 ≤ 0) ∧ Hid (r = mid ∨ ∃ x y, U[r - a]? = some x ∧ V[K - (r - a) - 1]? = some y ∧ cmpR y.2 x.2 < 0) ∧ Hid (MovR base g n cap w wr (P ++ (U ++ (V ++ S))))) (fun sv rv _ => (intOf rv).toNat - (intOf sv).toNat)
      case atStart => exact ⟨st0, mid, rfl, rfl, Nat.le_refl _, by omega, Nat.le_refl _, .inl rfl, .inl rfl, HM0⟩
      case round =>
        clear HM0
        obtain ⟨st, r, rfl, rfl, hs0, hsr, hr0, HI, HJ, HM⟩ := hrel
        by_cases hlt : st < r
        · have hlti : (st : Int) < r := by omega
          obtain ⟨h, hh⟩ : ∃ h, (st + r) / 2 = h := ⟨_, rfl⟩
          have w3 : ((st : Int) + (r : Int)) / 2 = (h : Int) := by omega
          obtain ⟨pc, hpc⟩ : ∃ pc, mid + m - 1 - h = pc := ⟨_, rfl⟩
          have w4 : IntKind.i64.wrap ((pp : Int) - (h : Int)) = (pc : Int) := by rw [IntWalk.i64_in _ (by omega)]; omega
          have w5 : ((pp : Int) - (h : Int)) = (pc : Int) := by omega
          have w6 : IntKind.i64.wrap (pc : Int) = (pc : Int) := IntWalk.i64_in _ (by omega)
          obtain ⟨x, hx⟩ : ∃ x, U[h - a]? = some x := ⟨_, List.getElem?_eq_getElem (by omega)⟩
          obtain ⟨y, hy⟩ : ∃ y, V[K - (h - a) - 1]? = some y := ⟨_, List.getElem?_eq_getElem (by omega)⟩
          obtain ⟨c1, s1, l1⟩ := HM.out.cellAt (i := pc) (p := y) (by have := at_v P U V S hy; rw [ha, hlu, show a + lu + (K - (h - a) - 1) = pc from by omega] at this; exact this)
          obtain ⟨c2, s2, l2⟩ := HM.out.cellAt (i := h) (p := x) (by have := at_u P U (V ++ S) hx; rw [ha, show a + (h - a) = h from by omega] at this; exact this)
          have Q := hide (fun (W : World) (hW : Below wr.heap.size wr W) => orders_c y.1.A x.1.A y.1.n y.1.c x.1.n x.1.c y.2 x.2 W (s1.kept hW) (s2.kept hW))
          have l3 : (pc : Int) < n := by omega
          have l4 : (h : Int) < n := by omega
          have hwh : IntKind.i64.wrap ((h : Int) + 1) = (h : Int) + 1 := IntWalk.i64_in _ (by omega)
          obtain ⟨z, hz⟩ : ∃ z, cmpR y.2 x.2 = z := ⟨_, rfl⟩
          rw [hz] at Q
          have HT : Hid (z < 0 → h = mid ∨ ∃ x y, U[h - a]? = some x ∧ V[K - (h - a) - 1]? = some y ∧ cmpR y.2 x.2 < 0) := fun hz0 => .inr ⟨x, y, hx, hy, by omega⟩
          have HF : Hid (¬ z < 0 → h + 1 = st0 ∨ ∃ x y, U[h + 1 - a - 1]? = some x ∧ V[K - (h + 1 - a)]? = some y ∧ cmpR x.2 y.2 ≤ 0) := fun hz0 => .inr ⟨x, y, by rw [show h + 1 - a - 1 = h - a from by omega]; exact hx, by rw [show K - (h + 1 - a) = K - (h - a) - 1 from by omega]; exact hy, by have := cmpR_neg y.2 x.2; omega⟩
          have b1 : st0 ≤ h + 1 := by omega
          have b2 : h + 1 ≤ r := by omega
          have b3 : st ≤ h := by omega
          have b4 : h ≤ mid := by omega
          have b5 : h < r := by omega
          have b6 : st < h + 1 := by omega
          clear s1 s2 l1 l2 hx hy hz hpc hh ih
          go_wp2_with fail
          refine wp_region_held_drew (S := (fun w' => Below wr.heap.size wr w')) (by kernel_rfl) ((Below.refl _ _).drew) (fun hHeld => ?_)
          first | (refine wpAnyH_take (i := 0) (v := ?_) nth0 (by kernel_rfl) (by kernel_rfl) (by kernel_rfl) (fun _ _ _ h => h) (Or.inl ⟨by rfl, ?_⟩) hHeld ?_; rotate_left; focus (intro wS hSw; (have k0 := kept hSw c1; have k1 := kept hSw c2); go_simp; try with_reducible rfl; done)) | (refine wpAnyH_take (i := 0) (v := undef) nth0 (by kernel_rfl) (by kernel_rfl) (by kernel_rfl) (fun _ _ _ h => h) (Or.inr ⟨by rfl, rfl⟩) hHeld ?_)
          (try simp only [Act.put]); (try simp only [List.setIfInBounds_toArray]); (try simp only [List.set_cons_succ]); (try simp only [List.set_cons_zero])
          first | (refine wpAnyH_take (i := 1) (v := ?_) nth1 (by kernel_rfl) (by kernel_rfl) (by kernel_rfl) (fun _ _ _ h => h) (Or.inl ⟨by rfl, ?_⟩) hHeld ?_; rotate_left; focus (intro wS hSw; (have k0 := kept hSw c1; have k1 := kept hSw c2); go_simp; try with_reducible rfl; done)) | (refine wpAnyH_take (i := 1) (v := undef) nth1 (by kernel_rfl) (by kernel_rfl) (by kernel_rfl) (fun _ _ _ h => h) (Or.inr ⟨by rfl, rfl⟩) hHeld ?_)
          (try simp only [Act.put]); (try simp only [List.setIfInBounds_toArray]); (try simp only [List.set_cons_succ]); (try simp only [List.set_cons_zero])
          first | (refine wpAnyH_take (i := 2) (v := ?_) nth2 (by kernel_rfl) (by kernel_rfl) (by kernel_rfl) (fun _ _ _ h => h) (Or.inl ⟨by rfl, ?_⟩) hHeld ?_; rotate_left; focus (intro wS hSw; (have k0 := kept hSw c1; have k1 := kept hSw c2); go_simp; try with_reducible rfl; done)) | (refine wpAnyH_take (i := 2) (v := undef) nth2 (by kernel_rfl) (by kernel_rfl) (by kernel_rfl) (fun _ _ _ h => h) (Or.inr ⟨by rfl, rfl⟩) hHeld ?_)
          (try simp only [Act.put]); (try simp only [List.setIfInBounds_toArray]); (try simp only [List.set_cons_succ]); (try simp only [List.set_cons_zero])
          first | (refine wpAnyH_take (i := 3) (v := ?_) nth3 (by kernel_rfl) (by kernel_rfl) (by kernel_rfl) (fun _ _ _ h => h) (Or.inl ⟨by rfl, ?_⟩) hHeld ?_; rotate_left; focus (intro wS hSw; (have k0 := kept hSw c1; have k1 := kept hSw c2); go_simp; try with_reducible rfl; done)) | (refine wpAnyH_take (i := 3) (v := undef) nth3 (by kernel_rfl) (by kernel_rfl) (by kernel_rfl) (fun _ _ _ h => h) (Or.inr ⟨by rfl, rfl⟩) hHeld ?_)
          (try simp only [Act.put]); (try simp only [List.setIfInBounds_toArray]); (try simp only [List.set_cons_succ]); (try simp only [List.set_cons_zero])
          first | (refine wpAnyH_take (i := 4) (v := ?_) nth4 (by kernel_rfl) (by kernel_rfl) (by kernel_rfl) (fun _ _ _ h => h) (Or.inl ⟨by rfl, ?_⟩) hHeld ?_; rotate_left; focus (intro wS hSw; (have k0 := kept hSw c1; have k1 := kept hSw c2); go_simp; try with_reducible rfl; done)) | (refine wpAnyH_take (i := 4) (v := undef) nth4 (by kernel_rfl) (by kernel_rfl) (by kernel_rfl) (fun _ _ _ h => h) (Or.inr ⟨by rfl, rfl⟩) hHeld ?_)
          (try simp only [Act.put]); (try simp only [List.setIfInBounds_toArray]); (try simp only [List.set_cons_succ]); (try simp only [List.set_cons_zero])
          first | (refine wpAnyH_take (i := 5) (v := ?_) nth5 (by kernel_rfl) (by kernel_rfl) (by kernel_rfl) (fun _ _ _ h => h) (Or.inl ⟨by rfl, ?_⟩) hHeld ?_; rotate_left; focus (intro wS hSw; (have k0 := kept hSw c1; have k1 := kept hSw c2); go_simp; try with_reducible rfl; done)) | (refine wpAnyH_take (i := 5) (v := undef) nth5 (by kernel_rfl) (by kernel_rfl) (by kernel_rfl) (fun _ _ _ h => h) (Or.inr ⟨by rfl, rfl⟩) hHeld ?_)
          (try simp only [Act.put]); (try simp only [List.setIfInBounds_toArray]); (try simp only [List.set_cons_succ]); (try simp only [List.set_cons_zero])
          first | (refine wpAnyH_take (i := 6) (v := ?_) nth6 (by kernel_rfl) (by kernel_rfl) (by kernel_rfl) (fun _ _ _ h => h) (Or.inl ⟨by rfl, ?_⟩) hHeld ?_; rotate_left; focus (intro wS hSw; (have k0 := kept hSw c1; have k1 := kept hSw c2); go_simp; try with_reducible rfl; done)) | (refine wpAnyH_take (i := 6) (v := undef) nth6 (by kernel_rfl) (by kernel_rfl) (by kernel_rfl) (fun _ _ _ h => h) (Or.inr ⟨by rfl, rfl⟩) hHeld ?_)
          (try simp only [Act.put]); (try simp only [List.setIfInBounds_toArray]); (try simp only [List.set_cons_succ]); (try simp only [List.set_cons_zero])
          first | (refine wpAnyH_take (i := 7) (v := ?_) nth7 (by kernel_rfl) (by kernel_rfl) (by kernel_rfl) (fun _ _ _ h => h) (Or.inl ⟨by rfl, ?_⟩) hHeld ?_; rotate_left; focus (intro wS hSw; (have k0 := kept hSw c1; have k1 := kept hSw c2); go_simp; try with_reducible rfl; done)) | (refine wpAnyH_take (i := 7) (v := undef) nth7 (by kernel_rfl) (by kernel_rfl) (by kernel_rfl) (fun _ _ _ h => h) (Or.inr ⟨by rfl, rfl⟩) hHeld ?_)
          (try simp only [Act.put]); (try simp only [List.setIfInBounds_toArray]); (try simp only [List.set_cons_succ]); (try simp only [List.set_cons_zero])
          first | (refine wpAnyH_take (i := 8) (v := ?_) nth8 (by kernel_rfl) (by kernel_rfl) (by kernel_rfl) (fun _ _ _ h => h) (Or.inl ⟨by rfl, ?_⟩) hHeld ?_; rotate_left; focus (intro wS hSw; (have k0 := kept hSw c1; have k1 := kept hSw c2); go_simp; try with_reducible rfl; done)) | (refine wpAnyH_take (i := 8) (v := undef) nth8 (by kernel_rfl) (by kernel_rfl) (by kernel_rfl) (fun _ _ _ h => h) (Or.inr ⟨by rfl, rfl⟩) hHeld ?_)
          (try simp only [Act.put]); (try simp only [List.setIfInBounds_toArray]); (try simp only [List.set_cons_succ]); (try simp only [List.set_cons_zero])
          first | (refine wpAnyH_take (i := 9) (v := ?_) nth9 (by kernel_rfl) (by kernel_rfl) (by kernel_rfl) (fun _ _ _ h => h) (Or.inl ⟨by rfl, ?_⟩) hHeld ?_; rotate_left; focus (intro wS hSw; (have k0 := kept hSw c1; have k1 := kept hSw c2); go_simp; try with_reducible rfl; done)) | (refine wpAnyH_take (i := 9) (v := undef) nth9 (by kernel_rfl) (by kernel_rfl) (by kernel_rfl) (fun _ _ _ h => h) (Or.inr ⟨by rfl, rfl⟩) hHeld ?_)
          (try simp only [Act.put]); (try simp only [List.setIfInBounds_toArray]); (try simp only [List.set_cons_succ]); (try simp only [List.set_cons_zero])
          first | (refine wpAnyH_take (i := 10) (v := ?_) nth10 (by kernel_rfl) (by kernel_rfl) (by kernel_rfl) (fun _ _ _ h => h) (Or.inl ⟨by rfl, ?_⟩) hHeld ?_; rotate_left; focus (intro wS hSw; (have k0 := kept hSw c1; have k1 := kept hSw c2); go_simp; try with_reducible rfl; done)) | (refine wpAnyH_take (i := 10) (v := undef) nth10 (by kernel_rfl) (by kernel_rfl) (by kernel_rfl) (fun _ _ _ h => h) (Or.inr ⟨by rfl, rfl⟩) hHeld ?_)
          (try simp only [Act.put]); (try simp only [List.setIfInBounds_toArray]); (try simp only [List.set_cons_succ]); (try simp only [List.set_cons_zero])
          refine wpAnyH_ready (rs := [11]) (by kernel_rfl) (by simp) ?_
          refine AllReadyH.cons nth11 (fun K hK => ?_) AllReadyH.nil
          go_simp
          (go_at_call 6; refine (Q.out _ hHeld).mono ?_; rintro e w' ⟨rfl, hb⟩)
          refine hK.out _ _ (Bel.then hHeld hb) (fun hHeld => ?_)
          clear hK K
          (try simp only [Act.put]); (try simp only [List.setIfInBounds_toArray]); (try simp only [List.set_cons_succ]); (try simp only [List.set_cons_zero])
          first | (refine wpAnyH_take (i := 12) (v := ?_) nth12 (by kernel_rfl) (by kernel_rfl) (by kernel_rfl) (fun _ _ _ h => h) (Or.inl ⟨by rfl, ?_⟩) hHeld ?_; rotate_left; focus (intro wS hSw; (have k0 := kept hSw c1; have k1 := kept hSw c2); go_simp; try with_reducible rfl; done)) | (refine wpAnyH_take (i := 12) (v := undef) nth12 (by kernel_rfl) (by kernel_rfl) (by kernel_rfl) (fun _ _ _ h => h) (Or.inr ⟨by rfl, rfl⟩) hHeld ?_)
          (try simp only [Act.put]); (try simp only [List.setIfInBounds_toArray]); (try simp only [List.set_cons_succ]); (try simp only [List.set_cons_zero])
          first | (refine wpAnyH_take (i := 13) (v := ?_) nth13 (by kernel_rfl) (by kernel_rfl) (by kernel_rfl) (fun _ _ _ h => h) (Or.inl ⟨by rfl, ?_⟩) hHeld ?_; rotate_left; focus (intro wS hSw; (have k0 := kept hSw c1; have k1 := kept hSw c2); go_simp; try with_reducible rfl; done)) | (refine wpAnyH_take (i := 13) (v := undef) nth13 (by kernel_rfl) (by kernel_rfl) (by kernel_rfl) (fun _ _ _ h => h) (Or.inr ⟨by rfl, rfl⟩) hHeld ?_)
          (try simp only [Act.put]); (try simp only [List.setIfInBounds_toArray]); (try simp only [List.set_cons_succ]); (try simp only [List.set_cons_zero])
          refine wpAnyH_done (by kernel_rfl) ?_ _
          replace HM := hide (HM.out.kept (HM.out.low hbw) hHeld)
          clear hHeld c1 c2 Q
          generalize hq : decide (z < 0) = q
          cases q with
          | true =>
            have HJ2 := hide (HT.out (of_decide_eq_true hq))
            clear HT HF HJ hq
            go_wp2_with fail
            go_roundw
            case rel => exact ⟨st, h, rfl, rfl, hs0, b3, b4, HI, HJ2, HM⟩
            case measure => simp [intOf]; omega
          | false =>
            have HI2 := hide (HF.out (by have := of_decide_eq_false hq; omega))
            clear HT HF HI hq
            go_wp2_with fail
            go_roundw
            case rel => exact ⟨h + 1, r, by go_num, rfl, b1, b2, hr0, HI2, HJ, HM⟩
            case measure => simp [intOf]; omega
        · have hlti : ¬ (st : Int) < r := by omega
          obtain rfl : st = r := by omega
          obtain ⟨en, hen⟩ : ∃ en, mid + m - st = en := ⟨_, rfl⟩
          have w4 : IntKind.i64.wrap ((nn : Int) - (st : Int)) = (en : Int) := by rw [IntWalk.i64_in _ (by omega)]; omega
          have w5 : ((nn : Int) - (st : Int)) = (en : Int) := by omega
          have w6 : IntKind.i64.wrap (en : Int) = (en : Int) := IntWalk.i64_in _ (by omega)
          have e1 : st = st0 → st - a = K - V.length := by omega
          have e2 : st = mid → st - a = min K U.length := by omega
          have e3 : K - V.length ≤ st - a := by omega
          have e4 : st - a ≤ min K U.length := by omega
          have hAB : (∀ u ∈ U.take (st - a), ∀ v ∈ V.drop (K - (st - a)), cmpR u.2 v.2 ≤ 0) ∧ (∀ v ∈ V.take (K - (st - a)), ∀ u ∈ U.drop (st - a), cmpR v.2 u.2 ≤ 0) := by
            have hI := HI.out
            have hJ := HJ.out
            exact sym_split hU hV e3 e4 (hI.elim (fun e => .inl (e1 e)) .inr) (hJ.elim (fun e => .inl (e2 e)) .inr)
          have HA := hide hAB.1
          have HB2 := hide hAB.2
          clear hAB e1 e2 e3 e4 HI HJ
          have hUe : U.take (st - a) ++ U.drop (st - a) = U := List.take_append_drop _ _
          have hVe : V.take (K - (st - a)) ++ V.drop (K - (st - a)) = V := List.take_append_drop _ _
          have hlU1 : (U.take (st - a)).length = st - a := by rw [List.length_take]; omega
          have hlU2 : (U.drop (st - a)).length = m - st := by rw [List.length_drop]; omega
          have hlV1 : (V.take (K - (st - a))).length = mid - st := by rw [List.length_take]; omega
          have hlV2 : (V.drop (K - (st - a))).length = b - en := by rw [List.length_drop]; omega
          generalize U.take (st - a) = U1 at *
          generalize U.drop (st - a) = U2 at *
          generalize V.take (K - (st - a)) = V1 at *
          generalize V.drop (K - (st - a)) = V2 at *
          subst hUe hVe
          have hUr := hU
          have hVr := hV
          obtain ⟨hU1r, hU2r⟩ := rises_part hU
          obtain ⟨hV1r, hV2r⟩ := rises_part hV
          have hPU : (P ++ U1).length = st := by rw [List.length_append]; omega
          by_cases hU2 : st < m
          · by_cases hV1 : st < mid
            · by_cases hU1 : a < st
              · by_cases hV2 : en < b
                · have : (a : Int) < (st : Int) := by omega
                  have : (st : Int) < (m : Int) := by omega
                  have : (st : Int) < (mid : Int) := by omega
                  have : (en : Int) < (b : Int) := by omega
                  have : (m : Int) < (en : Int) := by omega
                  have : (mid : Int) < (en : Int) := by omega
                  have QR := hide (rotate_c base g n cap st m en wr (.func (.func 6) #[] #[]) (P ++ U1) U2 V1 (V2 ++ S) (by have := HM.out.at_; simpa using this) hPU (by omega) (by omega) (by omega) (by omega) hg (HM.out.low hbw) hn)
                  have HB := hide HM.out.below
                  clear HM
                  have J1 := hide (fun (W : World) (hM : MovR base g n cap w W (P ++ (U1 ++ (V1 ++ (U2 ++ (V2 ++ S)))))) => ih P U1 V1 (U2 ++ (V2 ++ S)) a st mid W ha (by omega) (by omega) (by omega) (by omega) (by omega) hU1r hV1r (hM.low hbw) hM.at_)
                  have J2 := hide (fun (W : World) (W1 : List RowP) (hl : W1.length = U1.length + V1.length) (hM : MovR base g n cap w W (P ++ (W1 ++ (U2 ++ (V2 ++ S))))) => ih (P ++ W1) U2 V2 S mid en b W (by rw [List.length_append]; omega) (by omega) (by omega) (by omega) (by omega) (by omega) hU2r hV2r (hM.low hbw) (by have := hM.at_; simpa using this))
                  clear ih
                  go_wp2_with fail
                  refine QR.out.mono ?_
                  rintro e wa ⟨rfl, hM⟩
                  have HM1 := hide (show MovR base g n cap w wa (P ++ (U1 ++ (V1 ++ (U2 ++ (V2 ++ S))))) from ⟨HB.out.trans hM.below, by have := hM.at_; simpa using this⟩)
                  clear hM QR HB
                  go_wp2_with fail
                  refine (J1.out _ HM1.out).mono ?_
                  rintro e wb ⟨rfl, W1, p1, r1, hM⟩
                  have HM2 := hide (show MovR base g n cap w wb (P ++ (W1 ++ (U2 ++ (V2 ++ S)))) from ⟨HM1.out.below.trans hM.below, hM.at_⟩)
                  have hP1 := hide p1
                  have hW1 := hide r1
                  have hl1 : W1.length = U1.length + V1.length := by rw [p1.length_eq, List.length_append]
                  clear hM J1 p1 r1
                  go_wp2_with fail
                  refine (J2.out _ _ hl1 HM2.out).mono ?_
                  rintro e wc ⟨rfl, W2, p2, r2, hM⟩
                  have HM3 := hide (show MovR base g n cap w wc (P ++ ((W1 ++ W2) ++ S)) from ⟨HM2.out.below.trans hM.below, by have := hM.at_; simpa using this⟩)
                  have hJ := sym_join hUr hVr HA.out HB2.out hP1.out p2 hW1.out r2
                  have HJ := hide hJ
                  clear hM J2 p2 r2 hJ
                  go_wp2_with fail
                  go_end0
                  exact ⟨rfl, _, by have := HJ.out.2; simpa using this, HJ.out.1, HM3.out⟩
                · have : (a : Int) < (st : Int) := by omega
                  have : (st : Int) < (m : Int) := by omega
                  have : (st : Int) < (mid : Int) := by omega
                  have : ¬ (en : Int) < (b : Int) := by omega
                  have : (m : Int) < (en : Int) := by omega
                  have : (mid : Int) < (en : Int) := by omega
                  have QR := hide (rotate_c base g n cap st m en wr (.func (.func 6) #[] #[]) (P ++ U1) U2 V1 (V2 ++ S) (by have := HM.out.at_; simpa using this) hPU (by omega) (by omega) (by omega) (by omega) hg (HM.out.low hbw) hn)
                  have HB := hide HM.out.below
                  clear HM
                  have hW2 := hide (show RisesP (U2 ++ V2) from rises_one (.inr (List.eq_nil_of_length_eq_zero (by omega))) hU2r hV2r)
                  have J1 := hide (fun (W : World) (hM : MovR base g n cap w W (P ++ (U1 ++ (V1 ++ (U2 ++ (V2 ++ S)))))) => ih P U1 V1 (U2 ++ (V2 ++ S)) a st mid W ha (by omega) (by omega) (by omega) (by omega) (by omega) hU1r hV1r (hM.low hbw) hM.at_)
                  clear ih
                  go_wp2_with fail
                  refine QR.out.mono ?_
                  rintro e wa ⟨rfl, hM⟩
                  have HM1 := hide (show MovR base g n cap w wa (P ++ (U1 ++ (V1 ++ (U2 ++ (V2 ++ S))))) from ⟨HB.out.trans hM.below, by have := hM.at_; simpa using this⟩)
                  clear hM QR HB
                  go_wp2_with fail
                  refine (J1.out _ HM1.out).mono ?_
                  rintro e wb ⟨rfl, W1, p1, r1, hM⟩
                  have HM2 := hide (show MovR base g n cap w wb (P ++ (W1 ++ (U2 ++ (V2 ++ S)))) from ⟨HM1.out.below.trans hM.below, hM.at_⟩)
                  have hP1 := hide p1
                  have hW1 := hide r1
                  have hl1 : W1.length = U1.length + V1.length := by rw [p1.length_eq, List.length_append]
                  clear hM J1 p1 r1
                  go_wp2_with fail
                  have HM3 := hide (show MovR base g n cap w wb (P ++ ((W1 ++ (U2 ++ V2)) ++ S)) from by have := HM2.out; simpa using this)
                  have HJ := hide (sym_join hUr hVr HA.out HB2.out hP1.out (List.Perm.refl (U2 ++ V2)) hW1.out hW2.out)
                  go_end0
                  exact ⟨rfl, _, by have := HJ.out.2; simpa using this, HJ.out.1, HM3.out⟩
              · by_cases hV2 : en < b
                · have : ¬ (a : Int) < (st : Int) := by omega
                  have : (st : Int) < (m : Int) := by omega
                  have : (st : Int) < (mid : Int) := by omega
                  have : (en : Int) < (b : Int) := by omega
                  have : (m : Int) < (en : Int) := by omega
                  have : (mid : Int) < (en : Int) := by omega
                  have QR := hide (rotate_c base g n cap st m en wr (.func (.func 6) #[] #[]) (P ++ U1) U2 V1 (V2 ++ S) (by have := HM.out.at_; simpa using this) hPU (by omega) (by omega) (by omega) (by omega) hg (HM.out.low hbw) hn)
                  have HB := hide HM.out.below
                  clear HM
                  have hW1 := hide (show RisesP (U1 ++ V1) from rises_one (.inl (List.eq_nil_of_length_eq_zero (by omega))) hU1r hV1r)
                  have J2 := hide (fun (W : World) (W1 : List RowP) (hl : W1.length = U1.length + V1.length) (hM : MovR base g n cap w W (P ++ (W1 ++ (U2 ++ (V2 ++ S))))) => ih (P ++ W1) U2 V2 S mid en b W (by rw [List.length_append]; omega) (by omega) (by omega) (by omega) (by omega) (by omega) hU2r hV2r (hM.low hbw) (by have := hM.at_; simpa using this))
                  clear ih
                  go_wp2_with fail
                  refine QR.out.mono ?_
                  rintro e wa ⟨rfl, hM⟩
                  have HM1 := hide (show MovR base g n cap w wa (P ++ (U1 ++ (V1 ++ (U2 ++ (V2 ++ S))))) from ⟨HB.out.trans hM.below, by have := hM.at_; simpa using this⟩)
                  clear hM QR HB
                  go_wp2_with fail
                  have HM2 := hide (show MovR base g n cap w wa (P ++ ((U1 ++ V1) ++ (U2 ++ (V2 ++ S)))) from by have := HM1.out; simpa using this)
                  have hP1 := hide (List.Perm.refl (U1 ++ V1))
                  have hl1 : (U1 ++ V1).length = U1.length + V1.length := List.length_append
                  refine (J2.out _ _ hl1 HM2.out).mono ?_
                  rintro e wc ⟨rfl, W2, p2, r2, hM⟩
                  have HM3 := hide (show MovR base g n cap w wc (P ++ (((U1 ++ V1) ++ W2) ++ S)) from ⟨HM2.out.below.trans hM.below, by have := hM.at_; simpa using this⟩)
                  have hJ := sym_join hUr hVr HA.out HB2.out hP1.out p2 hW1.out r2
                  have HJ := hide hJ
                  clear hM J2 p2 r2 hJ
                  go_wp2_with fail
                  go_end0
                  exact ⟨rfl, _, by have := HJ.out.2; simpa using this, HJ.out.1, HM3.out⟩
                · have : ¬ (a : Int) < (st : Int) := by omega
                  have : (st : Int) < (m : Int) := by omega
                  have : (st : Int) < (mid : Int) := by omega
                  have : ¬ (en : Int) < (b : Int) := by omega
                  have : (m : Int) < (en : Int) := by omega
                  have : (mid : Int) < (en : Int) := by omega
                  have QR := hide (rotate_c base g n cap st m en wr (.func (.func 6) #[] #[]) (P ++ U1) U2 V1 (V2 ++ S) (by have := HM.out.at_; simpa using this) hPU (by omega) (by omega) (by omega) (by omega) hg (HM.out.low hbw) hn)
                  have HB := hide HM.out.below
                  clear HM
                  have hW1 := hide (show RisesP (U1 ++ V1) from rises_one (.inl (List.eq_nil_of_length_eq_zero (by omega))) hU1r hV1r)
                  have hW2 := hide (show RisesP (U2 ++ V2) from rises_one (.inr (List.eq_nil_of_length_eq_zero (by omega))) hU2r hV2r)
                  clear ih
                  go_wp2_with fail
                  refine QR.out.mono ?_
                  rintro e wa ⟨rfl, hM⟩
                  have HM1 := hide (show MovR base g n cap w wa (P ++ (U1 ++ (V1 ++ (U2 ++ (V2 ++ S))))) from ⟨HB.out.trans hM.below, by have := hM.at_; simpa using this⟩)
                  clear hM QR HB
                  go_wp2_with fail
                  have HM2 := hide (show MovR base g n cap w wa (P ++ ((U1 ++ V1) ++ (U2 ++ (V2 ++ S)))) from by have := HM1.out; simpa using this)
                  have hP1 := hide (List.Perm.refl (U1 ++ V1))
                  have hl1 : (U1 ++ V1).length = U1.length + V1.length := List.length_append
                  have HM3 := hide (show MovR base g n cap w wa (P ++ (((U1 ++ V1) ++ (U2 ++ V2)) ++ S)) from by have := HM2.out; simpa using this)
                  have HJ := hide (sym_join hUr hVr HA.out HB2.out hP1.out (List.Perm.refl (U2 ++ V2)) hW1.out hW2.out)
                  go_end0
                  exact ⟨rfl, _, by have := HJ.out.2; simpa using this, HJ.out.1, HM3.out⟩
            · by_cases hU1 : a < st
              · by_cases hV2 : en < b
                · have : (a : Int) < (st : Int) := by omega
                  have : (st : Int) < (m : Int) := by omega
                  have : ¬ (st : Int) < (mid : Int) := by omega
                  have : (en : Int) < (b : Int) := by omega
                  have : ¬ (m : Int) < (en : Int) := by omega
                  have : (mid : Int) < (en : Int) := by omega
                  have HM1 := hide (show MovR base g n cap w wr (P ++ (U1 ++ (V1 ++ (U2 ++ (V2 ++ S))))) from by have := HM.out; rw [rot_same (.inr (List.eq_nil_of_length_eq_zero (by omega)))] at this; exact this)
                  clear HM
                  have hW1 := hide (show RisesP (U1 ++ V1) from rises_one (.inr (List.eq_nil_of_length_eq_zero (by omega))) hU1r hV1r)
                  have J2 := hide (fun (W : World) (W1 : List RowP) (hl : W1.length = U1.length + V1.length) (hM : MovR base g n cap w W (P ++ (W1 ++ (U2 ++ (V2 ++ S))))) => ih (P ++ W1) U2 V2 S mid en b W (by rw [List.length_append]; omega) (by omega) (by omega) (by omega) (by omega) (by omega) hU2r hV2r (hM.low hbw) (by have := hM.at_; simpa using this))
                  clear ih
                  go_wp2_with fail
                  have HM2 := hide (show MovR base g n cap w wr (P ++ ((U1 ++ V1) ++ (U2 ++ (V2 ++ S)))) from by have := HM1.out; simpa using this)
                  have hP1 := hide (List.Perm.refl (U1 ++ V1))
                  have hl1 : (U1 ++ V1).length = U1.length + V1.length := List.length_append
                  refine (J2.out _ _ hl1 HM2.out).mono ?_
                  rintro e wc ⟨rfl, W2, p2, r2, hM⟩
                  have HM3 := hide (show MovR base g n cap w wc (P ++ (((U1 ++ V1) ++ W2) ++ S)) from ⟨HM2.out.below.trans hM.below, by have := hM.at_; simpa using this⟩)
                  have hJ := sym_join hUr hVr HA.out HB2.out hP1.out p2 hW1.out r2
                  have HJ := hide hJ
                  clear hM J2 p2 r2 hJ
                  go_wp2_with fail
                  go_end0
                  exact ⟨rfl, _, by have := HJ.out.2; simpa using this, HJ.out.1, HM3.out⟩
                · have : (a : Int) < (st : Int) := by omega
                  have : (st : Int) < (m : Int) := by omega
                  have : ¬ (st : Int) < (mid : Int) := by omega
                  have : ¬ (en : Int) < (b : Int) := by omega
                  have : ¬ (m : Int) < (en : Int) := by omega
                  have : (mid : Int) < (en : Int) := by omega
                  have HM1 := hide (show MovR base g n cap w wr (P ++ (U1 ++ (V1 ++ (U2 ++ (V2 ++ S))))) from by have := HM.out; rw [rot_same (.inr (List.eq_nil_of_length_eq_zero (by omega)))] at this; exact this)
                  clear HM
                  have hW1 := hide (show RisesP (U1 ++ V1) from rises_one (.inr (List.eq_nil_of_length_eq_zero (by omega))) hU1r hV1r)
                  have hW2 := hide (show RisesP (U2 ++ V2) from rises_one (.inr (List.eq_nil_of_length_eq_zero (by omega))) hU2r hV2r)
                  clear ih
                  go_wp2_with fail
                  have HM2 := hide (show MovR base g n cap w wr (P ++ ((U1 ++ V1) ++ (U2 ++ (V2 ++ S)))) from by have := HM1.out; simpa using this)
                  have hP1 := hide (List.Perm.refl (U1 ++ V1))
                  have hl1 : (U1 ++ V1).length = U1.length + V1.length := List.length_append
                  have HM3 := hide (show MovR base g n cap w wr (P ++ (((U1 ++ V1) ++ (U2 ++ V2)) ++ S)) from by have := HM2.out; simpa using this)
                  have HJ := hide (sym_join hUr hVr HA.out HB2.out hP1.out (List.Perm.refl (U2 ++ V2)) hW1.out hW2.out)
                  go_end0
                  exact ⟨rfl, _, by have := HJ.out.2; simpa using this, HJ.out.1, HM3.out⟩
              · exfalso; clear ih; omega
          · exfalso; clear ih; omega
    · have hmmi : ¬ (mid : Int) < m := by omega
      go_enter Tryd.func39, Tryd.ntmps39
      go_wp2_with fail
      clear w1 w2 w2' q1 w3' w4' w5' q2 w6' w7' w8' w9' x1 x2 x3
      go_loopw [20, 21] (fun sv rv wr => ∃ s r : Nat, sv = .int .i64 s ∧ rv = .int .i64 r ∧ a ≤ s ∧ s ≤ r ∧ r ≤ m ∧ Hid (s = a ∨ ∃ x y, U[s - a - 1]? = some x ∧ V[K - (s - a)]? = some y ∧ cmpR x.2 y.2 ≤ 0) ∧ Hid (r = m ∨ ∃ x y, U[r - a]? = some x ∧ V[K - (r - a) - 1]? = some y ∧ cmpR y.2 x.2 < 0) ∧ Hid (MovR base g n cap w wr (P ++ (U ++ (V ++ S))))) (fun sv rv _ => (intOf rv).toNat - (intOf sv).toNat)
      case atStart => exact ⟨a, m, rfl, rfl, Nat.le_refl _, by omega, Nat.le_refl _, .inl rfl, .inl rfl, HM0⟩
      case round =>
        clear HM0
        obtain ⟨st, r, rfl, rfl, hs0, hsr, hr0, HI, HJ, HM⟩ := hrel
        by_cases hlt : st < r
        · have hlti : (st : Int) < r := by omega
          obtain ⟨h, hh⟩ : ∃ h, (st + r) / 2 = h := ⟨_, rfl⟩
          have w3 : ((st : Int) + (r : Int)) / 2 = (h : Int) := by omega
          obtain ⟨pc, hpc⟩ : ∃ pc, mid + m - 1 - h = pc := ⟨_, rfl⟩
          have w4 : IntKind.i64.wrap ((pp : Int) - (h : Int)) = (pc : Int) := by rw [IntWalk.i64_in _ (by omega)]; omega
          have w5 : ((pp : Int) - (h : Int)) = (pc : Int) := by omega
          have w6 : IntKind.i64.wrap (pc : Int) = (pc : Int) := IntWalk.i64_in _ (by omega)
          obtain ⟨x, hx⟩ : ∃ x, U[h - a]? = some x := ⟨_, List.getElem?_eq_getElem (by omega)⟩
          obtain ⟨y, hy⟩ : ∃ y, V[K - (h - a) - 1]? = some y := ⟨_, List.getElem?_eq_getElem (by omega)⟩
          obtain ⟨c1, s1, l1⟩ := HM.out.cellAt (i := pc) (p := y) (by have := at_v P U V S hy; rw [ha, hlu, show a + lu + (K - (h - a) - 1) = pc from by omega] at this; exact this)
          obtain ⟨c2, s2, l2⟩ := HM.out.cellAt (i := h) (p := x) (by have := at_u P U (V ++ S) hx; rw [ha, show a + (h - a) = h from by omega] at this; exact this)
          have Q := hide (fun (W : World) (hW : Below wr.heap.size wr W) => orders_c y.1.A x.1.A y.1.n y.1.c x.1.n x.1.c y.2 x.2 W (s1.kept hW) (s2.kept hW))
          have l3 : (pc : Int) < n := by omega
          have l4 : (h : Int) < n := by omega
          have hwh : IntKind.i64.wrap ((h : Int) + 1) = (h : Int) + 1 := IntWalk.i64_in _ (by omega)
          obtain ⟨z, hz⟩ : ∃ z, cmpR y.2 x.2 = z := ⟨_, rfl⟩
          rw [hz] at Q
          have HT : Hid (z < 0 → h = m ∨ ∃ x y, U[h - a]? = some x ∧ V[K - (h - a) - 1]? = some y ∧ cmpR y.2 x.2 < 0) := fun hz0 => .inr ⟨x, y, hx, hy, by omega⟩
          have HF : Hid (¬ z < 0 → h + 1 = a ∨ ∃ x y, U[h + 1 - a - 1]? = some x ∧ V[K - (h + 1 - a)]? = some y ∧ cmpR x.2 y.2 ≤ 0) := fun hz0 => .inr ⟨x, y, by rw [show h + 1 - a - 1 = h - a from by omega]; exact hx, by rw [show K - (h + 1 - a) = K - (h - a) - 1 from by omega]; exact hy, by have := cmpR_neg y.2 x.2; omega⟩
          have b1 : a ≤ h + 1 := by omega
          have b2 : h + 1 ≤ r := by omega
          have b3 : st ≤ h := by omega
          have b4 : h ≤ m := by omega
          have b5 : h < r := by omega
          have b6 : st < h + 1 := by omega
          clear s1 s2 l1 l2 hx hy hz hpc hh ih
          go_wp2_with fail
          refine wp_region_held_drew (S := (fun w' => Below wr.heap.size wr w')) (by kernel_rfl) ((Below.refl _ _).drew) (fun hHeld => ?_)
          first | (refine wpAnyH_take (i := 0) (v := ?_) nth0 (by kernel_rfl) (by kernel_rfl) (by kernel_rfl) (fun _ _ _ h => h) (Or.inl ⟨by rfl, ?_⟩) hHeld ?_; rotate_left; focus (intro wS hSw; (have k0 := kept hSw c1; have k1 := kept hSw c2); go_simp; try with_reducible rfl; done)) | (refine wpAnyH_take (i := 0) (v := undef) nth0 (by kernel_rfl) (by kernel_rfl) (by kernel_rfl) (fun _ _ _ h => h) (Or.inr ⟨by rfl, rfl⟩) hHeld ?_)
          (try simp only [Act.put]); (try simp only [List.setIfInBounds_toArray]); (try simp only [List.set_cons_succ]); (try simp only [List.set_cons_zero])
          first | (refine wpAnyH_take (i := 1) (v := ?_) nth1 (by kernel_rfl) (by kernel_rfl) (by kernel_rfl) (fun _ _ _ h => h) (Or.inl ⟨by rfl, ?_⟩) hHeld ?_; rotate_left; focus (intro wS hSw; (have k0 := kept hSw c1; have k1 := kept hSw c2); go_simp; try with_reducible rfl; done)) | (refine wpAnyH_take (i := 1) (v := undef) nth1 (by kernel_rfl) (by kernel_rfl) (by kernel_rfl) (fun _ _ _ h => h) (Or.inr ⟨by rfl, rfl⟩) hHeld ?_)
          (try simp only [Act.put]); (try simp only [List.setIfInBounds_toArray]); (try simp only [List.set_cons_succ]); (try simp only [List.set_cons_zero])
          first | (refine wpAnyH_take (i := 2) (v := ?_) nth2 (by kernel_rfl) (by kernel_rfl) (by kernel_rfl) (fun _ _ _ h => h) (Or.inl ⟨by rfl, ?_⟩) hHeld ?_; rotate_left; focus (intro wS hSw; (have k0 := kept hSw c1; have k1 := kept hSw c2); go_simp; try with_reducible rfl; done)) | (refine wpAnyH_take (i := 2) (v := undef) nth2 (by kernel_rfl) (by kernel_rfl) (by kernel_rfl) (fun _ _ _ h => h) (Or.inr ⟨by rfl, rfl⟩) hHeld ?_)
          (try simp only [Act.put]); (try simp only [List.setIfInBounds_toArray]); (try simp only [List.set_cons_succ]); (try simp only [List.set_cons_zero])
          first | (refine wpAnyH_take (i := 3) (v := ?_) nth3 (by kernel_rfl) (by kernel_rfl) (by kernel_rfl) (fun _ _ _ h => h) (Or.inl ⟨by rfl, ?_⟩) hHeld ?_; rotate_left; focus (intro wS hSw; (have k0 := kept hSw c1; have k1 := kept hSw c2); go_simp; try with_reducible rfl; done)) | (refine wpAnyH_take (i := 3) (v := undef) nth3 (by kernel_rfl) (by kernel_rfl) (by kernel_rfl) (fun _ _ _ h => h) (Or.inr ⟨by rfl, rfl⟩) hHeld ?_)
          (try simp only [Act.put]); (try simp only [List.setIfInBounds_toArray]); (try simp only [List.set_cons_succ]); (try simp only [List.set_cons_zero])
          first | (refine wpAnyH_take (i := 4) (v := ?_) nth4 (by kernel_rfl) (by kernel_rfl) (by kernel_rfl) (fun _ _ _ h => h) (Or.inl ⟨by rfl, ?_⟩) hHeld ?_; rotate_left; focus (intro wS hSw; (have k0 := kept hSw c1; have k1 := kept hSw c2); go_simp; try with_reducible rfl; done)) | (refine wpAnyH_take (i := 4) (v := undef) nth4 (by kernel_rfl) (by kernel_rfl) (by kernel_rfl) (fun _ _ _ h => h) (Or.inr ⟨by rfl, rfl⟩) hHeld ?_)
          (try simp only [Act.put]); (try simp only [List.setIfInBounds_toArray]); (try simp only [List.set_cons_succ]); (try simp only [List.set_cons_zero])
          first | (refine wpAnyH_take (i := 5) (v := ?_) nth5 (by kernel_rfl) (by kernel_rfl) (by kernel_rfl) (fun _ _ _ h => h) (Or.inl ⟨by rfl, ?_⟩) hHeld ?_; rotate_left; focus (intro wS hSw; (have k0 := kept hSw c1; have k1 := kept hSw c2); go_simp; try with_reducible rfl; done)) | (refine wpAnyH_take (i := 5) (v := undef) nth5 (by kernel_rfl) (by kernel_rfl) (by kernel_rfl) (fun _ _ _ h => h) (Or.inr ⟨by rfl, rfl⟩) hHeld ?_)
          (try simp only [Act.put]); (try simp only [List.setIfInBounds_toArray]); (try simp only [List.set_cons_succ]); (try simp only [List.set_cons_zero])
          first | (refine wpAnyH_take (i := 6) (v := ?_) nth6 (by kernel_rfl) (by kernel_rfl) (by kernel_rfl) (fun _ _ _ h => h) (Or.inl ⟨by rfl, ?_⟩) hHeld ?_; rotate_left; focus (intro wS hSw; (have k0 := kept hSw c1; have k1 := kept hSw c2); go_simp; try with_reducible rfl; done)) | (refine wpAnyH_take (i := 6) (v := undef) nth6 (by kernel_rfl) (by kernel_rfl) (by kernel_rfl) (fun _ _ _ h => h) (Or.inr ⟨by rfl, rfl⟩) hHeld ?_)
          (try simp only [Act.put]); (try simp only [List.setIfInBounds_toArray]); (try simp only [List.set_cons_succ]); (try simp only [List.set_cons_zero])
          first | (refine wpAnyH_take (i := 7) (v := ?_) nth7 (by kernel_rfl) (by kernel_rfl) (by kernel_rfl) (fun _ _ _ h => h) (Or.inl ⟨by rfl, ?_⟩) hHeld ?_; rotate_left; focus (intro wS hSw; (have k0 := kept hSw c1; have k1 := kept hSw c2); go_simp; try with_reducible rfl; done)) | (refine wpAnyH_take (i := 7) (v := undef) nth7 (by kernel_rfl) (by kernel_rfl) (by kernel_rfl) (fun _ _ _ h => h) (Or.inr ⟨by rfl, rfl⟩) hHeld ?_)
          (try simp only [Act.put]); (try simp only [List.setIfInBounds_toArray]); (try simp only [List.set_cons_succ]); (try simp only [List.set_cons_zero])
          first | (refine wpAnyH_take (i := 8) (v := ?_) nth8 (by kernel_rfl) (by kernel_rfl) (by kernel_rfl) (fun _ _ _ h => h) (Or.inl ⟨by rfl, ?_⟩) hHeld ?_; rotate_left; focus (intro wS hSw; (have k0 := kept hSw c1; have k1 := kept hSw c2); go_simp; try with_reducible rfl; done)) | (refine wpAnyH_take (i := 8) (v := undef) nth8 (by kernel_rfl) (by kernel_rfl) (by kernel_rfl) (fun _ _ _ h => h) (Or.inr ⟨by rfl, rfl⟩) hHeld ?_)
          (try simp only [Act.put]); (try simp only [List.setIfInBounds_toArray]); (try simp only [List.set_cons_succ]); (try simp only [List.set_cons_zero])
          first | (refine wpAnyH_take (i := 9) (v := ?_) nth9 (by kernel_rfl) (by kernel_rfl) (by kernel_rfl) (fun _ _ _ h => h) (Or.inl ⟨by rfl, ?_⟩) hHeld ?_; rotate_left; focus (intro wS hSw; (have k0 := kept hSw c1; have k1 := kept hSw c2); go_simp; try with_reducible rfl; done)) | (refine wpAnyH_take (i := 9) (v := undef) nth9 (by kernel_rfl) (by kernel_rfl) (by kernel_rfl) (fun _ _ _ h => h) (Or.inr ⟨by rfl, rfl⟩) hHeld ?_)
          (try simp only [Act.put]); (try simp only [List.setIfInBounds_toArray]); (try simp only [List.set_cons_succ]); (try simp only [List.set_cons_zero])
          first | (refine wpAnyH_take (i := 10) (v := ?_) nth10 (by kernel_rfl) (by kernel_rfl) (by kernel_rfl) (fun _ _ _ h => h) (Or.inl ⟨by rfl, ?_⟩) hHeld ?_; rotate_left; focus (intro wS hSw; (have k0 := kept hSw c1; have k1 := kept hSw c2); go_simp; try with_reducible rfl; done)) | (refine wpAnyH_take (i := 10) (v := undef) nth10 (by kernel_rfl) (by kernel_rfl) (by kernel_rfl) (fun _ _ _ h => h) (Or.inr ⟨by rfl, rfl⟩) hHeld ?_)
          (try simp only [Act.put]); (try simp only [List.setIfInBounds_toArray]); (try simp only [List.set_cons_succ]); (try simp only [List.set_cons_zero])
          refine wpAnyH_ready (rs := [11]) (by kernel_rfl) (by simp) ?_
          refine AllReadyH.cons nth11 (fun K hK => ?_) AllReadyH.nil
          go_simp
          (go_at_call 6; refine (Q.out _ hHeld).mono ?_; rintro e w' ⟨rfl, hb⟩)
          refine hK.out _ _ (Bel.then hHeld hb) (fun hHeld => ?_)
          clear hK K
          (try simp only [Act.put]); (try simp only [List.setIfInBounds_toArray]); (try simp only [List.set_cons_succ]); (try simp only [List.set_cons_zero])
          first | (refine wpAnyH_take (i := 12) (v := ?_) nth12 (by kernel_rfl) (by kernel_rfl) (by kernel_rfl) (fun _ _ _ h => h) (Or.inl ⟨by rfl, ?_⟩) hHeld ?_; rotate_left; focus (intro wS hSw; (have k0 := kept hSw c1; have k1 := kept hSw c2); go_simp; try with_reducible rfl; done)) | (refine wpAnyH_take (i := 12) (v := undef) nth12 (by kernel_rfl) (by kernel_rfl) (by kernel_rfl) (fun _ _ _ h => h) (Or.inr ⟨by rfl, rfl⟩) hHeld ?_)
          (try simp only [Act.put]); (try simp only [List.setIfInBounds_toArray]); (try simp only [List.set_cons_succ]); (try simp only [List.set_cons_zero])
          first | (refine wpAnyH_take (i := 13) (v := ?_) nth13 (by kernel_rfl) (by kernel_rfl) (by kernel_rfl) (fun _ _ _ h => h) (Or.inl ⟨by rfl, ?_⟩) hHeld ?_; rotate_left; focus (intro wS hSw; (have k0 := kept hSw c1; have k1 := kept hSw c2); go_simp; try with_reducible rfl; done)) | (refine wpAnyH_take (i := 13) (v := undef) nth13 (by kernel_rfl) (by kernel_rfl) (by kernel_rfl) (fun _ _ _ h => h) (Or.inr ⟨by rfl, rfl⟩) hHeld ?_)
          (try simp only [Act.put]); (try simp only [List.setIfInBounds_toArray]); (try simp only [List.set_cons_succ]); (try simp only [List.set_cons_zero])
          refine wpAnyH_done (by kernel_rfl) ?_ _
          replace HM := hide (HM.out.kept (HM.out.low hbw) hHeld)
          clear hHeld c1 c2 Q
          generalize hq : decide (z < 0) = q
          cases q with
          | true =>
            have HJ2 := hide (HT.out (of_decide_eq_true hq))
            clear HT HF HJ hq
            go_wp2_with fail
            go_roundw
            case rel => exact ⟨st, h, rfl, rfl, hs0, b3, b4, HI, HJ2, HM⟩
            case measure => simp [intOf]; omega
          | false =>
            have HI2 := hide (HF.out (by have := of_decide_eq_false hq; omega))
            clear HT HF HI hq
            go_wp2_with fail
            go_roundw
            case rel => exact ⟨h + 1, r, by go_num, rfl, b1, b2, hr0, HI2, HJ, HM⟩
            case measure => simp [intOf]; omega
        · have hlti : ¬ (st : Int) < r := by omega
          obtain rfl : st = r := by omega
          obtain ⟨en, hen⟩ : ∃ en, mid + m - st = en := ⟨_, rfl⟩
          have w4 : IntKind.i64.wrap ((nn : Int) - (st : Int)) = (en : Int) := by rw [IntWalk.i64_in _ (by omega)]; omega
          have w5 : ((nn : Int) - (st : Int)) = (en : Int) := by omega
          have w6 : IntKind.i64.wrap (en : Int) = (en : Int) := IntWalk.i64_in _ (by omega)
          have e1 : st = a → st - a = K - V.length := by omega
          have e2 : st = m → st - a = min K U.length := by omega
          have e3 : K - V.length ≤ st - a := by omega
          have e4 : st - a ≤ min K U.length := by omega
          have hAB : (∀ u ∈ U.take (st - a), ∀ v ∈ V.drop (K - (st - a)), cmpR u.2 v.2 ≤ 0) ∧ (∀ v ∈ V.take (K - (st - a)), ∀ u ∈ U.drop (st - a), cmpR v.2 u.2 ≤ 0) := by
            have hI := HI.out
            have hJ := HJ.out
            exact sym_split hU hV e3 e4 (hI.elim (fun e => .inl (e1 e)) .inr) (hJ.elim (fun e => .inl (e2 e)) .inr)
          have HA := hide hAB.1
          have HB2 := hide hAB.2
          clear hAB e1 e2 e3 e4 HI HJ
          have hUe : U.take (st - a) ++ U.drop (st - a) = U := List.take_append_drop _ _
          have hVe : V.take (K - (st - a)) ++ V.drop (K - (st - a)) = V := List.take_append_drop _ _
          have hlU1 : (U.take (st - a)).length = st - a := by rw [List.length_take]; omega
          have hlU2 : (U.drop (st - a)).length = m - st := by rw [List.length_drop]; omega
          have hlV1 : (V.take (K - (st - a))).length = mid - st := by rw [List.length_take]; omega
          have hlV2 : (V.drop (K - (st - a))).length = b - en := by rw [List.length_drop]; omega
          generalize U.take (st - a) = U1 at *
          generalize U.drop (st - a) = U2 at *
          generalize V.take (K - (st - a)) = V1 at *
          generalize V.drop (K - (st - a)) = V2 at *
          subst hUe hVe
          have hUr := hU
          have hVr := hV
          obtain ⟨hU1r, hU2r⟩ := rises_part hU
          obtain ⟨hV1r, hV2r⟩ := rises_part hV
          have hPU : (P ++ U1).length = st := by rw [List.length_append]; omega
          by_cases hU2 : st < m
          · by_cases hV1 : st < mid
            · by_cases hU1 : a < st
              · by_cases hV2 : en < b
                · have : (a : Int) < (st : Int) := by omega
                  have : (st : Int) < (m : Int) := by omega
                  have : (st : Int) < (mid : Int) := by omega
                  have : (en : Int) < (b : Int) := by omega
                  have : (m : Int) < (en : Int) := by omega
                  have : (mid : Int) < (en : Int) := by omega
                  have QR := hide (rotate_c base g n cap st m en wr (.func (.func 6) #[] #[]) (P ++ U1) U2 V1 (V2 ++ S) (by have := HM.out.at_; simpa using this) hPU (by omega) (by omega) (by omega) (by omega) hg (HM.out.low hbw) hn)
                  have HB := hide HM.out.below
                  clear HM
                  have J1 := hide (fun (W : World) (hM : MovR base g n cap w W (P ++ (U1 ++ (V1 ++ (U2 ++ (V2 ++ S)))))) => ih P U1 V1 (U2 ++ (V2 ++ S)) a st mid W ha (by omega) (by omega) (by omega) (by omega) (by omega) hU1r hV1r (hM.low hbw) hM.at_)
                  have J2 := hide (fun (W : World) (W1 : List RowP) (hl : W1.length = U1.length + V1.length) (hM : MovR base g n cap w W (P ++ (W1 ++ (U2 ++ (V2 ++ S))))) => ih (P ++ W1) U2 V2 S mid en b W (by rw [List.length_append]; omega) (by omega) (by omega) (by omega) (by omega) (by omega) hU2r hV2r (hM.low hbw) (by have := hM.at_; simpa using this))
                  clear ih
                  go_wp2_with fail
                  refine QR.out.mono ?_
                  rintro e wa ⟨rfl, hM⟩
                  have HM1 := hide (show MovR base g n cap w wa (P ++ (U1 ++ (V1 ++ (U2 ++ (V2 ++ S))))) from ⟨HB.out.trans hM.below, by have := hM.at_; simpa using this⟩)
                  clear hM QR HB
                  go_wp2_with fail
                  refine (J1.out _ HM1.out).mono ?_
                  rintro e wb ⟨rfl, W1, p1, r1, hM⟩
                  have HM2 := hide (show MovR base g n cap w wb (P ++ (W1 ++ (U2 ++ (V2 ++ S)))) from ⟨HM1.out.below.trans hM.below, hM.at_⟩)
                  have hP1 := hide p1
                  have hW1 := hide r1
                  have hl1 : W1.length = U1.length + V1.length := by rw [p1.length_eq, List.length_append]
                  clear hM J1 p1 r1
                  go_wp2_with fail
                  refine (J2.out _ _ hl1 HM2.out).mono ?_
                  rintro e wc ⟨rfl, W2, p2, r2, hM⟩
                  have HM3 := hide (show MovR base g n cap w wc (P ++ ((W1 ++ W2) ++ S)) from ⟨HM2.out.below.trans hM.below, by have := hM.at_; simpa using this⟩)
                  have hJ := sym_join hUr hVr HA.out HB2.out hP1.out p2 hW1.out r2
                  have HJ := hide hJ
                  clear hM J2 p2 r2 hJ
                  go_wp2_with fail
                  go_end0
                  exact ⟨rfl, _, by have := HJ.out.2; simpa using this, HJ.out.1, HM3.out⟩
                · have : (a : Int) < (st : Int) := by omega
                  have : (st : Int) < (m : Int) := by omega
                  have : (st : Int) < (mid : Int) := by omega
                  have : ¬ (en : Int) < (b : Int) := by omega
                  have : (m : Int) < (en : Int) := by omega
                  have : (mid : Int) < (en : Int) := by omega
                  have QR := hide (rotate_c base g n cap st m en wr (.func (.func 6) #[] #[]) (P ++ U1) U2 V1 (V2 ++ S) (by have := HM.out.at_; simpa using this) hPU (by omega) (by omega) (by omega) (by omega) hg (HM.out.low hbw) hn)
                  have HB := hide HM.out.below
                  clear HM
                  have hW2 := hide (show RisesP (U2 ++ V2) from rises_one (.inr (List.eq_nil_of_length_eq_zero (by omega))) hU2r hV2r)
                  have J1 := hide (fun (W : World) (hM : MovR base g n cap w W (P ++ (U1 ++ (V1 ++ (U2 ++ (V2 ++ S)))))) => ih P U1 V1 (U2 ++ (V2 ++ S)) a st mid W ha (by omega) (by omega) (by omega) (by omega) (by omega) hU1r hV1r (hM.low hbw) hM.at_)
                  clear ih
                  go_wp2_with fail
                  refine QR.out.mono ?_
                  rintro e wa ⟨rfl, hM⟩
                  have HM1 := hide (show MovR base g n cap w wa (P ++ (U1 ++ (V1 ++ (U2 ++ (V2 ++ S))))) from ⟨HB.out.trans hM.below, by have := hM.at_; simpa using this⟩)
                  clear hM QR HB
                  go_wp2_with fail
                  refine (J1.out _ HM1.out).mono ?_
                  rintro e wb ⟨rfl, W1, p1, r1, hM⟩
                  have HM2 := hide (show MovR base g n cap w wb (P ++ (W1 ++ (U2 ++ (V2 ++ S)))) from ⟨HM1.out.below.trans hM.below, hM.at_⟩)
                  have hP1 := hide p1
                  have hW1 := hide r1
                  have hl1 : W1.length = U1.length + V1.length := by rw [p1.length_eq, List.length_append]
                  clear hM J1 p1 r1
                  go_wp2_with fail
                  have HM3 := hide (show MovR base g n cap w wb (P ++ ((W1 ++ (U2 ++ V2)) ++ S)) from by have := HM2.out; simpa using this)
                  have HJ := hide (sym_join hUr hVr HA.out HB2.out hP1.out (List.Perm.refl (U2 ++ V2)) hW1.out hW2.out)
                  go_end0
                  exact ⟨rfl, _, by have := HJ.out.2; simpa using this, HJ.out.1, HM3.out⟩
              · by_cases hV2 : en < b
                · have : ¬ (a : Int) < (st : Int) := by omega
                  have : (st : Int) < (m : Int) := by omega
                  have : (st : Int) < (mid : Int) := by omega
                  have : (en : Int) < (b : Int) := by omega
                  have : (m : Int) < (en : Int) := by omega
                  have : (mid : Int) < (en : Int) := by omega
                  have QR := hide (rotate_c base g n cap st m en wr (.func (.func 6) #[] #[]) (P ++ U1) U2 V1 (V2 ++ S) (by have := HM.out.at_; simpa using this) hPU (by omega) (by omega) (by omega) (by omega) hg (HM.out.low hbw) hn)
                  have HB := hide HM.out.below
                  clear HM
                  have hW1 := hide (show RisesP (U1 ++ V1) from rises_one (.inl (List.eq_nil_of_length_eq_zero (by omega))) hU1r hV1r)
                  have J2 := hide (fun (W : World) (W1 : List RowP) (hl : W1.length = U1.length + V1.length) (hM : MovR base g n cap w W (P ++ (W1 ++ (U2 ++ (V2 ++ S))))) => ih (P ++ W1) U2 V2 S mid en b W (by rw [List.length_append]; omega) (by omega) (by omega) (by omega) (by omega) (by omega) hU2r hV2r (hM.low hbw) (by have := hM.at_; simpa using this))
                  clear ih
                  go_wp2_with fail
                  refine QR.out.mono ?_
                  rintro e wa ⟨rfl, hM⟩
                  have HM1 := hide (show MovR base g n cap w wa (P ++ (U1 ++ (V1 ++ (U2 ++ (V2 ++ S))))) from ⟨HB.out.trans hM.below, by have := hM.at_; simpa using this⟩)
                  clear hM QR HB
                  go_wp2_with fail
                  have HM2 := hide (show MovR base g n cap w wa (P ++ ((U1 ++ V1) ++ (U2 ++ (V2 ++ S)))) from by have := HM1.out; simpa using this)
                  have hP1 := hide (List.Perm.refl (U1 ++ V1))
                  have hl1 : (U1 ++ V1).length = U1.length + V1.length := List.length_append
                  refine (J2.out _ _ hl1 HM2.out).mono ?_
                  rintro e wc ⟨rfl, W2, p2, r2, hM⟩
                  have HM3 := hide (show MovR base g n cap w wc (P ++ (((U1 ++ V1) ++ W2) ++ S)) from ⟨HM2.out.below.trans hM.below, by have := hM.at_; simpa using this⟩)
                  have hJ := sym_join hUr hVr HA.out HB2.out hP1.out p2 hW1.out r2
                  have HJ := hide hJ
                  clear hM J2 p2 r2 hJ
                  go_wp2_with fail
                  go_end0
                  exact ⟨rfl, _, by have := HJ.out.2; simpa using this, HJ.out.1, HM3.out⟩
                · have : ¬ (a : Int) < (st : Int) := by omega
                  have : (st : Int) < (m : Int) := by omega
                  have : (st : Int) < (mid : Int) := by omega
                  have : ¬ (en : Int) < (b : Int) := by omega
                  have : (m : Int) < (en : Int) := by omega
                  have : (mid : Int) < (en : Int) := by omega
                  have QR := hide (rotate_c base g n cap st m en wr (.func (.func 6) #[] #[]) (P ++ U1) U2 V1 (V2 ++ S) (by have := HM.out.at_; simpa using this) hPU (by omega) (by omega) (by omega) (by omega) hg (HM.out.low hbw) hn)
                  have HB := hide HM.out.below
                  clear HM
                  have hW1 := hide (show RisesP (U1 ++ V1) from rises_one (.inl (List.eq_nil_of_length_eq_zero (by omega))) hU1r hV1r)
                  have hW2 := hide (show RisesP (U2 ++ V2) from rises_one (.inr (List.eq_nil_of_length_eq_zero (by omega))) hU2r hV2r)
                  clear ih
                  go_wp2_with fail
                  refine QR.out.mono ?_
                  rintro e wa ⟨rfl, hM⟩
                  have HM1 := hide (show MovR base g n cap w wa (P ++ (U1 ++ (V1 ++ (U2 ++ (V2 ++ S))))) from ⟨HB.out.trans hM.below, by have := hM.at_; simpa using this⟩)
                  clear hM QR HB
                  go_wp2_with fail
                  have HM2 := hide (show MovR base g n cap w wa (P ++ ((U1 ++ V1) ++ (U2 ++ (V2 ++ S)))) from by have := HM1.out; simpa using this)
                  have hP1 := hide (List.Perm.refl (U1 ++ V1))
                  have hl1 : (U1 ++ V1).length = U1.length + V1.length := List.length_append
                  have HM3 := hide (show MovR base g n cap w wa (P ++ (((U1 ++ V1) ++ (U2 ++ V2)) ++ S)) from by have := HM2.out; simpa using this)
                  have HJ := hide (sym_join hUr hVr HA.out HB2.out hP1.out (List.Perm.refl (U2 ++ V2)) hW1.out hW2.out)
                  go_end0
                  exact ⟨rfl, _, by have := HJ.out.2; simpa using this, HJ.out.1, HM3.out⟩
            · exfalso; clear ih; omega
          · by_cases hV1 : st < mid
            · by_cases hU1 : a < st
              · by_cases hV2 : en < b
                · have : (a : Int) < (st : Int) := by omega
                  have : ¬ (st : Int) < (m : Int) := by omega
                  have : (st : Int) < (mid : Int) := by omega
                  have : (en : Int) < (b : Int) := by omega
                  have : (m : Int) < (en : Int) := by omega
                  have : ¬ (mid : Int) < (en : Int) := by omega
                  have HM1 := hide (show MovR base g n cap w wr (P ++ (U1 ++ (V1 ++ (U2 ++ (V2 ++ S))))) from by have := HM.out; rw [rot_same (.inl (List.eq_nil_of_length_eq_zero (by omega)))] at this; exact this)
                  clear HM
                  have hW2 := hide (show RisesP (U2 ++ V2) from rises_one (.inl (List.eq_nil_of_length_eq_zero (by omega))) hU2r hV2r)
                  have J1 := hide (fun (W : World) (hM : MovR base g n cap w W (P ++ (U1 ++ (V1 ++ (U2 ++ (V2 ++ S)))))) => ih P U1 V1 (U2 ++ (V2 ++ S)) a st mid W ha (by omega) (by omega) (by omega) (by omega) (by omega) hU1r hV1r (hM.low hbw) hM.at_)
                  clear ih
                  go_wp2_with fail
                  refine (J1.out _ HM1.out).mono ?_
                  rintro e wb ⟨rfl, W1, p1, r1, hM⟩
                  have HM2 := hide (show MovR base g n cap w wb (P ++ (W1 ++ (U2 ++ (V2 ++ S)))) from ⟨HM1.out.below.trans hM.below, hM.at_⟩)
                  have hP1 := hide p1
                  have hW1 := hide r1
                  have hl1 : W1.length = U1.length + V1.length := by rw [p1.length_eq, List.length_append]
                  clear hM J1 p1 r1
                  go_wp2_with fail
                  have HM3 := hide (show MovR base g n cap w wb (P ++ ((W1 ++ (U2 ++ V2)) ++ S)) from by have := HM2.out; simpa using this)
                  have HJ := hide (sym_join hUr hVr HA.out HB2.out hP1.out (List.Perm.refl (U2 ++ V2)) hW1.out hW2.out)
                  go_end0
                  exact ⟨rfl, _, by have := HJ.out.2; simpa using this, HJ.out.1, HM3.out⟩
                · exfalso; clear ih; omega
              · exfalso; clear ih; omega
            · by_cases hU1 : a < st
              · by_cases hV2 : en < b
                · have : (a : Int) < (st : Int) := by omega
                  have : ¬ (st : Int) < (m : Int) := by omega
                  have : ¬ (st : Int) < (mid : Int) := by omega
                  have : (en : Int) < (b : Int) := by omega
                  have : ¬ (m : Int) < (en : Int) := by omega
                  have : ¬ (mid : Int) < (en : Int) := by omega
                  have HM1 := hide (show MovR base g n cap w wr (P ++ (U1 ++ (V1 ++ (U2 ++ (V2 ++ S))))) from by have := HM.out; rw [rot_same (.inl (List.eq_nil_of_length_eq_zero (by omega)))] at this; exact this)
                  clear HM
                  have hW1 := hide (show RisesP (U1 ++ V1) from rises_one (.inr (List.eq_nil_of_length_eq_zero (by omega))) hU1r hV1r)
                  have hW2 := hide (show RisesP (U2 ++ V2) from rises_one (.inl (List.eq_nil_of_length_eq_zero (by omega))) hU2r hV2r)
                  clear ih
                  go_wp2_with fail
                  have HM2 := hide (show MovR base g n cap w wr (P ++ ((U1 ++ V1) ++ (U2 ++ (V2 ++ S)))) from by have := HM1.out; simpa using this)
                  have hP1 := hide (List.Perm.refl (U1 ++ V1))
                  have hl1 : (U1 ++ V1).length = U1.length + V1.length := List.length_append
                  have HM3 := hide (show MovR base g n cap w wr (P ++ (((U1 ++ V1) ++ (U2 ++ V2)) ++ S)) from by have := HM2.out; simpa using this)
                  have HJ := hide (sym_join hUr hVr HA.out HB2.out hP1.out (List.Perm.refl (U2 ++ V2)) hW1.out hW2.out)
                  go_end0
                  exact ⟨rfl, _, by have := HJ.out.2; simpa using this, HJ.out.1, HM3.out⟩
                · exfalso; clear ih; omega
              · exfalso; clear ih; omega
end Go.Proofs.YtobepbpiagclnaaDoor
