/- The walk of VersionTurns. -/
import Derived.Test.YtebamnlknaoehaaVrI
import Derived.BigRegion
namespace Go.Proofs.Ytebamnlknaoehaa
set_option linter.unusedVariables false
open Go.ChangeShapes Go.WideShapes Go.ChangeAt Go.RowKit

theorem old_seen {f t s : Int} (h : oldG t s = true) : seenG f t s = false ∧ seenG f t (s + 1) = false := by
  unfold oldG at h
  unfold seenG
  simp at h
  constructor
  · have h1 : ¬ t = 0 := by omega
    have h2 : ¬ s < t := by omega
    simp [h1, h2]
  · have h1 : ¬ t = 0 := by omega
    have h2 : ¬ s + 1 < t := by omega
    simp [h1, h2]
/-- The two versions, each in its box. -/
def TwoV (w wr : World) (g : Nat) (f t o : Int) : Prop := Below w.heap.size w wr ∧ VerBox wr g 0 f t none 0 0 ∧ VerBox wr (g + 1) 0 t o none 0 0
theorem TwoV.kept {w wr w' : World} {g : Nat} {f t o : Int} (h : TwoV w wr g f t o) (hb : Below wr.heap.size wr w') : TwoV w w' g f t o := ⟨h.1.trans (hb.mono h.1.size), h.2.1.kept hb, h.2.2.kept hb⟩
theorem arr_cells (w : World) (x y z u : Int) (t : TypeId) : (w.alloc (.cells #[.int .i64 x, .int .i64 y, .int .i64 z, .int .i64 u] t)).cell? ⟨w.heap.size, 0, none⟩ = some (.int .i64 x) ∧ (w.alloc (.cells #[.int .i64 x, .int .i64 y, .int .i64 z, .int .i64 u] t)).cell? ⟨w.heap.size, 1, none⟩ = some (.int .i64 y) ∧ (w.alloc (.cells #[.int .i64 x, .int .i64 y, .int .i64 z, .int .i64 u] t)).cell? ⟨w.heap.size, 2, none⟩ = some (.int .i64 z) ∧ (w.alloc (.cells #[.int .i64 x, .int .i64 y, .int .i64 z, .int .i64 u] t)).cell? ⟨w.heap.size, 3, none⟩ = some (.int .i64 u) := box4 w _ _ _ _ _
set_option maxRecDepth 100000 in
set_option maxHeartbeats 8000000 in
theorem turns_w (f t o s : Int) (w : World) (hs0 : -9223372036854775808 ≤ s) : Calls Try.prog 6 #[.agg #[.int .i64 f, .int .i64 t, .int .i64 o, .int .i64 s]] w fun e w' => e = .returned (.bool true) ∧ Below w.heap.size w w' := by
  have QA := hide (fun W => awakeV_c W)
  have QX := hide (fun W => seen_c 0 f t s none 0 0 W)
  have QY := hide (fun W => seen_c 0 t o s none 0 0 W)
  have QX1 := hide (fun W => seen_c 0 f t (s + 1) none 0 0 W)
  have QY1 := hide (fun W => seen_c 0 t o (s + 1) none 0 0 W)
  have QO := hide (fun W => old_c 0 f t s none 0 0 W)
  have QP := hide (fun W => old_c 0 t o s none 0 0 W)
  have hold1 := fun h => @old_seen f t s h
  have hold2 := fun h => @old_seen t o s h
  unfold verAgg at QX QY QX1 QY1 QO QP
  have H2 : Hid (TwoV w (((w.alloc (.cells #[.int .i64 f, .int .i64 t, .int .i64 o, .int .i64 s] 45)).alloc (.cells #[.int .i64 0, .int .i64 f, .int .i64 t, .slice none 0 0] 25)).alloc (.cells #[.int .i64 0, .int .i64 t, .int .i64 o, .slice none 0 0] 25)).drew (w.heap.size + 1) f t o) := by
    refine ⟨Bel.drew (Bel.alloc (Bel.alloc (Bel.one w _) _) _), ?_, ?_⟩
    · have := (vb_new (w.alloc (.cells #[.int .i64 f, .int .i64 t, .int .i64 o, .int .i64 s] 45)) 0 f t none 0 0).kept ((Bel.one _ (.cells #[.int .i64 0, .int .i64 t, .int .i64 o, .slice none 0 0] 25)).drew)
      rw [World.size_alloc] at this
      exact this
    · have := (vb_new ((w.alloc (.cells #[.int .i64 f, .int .i64 t, .int .i64 o, .int .i64 s] 45)).alloc (.cells #[.int .i64 0, .int .i64 f, .int .i64 t, .slice none 0 0] 25)) 0 t o none 0 0).kept ((Below.refl _ _).drew)
      rw [World.size_alloc, World.size_alloc] at this
      exact this
  generalize hg : w.heap.size + 1 = g at H2
  generalize hW0 : (((w.alloc (.cells #[.int .i64 f, .int .i64 t, .int .i64 o, .int .i64 s] 45)).alloc (.cells #[.int .i64 0, .int .i64 f, .int .i64 t, .slice none 0 0] 25)).alloc (.cells #[.int .i64 0, .int .i64 t, .int .i64 o, .slice none 0 0] 25)).drew = W0 at H2
  by_cases hft : t ≤ f ∨ t ≤ 0
  · rcases (show t ≤ f ∨ (f < t ∧ t ≤ 0) by omega) with hft | ⟨hft, ht0⟩
    all_goals
      subst hg hW0
      go_enter Try.func6, Try.ntmps6
      go_wp2_with fail
      go_region
      go_wp2_with fail
      refine (QA.out _).mono ?_
      rintro e wz ⟨rfl, hb⟩
      have HZ := hide (Below.trans H2.out.1 (hb.mono H2.out.1.size))
      clear hb H2
      go_wp2_with fail
      go_ret
      exact ⟨rfl, HZ.out⟩
  · have HG := hide hg
    have HW0 := hide hW0
    clear hg hW0
    have h1 : f < t := by omega
    have h2 : 0 < t := by omega
    clear hft
    have ht0 : (t == 0) = false := by rw [beq_eq_false_iff_ne]; omega
    have hcase : (s < f ∧ seenG f t s = false ∧ seenG t o s = false) ∨ (f ≤ s ∧ s < t ∧ (o == 0) = true ∧ seenG f t s = true ∧ seenG t o s = false) ∨ (f ≤ s ∧ s < t ∧ (o == 0) = false ∧ s < o ∧ seenG f t s = true ∧ seenG t o s = false) ∨ (f ≤ s ∧ s < t ∧ (o == 0) = false ∧ o ≤ s ∧ seenG f t s = true ∧ seenG t o s = false) ∨
        (f ≤ s ∧ t ≤ s ∧ (o == 0) = true ∧ seenG f t s = false ∧ seenG t o s = true) ∨ (f ≤ s ∧ t ≤ s ∧ (o == 0) = false ∧ s < o ∧ seenG f t s = false ∧ seenG t o s = true) ∨ (f ≤ s ∧ t ≤ s ∧ (o == 0) = false ∧ o ≤ s ∧ seenG f t s = false ∧ seenG t o s = false) := by
      have ht : ¬ t = 0 := by omega
      unfold seenG
      by_cases a1 : f ≤ s
      · by_cases a2 : t ≤ s
        · have a3 : ¬ s < t := by omega
          by_cases a4 : o = 0
          · right; right; right; right; left; simp [a1, a2, a4, ht]; try omega
          · by_cases a5 : s < o
            · right; right; right; right; right; left; simp [a1, a2, a4, a5, ht]; try omega
            · right; right; right; right; right; right; simp [a1, a2, a4, ht]; try omega
        · have a3 : s < t := by omega
          by_cases a4 : o = 0
          · right; left; simp [a1, a2, a3, a4, ht]
          · by_cases a5 : s < o
            · right; right; left; simp [a1, a2, a3, a4, a5, ht]
            · right; right; right; left; simp [a1, a2, a3, a4, ht]; try omega
      · left; simp [a1]; try omega
    generalize seenG f t s = x at *
    generalize seenG t o s = y at *
    generalize seenG f t (s + 1) = x1 at *
    generalize seenG t o (s + 1) = y1 at *
    generalize oldG t s = p at *
    generalize oldG o s = q at *
    have hold1 := hide hold1
    have hold2 := hide hold2
    have hcase := hide hcase
    rcases hcase.out with ⟨e1, rfl, rfl⟩ | ⟨e1, e2, e3, rfl, rfl⟩ | ⟨e1, e2, e3, e4, rfl, rfl⟩ | ⟨e1, e2, e3, e4, rfl, rfl⟩ | ⟨e1, e2, e3, rfl, rfl⟩ | ⟨e1, e2, e3, e4, rfl, rfl⟩ | ⟨e1, e2, e3, e4, rfl, rfl⟩
    all_goals
      clear hcase
      go_enter Try.func6, Try.ntmps6
      go_wp2_with fail
      go_region
      go_wp2_with fail
      rw [HG.out, HW0.out]
      obtain ⟨⟨c0, c1, c2, c3⟩, _⟩ := H2.out.2.1.all
      obtain ⟨⟨d0, d1, d2, d3⟩, _⟩ := H2.out.2.2.all
      clear HG HW0
      refine wp_region_held_drew (S := (fun w' => Below W0.heap.size W0 w')) (by kernel_rfl) ((Below.refl _ _).drew) (fun hHeld => ?_)
      first | (refine wpAnyH_take (i := 0) (v := ?_) nth0 (by kernel_rfl) (by kernel_rfl) (by kernel_rfl) (fun _ _ _ h => h) (Or.inl ⟨by rfl, ?_⟩) hHeld ?_; rotate_left; focus (intro wS hSw; (have k0 := kept hSw c0; have k1 := kept hSw c1; have k2 := kept hSw c2; have k3 := kept hSw c3; have l0 := kept hSw d0; have l1 := kept hSw d1; have l2 := kept hSw d2; have l3 := kept hSw d3); go_simp; try with_reducible rfl; done)) | (refine wpAnyH_take (i := 0) (v := undef) nth0 (by kernel_rfl) (by kernel_rfl) (by kernel_rfl) (fun _ _ _ h => h) (Or.inr ⟨by rfl, rfl⟩) hHeld ?_)
      (try simp only [Act.put]); (try simp only [List.setIfInBounds_toArray]); (try simp only [List.set_cons_succ]); (try simp only [List.set_cons_zero])
      first | (refine wpAnyH_take (i := 1) (v := ?_) nth1 (by kernel_rfl) (by kernel_rfl) (by kernel_rfl) (fun _ _ _ h => h) (Or.inl ⟨by rfl, ?_⟩) hHeld ?_; rotate_left; focus (intro wS hSw; (have k0 := kept hSw c0; have k1 := kept hSw c1; have k2 := kept hSw c2; have k3 := kept hSw c3; have l0 := kept hSw d0; have l1 := kept hSw d1; have l2 := kept hSw d2; have l3 := kept hSw d3); go_simp; try with_reducible rfl; done)) | (refine wpAnyH_take (i := 1) (v := undef) nth1 (by kernel_rfl) (by kernel_rfl) (by kernel_rfl) (fun _ _ _ h => h) (Or.inr ⟨by rfl, rfl⟩) hHeld ?_)
      (try simp only [Act.put]); (try simp only [List.setIfInBounds_toArray]); (try simp only [List.set_cons_succ]); (try simp only [List.set_cons_zero])
      first | (refine wpAnyH_take (i := 3) (v := ?_) nth3 (by kernel_rfl) (by kernel_rfl) (by kernel_rfl) (fun _ _ _ h => h) (Or.inl ⟨by rfl, ?_⟩) hHeld ?_; rotate_left; focus (intro wS hSw; (have k0 := kept hSw c0; have k1 := kept hSw c1; have k2 := kept hSw c2; have k3 := kept hSw c3; have l0 := kept hSw d0; have l1 := kept hSw d1; have l2 := kept hSw d2; have l3 := kept hSw d3); go_simp; try with_reducible rfl; done)) | (refine wpAnyH_take (i := 3) (v := undef) nth3 (by kernel_rfl) (by kernel_rfl) (by kernel_rfl) (fun _ _ _ h => h) (Or.inr ⟨by rfl, rfl⟩) hHeld ?_)
      (try simp only [Act.put]); (try simp only [List.setIfInBounds_toArray]); (try simp only [List.set_cons_succ]); (try simp only [List.set_cons_zero])
      first | (refine wpAnyH_take (i := 4) (v := ?_) nth4 (by kernel_rfl) (by kernel_rfl) (by kernel_rfl) (fun _ _ _ h => h) (Or.inl ⟨by rfl, ?_⟩) hHeld ?_; rotate_left; focus (intro wS hSw; (have k0 := kept hSw c0; have k1 := kept hSw c1; have k2 := kept hSw c2; have k3 := kept hSw c3; have l0 := kept hSw d0; have l1 := kept hSw d1; have l2 := kept hSw d2; have l3 := kept hSw d3); go_simp; try with_reducible rfl; done)) | (refine wpAnyH_take (i := 4) (v := undef) nth4 (by kernel_rfl) (by kernel_rfl) (by kernel_rfl) (fun _ _ _ h => h) (Or.inr ⟨by rfl, rfl⟩) hHeld ?_)
      (try simp only [Act.put]); (try simp only [List.setIfInBounds_toArray]); (try simp only [List.set_cons_succ]); (try simp only [List.set_cons_zero])
      refine wpAnyH_ready (rs := [2]) (by kernel_rfl) (by simp) ?_
      refine AllReadyH.cons nth2 (fun K hK => ?_) AllReadyH.nil
      go_simp
      (go_at_call 14; first | with_reducible refine (QX.out _).mono ?_ | with_reducible refine (QY.out _).mono ?_); rintro e w' ⟨rfl, hb⟩
      refine hK.out _ _ (Bel.then hHeld hb) (fun hHeld => ?_)
      clear hK K
      (try simp only [Act.put]); (try simp only [List.setIfInBounds_toArray]); (try simp only [List.set_cons_succ]); (try simp only [List.set_cons_zero])
      refine wpAnyH_ready (rs := [5]) (by kernel_rfl) (by simp) ?_
      refine AllReadyH.cons nth5 (fun K hK => ?_) AllReadyH.nil
      go_simp
      (go_at_call 14; first | with_reducible refine (QX.out _).mono ?_ | with_reducible refine (QY.out _).mono ?_); rintro e w' ⟨rfl, hb⟩
      refine hK.out _ _ (Bel.then hHeld hb) (fun hHeld => ?_)
      clear hK K
      (try simp only [Act.put]); (try simp only [List.setIfInBounds_toArray]); (try simp only [List.set_cons_succ]); (try simp only [List.set_cons_zero])
      first | (refine wpAnyH_take (i := 6) (v := ?_) nth6 (by kernel_rfl) (by kernel_rfl) (by kernel_rfl) (fun _ _ _ h => h) (Or.inl ⟨by rfl, ?_⟩) hHeld ?_; rotate_left; focus (intro wS hSw; (have k0 := kept hSw c0; have k1 := kept hSw c1; have k2 := kept hSw c2; have k3 := kept hSw c3; have l0 := kept hSw d0; have l1 := kept hSw d1; have l2 := kept hSw d2; have l3 := kept hSw d3); go_simp; try with_reducible rfl; done)) | (refine wpAnyH_take (i := 6) (v := undef) nth6 (by kernel_rfl) (by kernel_rfl) (by kernel_rfl) (fun _ _ _ h => h) (Or.inr ⟨by rfl, rfl⟩) hHeld ?_)
      (try simp only [Act.put]); (try simp only [List.setIfInBounds_toArray]); (try simp only [List.set_cons_succ]); (try simp only [List.set_cons_zero])
      first | (refine wpAnyH_take (i := 7) (v := ?_) nth7 (by kernel_rfl) (by kernel_rfl) (by kernel_rfl) (fun _ _ _ h => h) (Or.inl ⟨by rfl, ?_⟩) hHeld ?_; rotate_left; focus (intro wS hSw; (have k0 := kept hSw c0; have k1 := kept hSw c1; have k2 := kept hSw c2; have k3 := kept hSw c3; have l0 := kept hSw d0; have l1 := kept hSw d1; have l2 := kept hSw d2; have l3 := kept hSw d3); go_simp; try with_reducible rfl; done)) | (refine wpAnyH_take (i := 7) (v := undef) nth7 (by kernel_rfl) (by kernel_rfl) (by kernel_rfl) (fun _ _ _ h => h) (Or.inr ⟨by rfl, rfl⟩) hHeld ?_)
      (try simp only [Act.put]); (try simp only [List.setIfInBounds_toArray]); (try simp only [List.set_cons_succ]); (try simp only [List.set_cons_zero])
      refine wpAnyH_done (by kernel_rfl) ?_ _
      have H3 := hide (H2.out.kept hHeld)
      clear hHeld c0 c1 c2 c3 d0 d1 d2 d3 H2
      go_wp2_with fail
      go_loopw [12] (fun i wr => ∃ k : Nat, k ≤ 2 ∧ i = .int .i64 k ∧ Hid (TwoV w wr g f t o)) (fun i _ => 2 - (intOf i).toNat)
      case atStart => exact ⟨0, by omega, rfl, H3⟩
      case round =>
        clear H3
        obtain ⟨k, hk, rfl, HI⟩ := hrel
        rcases (show k = 0 ∨ k = 1 ∨ k = 2 by omega) with rfl | rfl | rfl
        · have hsl := VerBox.all HI.out.2.1
          have hsm := VerBox.all HI.out.2.2
          obtain ⟨⟨c0, c1, c2, c3⟩, _⟩ := hsl
          obtain ⟨⟨d0, d1, d2, d3⟩, _⟩ := hsm
          have HX : Hid (VerBox ((wr.alloc (.cells #[.int .i64 0, .int .i64 f, .int .i64 t, .slice none 0 0, .int .i64 0, .int .i64 t, .int .i64 o, .slice none 0 0] 25)).alloc (.cells #[.int .i64 0, .int .i64 f, .int .i64 t, .slice none 0 0] 25)) (wr.heap.size + 1) 0 f t none 0 0) := by
            have := vb_new (wr.alloc (.cells #[.int .i64 0, .int .i64 f, .int .i64 t, .slice none 0 0, .int .i64 0, .int .i64 t, .int .i64 o, .slice none 0 0] 25)) 0 f t none 0 0
            rw [World.size_alloc] at this
            exact this
          have HJ := hide (HI.out.kept (Bel.alloc (Bel.one wr (.cells #[.int .i64 0, .int .i64 f, .int .i64 t, .slice none 0 0, .int .i64 0, .int .i64 t, .int .i64 o, .slice none 0 0] 25)) (.cells #[.int .i64 0, .int .i64 f, .int .i64 t, .slice none 0 0] 25)))
          go_wp2_with fail
          refine (QO.out _).mono ?_
          rintro e w5 ⟨rfl, hb⟩
          have HX5 := hide (HX.out.kept hb)
          have HJ5 := hide (HJ.out.kept hb)
          obtain ⟨⟨e0, e1, e2', e3'⟩, _⟩ := HX5.out.all
          clear hb HX HJ c0 c1 c2 c3 d0 d1 d2 d3 HI
          cases p
          · go_wp2_with fail
            go_roundw
            case rel => exact ⟨1, by omega, by go_num, HJ5⟩
            case measure => simp [intOf]
          · obtain ⟨hx, hx1⟩ := hold1.out rfl
            first
              | (cases hx; done)
              | (subst hx1
                 go_wp2_with fail
                 refine (QX.out _).mono ?_
                 rintro e w6 ⟨rfl, hb⟩
                 have HX6 := hide (HX5.out.kept hb)
                 have HJ6 := hide (HJ5.out.kept hb)
                 obtain ⟨⟨e0, e1, e2', e3'⟩, _⟩ := HX6.out.all
                 clear hb HX5 HJ5
                 by_cases hsz : s < 1152921504606846976
                 · have hw : IntKind.i64.wrap (s + 1) = s + 1 := IntWalk.i64_in _ (by omega)
                   go_wp2_with fail
                   refine (QX1.out _).mono ?_
                   rintro e w7 ⟨rfl, hb⟩
                   have HJ7 := hide (HJ6.out.kept hb)
                   clear hb HX6 HJ6
                   go_wp2_with fail
                   go_roundw
                   case rel => exact ⟨1, by omega, by go_num, HJ7⟩
                   case measure => simp [intOf]
                 · go_wp2_with fail
                   go_roundw
                   case rel => exact ⟨1, by omega, by go_num, HJ6⟩
                   case measure => simp [intOf])
        · have hsl := VerBox.all HI.out.2.1
          have hsm := VerBox.all HI.out.2.2
          obtain ⟨⟨c0, c1, c2, c3⟩, _⟩ := hsl
          obtain ⟨⟨d0, d1, d2, d3⟩, _⟩ := hsm
          have HX : Hid (VerBox ((wr.alloc (.cells #[.int .i64 0, .int .i64 f, .int .i64 t, .slice none 0 0, .int .i64 0, .int .i64 t, .int .i64 o, .slice none 0 0] 25)).alloc (.cells #[.int .i64 0, .int .i64 t, .int .i64 o, .slice none 0 0] 25)) (wr.heap.size + 1) 0 t o none 0 0) := by
            have := vb_new (wr.alloc (.cells #[.int .i64 0, .int .i64 f, .int .i64 t, .slice none 0 0, .int .i64 0, .int .i64 t, .int .i64 o, .slice none 0 0] 25)) 0 t o none 0 0
            rw [World.size_alloc] at this
            exact this
          have HJ := hide (HI.out.kept (Bel.alloc (Bel.one wr (.cells #[.int .i64 0, .int .i64 f, .int .i64 t, .slice none 0 0, .int .i64 0, .int .i64 t, .int .i64 o, .slice none 0 0] 25)) (.cells #[.int .i64 0, .int .i64 t, .int .i64 o, .slice none 0 0] 25)))
          go_wp2_with fail
          refine (QP.out _).mono ?_
          rintro e w5 ⟨rfl, hb⟩
          have HX5 := hide (HX.out.kept hb)
          have HJ5 := hide (HJ.out.kept hb)
          obtain ⟨⟨e0, e1, e2', e3'⟩, _⟩ := HX5.out.all
          clear hb HX HJ c0 c1 c2 c3 d0 d1 d2 d3 HI
          cases q
          · go_wp2_with fail
            go_roundw
            case rel => exact ⟨2, by omega, by go_num, HJ5⟩
            case measure => simp [intOf]
          · obtain ⟨hx, hx1⟩ := hold2.out rfl
            first
              | (cases hx; done)
              | (subst hx1
                 go_wp2_with fail
                 refine (QY.out _).mono ?_
                 rintro e w6 ⟨rfl, hb⟩
                 have HX6 := hide (HX5.out.kept hb)
                 have HJ6 := hide (HJ5.out.kept hb)
                 obtain ⟨⟨e0, e1, e2', e3'⟩, _⟩ := HX6.out.all
                 clear hb HX5 HJ5
                 by_cases hsz : s < 1152921504606846976
                 · have hw : IntKind.i64.wrap (s + 1) = s + 1 := IntWalk.i64_in _ (by omega)
                   go_wp2_with fail
                   refine (QY1.out _).mono ?_
                   rintro e w7 ⟨rfl, hb⟩
                   have HJ7 := hide (HJ6.out.kept hb)
                   clear hb HX6 HJ6
                   go_wp2_with fail
                   go_roundw
                   case rel => exact ⟨2, by omega, by go_num, HJ7⟩
                   case measure => simp [intOf]
                 · go_wp2_with fail
                   go_roundw
                   case rel => exact ⟨2, by omega, by go_num, HJ6⟩
                   case measure => simp [intOf])
        · go_wp2_with fail
          refine (QA.out _).mono ?_
          rintro e wz ⟨rfl, hb⟩
          have HZ := hide (Below.trans HI.out.1 (hb.mono HI.out.1.size))
          clear hb HI
          go_wp2_with fail
          go_ret
          exact ⟨rfl, HZ.out⟩

end Go.Proofs.Ytebamnlknaoehaa
