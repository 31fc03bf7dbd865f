/- The contract of the reference's Bag. -/
import Derived.Test.YtobepbpiagclnaaDoorSymJ
namespace Go.Proofs.YtobepbpiagclnaaDoor
set_option linter.unusedVariables false
open Go.ChangeShapes Go.WideShapes Go.ChangeAt Go.RowKit

set_option maxRecDepth 100000 in
set_option maxHeartbeats 2000000 in
theorem rbag_c (A A2 : Option Addr) (n c n2 c2 : Nat) (ps qs : List HRow) (w : World) (h : HsAt w A n c ps) (h2 : HsAt w A2 n2 c2 qs) (g : ∀ p ∈ ps, StrsOk p.2) (g2 : ∀ p ∈ qs, StrsOk p.2) :
    Calls Tryd.prog 11 #[.slice A n c, .slice A2 n2 c2] w (GivesBag w (sndL ps) (sndL qs)) := by
  have HP := hide h
  have HQ := hide h2
  have HG := hide g
  have HG2 := hide g2
  have hl := h.sl.len
  have hsl : (sndL ps).length = n := by show (ps.map Prod.snd).length = n; rw [List.length_map]; exact hl
  have hsl2 : (sndL qs).length = n2 := by show (qs.map Prod.snd).length = n2; rw [List.length_map]; exact h2.sl.len
  have m1 := Nat.le_trans h.sl.cap h.sl.max
  unfold maxLen at m1
  clear h h2 g g2
  go_enter Tryd.func11, Tryd.ntmps11
  go_wp2_with fail
  go_loopw [5] (fun i wr => ∃ k : Nat, k ≤ n ∧ i = .int .i64 k ∧ Hid (∀ a ∈ (sndL ps).take k, timesF (sndL ps) a = timesF (sndL qs) a) ∧ Hid (Below w.heap.size w wr)) (fun i _ => n - (intOf i).toNat)
  case atStart => exact ⟨0, Nat.zero_le _, rfl, (by intro a ha; simp at ha), Below.refl _ _⟩
  case round =>
    obtain ⟨k, hkn, rfl, HE, HB⟩ := hrel
    by_cases hlt : k < n
    · have hlti : (k : Int) < n := by omega
      have hwk : IntKind.i64.wrap ((k : Int) + 1) = (k : Int) + 1 := IntWalk.i64_in _ (by omega)
      obtain ⟨b, off, p, rfl, hp, Ha⟩ := (HP.out.kept HB.out).head hlt
      have hsi : (sndL ps)[k]? = some p.2 := by show (ps.map Prod.snd)[k]? = _; rw [List.getElem?_map, hp]; rfl
      have hpr := HP.out.each p (List.mem_of_getElem? hp)
      have hps := HG.out p (List.mem_of_getElem? hp)
      have Q1 := hide (fun (W : World) (hW : Below w.heap.size w W) => times_c (some ⟨b, off, none⟩) p.1.A n c p.1.n p.1.c ps p.2 W (HP.out.kept hW) (hpr.kept hW) HG.out hps)
      have Q2 := hide (fun (W : World) (hW : Below w.heap.size w W) => times_c A2 p.1.A n2 c2 p.1.n p.1.c qs p.2 W (HQ.out.kept hW) (hpr.kept hW) HG2.out hps)
      have HT : Hid (timesF (sndL ps) p.2 = timesF (sndL qs) p.2 → ∀ a ∈ (sndL ps).take (k + 1), timesF (sndL ps) a = timesF (sndL qs) a) := fun hz a ha => by
        rw [take_at hsi] at ha
        rcases List.mem_append.1 ha with ha | ha
        · exact HE.out a ha
        · rw [List.mem_singleton.1 ha]; exact hz
      have HX : Hid (timesF (sndL ps) p.2 ≠ timesF (sndL qs) p.2 → ¬ (sndL ps).Perm (sndL qs)) := fun hz he => hz (times_perm he _)
      clear HE hp hsi hpr hps
      generalize timesF (sndL ps) p.2 = x at *
      generalize timesF (sndL qs) p.2 = y at *
      generalize p.1.A = pA at *
      generalize p.1.n = pn at *
      generalize p.1.c = pc at *
      replace Ha := hide Ha
      go_upto_region 4 with (fail)
      refine wp_region_held_drew (S := (fun w' => HeadAt w' b (off + k) pA pn pc ∧ Below w.heap.size w w')) (by kernel_rfl) (⟨Ha.out.kept (Below.refl _ _).drew, HB.out.drew⟩) (fun hHeld => ?_)
      first | (refine wpAnyH_take (i := 0) (v := ?_) nth0 (by kernel_rfl) (by kernel_rfl) (by kernel_rfl) (fun _ _ _ h => h) (Or.inl ⟨by rfl, ?_⟩) hHeld ?_; rotate_left; focus (intro wS hSw; (obtain ⟨_, a_0⟩ := hSw.1); go_simp; try with_reducible rfl; done)) | (refine wpAnyH_take (i := 0) (v := undef) nth0 (by kernel_rfl) (by kernel_rfl) (by kernel_rfl) (fun _ _ _ h => h) (Or.inr ⟨by rfl, rfl⟩) hHeld ?_)
      (try simp only [Act.put]); (try simp only [List.setIfInBounds_toArray]); (try simp only [List.set_cons_succ]); (try simp only [List.set_cons_zero])
      first | (refine wpAnyH_take (i := 1) (v := ?_) nth1 (by kernel_rfl) (by kernel_rfl) (by kernel_rfl) (fun _ _ _ h => h) (Or.inl ⟨by rfl, ?_⟩) hHeld ?_; rotate_left; focus (intro wS hSw; (obtain ⟨_, a_0⟩ := hSw.1); go_simp; try with_reducible rfl; done)) | (refine wpAnyH_take (i := 1) (v := undef) nth1 (by kernel_rfl) (by kernel_rfl) (by kernel_rfl) (fun _ _ _ h => h) (Or.inr ⟨by rfl, rfl⟩) hHeld ?_)
      (try simp only [Act.put]); (try simp only [List.setIfInBounds_toArray]); (try simp only [List.set_cons_succ]); (try simp only [List.set_cons_zero])
      first | (refine wpAnyH_take (i := 2) (v := ?_) nth2 (by kernel_rfl) (by kernel_rfl) (by kernel_rfl) (fun _ _ _ h => h) (Or.inl ⟨by rfl, ?_⟩) hHeld ?_; rotate_left; focus (intro wS hSw; (obtain ⟨_, a_0⟩ := hSw.1); go_simp; try with_reducible rfl; done)) | (refine wpAnyH_take (i := 2) (v := undef) nth2 (by kernel_rfl) (by kernel_rfl) (by kernel_rfl) (fun _ _ _ h => h) (Or.inr ⟨by rfl, rfl⟩) hHeld ?_)
      (try simp only [Act.put]); (try simp only [List.setIfInBounds_toArray]); (try simp only [List.set_cons_succ]); (try simp only [List.set_cons_zero])
      first | (refine wpAnyH_take (i := 3) (v := ?_) nth3 (by kernel_rfl) (by kernel_rfl) (by kernel_rfl) (fun _ _ _ h => h) (Or.inl ⟨by rfl, ?_⟩) hHeld ?_; rotate_left; focus (intro wS hSw; (obtain ⟨_, a_0⟩ := hSw.1); go_simp; try with_reducible rfl; done)) | (refine wpAnyH_take (i := 3) (v := undef) nth3 (by kernel_rfl) (by kernel_rfl) (by kernel_rfl) (fun _ _ _ h => h) (Or.inr ⟨by rfl, rfl⟩) hHeld ?_)
      (try simp only [Act.put]); (try simp only [List.setIfInBounds_toArray]); (try simp only [List.set_cons_succ]); (try simp only [List.set_cons_zero])
      first | (refine wpAnyH_take (i := 4) (v := ?_) nth4 (by kernel_rfl) (by kernel_rfl) (by kernel_rfl) (fun _ _ _ h => h) (Or.inl ⟨by rfl, ?_⟩) hHeld ?_; rotate_left; focus (intro wS hSw; (obtain ⟨_, a_0⟩ := hSw.1); go_simp; try with_reducible rfl; done)) | (refine wpAnyH_take (i := 4) (v := undef) nth4 (by kernel_rfl) (by kernel_rfl) (by kernel_rfl) (fun _ _ _ h => h) (Or.inr ⟨by rfl, rfl⟩) hHeld ?_)
      (try simp only [Act.put]); (try simp only [List.setIfInBounds_toArray]); (try simp only [List.set_cons_succ]); (try simp only [List.set_cons_zero])
      first | (refine wpAnyH_take (i := 6) (v := ?_) nth6 (by kernel_rfl) (by kernel_rfl) (by kernel_rfl) (fun _ _ _ h => h) (Or.inl ⟨by rfl, ?_⟩) hHeld ?_; rotate_left; focus (intro wS hSw; (obtain ⟨_, a_0⟩ := hSw.1); go_simp; try with_reducible rfl; done)) | (refine wpAnyH_take (i := 6) (v := undef) nth6 (by kernel_rfl) (by kernel_rfl) (by kernel_rfl) (fun _ _ _ h => h) (Or.inr ⟨by rfl, rfl⟩) hHeld ?_)
      (try simp only [Act.put]); (try simp only [List.setIfInBounds_toArray]); (try simp only [List.set_cons_succ]); (try simp only [List.set_cons_zero])
      first | (refine wpAnyH_take (i := 7) (v := ?_) nth7 (by kernel_rfl) (by kernel_rfl) (by kernel_rfl) (fun _ _ _ h => h) (Or.inl ⟨by rfl, ?_⟩) hHeld ?_; rotate_left; focus (intro wS hSw; (obtain ⟨_, a_0⟩ := hSw.1); go_simp; try with_reducible rfl; done)) | (refine wpAnyH_take (i := 7) (v := undef) nth7 (by kernel_rfl) (by kernel_rfl) (by kernel_rfl) (fun _ _ _ h => h) (Or.inr ⟨by rfl, rfl⟩) hHeld ?_)
      (try simp only [Act.put]); (try simp only [List.setIfInBounds_toArray]); (try simp only [List.set_cons_succ]); (try simp only [List.set_cons_zero])
      first | (refine wpAnyH_take (i := 8) (v := ?_) nth8 (by kernel_rfl) (by kernel_rfl) (by kernel_rfl) (fun _ _ _ h => h) (Or.inl ⟨by rfl, ?_⟩) hHeld ?_; rotate_left; focus (intro wS hSw; (obtain ⟨_, a_0⟩ := hSw.1); go_simp; try with_reducible rfl; done)) | (refine wpAnyH_take (i := 8) (v := undef) nth8 (by kernel_rfl) (by kernel_rfl) (by kernel_rfl) (fun _ _ _ h => h) (Or.inr ⟨by rfl, rfl⟩) hHeld ?_)
      (try simp only [Act.put]); (try simp only [List.setIfInBounds_toArray]); (try simp only [List.set_cons_succ]); (try simp only [List.set_cons_zero])
      first | (refine wpAnyH_take (i := 9) (v := ?_) nth9 (by kernel_rfl) (by kernel_rfl) (by kernel_rfl) (fun _ _ _ h => h) (Or.inl ⟨by rfl, ?_⟩) hHeld ?_; rotate_left; focus (intro wS hSw; (obtain ⟨_, a_0⟩ := hSw.1); go_simp; try with_reducible rfl; done)) | (refine wpAnyH_take (i := 9) (v := undef) nth9 (by kernel_rfl) (by kernel_rfl) (by kernel_rfl) (fun _ _ _ h => h) (Or.inr ⟨by rfl, rfl⟩) hHeld ?_)
      (try simp only [Act.put]); (try simp only [List.setIfInBounds_toArray]); (try simp only [List.set_cons_succ]); (try simp only [List.set_cons_zero])
      first | (refine wpAnyH_take (i := 10) (v := ?_) nth10 (by kernel_rfl) (by kernel_rfl) (by kernel_rfl) (fun _ _ _ h => h) (Or.inl ⟨by rfl, ?_⟩) hHeld ?_; rotate_left; focus (intro wS hSw; (obtain ⟨_, a_0⟩ := hSw.1); go_simp; try with_reducible rfl; done)) | (refine wpAnyH_take (i := 10) (v := undef) nth10 (by kernel_rfl) (by kernel_rfl) (by kernel_rfl) (fun _ _ _ h => h) (Or.inr ⟨by rfl, rfl⟩) hHeld ?_)
      (try simp only [Act.put]); (try simp only [List.setIfInBounds_toArray]); (try simp only [List.set_cons_succ]); (try simp only [List.set_cons_zero])
      refine wpAnyH_ready (rs := [5]) (by kernel_rfl) (by simp) ?_
      refine AllReadyH.cons nth5 (fun K hK => ?_) AllReadyH.nil
      go_simp
      (first | (go_at_call 25; with_reducible refine (Q1.out _ hHeld.2).mono ?_; rintro e w' ⟨rfl, hb⟩) | (go_at_call 25; with_reducible refine (Q2.out _ hHeld.2).mono ?_; rintro e w' ⟨rfl, hb⟩))
      refine hK.out _ _ (⟨hHeld.1.kept hb, Bel.then hHeld.2 hb⟩) (fun hHeld => ?_)
      clear hK K
      (try simp only [Act.put]); (try simp only [List.setIfInBounds_toArray]); (try simp only [List.set_cons_succ]); (try simp only [List.set_cons_zero])
      refine wpAnyH_ready (rs := [11]) (by kernel_rfl) (by simp) ?_
      refine AllReadyH.cons nth11 (fun K hK => ?_) AllReadyH.nil
      go_simp
      (first | (go_at_call 25; with_reducible refine (Q1.out _ hHeld.2).mono ?_; rintro e w' ⟨rfl, hb⟩) | (go_at_call 25; with_reducible refine (Q2.out _ hHeld.2).mono ?_; rintro e w' ⟨rfl, hb⟩))
      refine hK.out _ _ (⟨hHeld.1.kept hb, Bel.then hHeld.2 hb⟩) (fun hHeld => ?_)
      clear hK K
      (try simp only [Act.put]); (try simp only [List.setIfInBounds_toArray]); (try simp only [List.set_cons_succ]); (try simp only [List.set_cons_zero])
      first | (refine wpAnyH_take (i := 12) (v := ?_) nth12 (by kernel_rfl) (by kernel_rfl) (by kernel_rfl) (fun _ _ _ h => h) (Or.inl ⟨by rfl, ?_⟩) hHeld ?_; rotate_left; focus (intro wS hSw; (obtain ⟨_, a_0⟩ := hSw.1); go_simp; try with_reducible rfl; done)) | (refine wpAnyH_take (i := 12) (v := undef) nth12 (by kernel_rfl) (by kernel_rfl) (by kernel_rfl) (fun _ _ _ h => h) (Or.inr ⟨by rfl, rfl⟩) hHeld ?_)
      (try simp only [Act.put]); (try simp only [List.setIfInBounds_toArray]); (try simp only [List.set_cons_succ]); (try simp only [List.set_cons_zero])
      refine wpAnyH_done (by kernel_rfl) ?_ _
      replace HB := hide hHeld.2
      clear hHeld Ha Q1 Q2
      by_cases hx : x = y
      · have HY := hide (HT.out hx)
        have f1 : ((x : Int) != (y : Int)) = false := by simp; omega
        clear HT HX hx
        go_wp2_with fail
        go_roundw
        case rel => exact ⟨k + 1, by omega, by go_num, HY, HB⟩
        case measure => simp [intOf]; omega
      · have HY := hide (HX.out hx)
        have f1 : ((x : Int) != (y : Int)) = true := by simp; omega
        clear HT HX hx
        go_wp2_with fail
        go_ret
        exact ⟨false, rfl, ⟨fun e => (by cases e), fun e => absurd e HY.out⟩, HB.out⟩
    · have hlti : ¬ (k : Int) < n := by omega
      obtain rfl : k = n := by omega
      have hE : ∀ a ∈ sndL ps, timesF (sndL ps) a = timesF (sndL qs) a := fun a ha => HE.out a (by rw [List.take_of_length_le (by omega)]; exact ha)
      by_cases he : k = n2
      · have HY := hide (perm_of_times _ _ (by omega) hE)
        have f1 : ((k : Int) == (n2 : Int)) = true := by simp; omega
        clear HE hE he
        go_wp2_with fail
        go_ret
        exact ⟨true, rfl, ⟨fun _ => HY.out, fun _ => rfl⟩, HB.out⟩
      · have HY : Hid (¬ (sndL ps).Perm (sndL qs)) := fun p => he (by have := p.length_eq; omega)
        have f1 : ((k : Int) == (n2 : Int)) = false := by simp; omega
        clear HE hE he
        go_wp2_with fail
        go_ret
        exact ⟨false, rfl, ⟨fun e => (by cases e), fun e => absurd e HY.out⟩, HB.out⟩
end Go.Proofs.YtobepbpiagclnaaDoor
