/- The contracts of the reference's has and Before. -/
import Derived.Test.YtahdkfenpflahaaSoA
namespace Go.Proofs.Ytahdkfenpflahaa
set_option linter.unusedVariables false
open Go.ChangeShapes Go.WideShapes Go.ChangeAt Go.RowKit

theorem has_c (A A2 : Option Addr) (n c n2 c2 : Nat) (a : Int) (w : World) :
    Calls Try.prog 25 #[.slice A n c, .slice A2 n2 c2, .int .i64 a] w fun e w' => e = .returned (.bool (decide (0 ≤ a ∧ a < n ∧ a < n2))) ∧ w = w' := by
  obtain ⟨q, hq⟩ : ∃ q, decide (0 ≤ a ∧ a < n ∧ a < n2) = q := ⟨_, rfl⟩
  rw [hq]
  have HQ := hide hq
  clear hq
  go_enter Try.func25, Try.ntmps25
  by_cases g1 : 0 ≤ a
  · by_cases g2 : a < n
    · by_cases g3 : a < n2
      · obtain rfl : q = true := by rw [← HQ.out]; exact decide_eq_true ⟨g1, g2, g3⟩
        go_wp2_with fail
        go_ret
        exact ⟨rfl, rfl⟩
      · obtain rfl : q = false := by rw [← HQ.out]; exact decide_eq_false (fun h => g3 h.2.2)
        go_wp2_with fail
        go_ret
        exact ⟨rfl, rfl⟩
    · obtain rfl : q = false := by rw [← HQ.out]; exact decide_eq_false (fun h => g2 h.2.1)
      go_wp2_with fail
      go_ret
      exact ⟨rfl, rfl⟩
  · obtain rfl : q = false := by rw [← HQ.out]; exact decide_eq_false (fun h => g1 h.1)
    go_wp2_with fail
    go_ret
    exact ⟨rfl, rfl⟩
/-- A key that stands in memory. -/
structure KeyAt (w : World) (b p : Nat) (a : Int) (d : Bool) : Prop where
  lt : b < w.heap.size
  c0 : w.cell? ⟨b, p, none⟩ = some (.int .i64 a)
  c1 : w.cell? ⟨b, p + 1, none⟩ = some (.bool d)
theorem KeyAt.kept {w w' : World} {b p : Nat} {a : Int} {d : Bool} (h : KeyAt w b p a d) (hb : Below w.heap.size w w') : KeyAt w' b p a d := by
  have e := hb.block b h.lt
  exact ⟨Nat.lt_of_lt_of_le h.lt hb.size, (World.cell?_of_block e).trans h.c0, (World.cell?_of_block e).trans h.c1⟩
set_option maxRecDepth 100000 in
set_option maxHeartbeats 2000000 in
theorem rbefore_c (A A2 A3 : Option Addr) (n c n2 c2 n3 c3 : Nat) (r s : List ValV) (ks : List (Int × Bool)) (w : World) (h : RowAt w w.heap.size A n c r) (h2 : RowAt w w.heap.size A2 n2 c2 s) (hk : KeysAt w w.heap.size A3 n3 c3 ks) (hr : StrsOk r) (hs : StrsOk s) :
    Calls Try.prog 10 #[.slice A n c, .slice A2 n2 c2, .slice A3 n3 c3] w fun e w' => e = .returned (.bool (befB r s ks)) ∧ Below w.heap.size w w' := by
  have l1 := h.len
  have l2 := h2.len
  have l3 := hk.len
  have m1 := Nat.le_trans h.cap h.max
  have m2 := Nat.le_trans h2.cap h2.max
  have m3 := Nat.le_trans hk.cap hk.max
  unfold maxLen at m1 m2 m3
  have H := hide h
  have H2 := hide h2
  have H3 := hide hk
  have HRS := hide hr
  have HSS := hide hs
  clear h h2 hk hr hs
  go_enter Try.func10, Try.ntmps10
  go_wp2_with fail
  go_loopw [7] (fun i wr => ∃ k : Nat, k ≤ n3 ∧ i = .int .i64 k ∧ Hid (Below w.heap.size w wr) ∧ Hid (befB r s (ks.drop k) = befB r s ks)) (fun i _ => n3 - (intOf i).toNat)
  case atStart => exact ⟨0, Nat.zero_le _, rfl, Below.refl _ _, rfl⟩
  case round =>
    obtain ⟨k, hk, rfl, HB, HR⟩ := hrel
    by_cases hlt : k < n3
    · have hlti : (k : Int) < n3 := by omega
      have hwk : IntKind.i64.wrap ((k : Int) + 1) = (k : Int) + 1 := IntWalk.i64_in _ (by omega)
      obtain ⟨kb, koff, a, d, rfl, hkb, hka, k0, k1⟩ := KeysAt.key (H3.out.below HB.out) hlt
      have HN : Hid ((a < 0 ∨ (r.length : Int) ≤ a ∨ (s.length : Int) ≤ a) → befB r s (ks.drop (k + 1)) = befB r s ks) := fun hh => (befB_skip hka hh).symm.trans HR.out
      have KB := hide (KeyAt.mk (w := wr) (Nat.lt_of_lt_of_le hkb HB.out.size) k0 k1)
      have QH := hide (fun W => has_c A A2 n c n2 c2 a W)
      by_cases g : 0 ≤ a ∧ a < n ∧ a < n2
      · rw [decide_eq_true g] at QH
        obtain ⟨i, rfl⟩ : ∃ i : Nat, a = i := ⟨a.toNat, by omega⟩
        have g4 : i < n := by omega
        have g5 : i < n2 := by omega
        have g4i : (i : Int) < n := by omega
        have g5i : (i : Int) < n2 := by omega
        clear g
        have Ha := hide (H.out.below HB.out |>.more (by have := HB.out.size; exact this))
        have Hb := hide (H2.out.below HB.out |>.more (by have := HB.out.size; exact this))
        obtain ⟨b, off, u, rfl, hu, Va⟩ := RowAt.valAt Ha.out g4
        obtain ⟨b2, off2, v, rfl, hv, Vb⟩ := RowAt.valAt Hb.out g5
        have HL : Hid (cmpV u v = 0 → befB r s (ks.drop (k + 1)) = befB r s ks) := fun he => (befB_level hka hu hv he).symm.trans HR.out
        have HS : Hid (¬ cmpV u v = 0 → befB r s ks = (decide (cmpV u v < 0) != d)) := fun he => HR.out.symm.trans (befB_says hka hu hv he)
        have Q := hide (fun W => rorder_c u v W (HRS.out u (List.mem_of_getElem? hu)) (HSS.out v (List.mem_of_getElem? hv)))
        unfold valAgg at Q
        clear HN hka HR hu hv Ha Hb l1 l2 l3
        obtain ⟨uk, un, us⟩ := u
        obtain ⟨vk, vn, vs⟩ := v
        simp only at Q Va Vb
        generalize cmpV ⟨uk, un, us⟩ ⟨vk, vn, vs⟩ = x at *
        replace Va := hide Va
        replace Vb := hide Vb
        go_wp2_with fail
        refine (QH.out _).mono ?_
        rintro e w' ⟨rfl, rfl⟩
        go_upto_region 5 with (fail)
        clear k0 k1
        refine wp_region_held_drew (S := (fun w' => KeyAt w' kb (koff + k * 2) i d ∧ ValAt w' b (off + i * 3) uk un us ∧ ValAt w' b2 (off2 + i * 3) vk vn vs ∧ Below w.heap.size w w')) (by kernel_rfl) (⟨KB.out.kept (Below.refl _ _).drew, Va.out.kept (Below.refl _ _).drew, Vb.out.kept (Below.refl _ _).drew, HB.out.drew⟩) (fun hHeld => ?_)
        first | (refine wpAnyH_take (i := 0) (v := ?_) nth0 (by kernel_rfl) (by kernel_rfl) (by kernel_rfl) (fun _ _ _ h => h) (Or.inl ⟨by rfl, ?_⟩) hHeld ?_; rotate_left; focus (intro wS hSw; (obtain ⟨_, t_0, t_1⟩ := hSw.1; obtain ⟨_, a_0, a_1, a_2⟩ := hSw.2.1; obtain ⟨_, b_0, b_1, b_2⟩ := hSw.2.2.1); go_simp; try with_reducible rfl; done)) | (refine wpAnyH_take (i := 0) (v := undef) nth0 (by kernel_rfl) (by kernel_rfl) (by kernel_rfl) (fun _ _ _ h => h) (Or.inr ⟨by rfl, rfl⟩) hHeld ?_)
        (try simp only [Act.put]); (try simp only [List.setIfInBounds_toArray]); (try simp only [List.set_cons_succ]); (try simp only [List.set_cons_zero])
        first | (refine wpAnyH_take (i := 1) (v := ?_) nth1 (by kernel_rfl) (by kernel_rfl) (by kernel_rfl) (fun _ _ _ h => h) (Or.inl ⟨by rfl, ?_⟩) hHeld ?_; rotate_left; focus (intro wS hSw; (obtain ⟨_, t_0, t_1⟩ := hSw.1; obtain ⟨_, a_0, a_1, a_2⟩ := hSw.2.1; obtain ⟨_, b_0, b_1, b_2⟩ := hSw.2.2.1); go_simp; try with_reducible rfl; done)) | (refine wpAnyH_take (i := 1) (v := undef) nth1 (by kernel_rfl) (by kernel_rfl) (by kernel_rfl) (fun _ _ _ h => h) (Or.inr ⟨by rfl, rfl⟩) hHeld ?_)
        (try simp only [Act.put]); (try simp only [List.setIfInBounds_toArray]); (try simp only [List.set_cons_succ]); (try simp only [List.set_cons_zero])
        first | (refine wpAnyH_take (i := 2) (v := ?_) nth2 (by kernel_rfl) (by kernel_rfl) (by kernel_rfl) (fun _ _ _ h => h) (Or.inl ⟨by rfl, ?_⟩) hHeld ?_; rotate_left; focus (intro wS hSw; (obtain ⟨_, t_0, t_1⟩ := hSw.1; obtain ⟨_, a_0, a_1, a_2⟩ := hSw.2.1; obtain ⟨_, b_0, b_1, b_2⟩ := hSw.2.2.1); go_simp; try with_reducible rfl; done)) | (refine wpAnyH_take (i := 2) (v := undef) nth2 (by kernel_rfl) (by kernel_rfl) (by kernel_rfl) (fun _ _ _ h => h) (Or.inr ⟨by rfl, rfl⟩) hHeld ?_)
        (try simp only [Act.put]); (try simp only [List.setIfInBounds_toArray]); (try simp only [List.set_cons_succ]); (try simp only [List.set_cons_zero])
        first | (refine wpAnyH_take (i := 3) (v := ?_) nth3 (by kernel_rfl) (by kernel_rfl) (by kernel_rfl) (fun _ _ _ h => h) (Or.inl ⟨by rfl, ?_⟩) hHeld ?_; rotate_left; focus (intro wS hSw; (obtain ⟨_, t_0, t_1⟩ := hSw.1; obtain ⟨_, a_0, a_1, a_2⟩ := hSw.2.1; obtain ⟨_, b_0, b_1, b_2⟩ := hSw.2.2.1); go_simp; try with_reducible rfl; done)) | (refine wpAnyH_take (i := 3) (v := undef) nth3 (by kernel_rfl) (by kernel_rfl) (by kernel_rfl) (fun _ _ _ h => h) (Or.inr ⟨by rfl, rfl⟩) hHeld ?_)
        (try simp only [Act.put]); (try simp only [List.setIfInBounds_toArray]); (try simp only [List.set_cons_succ]); (try simp only [List.set_cons_zero])
        first | (refine wpAnyH_take (i := 4) (v := ?_) nth4 (by kernel_rfl) (by kernel_rfl) (by kernel_rfl) (fun _ _ _ h => h) (Or.inl ⟨by rfl, ?_⟩) hHeld ?_; rotate_left; focus (intro wS hSw; (obtain ⟨_, t_0, t_1⟩ := hSw.1; obtain ⟨_, a_0, a_1, a_2⟩ := hSw.2.1; obtain ⟨_, b_0, b_1, b_2⟩ := hSw.2.2.1); go_simp; try with_reducible rfl; done)) | (refine wpAnyH_take (i := 4) (v := undef) nth4 (by kernel_rfl) (by kernel_rfl) (by kernel_rfl) (fun _ _ _ h => h) (Or.inr ⟨by rfl, rfl⟩) hHeld ?_)
        (try simp only [Act.put]); (try simp only [List.setIfInBounds_toArray]); (try simp only [List.set_cons_succ]); (try simp only [List.set_cons_zero])
        first | (refine wpAnyH_take (i := 5) (v := ?_) nth5 (by kernel_rfl) (by kernel_rfl) (by kernel_rfl) (fun _ _ _ h => h) (Or.inl ⟨by rfl, ?_⟩) hHeld ?_; rotate_left; focus (intro wS hSw; (obtain ⟨_, t_0, t_1⟩ := hSw.1; obtain ⟨_, a_0, a_1, a_2⟩ := hSw.2.1; obtain ⟨_, b_0, b_1, b_2⟩ := hSw.2.2.1); go_simp; try with_reducible rfl; done)) | (refine wpAnyH_take (i := 5) (v := undef) nth5 (by kernel_rfl) (by kernel_rfl) (by kernel_rfl) (fun _ _ _ h => h) (Or.inr ⟨by rfl, rfl⟩) hHeld ?_)
        (try simp only [Act.put]); (try simp only [List.setIfInBounds_toArray]); (try simp only [List.set_cons_succ]); (try simp only [List.set_cons_zero])
        first | (refine wpAnyH_take (i := 6) (v := ?_) nth6 (by kernel_rfl) (by kernel_rfl) (by kernel_rfl) (fun _ _ _ h => h) (Or.inl ⟨by rfl, ?_⟩) hHeld ?_; rotate_left; focus (intro wS hSw; (obtain ⟨_, t_0, t_1⟩ := hSw.1; obtain ⟨_, a_0, a_1, a_2⟩ := hSw.2.1; obtain ⟨_, b_0, b_1, b_2⟩ := hSw.2.2.1); go_simp; try with_reducible rfl; done)) | (refine wpAnyH_take (i := 6) (v := undef) nth6 (by kernel_rfl) (by kernel_rfl) (by kernel_rfl) (fun _ _ _ h => h) (Or.inr ⟨by rfl, rfl⟩) hHeld ?_)
        (try simp only [Act.put]); (try simp only [List.setIfInBounds_toArray]); (try simp only [List.set_cons_succ]); (try simp only [List.set_cons_zero])
        first | (refine wpAnyH_take (i := 7) (v := ?_) nth7 (by kernel_rfl) (by kernel_rfl) (by kernel_rfl) (fun _ _ _ h => h) (Or.inl ⟨by rfl, ?_⟩) hHeld ?_; rotate_left; focus (intro wS hSw; (obtain ⟨_, t_0, t_1⟩ := hSw.1; obtain ⟨_, a_0, a_1, a_2⟩ := hSw.2.1; obtain ⟨_, b_0, b_1, b_2⟩ := hSw.2.2.1); go_simp; try with_reducible rfl; done)) | (refine wpAnyH_take (i := 7) (v := undef) nth7 (by kernel_rfl) (by kernel_rfl) (by kernel_rfl) (fun _ _ _ h => h) (Or.inr ⟨by rfl, rfl⟩) hHeld ?_)
        (try simp only [Act.put]); (try simp only [List.setIfInBounds_toArray]); (try simp only [List.set_cons_succ]); (try simp only [List.set_cons_zero])
        first | (refine wpAnyH_take (i := 8) (v := ?_) nth8 (by kernel_rfl) (by kernel_rfl) (by kernel_rfl) (fun _ _ _ h => h) (Or.inl ⟨by rfl, ?_⟩) hHeld ?_; rotate_left; focus (intro wS hSw; (obtain ⟨_, t_0, t_1⟩ := hSw.1; obtain ⟨_, a_0, a_1, a_2⟩ := hSw.2.1; obtain ⟨_, b_0, b_1, b_2⟩ := hSw.2.2.1); go_simp; try with_reducible rfl; done)) | (refine wpAnyH_take (i := 8) (v := undef) nth8 (by kernel_rfl) (by kernel_rfl) (by kernel_rfl) (fun _ _ _ h => h) (Or.inr ⟨by rfl, rfl⟩) hHeld ?_)
        (try simp only [Act.put]); (try simp only [List.setIfInBounds_toArray]); (try simp only [List.set_cons_succ]); (try simp only [List.set_cons_zero])
        first | (refine wpAnyH_take (i := 9) (v := ?_) nth9 (by kernel_rfl) (by kernel_rfl) (by kernel_rfl) (fun _ _ _ h => h) (Or.inl ⟨by rfl, ?_⟩) hHeld ?_; rotate_left; focus (intro wS hSw; (obtain ⟨_, t_0, t_1⟩ := hSw.1; obtain ⟨_, a_0, a_1, a_2⟩ := hSw.2.1; obtain ⟨_, b_0, b_1, b_2⟩ := hSw.2.2.1); go_simp; try with_reducible rfl; done)) | (refine wpAnyH_take (i := 9) (v := undef) nth9 (by kernel_rfl) (by kernel_rfl) (by kernel_rfl) (fun _ _ _ h => h) (Or.inr ⟨by rfl, rfl⟩) hHeld ?_)
        (try simp only [Act.put]); (try simp only [List.setIfInBounds_toArray]); (try simp only [List.set_cons_succ]); (try simp only [List.set_cons_zero])
        first | (refine wpAnyH_take (i := 10) (v := ?_) nth10 (by kernel_rfl) (by kernel_rfl) (by kernel_rfl) (fun _ _ _ h => h) (Or.inl ⟨by rfl, ?_⟩) hHeld ?_; rotate_left; focus (intro wS hSw; (obtain ⟨_, t_0, t_1⟩ := hSw.1; obtain ⟨_, a_0, a_1, a_2⟩ := hSw.2.1; obtain ⟨_, b_0, b_1, b_2⟩ := hSw.2.2.1); go_simp; try with_reducible rfl; done)) | (refine wpAnyH_take (i := 10) (v := undef) nth10 (by kernel_rfl) (by kernel_rfl) (by kernel_rfl) (fun _ _ _ h => h) (Or.inr ⟨by rfl, rfl⟩) hHeld ?_)
        (try simp only [Act.put]); (try simp only [List.setIfInBounds_toArray]); (try simp only [List.set_cons_succ]); (try simp only [List.set_cons_zero])
        first | (refine wpAnyH_take (i := 11) (v := ?_) nth11 (by kernel_rfl) (by kernel_rfl) (by kernel_rfl) (fun _ _ _ h => h) (Or.inl ⟨by rfl, ?_⟩) hHeld ?_; rotate_left; focus (intro wS hSw; (obtain ⟨_, t_0, t_1⟩ := hSw.1; obtain ⟨_, a_0, a_1, a_2⟩ := hSw.2.1; obtain ⟨_, b_0, b_1, b_2⟩ := hSw.2.2.1); go_simp; try with_reducible rfl; done)) | (refine wpAnyH_take (i := 11) (v := undef) nth11 (by kernel_rfl) (by kernel_rfl) (by kernel_rfl) (fun _ _ _ h => h) (Or.inr ⟨by rfl, rfl⟩) hHeld ?_)
        (try simp only [Act.put]); (try simp only [List.setIfInBounds_toArray]); (try simp only [List.set_cons_succ]); (try simp only [List.set_cons_zero])
        first | (refine wpAnyH_take (i := 12) (v := ?_) nth12 (by kernel_rfl) (by kernel_rfl) (by kernel_rfl) (fun _ _ _ h => h) (Or.inl ⟨by rfl, ?_⟩) hHeld ?_; rotate_left; focus (intro wS hSw; (obtain ⟨_, t_0, t_1⟩ := hSw.1; obtain ⟨_, a_0, a_1, a_2⟩ := hSw.2.1; obtain ⟨_, b_0, b_1, b_2⟩ := hSw.2.2.1); go_simp; try with_reducible rfl; done)) | (refine wpAnyH_take (i := 12) (v := undef) nth12 (by kernel_rfl) (by kernel_rfl) (by kernel_rfl) (fun _ _ _ h => h) (Or.inr ⟨by rfl, rfl⟩) hHeld ?_)
        (try simp only [Act.put]); (try simp only [List.setIfInBounds_toArray]); (try simp only [List.set_cons_succ]); (try simp only [List.set_cons_zero])
        first | (refine wpAnyH_take (i := 13) (v := ?_) nth13 (by kernel_rfl) (by kernel_rfl) (by kernel_rfl) (fun _ _ _ h => h) (Or.inl ⟨by rfl, ?_⟩) hHeld ?_; rotate_left; focus (intro wS hSw; (obtain ⟨_, t_0, t_1⟩ := hSw.1; obtain ⟨_, a_0, a_1, a_2⟩ := hSw.2.1; obtain ⟨_, b_0, b_1, b_2⟩ := hSw.2.2.1); go_simp; try with_reducible rfl; done)) | (refine wpAnyH_take (i := 13) (v := undef) nth13 (by kernel_rfl) (by kernel_rfl) (by kernel_rfl) (fun _ _ _ h => h) (Or.inr ⟨by rfl, rfl⟩) hHeld ?_)
        (try simp only [Act.put]); (try simp only [List.setIfInBounds_toArray]); (try simp only [List.set_cons_succ]); (try simp only [List.set_cons_zero])
        first | (refine wpAnyH_take (i := 14) (v := ?_) nth14 (by kernel_rfl) (by kernel_rfl) (by kernel_rfl) (fun _ _ _ h => h) (Or.inl ⟨by rfl, ?_⟩) hHeld ?_; rotate_left; focus (intro wS hSw; (obtain ⟨_, t_0, t_1⟩ := hSw.1; obtain ⟨_, a_0, a_1, a_2⟩ := hSw.2.1; obtain ⟨_, b_0, b_1, b_2⟩ := hSw.2.2.1); go_simp; try with_reducible rfl; done)) | (refine wpAnyH_take (i := 14) (v := undef) nth14 (by kernel_rfl) (by kernel_rfl) (by kernel_rfl) (fun _ _ _ h => h) (Or.inr ⟨by rfl, rfl⟩) hHeld ?_)
        (try simp only [Act.put]); (try simp only [List.setIfInBounds_toArray]); (try simp only [List.set_cons_succ]); (try simp only [List.set_cons_zero])
        first | (refine wpAnyH_take (i := 15) (v := ?_) nth15 (by kernel_rfl) (by kernel_rfl) (by kernel_rfl) (fun _ _ _ h => h) (Or.inl ⟨by rfl, ?_⟩) hHeld ?_; rotate_left; focus (intro wS hSw; (obtain ⟨_, t_0, t_1⟩ := hSw.1; obtain ⟨_, a_0, a_1, a_2⟩ := hSw.2.1; obtain ⟨_, b_0, b_1, b_2⟩ := hSw.2.2.1); go_simp; try with_reducible rfl; done)) | (refine wpAnyH_take (i := 15) (v := undef) nth15 (by kernel_rfl) (by kernel_rfl) (by kernel_rfl) (fun _ _ _ h => h) (Or.inr ⟨by rfl, rfl⟩) hHeld ?_)
        (try simp only [Act.put]); (try simp only [List.setIfInBounds_toArray]); (try simp only [List.set_cons_succ]); (try simp only [List.set_cons_zero])
        refine wpAnyH_ready (rs := [16]) (by kernel_rfl) (by simp) ?_
        refine AllReadyH.cons nth16 (fun K hK => ?_) AllReadyH.nil
        go_simp
        (go_at_call 26; refine (Q.out _).mono ?_; rintro e w' ⟨rfl, hb⟩)
        refine hK.out _ _ (⟨hHeld.1.kept hb, hHeld.2.1.kept hb, hHeld.2.2.1.kept hb, Bel.then hHeld.2.2.2 hb⟩) (fun hHeld => ?_)
        clear hK K
        (try simp only [Act.put]); (try simp only [List.setIfInBounds_toArray]); (try simp only [List.set_cons_succ]); (try simp only [List.set_cons_zero])
        first | (refine wpAnyH_take (i := 17) (v := ?_) nth17 (by kernel_rfl) (by kernel_rfl) (by kernel_rfl) (fun _ _ _ h => h) (Or.inl ⟨by rfl, ?_⟩) hHeld ?_; rotate_left; focus (intro wS hSw; (obtain ⟨_, t_0, t_1⟩ := hSw.1; obtain ⟨_, a_0, a_1, a_2⟩ := hSw.2.1; obtain ⟨_, b_0, b_1, b_2⟩ := hSw.2.2.1); go_simp; try with_reducible rfl; done)) | (refine wpAnyH_take (i := 17) (v := undef) nth17 (by kernel_rfl) (by kernel_rfl) (by kernel_rfl) (fun _ _ _ h => h) (Or.inr ⟨by rfl, rfl⟩) hHeld ?_)
        (try simp only [Act.put]); (try simp only [List.setIfInBounds_toArray]); (try simp only [List.set_cons_succ]); (try simp only [List.set_cons_zero])
        refine wpAnyH_done (by kernel_rfl) ?_ _
        replace HB := hide hHeld.2.2.2
        obtain ⟨_, t_0, t_1⟩ := hHeld.1
        clear hb hHeld Va Vb KB Q QH
        by_cases hx : x = 0
        · have HX := hide (HL.out hx)
          have f1 : (x != 0) = false := by simp [hx]
          clear hx HL HS
          go_wp2_with fail
          go_roundw
          case rel => exact ⟨k + 1, by omega, by go_num, HB, HX⟩
          case measure => simp [intOf]; omega
        · have HX := hide (HS.out hx)
          have f1 : (x != 0) = true := by simp [hx]
          clear hx HL HS
          by_cases f2 : x < 0
          · have HY : Hid (befB r s ks = (true != d)) := by rw [HX.out, decide_eq_true f2]; rfl
            clear HX
            go_wp2_with fail
            go_ret
            exact ⟨ret_bool (by rw [HY.out]; first | rfl | (simp; done) | (cases d <;> rfl)), HB.out⟩
          · have HY : Hid (befB r s ks = (false != d)) := by rw [HX.out, decide_eq_false f2]; rfl
            clear HX
            go_wp2_with fail
            go_ret
            exact ⟨ret_bool (by rw [HY.out]; first | rfl | (simp; done) | (cases d <;> rfl)), HB.out⟩
      · rw [decide_eq_false g] at QH
        have HX := hide (HN.out (by rw [l1, l2]; omega))
        clear HN hka HR g
        go_wp2_with fail
        refine (QH.out _).mono ?_
        rintro e w' ⟨rfl, rfl⟩
        go_wp2_with fail
        go_roundw
        case rel => exact ⟨k + 1, by omega, by go_num, HB, HX⟩
        case measure => simp [intOf]; omega
    · have hlti : ¬ (k : Int) < n3 := by omega
      have hd : befB r s (ks.drop k) = decide (cmpR r s < 0) := by rw [List.drop_of_length_le (by omega)]; rfl
      have HX := hide (HR.out.symm.trans hd)
      have Q := hide (rorders_c A A2 n c n2 c2 r s wr (H.out.below HB.out |>.more (by have := HB.out.size; exact this)) (H2.out.below HB.out |>.more (by have := HB.out.size; exact this)) HRS.out HSS.out)
      clear hd HR
      generalize cmpR r s = x at *
      go_wp2_with fail
      refine Q.out.mono ?_
      rintro e w' ⟨rfl, hb⟩
      replace HB := hide (Bel.then HB.out hb)
      clear hb Q
      go_wp2_with fail
      go_ret
      exact ⟨ret_bool (by rw [HX.out]), HB.out⟩
end Go.Proofs.Ytahdkfenpflahaa
