/- Contracts of package types and of its reference: the choice of a case, operators. -/
import Derived.Test.YtiaolpeenbmidaaTypes
namespace Go.Proofs.Ytiaolpeenbmidaa
set_option linter.unusedVariables false
open Go.ChangeShapes Go.WideShapes Go.ChangeAt Go.RowKit

theorem int_info : (Try.prog.info? 3).map (fun i => (i.zero, i.size, i.bytes)) = some (some (.int .i64 0), 1, 8) := by kernel_rfl
theorem compared_c (A : Option Addr) (n c : Nat) (zs : List Int) (B : Nat) (w : World) (hz : Ints w B A n zs) (hm : n ≤ 1048576) :
    Calls Try.prog 24 #[.slice A n c] w fun e w' => e = .returned (.tuple #[.int .i64 (resI 1 (joinAll zs).2).1, .int .i64 (resI 1 (joinAll zs).2).2]) ∧ w = w' := by
  have HZ := hide hz
  clear hz
  go_enter Try.func24, Try.ntmps24
  go_wp2_with (first | (go_at_call 35; refine (joinAll_c _ _ _ _ _ _ HZ.out hm).mono ?_; rintro e w' ⟨rfl, rfl⟩) | (go_at_call 20; refine (result_c _ _ _).mono ?_; rintro e w' ⟨rfl, rfl⟩))
  go_ret2
  exact ⟨rfl, rfl⟩
theorem joined_c (A : Option Addr) (n c : Nat) (zs : List Int) (B : Nat) (w : World) (hz : Ints w B A n zs) (hm : n ≤ 1048576) :
    Calls Try.prog 32 #[.slice A n c] w fun e w' => e = .returned (.tuple #[.int .i64 (resI (joinAll zs).1 (joinAll zs).2).1, .int .i64 (resI (joinAll zs).1 (joinAll zs).2).2]) ∧ w = w' := by
  have HZ := hide hz
  clear hz
  go_enter Try.func32, Try.ntmps32
  go_wp2_with (first | (go_at_call 35; refine (joinAll_c _ _ _ _ _ _ HZ.out hm).mono ?_; rintro e w' ⟨rfl, rfl⟩) | (go_at_call 20; refine (result_c _ _ _).mono ?_; rintro e w' ⟨rfl, rfl⟩))
  go_ret2
  exact ⟨rfl, rfl⟩
theorem operands_c (op : Int) (w : World) : Calls Try.prog 19 #[.int .i64 op] w fun e w' => e = .returned (.tuple #[.int .i64 (lo op), .int .i64 (hi op)]) ∧ w = w' := by
  by_cases h : 3 ≤ op ∧ op ≤ 23
  · have h : op = 3 ∨ op = 4 ∨ op = 5 ∨ op = 6 ∨ op = 7 ∨ op = 8 ∨ op = 9 ∨ op = 10 ∨ op = 11 ∨ op = 12 ∨ op = 13 ∨ op = 14 ∨ op = 15 ∨ op = 16 ∨ op = 17 ∨ op = 18 ∨ op = 19 ∨ op = 20 ∨ op = 21 ∨ op = 22 ∨ op = 23 := by omega
    rcases h with rfl | rfl | rfl | rfl | rfl | rfl | rfl | rfl | rfl | rfl | rfl | rfl | rfl | rfl | rfl | rfl | rfl | rfl | rfl | rfl | rfl
    all_goals
      go_enter Try.func19, Try.ntmps19
      go_wp2
      go_ret2
      exact ⟨ret_ii (by simp [lo]) (by simp [hi, lo]), rfl⟩
  · have h : op < 3 ∨ 23 < op := by omega
    rcases h with h | h
    all_goals
      go_enter Try.func19, Try.ntmps19
      go_wp2
      go_ret2
      exact ⟨ret_ii (by unfold lo; repeat' split <;> omega) (by unfold hi lo; repeat' split <;> omega), rfl⟩
def hir (op : Int) : Int := if op = 21 ∨ op = 23 then 1152921504606846976 else lo op
theorem many_c (op : Int) (w : World) : Calls Try.prog 25 #[.int .i64 op] w fun e w' => e = .returned (.tuple #[.int .i64 (lo op), .int .i64 (hir op)]) ∧ w = w' := by
  by_cases h : 3 ≤ op ∧ op ≤ 23
  · have h : op = 3 ∨ op = 4 ∨ op = 5 ∨ op = 6 ∨ op = 7 ∨ op = 8 ∨ op = 9 ∨ op = 10 ∨ op = 11 ∨ op = 12 ∨ op = 13 ∨ op = 14 ∨ op = 15 ∨ op = 16 ∨ op = 17 ∨ op = 18 ∨ op = 19 ∨ op = 20 ∨ op = 21 ∨ op = 22 ∨ op = 23 := by omega
    rcases h with rfl | rfl | rfl | rfl | rfl | rfl | rfl | rfl | rfl | rfl | rfl | rfl | rfl | rfl | rfl | rfl | rfl | rfl | rfl | rfl | rfl
    all_goals
      go_enter Try.func25, Try.ntmps25
      go_wp2
      go_ret2
      exact ⟨ret_ii (by simp [lo]) (by simp [hir, lo]), rfl⟩
  · have h : op < 3 ∨ 23 < op := by omega
    have t1 : (op == 20) = false := by simp; omega
    have t2 : (decide (5 ≤ op) && decide (op ≤ 18)) = false := by simp; omega
    rcases h with h | h
    case' inr => have t3 : decide (op ≤ 18) = false := by simp; omega
    all_goals
      go_enter Try.func25, Try.ntmps25
      go_wp2
      go_ret2
      exact ⟨ret_ii (by unfold lo; repeat' split <;> omega) (by unfold hir lo; repeat' split <;> omega), rfl⟩

/-- What the loop of choice holds at each round's head. -/
def ChoiceR (w : World) (B : Nat) (zs : List Int) (s0 s4 s5 : Value) (wr : World) : Prop :=
  ∃ (rest L1 L2 : List Int) (A : Option Addr) (c : Nat), s0 = .slice A rest.length c ∧ rest.length ≤ c ∧ (A = none → rest.length = 0) ∧ rest.length ≤ zs.length ∧ Ints wr B A rest.length rest ∧ B = w.heap.size ∧
    wr.ownsRow w.heap.size 3 1 s4 L1.length (L1.map (.int .i64)) ∧ wr.ownsRow w.heap.size 3 1 s5 L2.length (L2.map (.int .i64)) ∧ (s4.ownBlock = none ∨ s4.ownBlock ≠ s5.ownBlock) ∧
    L1 ++ condsOf rest = condsOf zs ∧ L2 ++ valsOf rest = valsOf zs ∧ L1.length + rest.length ≤ zs.length ∧ L2.length + rest.length ≤ zs.length ∧ Below w.heap.size w wr
set_option maxHeartbeats 1000000 in
theorem choice_c (A : Option Addr) (n c : Nat) (zs : List Int) (w : World) (hz : Ints w w.heap.size A n zs) (hm : n ≤ 1048576) (hnc : n ≤ c) (hA : A = none → n = 0) :
    Calls Try.prog 23 #[.slice A n c] w fun e w' => e = .returned (.tuple #[.int .i64 (choiceI zs).1, .int .i64 (choiceI zs).2]) ∧ Below w.heap.size w w' := by
  obtain ⟨i0, hi0, hz0, hz1, hz2⟩ := info_parts int_info
  obtain rfl := hz.1
  have HZ := hide hz
  clear hz
  go_enter Try.func23, Try.ntmps23
  go_wp2
  go_loopw [0, 4, 5] (fun s0 s4 s5 wr => ChoiceR w w.heap.size zs s0 s4 s5 wr) (fun s0 _ _ _ => lenV s0)
  case atStart => exact ⟨zs, [], [], A, c, rfl, hnc, hA, Nat.le_refl _, HZ.out, rfl, World.ownsRow_nil _ _ _ _, World.ownsRow_nil _ _ _ _, .inl rfl, rfl, rfl, by simp, by simp, Below.refl _ _⟩
  case round =>
    obtain ⟨rest, L1, L2, A', c', rfl, hc', hA', hrl, hI, _, ho1, ho2, hne, hk1, hk2, hl1, hl2, hB⟩ := hrel
    by_cases h2 : 2 ≤ rest.length
    · obtain ⟨x, y, r, rfl⟩ := two_of h2
      obtain ⟨g, off, rfl, hg, hx, hy⟩ := hI.two
      simp only [List.length_cons] at *
      have HI := hide hI
      have HO1 := hide ho1
      have HO2 := hide ho2
      have HB := hide hB
      have HN := hide hne
      have HK1 := hide hk1
      have HK2 := hide hk2
      clear hI ho1 ho2 hB hne hk1 hk2 hA'
      have hlr : (2 : Int) ≤ ((r.length + 1 + 1 : Nat) : Int) := by omega
      by_cases hc2 : c' = 2
      all_goals
        go_wp2_with (first
          | (at_builtin; refine wpList_app rfl (.tmp 11) (.tmp 15) 22 rfl w.heap.size 3 i0 _ 1 8 Try.underlying22 hi0 hz0 hz1 hz2 rfl (by omega) u4 L1.length _ rfl (HO1.out.alloc _) _ _ 1 1 [.int .i64 x] rfl rfl (cells_lit wr #[.int .i64 x] 3) (by simp [Value.oneCell']) (by simp only [maxLen]; omega) (by omega) (by have := HB.out.size; simp; omega) (by simp) ?_; intro v1 w1 hown1 hg1 hat1
             have HB1 := hide (((Below.refl w.heap.size wr).alloc HB.out.size (.cells #[.int .i64 x] 3)).grown hg1 (by have := HB.out.size; simp; omega) (fun k hk => (HO1.out.lt k hk).1))
             obtain ⟨ho2, hne⟩ := own_other (HO2.out.alloc _) HN.out hg1 hat1
             have HO1' := hide hown1
             have HO2' := hide ho2
             have HN' := hide hne
             have hy1 := (HB1.out.cell (p := ⟨g, off + 1, none⟩) hg).trans hy
             clear hown1 hg1 hat1 ho2 hne)
          | (at_builtin; refine wpList_app rfl (.tmp 17) (.tmp 21) 22 rfl w.heap.size 3 i0 _ 1 8 Try.underlying22 hi0 hz0 hz1 hz2 rfl (by omega) u5 L2.length _ rfl (HO2'.out.alloc _) _ _ 1 1 [.int .i64 y] rfl rfl (cells_lit w1 #[.int .i64 y] 3) (by simp [Value.oneCell']) (by simp only [maxLen]; omega) (by omega) (by have := HB.out.size; have := HB1.out.size; simp at *; omega) (by simp) ?_; intro v2 w2 hown2 hg2 hat2
             have hs1 : w.heap.size ≤ w1.heap.size := Nat.le_trans HB.out.size HB1.out.size
             have HB2 := hide (((Below.refl w.heap.size w1).alloc hs1 (.cells #[.int .i64 y] 3)).grown hg2 (by simp; omega) (fun k hk => (HO2'.out.lt k hk).1))
             obtain ⟨ho1, hne⟩ := own_other (HO1'.out.alloc _) (ne_sym HN'.out) hg2 hat2
             have HO1'' := hide ho1
             have HO2'' := hide hown2
             have HN'' := hide hne
             clear hown2 hg2 hat2 ho1 hne hs1))
        go_roundw
        case rel =>
          have hI2 := (((HI.out.below HB1.out).below HB2.out).cut (k := 2) (by omega) hc')
          simp only [List.drop_succ_cons, List.drop_zero] at hI2
          refine ⟨r, L1 ++ [x], L2 ++ [y], _, _, rfl, by omega, ?_, by omega, ?_, rfl, by simpa using HO1''.out, by simpa using HO2''.out, ?_, ?_, ?_, by simp; omega, by simp; omega, (HB.out.trans HB1.out).trans HB2.out⟩
          · exact (fun h => by cases h)
          · simpa [hc2, add_off] using hI2
          · exact ne_sym HN''.out
          · rw [← HK1.out]; simp [condsOf]
          · rw [← HK2.out]; simp [valsOf]
        case measure => simp [lenV]; omega
    · obtain ⟨hs1, hs2⟩ := short_of (show rest.length < 2 by omega)
      rw [hs1, List.append_nil] at hk1
      rw [hs2] at hk2
      obtain ⟨A4, c4, rfl, hc4, hA4, hC4⟩ := own_form ho1
      have HI := hide hI
      have HO2 := hide ho2
      have HB := hide hB
      have HK1 := hide hk1
      have HK2 := hide hk2
      have HO1 := hide ho1
      have HNE := hide hne
      clear hI ho1 ho2 hB hk1 hk2 hs1 hs2 hC4 hne hA4
      have h3 : ¬ (2 : Int) ≤ ((rest.length : Nat) : Int) := by omega
      cases hf : fitsL 1 L1
      all_goals
        have HF := hide hf
        clear hf
        go_wp2_with (first
          | (at_builtin; refine wpList_app rfl (.tmp 23) (.tmp 24) 22 rfl w.heap.size 3 i0 _ 1 8 Try.underlying22 hi0 hz0 hz1 hz2 rfl (by omega) u5 L2.length _ rfl HO2.out _ _ rest.length c' (rest.map (.int .i64)) rfl (by simp) HI.out.2 (by simp [Value.oneCell']) (by simp only [maxLen]; omega) (by omega) HB.out.size hA' ?_; intro v2 w2 hown2 hg2 hat2
             obtain ⟨A5, c5, rfl, hc5, hA5, hC5⟩ := own_form hown2
             have HB2 := hide ((Below.refl w.heap.size wr).grown hg2 HB.out.size (fun k hk => (HO2.out.lt k hk).1))
             obtain ⟨ho4, _⟩ := own_other HO1.out (ne_sym HNE.out) hg2 hat2
             have HI4' : Hid (Ints w2 w2.heap.size A4 L1.length L1) := ⟨rfl, Cells.of_own ho4⟩
             clear ho4
             have HI5 : Hid (Ints w2 w2.heap.size A5 (L2.length + rest.length) (L2 ++ rest)) := ⟨by simp, by simpa using hC5⟩
             clear hown2 hg2 hat2 hC5 hA5)
          | (go_at_call 21; refine (fits_c _ _ _ _ _ _ _ HI4'.out (by omega)).mono ?_; rw [HF.out]; rintro e w' ⟨rfl, rfl⟩)
          | (go_at_call 32; refine (joined_c _ _ _ _ _ _ HI5.out (by omega)).mono ?_; rintro e w' ⟨rfl, rfl⟩))
        go_ret2
        refine ⟨ret_p ?_, HB.out.trans HB2.out⟩
        unfold choiceI
        rw [← HK1.out, ← HK2.out, HF.out]
        first | rfl | simp
end Go.Proofs.Ytiaolpeenbmidaa
