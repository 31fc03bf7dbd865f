/- Contracts of the reference of package types: the cases. -/
import Derived.Test.YtiaolpeenbmidaaTypesB
namespace Go.Proofs.Ytiaolpeenbmidaa
set_option linter.unusedVariables false
open Go.ChangeShapes Go.WideShapes Go.ChangeAt Go.RowKit

/-- What the loop of the reference's cases holds at each round's head: k places have been seen. -/
def CasesR (w : World) (zs : List Int) (s4 s5 : Value) (wr : World) : Prop :=
  ∃ (k : Nat) (L1 L2 : List Int), s5 = .int .i64 k ∧ k ≤ zs.length ∧ L2.length ≤ k ∧ wr.ownsRow w.heap.size 3 1 s4 L2.length (L2.map (.int .i64)) ∧ fitsL 1 L1 = true ∧
    (k % 2 = 0 → L1 ++ condsOf (zs.drop k) = condsOf zs ∧ L2 ++ valsOf (zs.drop k) = valsOf zs) ∧
    (k % 2 = 1 → L1 ++ condsO (zs.drop k) = condsOf zs ∧ L2 ++ valsO (zs.drop k) = valsOf zs) ∧ Below w.heap.size w wr
theorem drop_get {zs : List Int} {k : Nat} {z : Int} (h : k < zs.length) (hz : zs.getD k 0 = z) : zs.drop k = z :: zs.drop (k + 1) := by
  rw [List.drop_eq_getElem_cons h, ← hz]; simp [List.getD, h]
theorem even_stop {zs L1 L2 : List Int} {k : Nat} {z : Int} (h : L1 ++ condsOf (zs.drop k) = condsOf zs ∧ L2 ++ valsOf (zs.drop k) = valsOf zs) (hd : zs.drop k = z :: zs.drop (k + 1)) (hn : k + 1 < zs.length) (hj : joinB z 1 = false) : choiceI zs = (0, 9) := by
  have hy := drop_get hn rfl
  rw [hd, hy, condsOf2] at h
  unfold choiceI
  rw [← h.1, fits_app]
  simp [fitsL, joinB_comm 1 z, hj]
theorem even_go {zs L1 L2 : List Int} {k : Nat} {z : Int} (h : L1 ++ condsOf (zs.drop k) = condsOf zs ∧ L2 ++ valsOf (zs.drop k) = valsOf zs) (hd : zs.drop k = z :: zs.drop (k + 1)) (hn : k + 1 < zs.length) :
    (L1 ++ [z]) ++ condsO (zs.drop (k + 1)) = condsOf zs ∧ L2 ++ valsO (zs.drop (k + 1)) = valsOf zs := by
  have hy := drop_get hn rfl
  rw [hd, hy, condsOf2, valsOf2, ← hy] at h
  simpa using h
theorem even_last {zs L1 L2 : List Int} {k : Nat} {z : Int} (h : L1 ++ condsOf (zs.drop k) = condsOf zs ∧ L2 ++ valsOf (zs.drop k) = valsOf zs) (hd : zs.drop k = z :: zs.drop (k + 1)) (hn : zs.length ≤ k + 1) :
    L1 ++ condsO (zs.drop (k + 1)) = condsOf zs ∧ (L2 ++ [z]) ++ valsO (zs.drop (k + 1)) = valsOf zs := by
  have hy : zs.drop (k + 1) = [] := List.drop_of_length_le hn
  rw [hy] at hd
  rw [hd, condsOf1, valsOf1] at h
  rw [hy]
  simpa [condsO, valsO] using h
theorem odd_go {zs L1 L2 : List Int} {k : Nat} {z : Int} (h : L1 ++ condsO (zs.drop k) = condsOf zs ∧ L2 ++ valsO (zs.drop k) = valsOf zs) (hd : zs.drop k = z :: zs.drop (k + 1)) :
    L1 ++ condsOf (zs.drop (k + 1)) = condsOf zs ∧ (L2 ++ [z]) ++ valsOf (zs.drop (k + 1)) = valsOf zs := by
  rw [hd] at h
  simpa [condsO, valsO] using h
theorem cases_end {zs L1 L2 : List Int} (he : zs.length % 2 = 0 → L1 ++ condsOf (zs.drop zs.length) = condsOf zs ∧ L2 ++ valsOf (zs.drop zs.length) = valsOf zs) (ho : zs.length % 2 = 1 → L1 ++ condsO (zs.drop zs.length) = condsOf zs ∧ L2 ++ valsO (zs.drop zs.length) = valsOf zs)
    (hf : fitsL 1 L1 = true) : choiceI zs = resI (joinAll L2).1 (joinAll L2).2 := by
  simp only [List.drop_length] at he ho
  have h : L1 = condsOf zs ∧ L2 = valsOf zs := by
    rcases Nat.mod_two_eq_zero_or_one zs.length with h | h
    · simpa [condsOf, valsOf] using he h
    · simpa [condsO, valsO] using ho h
  unfold choiceI
  rw [← h.1, ← h.2, hf]
  rfl
set_option maxHeartbeats 1000000 in
theorem cases_c (A : Option Addr) (n c : Nat) (zs : List Int) (w : World) (hz : Ints w w.heap.size A n zs) (hm : n ≤ 1048576) :
    Calls Try.prog 30 #[.slice A n c] w fun e w' => e = .returned (.tuple #[.int .i64 (choiceI zs).1, .int .i64 (choiceI zs).2]) ∧ Below w.heap.size w w' := by
  obtain ⟨i0, hi0, hz0, hz1, hz2⟩ := info_parts int_info
  obtain rfl := hz.1
  have HZ := hide hz
  clear hz
  go_enter Try.func30, Try.ntmps30
  go_wp2
  go_loopw [4, 5] (fun s4 s5 wr => CasesR w zs s4 s5 wr) (fun _ s5 _ => zs.length - (intOf s5).toNat)
  case atStart => exact ⟨0, [], [], rfl, Nat.zero_le _, Nat.le_refl _, World.ownsRow_nil _ _ _ _, rfl, fun _ => ⟨rfl, rfl⟩, fun h => by omega, Below.refl _ _⟩
  case round =>
    obtain ⟨k, L1, L2, rfl, hk, hl2, ho2, hf, he, ho, hB⟩ := hrel
    have HB := hide hB
    have HO2 := hide ho2
    have HF := hide hf
    have HE := hide he
    have HO := hide ho
    clear hB ho2 hf he ho
    by_cases hlt : k < zs.length
    · obtain ⟨g, off, z, rfl, hg, hx, _, HG⟩ := (HZ.out.below HB.out).get hlt
      have hd := drop_get hlt HG.out
      have HD := hide hd
      clear hd
      by_cases hpar : k % 2 = 0
      · have t1 : ((k : Int) % 2 == 0) = true := by simp; omega
        have HE1 := hide (HE.out hpar)
        by_cases hnx : k + 1 < zs.length
        · have t2 : (k : Int) + 1 < (zs.length : Int) := by omega
          cases hj : joinB z 1
          all_goals
            have HJ := hide hj
            clear hj
            go_wp2_with (first | (go_at_call 31; refine (rfits_c _ _ _).mono ?_; rw [HJ.out]; rintro e w' ⟨rfl, rfl⟩))
          · go_ret2
            exact ⟨ret_p (even_stop HE1.out HD.out hnx HJ.out), HB.out⟩
          · go_roundw
            case rel => exact ⟨k + 1, L1 ++ [z], L2, by go_num, hlt, by omega, HO2.out, by rw [fits_app, HF.out]; simp [fitsL, joinB_comm 1 z, HJ.out], fun h => by omega, fun _ => even_go HE1.out HD.out hnx, HB.out⟩
            case measure => simp [intOf]; omega
        · have t2 : ¬ (k : Int) + 1 < (zs.length : Int) := by omega
          go_wp2_with (first
            | (at_builtin; refine wpList_app rfl (.tmp 28) (.tmp 33) 22 rfl w.heap.size 3 i0 _ 1 8 Try.underlying22 hi0 hz0 hz1 hz2 rfl (by omega) u4 L2.length _ rfl (HO2.out.alloc _) _ _ 1 1 [.int .i64 z] rfl rfl (cells_lit wr #[.int .i64 z] 3) (by simp [Value.oneCell']) (by simp only [maxLen]; omega) (by omega) (by have := HB.out.size; simp; omega) (by simp) ?_; intro v1 w1 hown1 hg1 hat1
               have HB1 := hide (((Below.refl w.heap.size wr).alloc HB.out.size (.cells #[.int .i64 z] 3)).grown hg1 (by have := HB.out.size; simp; omega) (fun k hk => (HO2.out.lt k hk).1))
               have HO2' := hide hown1
               clear hown1 hg1 hat1))
          go_roundw
          case rel => exact ⟨k + 1, L1, L2 ++ [z], by go_num, hlt, by simp; omega, by simpa using HO2'.out, HF.out, fun h => by omega, fun _ => even_last HE1.out HD.out (by omega), HB.out.trans HB1.out⟩
          case measure => simp [intOf]; omega
      · have t1 : ((k : Int) % 2 == 0) = false := by simp; omega
        have HO1 := hide (HO.out (by omega))
        go_wp2_with (first
          | (at_builtin; refine wpList_app rfl (.tmp 28) (.tmp 33) 22 rfl w.heap.size 3 i0 _ 1 8 Try.underlying22 hi0 hz0 hz1 hz2 rfl (by omega) u4 L2.length _ rfl (HO2.out.alloc _) _ _ 1 1 [.int .i64 z] rfl rfl (cells_lit wr #[.int .i64 z] 3) (by simp [Value.oneCell']) (by simp only [maxLen]; omega) (by omega) (by have := HB.out.size; simp; omega) (by simp) ?_; intro v1 w1 hown1 hg1 hat1
             have HB1 := hide (((Below.refl w.heap.size wr).alloc HB.out.size (.cells #[.int .i64 z] 3)).grown hg1 (by have := HB.out.size; simp; omega) (fun k hk => (HO2.out.lt k hk).1))
             have HO2' := hide hown1
             clear hown1 hg1 hat1))
        go_roundw
        case rel => exact ⟨k + 1, L1, L2 ++ [z], by go_num, hlt, by simp; omega, by simpa using HO2'.out, HF.out, fun _ => odd_go HO1.out HD.out, fun h => by omega, HB.out.trans HB1.out⟩
        case measure => simp [intOf]; omega
    · have hkn : k = zs.length := by omega
      subst hkn
      obtain ⟨A4, c4, rfl, hc4, hA4, hC4⟩ := own_form HO2.out
      have HI : Hid (Ints wr wr.heap.size A4 L2.length L2) := ⟨rfl, hC4⟩
      have HEnd := hide (cases_end HE.out HO.out HF.out)
      clear hC4 hA4
      go_wp2_with (first | (go_at_call 26; refine (rjoined_c _ _ _ _ _ _ HI.out (by omega)).mono ?_; rintro e w' ⟨rfl, rfl⟩) | (go_at_call 27; refine (makes_c _ _ _).mono ?_; rintro e w' ⟨rfl, rfl⟩))
      go_ret2
      exact ⟨ret_p HEnd.out, HB.out⟩
end Go.Proofs.Ytiaolpeenbmidaa
