/- The contract of lex.skip. -/
import Derived.Test.YtcmhnaanfkpheaaDoorLxC
import Derived.WalkMore
namespace Go.Proofs.YtcmhnaanfkpheaaDoor
set_option linter.unusedVariables false
open Go.ChangeShapes Go.WideShapes Go.ChangeAt Go.RowKit

theorem extract_drop (s : ByteArray) (k : Nat) : (s.extract k s.size).data.toList = s.data.toList.drop k := by
  rw [ByteArray.data_extract, Array.toList_extract, List.extract_eq_take_drop, List.take_of_length_le (by rw [List.length_drop, str_len]; omega)]
theorem pre_dash (l : List UInt8) : Lib.hasPrefix (45 :: l) [45, 45] = (l.head? == some 45) := by
  unfold Lib.hasPrefix
  cases l with
  | nil => rfl
  | cons d l =>
    show (45 == (45 : UInt8) && ([45] : List UInt8).isPrefixOf (d :: l)) = (some d == some 45)
    cases h : (d == 45) with
    | true => rw [beq_iff_eq] at h; subst h; simp [List.isPrefixOf]
    | false =>
      have h2 : d ≠ 45 := by simpa using h
      have h3 : ((45 : UInt8) == d) = false := by rw [beq_eq_false_iff_ne]; exact fun e => h2 e.symm
      simp [List.isPrefixOf, h3, h2]
set_option maxRecDepth 100000 in
set_option maxHeartbeats 4000000 in
theorem skip_c (s : ByteArray) (a : Nat) (w : World) (ha : a ≤ s.size) (hm : s.size ≤ 1048576) : Calls Tryd.prog 20 #[.string s, .int .i64 a] w fun e w' => e = .returned (.int .i64 ((a + skipS false (s.data.toList.drop a) : Nat) : Int)) ∧ w = w' := by
  obtain ⟨F, hF⟩ : ∃ F, a + skipS false (s.data.toList.drop a) = F := ⟨_, rfl⟩
  rw [hF]
  have HE0 := hide hF
  clear hF
  go_enter Tryd.func20, Tryd.ntmps20
  go_wp2_with fail
  go_step3
  go_wp2_with fail
  go_step3
  go_wp2_with fail
  go_loopw [1] (fun v wr => ∃ k : Nat, v = .int .i64 k ∧ k ≤ s.size ∧ Hid (k + skipS false (s.data.toList.drop k) = F) ∧ w = wr) (fun v _ => s.size - (intOf v).toNat)
  case atStart => exact ⟨a, rfl, ha, HE0, rfl⟩
  case round =>
    clear HE0
    obtain ⟨k, rfl, hk, HE, rfl⟩ := hrel
    by_cases hlt : k < s.size
    · have hlti : (k : Int) < s.size := by omega
      have hwk : IntKind.i64.wrap ((k : Int) + 1) = (k : Int) + 1 := IntWalk.i64_in _ (by omega)
      have hd := drop_str hlt
      generalize hc : s[k] = c at *
      by_cases h32 : c = 32
      · subst h32
        have HE2 : Hid (k + 1 + skipS false (s.data.toList.drop (k + 1)) = F) := by have := HE.out; rw [hd, skipS, if_pos (by decide)] at this; show _ = _; omega
        clear HE hd
        go_wp2_with fail
        go_roundw
        case rel => exact ⟨k + 1, by go_num, by omega, HE2, (by first | rfl | trivial)⟩
        case measure => simp [intOf]; omega
      · skip
        by_cases h9 : c = 9
        · subst h9
          have HE2 : Hid (k + 1 + skipS false (s.data.toList.drop (k + 1)) = F) := by have := HE.out; rw [hd, skipS, if_pos (by decide)] at this; show _ = _; omega
          clear HE hd
          go_wp2_with fail
          go_roundw
          case rel => exact ⟨k + 1, by go_num, by omega, HE2, (by first | rfl | trivial)⟩
          case measure => simp [intOf]; omega
        · skip
          by_cases h10 : c = 10
          · subst h10
            have HE2 : Hid (k + 1 + skipS false (s.data.toList.drop (k + 1)) = F) := by have := HE.out; rw [hd, skipS, if_pos (by decide)] at this; show _ = _; omega
            clear HE hd
            go_wp2_with fail
            go_roundw
            case rel => exact ⟨k + 1, by go_num, by omega, HE2, (by first | rfl | trivial)⟩
            case measure => simp [intOf]; omega
          · skip
            by_cases h13 : c = 13
            · subst h13
              have HE2 : Hid (k + 1 + skipS false (s.data.toList.drop (k + 1)) = F) := by have := HE.out; rw [hd, skipS, if_pos (by decide)] at this; show _ = _; omega
              clear HE hd
              go_wp2_with fail
              go_roundw
              case rel => exact ⟨k + 1, by go_num, by omega, HE2, (by first | rfl | trivial)⟩
              case measure => simp [intOf]; omega
            · skip
              by_cases h45 : c = 45
              · subst h45
                have Q := hide (fun W => Tryd.strings_HasPrefix (s.extract k s.size) ⟨#[45, 45]⟩ W)
                rw [extract_drop, hd] at Q
                rw [show ((⟨#[45, 45]⟩ : ByteArray).data.toList) = [45, 45] from rfl, pre_dash] at Q
                cases hh : ((s.data.toList.drop (k + 1)).head? == some 45) with
                | false =>
                  rw [hh] at Q
                  obtain rfl : k = F := by have := HE.out; rw [hd, skipS, if_neg (by decide), hh] at this; simpa using this
                  clear HE hd hh
                  go_wp2_with fail
                  refine (Q.out _).mono ?_
                  rintro e w1 ⟨rfl, rfl⟩
                  go_wp2_with fail
                  first | go_ret | (rw [Exit.noGoto_ret]; go_ret)
                  exact ⟨rfl, rfl⟩
                | true =>
                  rw [hh] at Q
                  have e1 : skipS false (45 :: s.data.toList.drop (k + 1)) = skipS true (s.data.toList.drop (k + 1)) + 1 := by rw [skipS, if_neg (by decide), hh]; rfl
                  have e2 : skipS true (45 :: s.data.toList.drop (k + 1)) = skipS true (s.data.toList.drop (k + 1)) + 1 := by rw [skipS, if_neg (by decide)]
                  have HR : Hid (k + skipS true (s.data.toList.drop k) = F) := by have := HE.out; rw [hd, e1] at this; show _ = _; rw [hd, e2]; exact this
                  clear e1 e2
                  clear HE hh hd
                  go_wp2_with fail
                  refine (Q.out _).mono ?_
                  rintro e w1 ⟨rfl, rfl⟩
                  clear Q
                  go_wp2_with fail
                  go_loopw [1] (fun v wr => ∃ j : Nat, v = .int .i64 j ∧ k ≤ j ∧ j ≤ s.size ∧ Hid (j + skipS true (s.data.toList.drop j) = F) ∧ w1 = wr) (fun v _ => s.size - (intOf v).toNat)
                  case atStart => exact ⟨k, rfl, Nat.le_refl _, hk, HR, rfl⟩
                  case round =>
                    clear HR
                    obtain ⟨j, rfl, hkj, hj, HR, rfl⟩ := hrel
                    by_cases hlt2 : j < s.size
                    · have hlti2 : (j : Int) < s.size := by omega
                      have f0 : decide ((j : Int) < (s.size : Int)) = true := decide_eq_true hlti2
                      have hwj : IntKind.i64.wrap ((j : Int) + 1) = (j : Int) + 1 := IntWalk.i64_in _ (by omega)
                      have hd2 := drop_str hlt2
                      by_cases h10 : s[j] = 10
                      · have hne : k < j := by
                          rcases Nat.lt_or_ge k j with h | h
                          · exact h
                          · exfalso
                            have e : j = k := by omega
                            subst e
                            rw [hc] at h10
                            exact absurd h10 (by decide)
                        have HE2 : Hid (j + skipS false (s.data.toList.drop j) = F) := by have := HR.out; rw [hd2, h10, skipS, if_pos (by decide)] at this; rw [hd2, h10, skipS, if_pos (by decide)]; exact this
                        clear HR hd2
                        go_wp2_with fail
                        go_roundw
                        case rel => exact ⟨j, rfl, hj, HE2, (by first | rfl | trivial)⟩
                        case measure => simp [intOf]; omega
                      · have q : ((s[j].toNat : Int) == 10) = false := byte_ne _ 10 (by decide) h10
                        have q2 : ((s[j].toNat : Int) != 10) = true := by rw [bne, q]; rfl
                        have HR2 : Hid (j + 1 + skipS true (s.data.toList.drop (j + 1)) = F) := by have := HR.out; rw [hd2, skipS, if_neg (by simpa using h10)] at this; show _ = _; omega
                        clear HR hd2 h10
                        go_wp2_with fail
                        go_roundw
                        case rel => exact ⟨j + 1, by go_num, by omega, by omega, HR2, (by first | rfl | trivial)⟩
                        case measure => simp [intOf]; omega
                    · have hlti2 : ¬ (j : Int) < s.size := by omega
                      have f0 : decide ((j : Int) < (s.size : Int)) = false := decide_eq_false hlti2
                      have HE2 : Hid (j + skipS false (s.data.toList.drop j) = F) := by have := HR.out; rw [List.drop_of_length_le (by rw [str_len]; omega)] at this ⊢; exact this
                      clear HR
                      go_wp2_with fail
                      go_roundw
                      case rel => exact ⟨j, rfl, hj, HE2, (by first | rfl | trivial)⟩
                      case measure => simp [intOf]; omega
              · have hb : blankB c = false := by unfold blankB; simp [h32, h9, h10, h13]
                obtain rfl : k = F := by have := HE.out; rw [hd, skipS, if_neg (by rw [hb]; decide), if_neg (by simp [h45])] at this; omega
                have p32 : ((c.toNat : Int) == 32) = false := byte_ne c 32 (by decide) h32
                have p9 : ((c.toNat : Int) == 9) = false := byte_ne c 9 (by decide) h9
                have p10 : ((c.toNat : Int) == 10) = false := byte_ne c 10 (by decide) h10
                have p13 : ((c.toNat : Int) == 13) = false := byte_ne c 13 (by decide) h13
                have p45 : ((c.toNat : Int) == 45) = false := byte_ne c 45 (by decide) h45
                clear HE hd hb
                go_wp2_with fail
                first | go_ret | (rw [Exit.noGoto_ret]; go_ret)
                exact ⟨rfl, rfl⟩
    · have hlti : ¬ (k : Int) < s.size := by omega
      obtain rfl : k = F := by have := HE.out; rw [List.drop_of_length_le (by rw [str_len]; omega)] at this; exact this
      clear HE
      go_wp2_with fail
      first | go_ret | (rw [Exit.noGoto_ret]; go_ret)
      exact ⟨rfl, rfl⟩
end Go.Proofs.YtcmhnaanfkpheaaDoor
