/- The contracts of the reference's letter, digit, great, bad and Skip. -/
import Derived.Test.YtcmhnaanfkpheaaDoorLxF
namespace Go.Proofs.YtcmhnaanfkpheaaDoor
set_option linter.unusedVariables false
open Go.ChangeShapes Go.WideShapes Go.ChangeAt Go.RowKit

theorem rletter_c (z : Int) (w : World) : Calls Tryd.prog 23 #[.int .u8 z] w fun e w' => e = .returned (.bool (lowI z)) ∧ w = w' := by
  unfold lowI
  by_cases h1 : (97 : Int) ≤ z
  · by_cases h2 : z ≤ 122
    · have e : ((decide ((97 : Int) ≤ z) && decide (z ≤ 122)) || z == 95) = true := by rw [decide_eq_true h1, decide_eq_true h2]; rfl
      rw [e]
      go_enter Tryd.func23, Tryd.ntmps23
      go_wp2
      go_ret
      exact ⟨rfl, rfl⟩
    · have h3 : (z == 95) = false := by rw [beq_eq_false_iff_ne]; omega
      have e : ((decide ((97 : Int) ≤ z) && decide (z ≤ 122)) || z == 95) = false := by rw [decide_eq_false h2, h3]; simp
      rw [e]
      go_enter Tryd.func23, Tryd.ntmps23
      go_wp2
      go_ret
      exact ⟨rfl, rfl⟩
  · by_cases h3 : z = 95
    · subst h3
      go_enter Tryd.func23, Tryd.ntmps23
      go_wp2
      go_ret
      exact ⟨rfl, rfl⟩
    · have h4 : (z == 95) = false := by rw [beq_eq_false_iff_ne]; exact h3
      have e : ((decide ((97 : Int) ≤ z) && decide (z ≤ 122)) || z == 95) = false := by rw [decide_eq_false h1, h4]; simp
      rw [e]
      go_enter Tryd.func23, Tryd.ntmps23
      go_wp2
      go_ret
      exact ⟨rfl, rfl⟩
theorem rupper_c (z : Int) (w : World) : Calls Tryd.prog 24 #[.int .u8 z] w fun e w' => e = .returned (.bool (upI z)) ∧ w = w' := by
  unfold upI
  by_cases h1 : (65 : Int) ≤ z
  · by_cases h2 : z ≤ 90
    · rw [decide_eq_true h1, decide_eq_true h2]
      go_enter Tryd.func24, Tryd.ntmps24
      go_wp2
      go_ret
      exact ⟨rfl, rfl⟩
    · rw [decide_eq_true h1, decide_eq_false h2]
      go_enter Tryd.func24, Tryd.ntmps24
      go_wp2
      go_ret
      exact ⟨rfl, rfl⟩
  · rw [decide_eq_false h1, Bool.false_and]
    go_enter Tryd.func24, Tryd.ntmps24
    go_wp2
    go_ret
    exact ⟨rfl, rfl⟩
theorem rdigit_c (z : Int) (w : World) : Calls Tryd.prog 26 #[.int .u8 z] w fun e w' => e = .returned (.bool (digI z)) ∧ w = w' := by
  unfold digI
  by_cases h1 : (48 : Int) ≤ z
  · by_cases h2 : z ≤ 57
    · rw [decide_eq_true h1, decide_eq_true h2]
      go_enter Tryd.func26, Tryd.ntmps26
      go_wp2
      go_ret
      exact ⟨rfl, rfl⟩
    · rw [decide_eq_true h1, decide_eq_false h2]
      go_enter Tryd.func26, Tryd.ntmps26
      go_wp2
      go_ret
      exact ⟨rfl, rfl⟩
  · rw [decide_eq_false h1, Bool.false_and]
    go_enter Tryd.func26, Tryd.ntmps26
    go_wp2
    go_ret
    exact ⟨rfl, rfl⟩
theorem rbad_c (q : Nat) (e0 : Int) (w : World) : Calls Tryd.prog 42 #[.int .i64 q, .int .i64 e0] w fun e w' => e = .returned (.tuple #[tokAgg 0 q 0 0 { data := #[] }, .int .i64 e0]) ∧ Below w.heap.size w w' := by
  have HX := hide (tb_new w)
  have HB := hide (Bel.one w tok0)
  go_enter Tryd.func42, Tryd.ntmps42
  go_upto_region 1 with (fail)
  generalize w.alloc (.cells #[.int .i64 0, .int .i64 0, .int .i64 0, .int .i64 0, .string { data := #[] }] 24) = w1 at *
  obtain ⟨⟨c0, c1, c2, c3, c4⟩, ⟨y0, y1, y2, y3, y4⟩⟩ := HX.out.all
  have HS := hide (HX.out.set5 0 q 0 0 { data := #[] })
  have HBS := hide (below_set5 HB.out (Nat.le_refl _) (.int .i64 0) (.int .i64 q) (.int .i64 0) (.int .i64 0) (.string { data := #[] }))
  go_wp2_with fail
  exact end_tok Tryd.results42 rfl rfl HS.out rfl ⟨rfl, HBS.out⟩
set_option maxRecDepth 100000 in
set_option maxHeartbeats 4000000 in
theorem rskip_c (s : ByteArray) (a : Nat) (w : World) (ha : a ≤ s.size) (hm : s.size ≤ 1048576) : Calls Tryd.prog 22 #[.string s, .int .i64 a] w fun e w' => e = .returned (.int .i64 ((a + skipS false (s.data.toList.drop a) : Nat) : Int)) ∧ w = w' := by
  obtain ⟨F, hF⟩ : ∃ F, a + skipS false (s.data.toList.drop a) = F := ⟨_, rfl⟩
  rw [hF]
  have HE0 := hide hF
  clear hF
  go_enter Tryd.func22, Tryd.ntmps22
  go_wp2_with fail
  go_loopw [1] (fun v wr => ∃ k : Nat, v = .int .i64 k ∧ k ≤ s.size ∧ Hid (k + skipS false (s.data.toList.drop k) = F) ∧ w = wr) (fun v _ => s.size - (intOf v).toNat)
  case atStart => exact ⟨a, rfl, ha, HE0, (by first | rfl | trivial)⟩
  case round =>
    clear HE0
    obtain ⟨k, rfl, hk, HE, rfl⟩ := hrel
    by_cases hlt : k < s.size
    · have hlti : (k : Int) < s.size := by omega
      have hwk : IntKind.i64.wrap ((k : Int) + 1) = (k : Int) + 1 := IntWalk.i64_in _ (by omega)
      have hd := drop_str hlt
      generalize hc : s[k] = c at *
      by_cases h32 : c = 32
      · subst h32
        have HE2 : Hid (k + 1 + skipS false (s.data.toList.drop (k + 1)) = F) := by have := HE.out; rw [hd, skipS, if_pos (by decide)] at this; show _ = _; omega
        clear HE hd
        go_wp2_with fail
        go_roundw
        case rel => exact ⟨k + 1, by go_num, by omega, HE2, (by first | rfl | trivial)⟩
        case measure => simp [intOf]; omega
      · skip
        by_cases h9 : c = 9
        · subst h9
          have HE2 : Hid (k + 1 + skipS false (s.data.toList.drop (k + 1)) = F) := by have := HE.out; rw [hd, skipS, if_pos (by decide)] at this; show _ = _; omega
          clear HE hd
          go_wp2_with fail
          go_roundw
          case rel => exact ⟨k + 1, by go_num, by omega, HE2, (by first | rfl | trivial)⟩
          case measure => simp [intOf]; omega
        · skip
          by_cases h10 : c = 10
          · subst h10
            have HE2 : Hid (k + 1 + skipS false (s.data.toList.drop (k + 1)) = F) := by have := HE.out; rw [hd, skipS, if_pos (by decide)] at this; show _ = _; omega
            clear HE hd
            go_wp2_with fail
            go_roundw
            case rel => exact ⟨k + 1, by go_num, by omega, HE2, (by first | rfl | trivial)⟩
            case measure => simp [intOf]; omega
          · skip
            by_cases h13 : c = 13
            · subst h13
              have HE2 : Hid (k + 1 + skipS false (s.data.toList.drop (k + 1)) = F) := by have := HE.out; rw [hd, skipS, if_pos (by decide)] at this; show _ = _; omega
              clear HE hd
              go_wp2_with fail
              go_roundw
              case rel => exact ⟨k + 1, by go_num, by omega, HE2, (by first | rfl | trivial)⟩
              case measure => simp [intOf]; omega
            · skip
              by_cases h45 : c = 45
              · subst h45
                by_cases hlt3 : k + 1 < s.size
                · have hlti3 : (k : Int) + 1 < s.size := by omega
                  have hge3 : ¬ (s.size : Int) ≤ (k : Int) + 1 := by omega
                  have hd3 := drop_str hlt3
                  generalize hc3 : s[k + 1] = d at *
                  by_cases d45 : d = 45
                  · subst d45
                    have e1 : skipS false (45 :: s.data.toList.drop (k + 1)) = skipS true (s.data.toList.drop (k + 1)) + 1 := by rw [skipS, if_neg (by decide), hd3]; rfl
                    have e2 : skipS true (45 :: s.data.toList.drop (k + 1)) = skipS true (s.data.toList.drop (k + 1)) + 1 := by rw [skipS, if_neg (by decide)]
                    have HR : Hid (k + skipS true (s.data.toList.drop k) = F) := by have := HE.out; rw [hd, e1] at this; show _ = _; rw [hd, e2]; exact this
                    clear HE e1 e2 hd hd3
                    go_wp2_with fail
                    go_loopw [1] (fun v wr => ∃ j : Nat, v = .int .i64 j ∧ k ≤ j ∧ j ≤ s.size ∧ Hid (j + skipS true (s.data.toList.drop j) = F) ∧ w = wr) (fun v _ => s.size - (intOf v).toNat)
                    case atStart => exact ⟨k, rfl, Nat.le_refl _, hk, HR, (by first | rfl | trivial)⟩
                    case round =>
                      clear HR
                      obtain ⟨j, rfl, hkj, hj, HR, rfl⟩ := hrel
                      by_cases hlt2 : j < s.size
                      · have hlti2 : (j : Int) < s.size := by omega
                        have f0 : decide ((j : Int) < (s.size : Int)) = true := decide_eq_true hlti2
                        have hwj : IntKind.i64.wrap ((j : Int) + 1) = (j : Int) + 1 := IntWalk.i64_in _ (by omega)
                        have hd2 := drop_str hlt2
                        by_cases h10 : s[j] = 10
                        · have hne : k < j := by
                            rcases Nat.lt_or_ge k j with h | h
                            · exact h
                            · exfalso
                              have e : j = k := by omega
                              subst e
                              rw [hc] at h10
                              exact absurd h10 (by decide)
                          have HE2 : Hid (j + skipS false (s.data.toList.drop j) = F) := by have := HR.out; rw [hd2, h10, skipS, if_pos (by decide)] at this; rw [hd2, h10, skipS, if_pos (by decide)]; exact this
                          clear HR hd2
                          go_wp2_with fail
                          go_roundw
                          case rel => exact ⟨j, rfl, hj, HE2, (by first | rfl | trivial)⟩
                          case measure => simp [intOf]; omega
                        · have q : ((s[j].toNat : Int) == 10) = false := byte_ne _ 10 (by decide) h10
                          have q2 : ((s[j].toNat : Int) != 10) = true := by rw [bne, q]; rfl
                          have HR2 : Hid (j + 1 + skipS true (s.data.toList.drop (j + 1)) = F) := by have := HR.out; rw [hd2, skipS, if_neg (by simpa using h10)] at this; show _ = _; omega
                          clear HR hd2 h10
                          go_wp2_with fail
                          go_roundw
                          case rel => exact ⟨j + 1, by go_num, by omega, by omega, HR2, (by first | rfl | trivial)⟩
                          case measure => simp [intOf]; omega
                      · have hlti2 : ¬ (j : Int) < s.size := by omega
                        have f0 : decide ((j : Int) < (s.size : Int)) = false := decide_eq_false hlti2
                        have HE2 : Hid (j + skipS false (s.data.toList.drop j) = F) := by have := HR.out; rw [List.drop_of_length_le (by rw [str_len]; omega)] at this ⊢; exact this
                        clear HR
                        go_wp2_with fail
                        go_roundw
                        case rel => exact ⟨j, rfl, hj, HE2, (by first | rfl | trivial)⟩
                        case measure => simp [intOf]; omega
                  · have q : ((d.toNat : Int) == 45) = false := byte_ne d 45 (by decide) d45
                    have q2 : ((d.toNat : Int) != 45) = true := by rw [bne, q]; rfl
                    obtain rfl : k = F := by have := HE.out; rw [hd, skipS, if_neg (by decide), hd3, if_neg (by simp [d45])] at this; omega
                    clear hd3
                    clear HE hd
                    go_wp2_with fail
                    go_ret
                    exact ⟨rfl, rfl⟩
                · have hge3 : (s.size : Int) ≤ (k : Int) + 1 := by omega
                  obtain rfl : k = F := by have := HE.out; rw [hd, skipS, if_neg (by decide), List.drop_of_length_le (by rw [str_len]; omega), if_neg (by decide)] at this; omega
                  clear HE hd
                  go_wp2_with fail
                  go_ret
                  exact ⟨rfl, rfl⟩
              · have hb : blankB c = false := by unfold blankB; simp [h32, h9, h10, h13]
                obtain rfl : k = F := by have := HE.out; rw [hd, skipS, if_neg (by rw [hb]; decide), if_neg (by simp [h45])] at this; omega
                have p32 : ((c.toNat : Int) == 32) = false := byte_ne c 32 (by decide) h32
                have p9 : ((c.toNat : Int) == 9) = false := byte_ne c 9 (by decide) h9
                have p10 : ((c.toNat : Int) == 10) = false := byte_ne c 10 (by decide) h10
                have p13 : ((c.toNat : Int) == 13) = false := byte_ne c 13 (by decide) h13
                have p45 : ((c.toNat : Int) == 45) = false := byte_ne c 45 (by decide) h45
                have p45n : ((c.toNat : Int) != 45) = true := by rw [bne, p45]; rfl
                clear hb
                clear HE hd
                go_wp2_with fail
                go_ret
                exact ⟨rfl, rfl⟩
    · have hlti : ¬ (k : Int) < s.size := by omega
      obtain rfl : k = F := by have := HE.out; rw [List.drop_of_length_le (by rw [str_len]; omega)] at this; exact this
      clear HE
      go_wp2_with fail
      go_ret
      exact ⟨rfl, rfl⟩
end Go.Proofs.YtcmhnaanfkpheaaDoor
