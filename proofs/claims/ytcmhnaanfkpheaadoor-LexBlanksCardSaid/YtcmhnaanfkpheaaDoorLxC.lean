/- The contract of lex.sign. -/
import Derived.Test.YtcmhnaanfkpheaaDoorLxB
namespace Go.Proofs.YtcmhnaanfkpheaaDoor
set_option linter.unusedVariables false
open Go.ChangeShapes Go.WideShapes Go.ChangeAt Go.RowKit

theorem byte_ne (c : UInt8) (n : UInt8) (k : n.toNat < 256) (h : c ≠ n) : ((c.toNat : Int) == (n.toNat : Int)) = false := by
  rw [beq_eq_false_iff_ne]
  intro e
  exact h (UInt8.toNat_inj.1 (by omega))
theorem list_one {s : ByteArray} (h : 1 ≤ s.size) : ∃ c t, s.data.toList = c :: t ∧ s[0]? = some c := by
  match hs : s.data.toList with
  | [] => have := str_len s; rw [hs] at this; simp at this; omega
  | c :: t => exact ⟨c, t, rfl, by rw [getElem?_pos s 0 (by omega)]; have := drop_str (s := s) (k := 0) (by omega); rw [List.drop_zero, hs] at this; injection this with this; rw [this]⟩
set_option maxRecDepth 100000 in
set_option maxHeartbeats 8000000 in
theorem sign_c (s : ByteArray) (w : World) (h1 : 1 ≤ s.size) (hm : s.size ≤ 1048576) : Calls Tryd.prog 41 #[.string s] w fun e w' => e = .returned (.int .i64 (signB s.data.toList)) ∧ w = w' := by
  have hd0 := drop_str (s := s) (k := 0) (by omega)
  rw [List.drop_zero] at hd0
  rw [hd0]
  have g0 : (0 : Int) < s.size := by omega
  by_cases h2 : 1 < s.size
  · have g2 : (1 : Int) < s.size := by omega
    have hd1 := drop_str (s := s) (k := 1) h2
    rw [hd1]
    generalize s.data.toList.drop (1 + 1) = t
    generalize hd : s[1] = d
    generalize hc : s[0] = c
    clear hd0 hd1
    by_cases h124 : c = 124
    · subst h124
      by_cases d124 : d = 124
      · subst d124
        have e : signB ((124 : UInt8) :: (124 : UInt8) :: t) = 2 := by unfold signB; simp_all
        rw [e]
        clear e
        go_enter Tryd.func41, Tryd.ntmps41
        go_wp2_with fail
        go_ret
        exact ⟨rfl, rfl⟩
      · skip
        have q124 : ((d.toNat : Int) == 124) = false := byte_ne d 124 (by decide) d124
        have e : signB ((124 : UInt8) :: d :: t) = 0 := by unfold signB; simp_all
        rw [e]
        clear e
        go_enter Tryd.func41, Tryd.ntmps41
        go_wp2_with fail
        go_ret
        exact ⟨rfl, rfl⟩
    · skip
      by_cases h60 : c = 60
      · subst h60
        by_cases d62 : d = 62
        · subst d62
          have e : signB ((60 : UInt8) :: (62 : UInt8) :: t) = 2 := by unfold signB; simp_all
          rw [e]
          clear e
          go_enter Tryd.func41, Tryd.ntmps41
          go_wp2_with fail
          go_ret
          exact ⟨rfl, rfl⟩
        · skip
          by_cases d61 : d = 61
          · subst d61
            have e : signB ((60 : UInt8) :: (61 : UInt8) :: t) = 2 := by unfold signB; simp_all
            rw [e]
            clear e
            go_enter Tryd.func41, Tryd.ntmps41
            go_wp2_with fail
            go_ret
            exact ⟨rfl, rfl⟩
          · skip
            have q62 : ((d.toNat : Int) == 62) = false := byte_ne d 62 (by decide) d62
            have q61 : ((d.toNat : Int) == 61) = false := byte_ne d 61 (by decide) d61
            have e : signB ((60 : UInt8) :: d :: t) = 1 := by unfold signB; simp_all
            rw [e]
            clear e
            go_enter Tryd.func41, Tryd.ntmps41
            go_wp2_with fail
            go_ret
            exact ⟨rfl, rfl⟩
      · skip
        by_cases h62 : c = 62
        · subst h62
          by_cases d61 : d = 61
          · subst d61
            have e : signB ((62 : UInt8) :: (61 : UInt8) :: t) = 2 := by unfold signB; simp_all
            rw [e]
            clear e
            go_enter Tryd.func41, Tryd.ntmps41
            go_wp2_with fail
            go_ret
            exact ⟨rfl, rfl⟩
          · skip
            have q61 : ((d.toNat : Int) == 61) = false := byte_ne d 61 (by decide) d61
            have e : signB ((62 : UInt8) :: d :: t) = 1 := by unfold signB; simp_all
            rw [e]
            clear e
            go_enter Tryd.func41, Tryd.ntmps41
            go_wp2_with fail
            go_ret
            exact ⟨rfl, rfl⟩
        · skip
          by_cases h40 : c = 40
          · subst h40
            have e : signB ((40 : UInt8) :: d :: t) = 1 := by unfold signB; simp_all
            rw [e]
            clear e
            go_enter Tryd.func41, Tryd.ntmps41
            go_wp2_with fail
            go_ret
            exact ⟨rfl, rfl⟩
          · skip
            by_cases h41 : c = 41
            · subst h41
              have e : signB ((41 : UInt8) :: d :: t) = 1 := by unfold signB; simp_all
              rw [e]
              clear e
              go_enter Tryd.func41, Tryd.ntmps41
              go_wp2_with fail
              go_ret
              exact ⟨rfl, rfl⟩
            · skip
              by_cases h44 : c = 44
              · subst h44
                have e : signB ((44 : UInt8) :: d :: t) = 1 := by unfold signB; simp_all
                rw [e]
                clear e
                go_enter Tryd.func41, Tryd.ntmps41
                go_wp2_with fail
                go_ret
                exact ⟨rfl, rfl⟩
              · skip
                by_cases h46 : c = 46
                · subst h46
                  have e : signB ((46 : UInt8) :: d :: t) = 1 := by unfold signB; simp_all
                  rw [e]
                  clear e
                  go_enter Tryd.func41, Tryd.ntmps41
                  go_wp2_with fail
                  go_ret
                  exact ⟨rfl, rfl⟩
                · skip
                  by_cases h59 : c = 59
                  · subst h59
                    have e : signB ((59 : UInt8) :: d :: t) = 1 := by unfold signB; simp_all
                    rw [e]
                    clear e
                    go_enter Tryd.func41, Tryd.ntmps41
                    go_wp2_with fail
                    go_ret
                    exact ⟨rfl, rfl⟩
                  · skip
                    by_cases h43 : c = 43
                    · subst h43
                      have e : signB ((43 : UInt8) :: d :: t) = 1 := by unfold signB; simp_all
                      rw [e]
                      clear e
                      go_enter Tryd.func41, Tryd.ntmps41
                      go_wp2_with fail
                      go_ret
                      exact ⟨rfl, rfl⟩
                    · skip
                      by_cases h45 : c = 45
                      · subst h45
                        have e : signB ((45 : UInt8) :: d :: t) = 1 := by unfold signB; simp_all
                        rw [e]
                        clear e
                        go_enter Tryd.func41, Tryd.ntmps41
                        go_wp2_with fail
                        go_ret
                        exact ⟨rfl, rfl⟩
                      · skip
                        by_cases h42 : c = 42
                        · subst h42
                          have e : signB ((42 : UInt8) :: d :: t) = 1 := by unfold signB; simp_all
                          rw [e]
                          clear e
                          go_enter Tryd.func41, Tryd.ntmps41
                          go_wp2_with fail
                          go_ret
                          exact ⟨rfl, rfl⟩
                        · skip
                          by_cases h47 : c = 47
                          · subst h47
                            have e : signB ((47 : UInt8) :: d :: t) = 1 := by unfold signB; simp_all
                            rw [e]
                            clear e
                            go_enter Tryd.func41, Tryd.ntmps41
                            go_wp2_with fail
                            go_ret
                            exact ⟨rfl, rfl⟩
                          · skip
                            by_cases h37 : c = 37
                            · subst h37
                              have e : signB ((37 : UInt8) :: d :: t) = 1 := by unfold signB; simp_all
                              rw [e]
                              clear e
                              go_enter Tryd.func41, Tryd.ntmps41
                              go_wp2_with fail
                              go_ret
                              exact ⟨rfl, rfl⟩
                            · skip
                              by_cases h61 : c = 61
                              · subst h61
                                have e : signB ((61 : UInt8) :: d :: t) = 1 := by unfold signB; simp_all
                                rw [e]
                                clear e
                                go_enter Tryd.func41, Tryd.ntmps41
                                go_wp2_with fail
                                go_ret
                                exact ⟨rfl, rfl⟩
                              · skip
                                have p124 : ((c.toNat : Int) == 124) = false := byte_ne c 124 (by decide) h124
                                have p60 : ((c.toNat : Int) == 60) = false := byte_ne c 60 (by decide) h60
                                have p62 : ((c.toNat : Int) == 62) = false := byte_ne c 62 (by decide) h62
                                have p40 : ((c.toNat : Int) == 40) = false := byte_ne c 40 (by decide) h40
                                have p41 : ((c.toNat : Int) == 41) = false := byte_ne c 41 (by decide) h41
                                have p44 : ((c.toNat : Int) == 44) = false := byte_ne c 44 (by decide) h44
                                have p46 : ((c.toNat : Int) == 46) = false := byte_ne c 46 (by decide) h46
                                have p59 : ((c.toNat : Int) == 59) = false := byte_ne c 59 (by decide) h59
                                have p43 : ((c.toNat : Int) == 43) = false := byte_ne c 43 (by decide) h43
                                have p45 : ((c.toNat : Int) == 45) = false := byte_ne c 45 (by decide) h45
                                have p42 : ((c.toNat : Int) == 42) = false := byte_ne c 42 (by decide) h42
                                have p47 : ((c.toNat : Int) == 47) = false := byte_ne c 47 (by decide) h47
                                have p37 : ((c.toNat : Int) == 37) = false := byte_ne c 37 (by decide) h37
                                have p61 : ((c.toNat : Int) == 61) = false := byte_ne c 61 (by decide) h61
                                have e : signB (c :: d :: t) = 0 := by unfold signB; simp_all
                                rw [e]
                                clear e
                                go_enter Tryd.func41, Tryd.ntmps41
                                go_wp2_with fail
                                go_ret
                                exact ⟨rfl, rfl⟩
  · have g2 : ¬ (1 : Int) < s.size := by omega
    rw [List.drop_of_length_le (by rw [str_len]; omega)]
    generalize hc : s[0] = c
    clear hd0
    by_cases h124 : c = 124
    · subst h124
      have e : signB ([(124 : UInt8)]) = 0 := by unfold signB; simp_all
      rw [e]
      clear e
      go_enter Tryd.func41, Tryd.ntmps41
      go_wp2_with fail
      go_ret
      exact ⟨rfl, rfl⟩
    · skip
      by_cases h60 : c = 60
      · subst h60
        have e : signB ([(60 : UInt8)]) = 1 := by unfold signB; simp_all
        rw [e]
        clear e
        go_enter Tryd.func41, Tryd.ntmps41
        go_wp2_with fail
        go_ret
        exact ⟨rfl, rfl⟩
      · skip
        by_cases h62 : c = 62
        · subst h62
          have e : signB ([(62 : UInt8)]) = 1 := by unfold signB; simp_all
          rw [e]
          clear e
          go_enter Tryd.func41, Tryd.ntmps41
          go_wp2_with fail
          go_ret
          exact ⟨rfl, rfl⟩
        · skip
          by_cases h40 : c = 40
          · subst h40
            have e : signB ([(40 : UInt8)]) = 1 := by unfold signB; simp_all
            rw [e]
            clear e
            go_enter Tryd.func41, Tryd.ntmps41
            go_wp2_with fail
            go_ret
            exact ⟨rfl, rfl⟩
          · skip
            by_cases h41 : c = 41
            · subst h41
              have e : signB ([(41 : UInt8)]) = 1 := by unfold signB; simp_all
              rw [e]
              clear e
              go_enter Tryd.func41, Tryd.ntmps41
              go_wp2_with fail
              go_ret
              exact ⟨rfl, rfl⟩
            · skip
              by_cases h44 : c = 44
              · subst h44
                have e : signB ([(44 : UInt8)]) = 1 := by unfold signB; simp_all
                rw [e]
                clear e
                go_enter Tryd.func41, Tryd.ntmps41
                go_wp2_with fail
                go_ret
                exact ⟨rfl, rfl⟩
              · skip
                by_cases h46 : c = 46
                · subst h46
                  have e : signB ([(46 : UInt8)]) = 1 := by unfold signB; simp_all
                  rw [e]
                  clear e
                  go_enter Tryd.func41, Tryd.ntmps41
                  go_wp2_with fail
                  go_ret
                  exact ⟨rfl, rfl⟩
                · skip
                  by_cases h59 : c = 59
                  · subst h59
                    have e : signB ([(59 : UInt8)]) = 1 := by unfold signB; simp_all
                    rw [e]
                    clear e
                    go_enter Tryd.func41, Tryd.ntmps41
                    go_wp2_with fail
                    go_ret
                    exact ⟨rfl, rfl⟩
                  · skip
                    by_cases h43 : c = 43
                    · subst h43
                      have e : signB ([(43 : UInt8)]) = 1 := by unfold signB; simp_all
                      rw [e]
                      clear e
                      go_enter Tryd.func41, Tryd.ntmps41
                      go_wp2_with fail
                      go_ret
                      exact ⟨rfl, rfl⟩
                    · skip
                      by_cases h45 : c = 45
                      · subst h45
                        have e : signB ([(45 : UInt8)]) = 1 := by unfold signB; simp_all
                        rw [e]
                        clear e
                        go_enter Tryd.func41, Tryd.ntmps41
                        go_wp2_with fail
                        go_ret
                        exact ⟨rfl, rfl⟩
                      · skip
                        by_cases h42 : c = 42
                        · subst h42
                          have e : signB ([(42 : UInt8)]) = 1 := by unfold signB; simp_all
                          rw [e]
                          clear e
                          go_enter Tryd.func41, Tryd.ntmps41
                          go_wp2_with fail
                          go_ret
                          exact ⟨rfl, rfl⟩
                        · skip
                          by_cases h47 : c = 47
                          · subst h47
                            have e : signB ([(47 : UInt8)]) = 1 := by unfold signB; simp_all
                            rw [e]
                            clear e
                            go_enter Tryd.func41, Tryd.ntmps41
                            go_wp2_with fail
                            go_ret
                            exact ⟨rfl, rfl⟩
                          · skip
                            by_cases h37 : c = 37
                            · subst h37
                              have e : signB ([(37 : UInt8)]) = 1 := by unfold signB; simp_all
                              rw [e]
                              clear e
                              go_enter Tryd.func41, Tryd.ntmps41
                              go_wp2_with fail
                              go_ret
                              exact ⟨rfl, rfl⟩
                            · skip
                              by_cases h61 : c = 61
                              · subst h61
                                have e : signB ([(61 : UInt8)]) = 1 := by unfold signB; simp_all
                                rw [e]
                                clear e
                                go_enter Tryd.func41, Tryd.ntmps41
                                go_wp2_with fail
                                go_ret
                                exact ⟨rfl, rfl⟩
                              · skip
                                have p124 : ((c.toNat : Int) == 124) = false := byte_ne c 124 (by decide) h124
                                have p60 : ((c.toNat : Int) == 60) = false := byte_ne c 60 (by decide) h60
                                have p62 : ((c.toNat : Int) == 62) = false := byte_ne c 62 (by decide) h62
                                have p40 : ((c.toNat : Int) == 40) = false := byte_ne c 40 (by decide) h40
                                have p41 : ((c.toNat : Int) == 41) = false := byte_ne c 41 (by decide) h41
                                have p44 : ((c.toNat : Int) == 44) = false := byte_ne c 44 (by decide) h44
                                have p46 : ((c.toNat : Int) == 46) = false := byte_ne c 46 (by decide) h46
                                have p59 : ((c.toNat : Int) == 59) = false := byte_ne c 59 (by decide) h59
                                have p43 : ((c.toNat : Int) == 43) = false := byte_ne c 43 (by decide) h43
                                have p45 : ((c.toNat : Int) == 45) = false := byte_ne c 45 (by decide) h45
                                have p42 : ((c.toNat : Int) == 42) = false := byte_ne c 42 (by decide) h42
                                have p47 : ((c.toNat : Int) == 47) = false := byte_ne c 47 (by decide) h47
                                have p37 : ((c.toNat : Int) == 37) = false := byte_ne c 37 (by decide) h37
                                have p61 : ((c.toNat : Int) == 61) = false := byte_ne c 61 (by decide) h61
                                have e : signB ([c]) = 0 := by unfold signB; simp_all
                                rw [e]
                                clear e
                                go_enter Tryd.func41, Tryd.ntmps41
                                go_wp2_with fail
                                go_ret
                                exact ⟨rfl, rfl⟩
end Go.Proofs.YtcmhnaanfkpheaaDoor
