/- The contract of lex.Reserved. -/
import Derived.Test.YtcmhnaanfkpheaaDoorLxD
namespace Go.Proofs.YtcmhnaanfkpheaaDoor
set_option linter.unusedVariables false
open Go.ChangeShapes Go.WideShapes Go.ChangeAt Go.RowKit

def wordsE : List (List UInt8) := [[97, 108, 108], [97, 110, 97, 108, 121, 122, 101], [97, 110, 100], [97, 115], [97, 115, 99], [98, 101, 103, 105, 110], [98, 101, 116, 119, 101, 101, 110], [98, 111, 111, 108], [98, 121], [99, 97, 115, 101], [99, 104, 101, 99, 107], [99, 104, 101, 99, 107, 112, 111, 105, 110, 116], [99, 111, 109, 109, 105, 116], [99, 114, 101, 97, 116, 101], [99, 114, 111, 115, 115], [100, 101, 108, 101, 116, 101], [100, 101, 115, 99], [100, 105, 115, 116, 105, 110, 99, 116], [100, 114, 111, 112], [101, 108, 115, 101], [101, 110, 100], [101, 120, 99, 101, 112, 116], [101, 120, 105, 115, 116, 115], [101, 120, 112, 108, 97, 105, 110], [102, 97, 108, 115, 101], [102, 111, 114, 101, 105, 103, 110], [102, 114, 111, 109], [103, 114, 111, 117, 112], [104, 97, 118, 105, 110, 103], [105, 110], [105, 110, 100, 101, 120], [105, 110, 110, 101, 114], [105, 110, 115, 101, 114, 116], [105, 110, 116], [105, 110, 116, 101, 114, 115, 101, 99, 116], [105, 110, 116, 111], [105, 115], [106, 111, 105, 110], [107, 101, 121], [108, 101, 102, 116], [108, 105, 107, 101], [108, 105, 109, 105, 116], [110, 111, 116], [110, 117, 108, 108], [111, 102, 102, 115, 101, 116], [111, 110], [111, 114], [111, 114, 100, 101, 114], [112, 114, 105, 109, 97, 114, 121], [114, 101, 102, 101, 114, 101, 110, 99, 101, 115], [114, 111, 108, 108, 98, 97, 99, 107], [115, 101, 108, 101, 99, 116], [115, 101, 116], [116, 97, 98, 108, 101], [116, 101, 120, 116], [116, 104, 101, 110], [116, 114, 117, 101], [117, 110, 105, 111, 110], [117, 110, 105, 113, 117, 101], [117, 112, 100, 97, 116, 101], [118, 97, 99, 117, 117, 109], [118, 97, 108, 117, 101, 115], [119, 104, 101, 110], [119, 104, 101, 114, 101]]
theorem words_e : wordsL = wordsE := by decide +kernel
theorem res_yes {s : ByteArray} {x : List UInt8} (h : x ∈ wordsE) (e : (s.toList == x) = true) : resB s.data.toList = true := by
  rw [ByteArray.toList_eq, beq_iff_eq] at e
  rw [e]
  exact resB_mem.2 (by rw [words_e]; exact h)
theorem res_no {s : ByteArray} (h : (wordsE.all fun x => !(s.toList == x)) = true) : resB s.data.toList = false := by
  rw [ByteArray.toList_eq] at h
  cases hr : resB s.data.toList with
  | false => rfl
  | true =>
    have hm := resB_mem.1 hr
    rw [words_e] at hm
    have := List.all_eq_true.1 h s.data.toList hm
    simp at this
set_option maxRecDepth 100000 in
set_option maxHeartbeats 16000000 in
theorem reserved_c (s : ByteArray) (w : World) : Calls Tryd.prog 15 #[.string s] w fun e w' => e = .returned (.bool (resB s.data.toList)) ∧ w = w' := by
  obtain ⟨b0, f0⟩ : ∃ b, (s.toList == [97, 108, 108]) = b := ⟨_, rfl⟩
  obtain ⟨b1, f1⟩ : ∃ b, (s.toList == [97, 110, 97, 108, 121, 122, 101]) = b := ⟨_, rfl⟩
  obtain ⟨b2, f2⟩ : ∃ b, (s.toList == [97, 110, 100]) = b := ⟨_, rfl⟩
  obtain ⟨b3, f3⟩ : ∃ b, (s.toList == [97, 115]) = b := ⟨_, rfl⟩
  obtain ⟨b4, f4⟩ : ∃ b, (s.toList == [97, 115, 99]) = b := ⟨_, rfl⟩
  obtain ⟨b5, f5⟩ : ∃ b, (s.toList == [98, 101, 103, 105, 110]) = b := ⟨_, rfl⟩
  obtain ⟨b6, f6⟩ : ∃ b, (s.toList == [98, 101, 116, 119, 101, 101, 110]) = b := ⟨_, rfl⟩
  obtain ⟨b7, f7⟩ : ∃ b, (s.toList == [98, 111, 111, 108]) = b := ⟨_, rfl⟩
  obtain ⟨b8, f8⟩ : ∃ b, (s.toList == [98, 121]) = b := ⟨_, rfl⟩
  obtain ⟨b9, f9⟩ : ∃ b, (s.toList == [99, 97, 115, 101]) = b := ⟨_, rfl⟩
  obtain ⟨b10, f10⟩ : ∃ b, (s.toList == [99, 104, 101, 99, 107]) = b := ⟨_, rfl⟩
  obtain ⟨b11, f11⟩ : ∃ b, (s.toList == [99, 104, 101, 99, 107, 112, 111, 105, 110, 116]) = b := ⟨_, rfl⟩
  obtain ⟨b12, f12⟩ : ∃ b, (s.toList == [99, 111, 109, 109, 105, 116]) = b := ⟨_, rfl⟩
  obtain ⟨b13, f13⟩ : ∃ b, (s.toList == [99, 114, 101, 97, 116, 101]) = b := ⟨_, rfl⟩
  obtain ⟨b14, f14⟩ : ∃ b, (s.toList == [99, 114, 111, 115, 115]) = b := ⟨_, rfl⟩
  obtain ⟨b15, f15⟩ : ∃ b, (s.toList == [100, 101, 108, 101, 116, 101]) = b := ⟨_, rfl⟩
  obtain ⟨b16, f16⟩ : ∃ b, (s.toList == [100, 101, 115, 99]) = b := ⟨_, rfl⟩
  obtain ⟨b17, f17⟩ : ∃ b, (s.toList == [100, 105, 115, 116, 105, 110, 99, 116]) = b := ⟨_, rfl⟩
  obtain ⟨b18, f18⟩ : ∃ b, (s.toList == [100, 114, 111, 112]) = b := ⟨_, rfl⟩
  obtain ⟨b19, f19⟩ : ∃ b, (s.toList == [101, 108, 115, 101]) = b := ⟨_, rfl⟩
  obtain ⟨b20, f20⟩ : ∃ b, (s.toList == [101, 110, 100]) = b := ⟨_, rfl⟩
  obtain ⟨b21, f21⟩ : ∃ b, (s.toList == [101, 120, 99, 101, 112, 116]) = b := ⟨_, rfl⟩
  obtain ⟨b22, f22⟩ : ∃ b, (s.toList == [101, 120, 105, 115, 116, 115]) = b := ⟨_, rfl⟩
  obtain ⟨b23, f23⟩ : ∃ b, (s.toList == [101, 120, 112, 108, 97, 105, 110]) = b := ⟨_, rfl⟩
  obtain ⟨b24, f24⟩ : ∃ b, (s.toList == [102, 97, 108, 115, 101]) = b := ⟨_, rfl⟩
  obtain ⟨b25, f25⟩ : ∃ b, (s.toList == [102, 111, 114, 101, 105, 103, 110]) = b := ⟨_, rfl⟩
  obtain ⟨b26, f26⟩ : ∃ b, (s.toList == [102, 114, 111, 109]) = b := ⟨_, rfl⟩
  obtain ⟨b27, f27⟩ : ∃ b, (s.toList == [103, 114, 111, 117, 112]) = b := ⟨_, rfl⟩
  obtain ⟨b28, f28⟩ : ∃ b, (s.toList == [104, 97, 118, 105, 110, 103]) = b := ⟨_, rfl⟩
  obtain ⟨b29, f29⟩ : ∃ b, (s.toList == [105, 110]) = b := ⟨_, rfl⟩
  obtain ⟨b30, f30⟩ : ∃ b, (s.toList == [105, 110, 100, 101, 120]) = b := ⟨_, rfl⟩
  obtain ⟨b31, f31⟩ : ∃ b, (s.toList == [105, 110, 110, 101, 114]) = b := ⟨_, rfl⟩
  obtain ⟨b32, f32⟩ : ∃ b, (s.toList == [105, 110, 115, 101, 114, 116]) = b := ⟨_, rfl⟩
  obtain ⟨b33, f33⟩ : ∃ b, (s.toList == [105, 110, 116]) = b := ⟨_, rfl⟩
  obtain ⟨b34, f34⟩ : ∃ b, (s.toList == [105, 110, 116, 101, 114, 115, 101, 99, 116]) = b := ⟨_, rfl⟩
  obtain ⟨b35, f35⟩ : ∃ b, (s.toList == [105, 110, 116, 111]) = b := ⟨_, rfl⟩
  obtain ⟨b36, f36⟩ : ∃ b, (s.toList == [105, 115]) = b := ⟨_, rfl⟩
  obtain ⟨b37, f37⟩ : ∃ b, (s.toList == [106, 111, 105, 110]) = b := ⟨_, rfl⟩
  obtain ⟨b38, f38⟩ : ∃ b, (s.toList == [107, 101, 121]) = b := ⟨_, rfl⟩
  obtain ⟨b39, f39⟩ : ∃ b, (s.toList == [108, 101, 102, 116]) = b := ⟨_, rfl⟩
  obtain ⟨b40, f40⟩ : ∃ b, (s.toList == [108, 105, 107, 101]) = b := ⟨_, rfl⟩
  obtain ⟨b41, f41⟩ : ∃ b, (s.toList == [108, 105, 109, 105, 116]) = b := ⟨_, rfl⟩
  obtain ⟨b42, f42⟩ : ∃ b, (s.toList == [110, 111, 116]) = b := ⟨_, rfl⟩
  obtain ⟨b43, f43⟩ : ∃ b, (s.toList == [110, 117, 108, 108]) = b := ⟨_, rfl⟩
  obtain ⟨b44, f44⟩ : ∃ b, (s.toList == [111, 102, 102, 115, 101, 116]) = b := ⟨_, rfl⟩
  obtain ⟨b45, f45⟩ : ∃ b, (s.toList == [111, 110]) = b := ⟨_, rfl⟩
  obtain ⟨b46, f46⟩ : ∃ b, (s.toList == [111, 114]) = b := ⟨_, rfl⟩
  obtain ⟨b47, f47⟩ : ∃ b, (s.toList == [111, 114, 100, 101, 114]) = b := ⟨_, rfl⟩
  obtain ⟨b48, f48⟩ : ∃ b, (s.toList == [112, 114, 105, 109, 97, 114, 121]) = b := ⟨_, rfl⟩
  obtain ⟨b49, f49⟩ : ∃ b, (s.toList == [114, 101, 102, 101, 114, 101, 110, 99, 101, 115]) = b := ⟨_, rfl⟩
  obtain ⟨b50, f50⟩ : ∃ b, (s.toList == [114, 111, 108, 108, 98, 97, 99, 107]) = b := ⟨_, rfl⟩
  obtain ⟨b51, f51⟩ : ∃ b, (s.toList == [115, 101, 108, 101, 99, 116]) = b := ⟨_, rfl⟩
  obtain ⟨b52, f52⟩ : ∃ b, (s.toList == [115, 101, 116]) = b := ⟨_, rfl⟩
  obtain ⟨b53, f53⟩ : ∃ b, (s.toList == [116, 97, 98, 108, 101]) = b := ⟨_, rfl⟩
  obtain ⟨b54, f54⟩ : ∃ b, (s.toList == [116, 101, 120, 116]) = b := ⟨_, rfl⟩
  obtain ⟨b55, f55⟩ : ∃ b, (s.toList == [116, 104, 101, 110]) = b := ⟨_, rfl⟩
  obtain ⟨b56, f56⟩ : ∃ b, (s.toList == [116, 114, 117, 101]) = b := ⟨_, rfl⟩
  obtain ⟨b57, f57⟩ : ∃ b, (s.toList == [117, 110, 105, 111, 110]) = b := ⟨_, rfl⟩
  obtain ⟨b58, f58⟩ : ∃ b, (s.toList == [117, 110, 105, 113, 117, 101]) = b := ⟨_, rfl⟩
  obtain ⟨b59, f59⟩ : ∃ b, (s.toList == [117, 112, 100, 97, 116, 101]) = b := ⟨_, rfl⟩
  obtain ⟨b60, f60⟩ : ∃ b, (s.toList == [118, 97, 99, 117, 117, 109]) = b := ⟨_, rfl⟩
  obtain ⟨b61, f61⟩ : ∃ b, (s.toList == [118, 97, 108, 117, 101, 115]) = b := ⟨_, rfl⟩
  obtain ⟨b62, f62⟩ : ∃ b, (s.toList == [119, 104, 101, 110]) = b := ⟨_, rfl⟩
  obtain ⟨b63, f63⟩ : ∃ b, (s.toList == [119, 104, 101, 114, 101]) = b := ⟨_, rfl⟩
  obtain ⟨q, hq⟩ : ∃ q, resB s.data.toList = q := ⟨_, rfl⟩
  rw [hq]
  have HQ := hide hq
  clear hq
  go_enter Tryd.func15, Tryd.ntmps15
  go_upto_region 2 with (fail)
  cases b0 with
  | true =>
    have r := res_yes (List.mem_of_getElem? (l := wordsE) (i := 0) rfl) f0
    obtain rfl : q = true := by rw [← HQ.out]; exact r
    clear r HQ
    go_wp2_with fail
    go_ret
    exact ⟨rfl, rfl⟩
  | false =>
    go_upto_region 3 with (fail)
    cases b1 with
    | true =>
      have r := res_yes (List.mem_of_getElem? (l := wordsE) (i := 1) rfl) f1
      obtain rfl : q = true := by rw [← HQ.out]; exact r
      clear r HQ
      go_wp2_with fail
      go_ret
      exact ⟨rfl, rfl⟩
    | false =>
      go_upto_region 4 with (fail)
      cases b2 with
      | true =>
        have r := res_yes (List.mem_of_getElem? (l := wordsE) (i := 2) rfl) f2
        obtain rfl : q = true := by rw [← HQ.out]; exact r
        clear r HQ
        go_wp2_with fail
        go_ret
        exact ⟨rfl, rfl⟩
      | false =>
        go_upto_region 5 with (fail)
        cases b3 with
        | true =>
          have r := res_yes (List.mem_of_getElem? (l := wordsE) (i := 3) rfl) f3
          obtain rfl : q = true := by rw [← HQ.out]; exact r
          clear r HQ
          go_wp2_with fail
          go_ret
          exact ⟨rfl, rfl⟩
        | false =>
          go_upto_region 6 with (fail)
          cases b4 with
          | true =>
            have r := res_yes (List.mem_of_getElem? (l := wordsE) (i := 4) rfl) f4
            obtain rfl : q = true := by rw [← HQ.out]; exact r
            clear r HQ
            go_wp2_with fail
            go_ret
            exact ⟨rfl, rfl⟩
          | false =>
            go_upto_region 7 with (fail)
            cases b5 with
            | true =>
              have r := res_yes (List.mem_of_getElem? (l := wordsE) (i := 5) rfl) f5
              obtain rfl : q = true := by rw [← HQ.out]; exact r
              clear r HQ
              go_wp2_with fail
              go_ret
              exact ⟨rfl, rfl⟩
            | false =>
              go_upto_region 8 with (fail)
              cases b6 with
              | true =>
                have r := res_yes (List.mem_of_getElem? (l := wordsE) (i := 6) rfl) f6
                obtain rfl : q = true := by rw [← HQ.out]; exact r
                clear r HQ
                go_wp2_with fail
                go_ret
                exact ⟨rfl, rfl⟩
              | false =>
                go_upto_region 9 with (fail)
                cases b7 with
                | true =>
                  have r := res_yes (List.mem_of_getElem? (l := wordsE) (i := 7) rfl) f7
                  obtain rfl : q = true := by rw [← HQ.out]; exact r
                  clear r HQ
                  go_wp2_with fail
                  go_ret
                  exact ⟨rfl, rfl⟩
                | false =>
                  go_upto_region 10 with (fail)
                  cases b8 with
                  | true =>
                    have r := res_yes (List.mem_of_getElem? (l := wordsE) (i := 8) rfl) f8
                    obtain rfl : q = true := by rw [← HQ.out]; exact r
                    clear r HQ
                    go_wp2_with fail
                    go_ret
                    exact ⟨rfl, rfl⟩
                  | false =>
                    go_upto_region 11 with (fail)
                    cases b9 with
                    | true =>
                      have r := res_yes (List.mem_of_getElem? (l := wordsE) (i := 9) rfl) f9
                      obtain rfl : q = true := by rw [← HQ.out]; exact r
                      clear r HQ
                      go_wp2_with fail
                      go_ret
                      exact ⟨rfl, rfl⟩
                    | false =>
                      go_upto_region 12 with (fail)
                      cases b10 with
                      | true =>
                        have r := res_yes (List.mem_of_getElem? (l := wordsE) (i := 10) rfl) f10
                        obtain rfl : q = true := by rw [← HQ.out]; exact r
                        clear r HQ
                        go_wp2_with fail
                        go_ret
                        exact ⟨rfl, rfl⟩
                      | false =>
                        go_upto_region 13 with (fail)
                        cases b11 with
                        | true =>
                          have r := res_yes (List.mem_of_getElem? (l := wordsE) (i := 11) rfl) f11
                          obtain rfl : q = true := by rw [← HQ.out]; exact r
                          clear r HQ
                          go_wp2_with fail
                          go_ret
                          exact ⟨rfl, rfl⟩
                        | false =>
                          go_upto_region 14 with (fail)
                          cases b12 with
                          | true =>
                            have r := res_yes (List.mem_of_getElem? (l := wordsE) (i := 12) rfl) f12
                            obtain rfl : q = true := by rw [← HQ.out]; exact r
                            clear r HQ
                            go_wp2_with fail
                            go_ret
                            exact ⟨rfl, rfl⟩
                          | false =>
                            go_upto_region 15 with (fail)
                            cases b13 with
                            | true =>
                              have r := res_yes (List.mem_of_getElem? (l := wordsE) (i := 13) rfl) f13
                              obtain rfl : q = true := by rw [← HQ.out]; exact r
                              clear r HQ
                              go_wp2_with fail
                              go_ret
                              exact ⟨rfl, rfl⟩
                            | false =>
                              go_upto_region 16 with (fail)
                              cases b14 with
                              | true =>
                                have r := res_yes (List.mem_of_getElem? (l := wordsE) (i := 14) rfl) f14
                                obtain rfl : q = true := by rw [← HQ.out]; exact r
                                clear r HQ
                                go_wp2_with fail
                                go_ret
                                exact ⟨rfl, rfl⟩
                              | false =>
                                go_upto_region 17 with (fail)
                                cases b15 with
                                | true =>
                                  have r := res_yes (List.mem_of_getElem? (l := wordsE) (i := 15) rfl) f15
                                  obtain rfl : q = true := by rw [← HQ.out]; exact r
                                  clear r HQ
                                  go_wp2_with fail
                                  go_ret
                                  exact ⟨rfl, rfl⟩
                                | false =>
                                  go_upto_region 18 with (fail)
                                  cases b16 with
                                  | true =>
                                    have r := res_yes (List.mem_of_getElem? (l := wordsE) (i := 16) rfl) f16
                                    obtain rfl : q = true := by rw [← HQ.out]; exact r
                                    clear r HQ
                                    go_wp2_with fail
                                    go_ret
                                    exact ⟨rfl, rfl⟩
                                  | false =>
                                    go_upto_region 19 with (fail)
                                    cases b17 with
                                    | true =>
                                      have r := res_yes (List.mem_of_getElem? (l := wordsE) (i := 17) rfl) f17
                                      obtain rfl : q = true := by rw [← HQ.out]; exact r
                                      clear r HQ
                                      go_wp2_with fail
                                      go_ret
                                      exact ⟨rfl, rfl⟩
                                    | false =>
                                      go_upto_region 20 with (fail)
                                      cases b18 with
                                      | true =>
                                        have r := res_yes (List.mem_of_getElem? (l := wordsE) (i := 18) rfl) f18
                                        obtain rfl : q = true := by rw [← HQ.out]; exact r
                                        clear r HQ
                                        go_wp2_with fail
                                        go_ret
                                        exact ⟨rfl, rfl⟩
                                      | false =>
                                        go_upto_region 21 with (fail)
                                        cases b19 with
                                        | true =>
                                          have r := res_yes (List.mem_of_getElem? (l := wordsE) (i := 19) rfl) f19
                                          obtain rfl : q = true := by rw [← HQ.out]; exact r
                                          clear r HQ
                                          go_wp2_with fail
                                          go_ret
                                          exact ⟨rfl, rfl⟩
                                        | false =>
                                          go_upto_region 22 with (fail)
                                          cases b20 with
                                          | true =>
                                            have r := res_yes (List.mem_of_getElem? (l := wordsE) (i := 20) rfl) f20
                                            obtain rfl : q = true := by rw [← HQ.out]; exact r
                                            clear r HQ
                                            go_wp2_with fail
                                            go_ret
                                            exact ⟨rfl, rfl⟩
                                          | false =>
                                            go_upto_region 23 with (fail)
                                            cases b21 with
                                            | true =>
                                              have r := res_yes (List.mem_of_getElem? (l := wordsE) (i := 21) rfl) f21
                                              obtain rfl : q = true := by rw [← HQ.out]; exact r
                                              clear r HQ
                                              go_wp2_with fail
                                              go_ret
                                              exact ⟨rfl, rfl⟩
                                            | false =>
                                              go_upto_region 24 with (fail)
                                              cases b22 with
                                              | true =>
                                                have r := res_yes (List.mem_of_getElem? (l := wordsE) (i := 22) rfl) f22
                                                obtain rfl : q = true := by rw [← HQ.out]; exact r
                                                clear r HQ
                                                go_wp2_with fail
                                                go_ret
                                                exact ⟨rfl, rfl⟩
                                              | false =>
                                                go_upto_region 25 with (fail)
                                                cases b23 with
                                                | true =>
                                                  have r := res_yes (List.mem_of_getElem? (l := wordsE) (i := 23) rfl) f23
                                                  obtain rfl : q = true := by rw [← HQ.out]; exact r
                                                  clear r HQ
                                                  go_wp2_with fail
                                                  go_ret
                                                  exact ⟨rfl, rfl⟩
                                                | false =>
                                                  go_upto_region 26 with (fail)
                                                  cases b24 with
                                                  | true =>
                                                    have r := res_yes (List.mem_of_getElem? (l := wordsE) (i := 24) rfl) f24
                                                    obtain rfl : q = true := by rw [← HQ.out]; exact r
                                                    clear r HQ
                                                    go_wp2_with fail
                                                    go_ret
                                                    exact ⟨rfl, rfl⟩
                                                  | false =>
                                                    go_upto_region 27 with (fail)
                                                    cases b25 with
                                                    | true =>
                                                      have r := res_yes (List.mem_of_getElem? (l := wordsE) (i := 25) rfl) f25
                                                      obtain rfl : q = true := by rw [← HQ.out]; exact r
                                                      clear r HQ
                                                      go_wp2_with fail
                                                      go_ret
                                                      exact ⟨rfl, rfl⟩
                                                    | false =>
                                                      go_upto_region 28 with (fail)
                                                      cases b26 with
                                                      | true =>
                                                        have r := res_yes (List.mem_of_getElem? (l := wordsE) (i := 26) rfl) f26
                                                        obtain rfl : q = true := by rw [← HQ.out]; exact r
                                                        clear r HQ
                                                        go_wp2_with fail
                                                        go_ret
                                                        exact ⟨rfl, rfl⟩
                                                      | false =>
                                                        go_upto_region 29 with (fail)
                                                        cases b27 with
                                                        | true =>
                                                          have r := res_yes (List.mem_of_getElem? (l := wordsE) (i := 27) rfl) f27
                                                          obtain rfl : q = true := by rw [← HQ.out]; exact r
                                                          clear r HQ
                                                          go_wp2_with fail
                                                          go_ret
                                                          exact ⟨rfl, rfl⟩
                                                        | false =>
                                                          go_upto_region 30 with (fail)
                                                          cases b28 with
                                                          | true =>
                                                            have r := res_yes (List.mem_of_getElem? (l := wordsE) (i := 28) rfl) f28
                                                            obtain rfl : q = true := by rw [← HQ.out]; exact r
                                                            clear r HQ
                                                            go_wp2_with fail
                                                            go_ret
                                                            exact ⟨rfl, rfl⟩
                                                          | false =>
                                                            go_upto_region 31 with (fail)
                                                            cases b29 with
                                                            | true =>
                                                              have r := res_yes (List.mem_of_getElem? (l := wordsE) (i := 29) rfl) f29
                                                              obtain rfl : q = true := by rw [← HQ.out]; exact r
                                                              clear r HQ
                                                              go_wp2_with fail
                                                              go_ret
                                                              exact ⟨rfl, rfl⟩
                                                            | false =>
                                                              go_upto_region 32 with (fail)
                                                              cases b30 with
                                                              | true =>
                                                                have r := res_yes (List.mem_of_getElem? (l := wordsE) (i := 30) rfl) f30
                                                                obtain rfl : q = true := by rw [← HQ.out]; exact r
                                                                clear r HQ
                                                                go_wp2_with fail
                                                                go_ret
                                                                exact ⟨rfl, rfl⟩
                                                              | false =>
                                                                go_upto_region 33 with (fail)
                                                                cases b31 with
                                                                | true =>
                                                                  have r := res_yes (List.mem_of_getElem? (l := wordsE) (i := 31) rfl) f31
                                                                  obtain rfl : q = true := by rw [← HQ.out]; exact r
                                                                  clear r HQ
                                                                  go_wp2_with fail
                                                                  go_ret
                                                                  exact ⟨rfl, rfl⟩
                                                                | false =>
                                                                  go_upto_region 34 with (fail)
                                                                  cases b32 with
                                                                  | true =>
                                                                    have r := res_yes (List.mem_of_getElem? (l := wordsE) (i := 32) rfl) f32
                                                                    obtain rfl : q = true := by rw [← HQ.out]; exact r
                                                                    clear r HQ
                                                                    go_wp2_with fail
                                                                    go_ret
                                                                    exact ⟨rfl, rfl⟩
                                                                  | false =>
                                                                    go_upto_region 35 with (fail)
                                                                    cases b33 with
                                                                    | true =>
                                                                      have r := res_yes (List.mem_of_getElem? (l := wordsE) (i := 33) rfl) f33
                                                                      obtain rfl : q = true := by rw [← HQ.out]; exact r
                                                                      clear r HQ
                                                                      go_wp2_with fail
                                                                      go_ret
                                                                      exact ⟨rfl, rfl⟩
                                                                    | false =>
                                                                      go_upto_region 36 with (fail)
                                                                      cases b34 with
                                                                      | true =>
                                                                        have r := res_yes (List.mem_of_getElem? (l := wordsE) (i := 34) rfl) f34
                                                                        obtain rfl : q = true := by rw [← HQ.out]; exact r
                                                                        clear r HQ
                                                                        go_wp2_with fail
                                                                        go_ret
                                                                        exact ⟨rfl, rfl⟩
                                                                      | false =>
                                                                        go_upto_region 37 with (fail)
                                                                        cases b35 with
                                                                        | true =>
                                                                          have r := res_yes (List.mem_of_getElem? (l := wordsE) (i := 35) rfl) f35
                                                                          obtain rfl : q = true := by rw [← HQ.out]; exact r
                                                                          clear r HQ
                                                                          go_wp2_with fail
                                                                          go_ret
                                                                          exact ⟨rfl, rfl⟩
                                                                        | false =>
                                                                          go_upto_region 38 with (fail)
                                                                          cases b36 with
                                                                          | true =>
                                                                            have r := res_yes (List.mem_of_getElem? (l := wordsE) (i := 36) rfl) f36
                                                                            obtain rfl : q = true := by rw [← HQ.out]; exact r
                                                                            clear r HQ
                                                                            go_wp2_with fail
                                                                            go_ret
                                                                            exact ⟨rfl, rfl⟩
                                                                          | false =>
                                                                            go_upto_region 39 with (fail)
                                                                            cases b37 with
                                                                            | true =>
                                                                              have r := res_yes (List.mem_of_getElem? (l := wordsE) (i := 37) rfl) f37
                                                                              obtain rfl : q = true := by rw [← HQ.out]; exact r
                                                                              clear r HQ
                                                                              go_wp2_with fail
                                                                              go_ret
                                                                              exact ⟨rfl, rfl⟩
                                                                            | false =>
                                                                              go_upto_region 40 with (fail)
                                                                              cases b38 with
                                                                              | true =>
                                                                                have r := res_yes (List.mem_of_getElem? (l := wordsE) (i := 38) rfl) f38
                                                                                obtain rfl : q = true := by rw [← HQ.out]; exact r
                                                                                clear r HQ
                                                                                go_wp2_with fail
                                                                                go_ret
                                                                                exact ⟨rfl, rfl⟩
                                                                              | false =>
                                                                                go_upto_region 41 with (fail)
                                                                                cases b39 with
                                                                                | true =>
                                                                                  have r := res_yes (List.mem_of_getElem? (l := wordsE) (i := 39) rfl) f39
                                                                                  obtain rfl : q = true := by rw [← HQ.out]; exact r
                                                                                  clear r HQ
                                                                                  go_wp2_with fail
                                                                                  go_ret
                                                                                  exact ⟨rfl, rfl⟩
                                                                                | false =>
                                                                                  go_upto_region 42 with (fail)
                                                                                  cases b40 with
                                                                                  | true =>
                                                                                    have r := res_yes (List.mem_of_getElem? (l := wordsE) (i := 40) rfl) f40
                                                                                    obtain rfl : q = true := by rw [← HQ.out]; exact r
                                                                                    clear r HQ
                                                                                    go_wp2_with fail
                                                                                    go_ret
                                                                                    exact ⟨rfl, rfl⟩
                                                                                  | false =>
                                                                                    go_upto_region 43 with (fail)
                                                                                    cases b41 with
                                                                                    | true =>
                                                                                      have r := res_yes (List.mem_of_getElem? (l := wordsE) (i := 41) rfl) f41
                                                                                      obtain rfl : q = true := by rw [← HQ.out]; exact r
                                                                                      clear r HQ
                                                                                      go_wp2_with fail
                                                                                      go_ret
                                                                                      exact ⟨rfl, rfl⟩
                                                                                    | false =>
                                                                                      go_upto_region 44 with (fail)
                                                                                      cases b42 with
                                                                                      | true =>
                                                                                        have r := res_yes (List.mem_of_getElem? (l := wordsE) (i := 42) rfl) f42
                                                                                        obtain rfl : q = true := by rw [← HQ.out]; exact r
                                                                                        clear r HQ
                                                                                        go_wp2_with fail
                                                                                        go_ret
                                                                                        exact ⟨rfl, rfl⟩
                                                                                      | false =>
                                                                                        go_upto_region 45 with (fail)
                                                                                        cases b43 with
                                                                                        | true =>
                                                                                          have r := res_yes (List.mem_of_getElem? (l := wordsE) (i := 43) rfl) f43
                                                                                          obtain rfl : q = true := by rw [← HQ.out]; exact r
                                                                                          clear r HQ
                                                                                          go_wp2_with fail
                                                                                          go_ret
                                                                                          exact ⟨rfl, rfl⟩
                                                                                        | false =>
                                                                                          go_upto_region 46 with (fail)
                                                                                          cases b44 with
                                                                                          | true =>
                                                                                            have r := res_yes (List.mem_of_getElem? (l := wordsE) (i := 44) rfl) f44
                                                                                            obtain rfl : q = true := by rw [← HQ.out]; exact r
                                                                                            clear r HQ
                                                                                            go_wp2_with fail
                                                                                            go_ret
                                                                                            exact ⟨rfl, rfl⟩
                                                                                          | false =>
                                                                                            go_upto_region 47 with (fail)
                                                                                            cases b45 with
                                                                                            | true =>
                                                                                              have r := res_yes (List.mem_of_getElem? (l := wordsE) (i := 45) rfl) f45
                                                                                              obtain rfl : q = true := by rw [← HQ.out]; exact r
                                                                                              clear r HQ
                                                                                              go_wp2_with fail
                                                                                              go_ret
                                                                                              exact ⟨rfl, rfl⟩
                                                                                            | false =>
                                                                                              go_upto_region 48 with (fail)
                                                                                              cases b46 with
                                                                                              | true =>
                                                                                                have r := res_yes (List.mem_of_getElem? (l := wordsE) (i := 46) rfl) f46
                                                                                                obtain rfl : q = true := by rw [← HQ.out]; exact r
                                                                                                clear r HQ
                                                                                                go_wp2_with fail
                                                                                                go_ret
                                                                                                exact ⟨rfl, rfl⟩
                                                                                              | false =>
                                                                                                go_upto_region 49 with (fail)
                                                                                                cases b47 with
                                                                                                | true =>
                                                                                                  have r := res_yes (List.mem_of_getElem? (l := wordsE) (i := 47) rfl) f47
                                                                                                  obtain rfl : q = true := by rw [← HQ.out]; exact r
                                                                                                  clear r HQ
                                                                                                  go_wp2_with fail
                                                                                                  go_ret
                                                                                                  exact ⟨rfl, rfl⟩
                                                                                                | false =>
                                                                                                  go_upto_region 50 with (fail)
                                                                                                  cases b48 with
                                                                                                  | true =>
                                                                                                    have r := res_yes (List.mem_of_getElem? (l := wordsE) (i := 48) rfl) f48
                                                                                                    obtain rfl : q = true := by rw [← HQ.out]; exact r
                                                                                                    clear r HQ
                                                                                                    go_wp2_with fail
                                                                                                    go_ret
                                                                                                    exact ⟨rfl, rfl⟩
                                                                                                  | false =>
                                                                                                    go_upto_region 51 with (fail)
                                                                                                    cases b49 with
                                                                                                    | true =>
                                                                                                      have r := res_yes (List.mem_of_getElem? (l := wordsE) (i := 49) rfl) f49
                                                                                                      obtain rfl : q = true := by rw [← HQ.out]; exact r
                                                                                                      clear r HQ
                                                                                                      go_wp2_with fail
                                                                                                      go_ret
                                                                                                      exact ⟨rfl, rfl⟩
                                                                                                    | false =>
                                                                                                      go_upto_region 52 with (fail)
                                                                                                      cases b50 with
                                                                                                      | true =>
                                                                                                        have r := res_yes (List.mem_of_getElem? (l := wordsE) (i := 50) rfl) f50
                                                                                                        obtain rfl : q = true := by rw [← HQ.out]; exact r
                                                                                                        clear r HQ
                                                                                                        go_wp2_with fail
                                                                                                        go_ret
                                                                                                        exact ⟨rfl, rfl⟩
                                                                                                      | false =>
                                                                                                        go_upto_region 53 with (fail)
                                                                                                        cases b51 with
                                                                                                        | true =>
                                                                                                          have r := res_yes (List.mem_of_getElem? (l := wordsE) (i := 51) rfl) f51
                                                                                                          obtain rfl : q = true := by rw [← HQ.out]; exact r
                                                                                                          clear r HQ
                                                                                                          go_wp2_with fail
                                                                                                          go_ret
                                                                                                          exact ⟨rfl, rfl⟩
                                                                                                        | false =>
                                                                                                          go_upto_region 54 with (fail)
                                                                                                          cases b52 with
                                                                                                          | true =>
                                                                                                            have r := res_yes (List.mem_of_getElem? (l := wordsE) (i := 52) rfl) f52
                                                                                                            obtain rfl : q = true := by rw [← HQ.out]; exact r
                                                                                                            clear r HQ
                                                                                                            go_wp2_with fail
                                                                                                            go_ret
                                                                                                            exact ⟨rfl, rfl⟩
                                                                                                          | false =>
                                                                                                            go_upto_region 55 with (fail)
                                                                                                            cases b53 with
                                                                                                            | true =>
                                                                                                              have r := res_yes (List.mem_of_getElem? (l := wordsE) (i := 53) rfl) f53
                                                                                                              obtain rfl : q = true := by rw [← HQ.out]; exact r
                                                                                                              clear r HQ
                                                                                                              go_wp2_with fail
                                                                                                              go_ret
                                                                                                              exact ⟨rfl, rfl⟩
                                                                                                            | false =>
                                                                                                              go_upto_region 56 with (fail)
                                                                                                              cases b54 with
                                                                                                              | true =>
                                                                                                                have r := res_yes (List.mem_of_getElem? (l := wordsE) (i := 54) rfl) f54
                                                                                                                obtain rfl : q = true := by rw [← HQ.out]; exact r
                                                                                                                clear r HQ
                                                                                                                go_wp2_with fail
                                                                                                                go_ret
                                                                                                                exact ⟨rfl, rfl⟩
                                                                                                              | false =>
                                                                                                                go_upto_region 57 with (fail)
                                                                                                                cases b55 with
                                                                                                                | true =>
                                                                                                                  have r := res_yes (List.mem_of_getElem? (l := wordsE) (i := 55) rfl) f55
                                                                                                                  obtain rfl : q = true := by rw [← HQ.out]; exact r
                                                                                                                  clear r HQ
                                                                                                                  go_wp2_with fail
                                                                                                                  go_ret
                                                                                                                  exact ⟨rfl, rfl⟩
                                                                                                                | false =>
                                                                                                                  go_upto_region 58 with (fail)
                                                                                                                  cases b56 with
                                                                                                                  | true =>
                                                                                                                    have r := res_yes (List.mem_of_getElem? (l := wordsE) (i := 56) rfl) f56
                                                                                                                    obtain rfl : q = true := by rw [← HQ.out]; exact r
                                                                                                                    clear r HQ
                                                                                                                    go_wp2_with fail
                                                                                                                    go_ret
                                                                                                                    exact ⟨rfl, rfl⟩
                                                                                                                  | false =>
                                                                                                                    go_upto_region 59 with (fail)
                                                                                                                    cases b57 with
                                                                                                                    | true =>
                                                                                                                      have r := res_yes (List.mem_of_getElem? (l := wordsE) (i := 57) rfl) f57
                                                                                                                      obtain rfl : q = true := by rw [← HQ.out]; exact r
                                                                                                                      clear r HQ
                                                                                                                      go_wp2_with fail
                                                                                                                      go_ret
                                                                                                                      exact ⟨rfl, rfl⟩
                                                                                                                    | false =>
                                                                                                                      go_upto_region 60 with (fail)
                                                                                                                      cases b58 with
                                                                                                                      | true =>
                                                                                                                        have r := res_yes (List.mem_of_getElem? (l := wordsE) (i := 58) rfl) f58
                                                                                                                        obtain rfl : q = true := by rw [← HQ.out]; exact r
                                                                                                                        clear r HQ
                                                                                                                        go_wp2_with fail
                                                                                                                        go_ret
                                                                                                                        exact ⟨rfl, rfl⟩
                                                                                                                      | false =>
                                                                                                                        go_upto_region 61 with (fail)
                                                                                                                        cases b59 with
                                                                                                                        | true =>
                                                                                                                          have r := res_yes (List.mem_of_getElem? (l := wordsE) (i := 59) rfl) f59
                                                                                                                          obtain rfl : q = true := by rw [← HQ.out]; exact r
                                                                                                                          clear r HQ
                                                                                                                          go_wp2_with fail
                                                                                                                          go_ret
                                                                                                                          exact ⟨rfl, rfl⟩
                                                                                                                        | false =>
                                                                                                                          go_upto_region 62 with (fail)
                                                                                                                          cases b60 with
                                                                                                                          | true =>
                                                                                                                            have r := res_yes (List.mem_of_getElem? (l := wordsE) (i := 60) rfl) f60
                                                                                                                            obtain rfl : q = true := by rw [← HQ.out]; exact r
                                                                                                                            clear r HQ
                                                                                                                            go_wp2_with fail
                                                                                                                            go_ret
                                                                                                                            exact ⟨rfl, rfl⟩
                                                                                                                          | false =>
                                                                                                                            go_upto_region 63 with (fail)
                                                                                                                            cases b61 with
                                                                                                                            | true =>
                                                                                                                              have r := res_yes (List.mem_of_getElem? (l := wordsE) (i := 61) rfl) f61
                                                                                                                              obtain rfl : q = true := by rw [← HQ.out]; exact r
                                                                                                                              clear r HQ
                                                                                                                              go_wp2_with fail
                                                                                                                              go_ret
                                                                                                                              exact ⟨rfl, rfl⟩
                                                                                                                            | false =>
                                                                                                                              go_upto_region 64 with (fail)
                                                                                                                              cases b62 with
                                                                                                                              | true =>
                                                                                                                                have r := res_yes (List.mem_of_getElem? (l := wordsE) (i := 62) rfl) f62
                                                                                                                                obtain rfl : q = true := by rw [← HQ.out]; exact r
                                                                                                                                clear r HQ
                                                                                                                                go_wp2_with fail
                                                                                                                                go_ret
                                                                                                                                exact ⟨rfl, rfl⟩
                                                                                                                              | false =>
                                                                                                                                go_upto_region 65 with (fail)
                                                                                                                                cases b63 with
                                                                                                                                | true =>
                                                                                                                                  have r := res_yes (List.mem_of_getElem? (l := wordsE) (i := 63) rfl) f63
                                                                                                                                  obtain rfl : q = true := by rw [← HQ.out]; exact r
                                                                                                                                  clear r HQ
                                                                                                                                  go_wp2_with fail
                                                                                                                                  go_ret
                                                                                                                                  exact ⟨rfl, rfl⟩
                                                                                                                                | false =>
                                                                                                                                  have r : resB s.data.toList = false := res_no (by simp only [wordsE, List.all_cons, List.all_nil, f0, f1, f2, f3, f4, f5, f6, f7, f8, f9, f10, f11, f12, f13, f14, f15, f16, f17, f18, f19, f20, f21, f22, f23, f24, f25, f26, f27, f28, f29, f30, f31, f32, f33, f34, f35, f36, f37, f38, f39, f40, f41, f42, f43, f44, f45, f46, f47, f48, f49, f50, f51, f52, f53, f54, f55, f56, f57, f58, f59, f60, f61, f62, f63, Bool.not_false, Bool.and_self])
                                                                                                                                  obtain rfl : q = false := by rw [← HQ.out]; exact r
                                                                                                                                  clear r HQ
                                                                                                                                  go_wp2_with fail
                                                                                                                                  go_ret
                                                                                                                                  exact ⟨rfl, rfl⟩
end Go.Proofs.YtcmhnaanfkpheaaDoor
