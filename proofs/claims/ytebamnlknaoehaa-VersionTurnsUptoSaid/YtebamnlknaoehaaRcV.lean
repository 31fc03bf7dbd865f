/- The contract of the reference's Get. -/
import Derived.Test.YtebamnlknaoehaaRcU
namespace Go.Proofs.Ytebamnlknaoehaa
set_option linter.unusedVariables false
open Go.ChangeShapes Go.WideShapes Go.ChangeAt Go.RowKit

set_option maxRecDepth 100000 in
set_option maxHeartbeats 2000000 in
theorem rgetR_c (s : ByteArray) (w : World) (hm : s.size ≤ 1048576) :
    Calls Try.prog 30 #[.string s] w (GivesG w (getG s.data.toList)) := by
  have hl := str_len s
  unfold getG
  by_cases h4 : 400 < s.size
  · rw [if_pos (by omega)]
    go_enter Try.func30, Try.ntmps30
    go_wp2_with fail
    go_ret2
    exact gives_nil _ _ _ (Below.refl _ _)
  · rw [if_neg (by omega)]
    by_cases h0 : s.size = 0
    · have hn : s.data.toList = [] := List.eq_nil_of_length_eq_zero (by omega)
      rw [hn]
      have hs0 : (s.size : Int) = 0 := by omega
      go_enter Try.func30, Try.ntmps30
      go_wp2_with fail
      go_ret2
      exact gives_nil _ _ _ (Below.refl _ _)
    · have hlt : 0 < s.size := by omega
      have hd := drop_str hlt
      rw [List.drop_zero] at hd
      rw [hd]
      simp only
      have hc := s[0].toNat_lt
      have hs0 : ((s.size : Int) == 0) = false := by rw [beq_eq_false_iff_ne]; omega
      generalize hn : s[0].toNat = n at *
      have HN := hide hn
      clear hn hd
      have hg : ((s[0].toNat : Nat) : Int) = n := by rw [HN.out]
      by_cases h32 : 32 < n
      · rw [if_pos h32]
        go_enter Try.func30, Try.ntmps30
        go_wp2_with fail
        go_ret2
        exact gives_nil _ _ _ (Below.refl _ _)
      · rw [if_neg h32]
        have hX : preG [] (rowsG n (s.data.toList.drop 1)) = rowsG n (s.data.toList.drop 1) := preG_nil_of _ (by
          intro he
          rcases rowsG_err n (s.data.toList.drop 1) with h | h
          · exact absurd h he
          · exact h.2)
        have HX := hide hX
        obtain ⟨i0, hi0, hz0, hz1, hz2⟩ := info_parts value_info
        generalize hgx : rowsG n (s.data.toList.drop 1) = X at *
        have HG := hide hgx
        clear hX hgx
        go_enter Try.func30, Try.ntmps30
        go_wp2_with fail

        go_loopw [4, 5, 6] (fun u y i wr => ∃ (k a : Nat) (vs : List ValV), k ≤ n ∧ i = .int .i64 k ∧ y = .int .i64 a ∧ a ≤ s.size ∧ vs.length = k ∧ Hid (Below w.heap.size w wr ∧ preG vs (rowsG (n - k) (s.data.toList.drop a)) = X ∧ wr.ownsRow w.heap.size 49 3 u k (vs.map valCells).flatten)) (fun _ _ i _ => n - (intOf i).toNat)
        case atStart => exact ⟨0, 1, [], Nat.zero_le _, rfl, rfl, hlt, rfl, ⟨Below.refl _ _, by rw [Nat.sub_zero, HG.out]; exact HX.out, World.ownsRow_nil _ _ _ _⟩⟩
        case round =>
          clear HX HG
          obtain ⟨k, a, vs, hk, rfl, rfl, ha, hvs, HI⟩ := hrel
          by_cases hkn : k < n
          · have Q := hide (rtake_c s a wr ha hm)
            obtain ⟨hb, hX, hown⟩ := HI.out
            obtain ⟨j, hj⟩ : ∃ j, n - k = j + 1 := ⟨n - k - 1, by omega⟩
            rw [hj] at hX
            cases ht : takeG (s.data.toList.drop a) with
            | bad c =>
              rw [ht] at Q
              have hce : (c == 0) = false := by have := bad_of ht; simp; omega
              rw [rowsG_step_bad ht, preG_bad vs (by have := bad_of ht; omega)] at hX
              subst hX
              have HB := hide hb
              clear HI hb hown ht
              go_wp2_with fail
              refine Q.out.mono ?_
              rintro e w2 ⟨rfl, hb2⟩
              have HB2 := hide (HB.out.trans (hb2.mono HB.out.size))
              clear hb2 Q
              unfold valAgg null
              go_wp2_with fail
              go_ret2
              exact gives_nil _ _ _ (HB2.out.alloc HB2.out.size _)
            | val v r =>
              rw [ht] at Q
              rw [rowsG_step ht, preG_app] at hX
              have HX := hide hX
              have HB := hide hb
              have HO := hide hown
              clear HI hb hown ht hX
              go_wp2_with fail
              refine Q.out.mono ?_
              rintro e w2 ⟨a', rfl, hb2, hd, ha'⟩
              have HD := hide hd
              have HB2 := hide (HB.out.trans (hb2.mono HB.out.size))
              have HO2 := hide (own_below HO.out hb2)
              clear hb2 Q hd HO HB
              obtain ⟨vk, vn, vz⟩ := v
              unfold valAgg
              simp only
              go_wp2_with (at_builtin; refine wpList_app rfl (.tmp 36) (.tmp 38) 23 rfl w.heap.size 49 i0 _ 3 32 Try.underlying23 hi0 hz0 hz1 hz2 rfl (by omega) u4 k _ rfl ((HO2.out.alloc _).alloc _) _ _ 1 1 (valCells ⟨vk, vn, vz⟩) rfl rfl (cells_lit2 w2 (.cells #[.int .i64 vk, .int .i64 vn, .string vz] 49) #[.int .i64 vk, .int .i64 vn, .string vz] 49) (by simp [valCells, Value.oneCell']) (by simp only [maxLen]; omega) (by omega) (by have := HB2.out.size; simp; omega) (by simp) ?_; intro v3 w3 hown3 hg3 hat3)
              have HB3 := hide (((HB2.out.alloc HB2.out.size (.cells #[.int .i64 vk, .int .i64 vn, .string vz] 49)).alloc (by have := HB2.out.size; rw [World.size_alloc]; omega) (.cells #[.int .i64 vk, .int .i64 vn, .string vz] 49)).grown hg3 (by have := HB2.out.size; rw [World.size_alloc, World.size_alloc]; omega) (fun k hk => (HO2.out.lt k hk).1))
              have HO3 := hide hown3
              clear hown3 hg3 hat3 HB2 HO2
              go_wp2_with fail
              go_roundw
              case rel => exact ⟨k + 1, a', vs ++ [⟨vk, vn, vz⟩], by omega, by go_num, rfl, ha', by simp [hvs], ⟨HB3.out, by rw [show n - (k + 1) = j by omega, HD.out]; exact HX.out, by have := HO3.out; simpa using this⟩⟩
              case measure => simp [intOf]; omega
          · obtain rfl : k = n := by omega
            obtain ⟨hb, hX, hown⟩ := HI.out
            rw [Nat.sub_self] at hX
            have HB := hide hb
            by_cases has : a < s.size
            · rw [drop_str has] at hX
              have hX2 : preG vs (2, []) = X := hX
              rw [preG_bad vs (by omega)] at hX2
              subst hX2
              clear hX hb hown HI
              go_wp2_with fail
              go_ret2
              exact gives_nil _ _ _ HB.out
            · rw [drop_end (by omega)] at hX
              have hX2 : preG vs (0, []) = X := hX
              rw [preG_ok, List.append_nil] at hX2
              subst hX2
              rw [← hvs] at hown
              obtain ⟨A, c, rfl, hS⟩ := sl_of_own hown valCells_len
              have HS := hide hS
              have HF := hide (fresh_of_own hown)
              have hvs2 : vs.length = k := hvs
              clear hX hb hown HI hS
              go_wp2_with fail
              go_ret2
              exact ⟨A, c, rfl, ⟨HS.out, HF.out⟩, HB.out⟩
end Go.Proofs.Ytebamnlknaoehaa
