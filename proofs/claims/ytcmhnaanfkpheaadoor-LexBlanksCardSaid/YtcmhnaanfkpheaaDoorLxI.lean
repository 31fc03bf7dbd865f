/- The contract of the reference's Reserved. -/
import Derived.Test.YtcmhnaanfkpheaaDoorLxH
namespace Go.Proofs.YtcmhnaanfkpheaaDoor
set_option linter.unusedVariables false
open Go.ChangeShapes Go.WideShapes Go.ChangeAt Go.RowKit

theorem small_range (c : UInt8) : (97 ≤ c.toNat ∧ c.toNat ≤ 122) ∨ c.toNat < 97 ∨ 122 < c.toNat := by omega
theorem res_bad {l : List UInt8} {i : Nat} {c : UInt8} (h : l[i]? = some c) (hc : ¬ (97 ≤ c.toNat ∧ c.toNat ≤ 122)) : resB l = false := by
  cases hr : resB l with
  | false => rfl
  | true => exact absurd ((res_plain hr).1 c (List.mem_of_getElem? h)) hc
theorem res_nil : resB [] = false := by
  cases hr : resB [] with
  | false => rfl
  | true => exact absurd rfl (res_plain hr).2
theorem occ_take {J l : List UInt8} {i : Nat} (h : i + l.length + 2 ≤ J.length) : OccAt J l i ↔ (J.drop i).take (l.length + 2) = 32 :: (l ++ [32]) := by
  constructor
  · rintro ⟨t, ht⟩
    rw [ht, show 32 :: (l ++ 32 :: t) = (32 :: (l ++ [32])) ++ t from by simp]
    rw [List.take_append_of_le_length (by simp), List.take_of_length_le (by simp)]
  · intro e
    refine ⟨(J.drop i).drop (l.length + 2), ?_⟩
    conv => lhs; rw [← List.take_append_drop (l.length + 2) (J.drop i), e]
    simp
theorem occ_len {J l : List UInt8} {i : Nat} (h : OccAt J l i) : i + l.length + 2 ≤ J.length := by
  obtain ⟨t, ht⟩ := h
  have := congrArg List.length ht
  simp at this
  omega
theorem str_eq_of {X Y : ByteArray} {l m : List UInt8} (hx : X.data.toList = l) (hy : Y.data.toList = m) : (X.toList == Y.toList) = decide (l = m) := by
  rw [ByteArray.toList_eq, ByteArray.toList_eq, hx, hy, Bool.eq_iff_iff, beq_iff_eq, decide_eq_true_eq]
set_option maxRecDepth 100000 in
set_option maxHeartbeats 4000000 in
theorem rreserved_c (s : ByteArray) (w : World) (hm : s.size ≤ 1048576) : Calls Tryd.prog 16 #[.string s] w fun e w' => e = .returned (.bool (resB s.data.toList)) ∧ w = w' := by
  have hl := str_len s
  obtain ⟨q, hq⟩ : ∃ q, resB s.data.toList = q := ⟨_, rfl⟩
  rw [hq]
  have HQ := hide hq
  clear hq
  go_enter Tryd.func16, Tryd.ntmps16
  go_upto_region 2 with (fail)
  generalize hA : ByteArray.mk _ = A
  have hJ : A.data.toList = joinSp wordsL := by rw [← hA]; decide +kernel
  have hJl : (joinSp wordsL).length = A.size := by rw [← hJ, str_len]
  have hz : A.size ≤ 1048576 := by rw [← hJl]; decide +kernel
  have HJ := hide hJ
  clear hA hJ
  go_wp2_with fail
  go_loopw [4] (fun v wr => ∃ k : Nat, v = .int .i64 k ∧ k ≤ s.size ∧ Hid (∀ c ∈ s.data.toList.take k, 97 ≤ c.toNat ∧ c.toNat ≤ 122) ∧ w = wr) (fun v _ => s.size - (intOf v).toNat)
  case atStart => exact ⟨0, rfl, Nat.zero_le _, (by intro c hc; simp at hc), (by first | rfl | trivial)⟩
  case round =>
    obtain ⟨k, rfl, hk, HP, rfl⟩ := hrel
    by_cases hlt : k < s.size
    · have hlti : (k : Int) < s.size := by omega
      have hwk : IntKind.i64.wrap ((k : Int) + 1) = (k : Int) + 1 := IntWalk.i64_in _ (by omega)
      have hg : s.data.toList[k]? = some s[k] := by
        have := drop_str hlt
        have h2 : (s.data.toList.drop k)[0]? = some s[k] := by rw [this]; rfl
        rw [List.getElem?_drop, Nat.add_zero] at h2
        exact h2
      generalize hc : s[k] = c at *
      rcases small_range c with h | h | h
      · have HP2 : Hid (∀ d ∈ s.data.toList.take (k + 1), 97 ≤ d.toNat ∧ d.toNat ≤ 122) := fun d hd => by
          rw [take_at hg] at hd
          rcases List.mem_append.1 hd with hd | hd
          · exact HP.out d hd
          · rw [List.mem_singleton.1 hd]; exact h
        have p1 : ¬ (c.toNat : Int) < 97 := by omega
        have p2 : ¬ (122 : Int) < (c.toNat : Int) := by omega
        clear HP hg h
        go_wp2_with fail
        go_roundw
        case rel => exact ⟨k + 1, by go_num, by omega, HP2, (by first | rfl | trivial)⟩
        case measure => simp [intOf]; omega
      · obtain rfl : q = false := by rw [← HQ.out]; exact res_bad hg (by omega)
        have p1 : (c.toNat : Int) < 97 := by omega
        clear HP hg h HQ
        go_wp2_with fail
        go_ret
        exact ⟨rfl, rfl⟩
      · obtain rfl : q = false := by rw [← HQ.out]; exact res_bad hg (by omega)
        have p1 : ¬ (c.toNat : Int) < 97 := by omega
        have p2 : (122 : Int) < (c.toNat : Int) := by omega
        clear HP hg h HQ
        go_wp2_with fail
        go_ret
        exact ⟨rfl, rfl⟩
    · have hlti : ¬ (k : Int) < s.size := by omega
      have HP2 : Hid (∀ c ∈ s.data.toList, 97 ≤ c.toNat ∧ c.toNat ≤ 122) := fun c hc => HP.out c (by rw [List.take_of_length_le (by omega)]; exact hc)
      clear HP
      go_wp2_with fail
      clear hlt hlti hk
      go_loopw [5] (fun v wr => ∃ i : Nat, v = .int .i64 i ∧ i ≤ A.size ∧ Hid (∀ j, j < i → ¬ OccAt (joinSp wordsL) s.data.toList j ∨ s.size = 0) ∧ w = wr) (fun v _ => A.size - (intOf v).toNat)
      case atStart => exact ⟨0, rfl, Nat.zero_le _, (by intro j hj; omega), (by first | rfl | trivial)⟩
      case round =>
        obtain ⟨i, rfl, hi, HN, rfl⟩ := hrel
        obtain ⟨u, hu⟩ : ∃ u, i + s.size = u := ⟨_, rfl⟩
        obtain ⟨v, hv⟩ : ∃ v, u + 2 = v := ⟨_, rfl⟩
        have f1 : IntKind.i64.wrap ((i : Int) + (s.size : Int)) = (u : Int) := by rw [IntWalk.i64_in _ (by omega)]; omega
        have f1' : ((i : Int) + (s.size : Int)) = (u : Int) := by omega
        have f2 : IntKind.i64.wrap ((u : Int) + 2) = (v : Int) := by rw [IntWalk.i64_in _ (by omega)]; omega
        have f2' : ((u : Int) + 2) = (v : Int) := by omega
        have f3 : IntKind.i64.wrap (u : Int) = (u : Int) := IntWalk.i64_in _ (by omega)
        have f4 : IntKind.i64.wrap (v : Int) = (v : Int) := IntWalk.i64_in _ (by omega)
        have hiv : i ≤ v := by omega
        have hivi : (i : Int) ≤ (v : Int) := by omega
        have hwi : IntKind.i64.wrap ((i : Int) + 1) = (i : Int) + 1 := IntWalk.i64_in _ (by omega)
        by_cases hvA : v ≤ A.size
        · have hvAi : (v : Int) ≤ A.size := by omega
          by_cases h0 : 0 < s.size
          · have h0i : (0 : Int) < s.size := by omega
            have hX : (A.extract i v).data.toList = ((joinSp wordsL).drop i).take (s.data.toList.length + 2) := by
              rw [ByteArray.data_extract, Array.toList_extract, List.extract_eq_take_drop, HJ.out, show v - i = s.data.toList.length + 2 from by omega]
            have hY : (((⟨#[32]⟩ : ByteArray) ++ s) ++ (⟨#[32]⟩ : ByteArray)).data.toList = 32 :: (s.data.toList ++ [32]) := by
              simp [ByteArray.data_append]
            have hS := str_eq_of hX hY
            by_cases ho : OccAt (joinSp wordsL) s.data.toList i
            · rw [decide_eq_true ((occ_take (by omega)).1 ho)] at hS
              obtain rfl : q = true := by rw [← HQ.out]; exact (res_occ HP2.out (by intro e; rw [e] at hl; simp at hl; omega)).2 ⟨i, ho⟩
              clear hX hY HN HQ ho hu hv
              go_wp2_with fail
              go_ret
              exact ⟨rfl, rfl⟩
            · rw [decide_eq_false (fun e => ho ((occ_take (by omega)).2 e))] at hS
              have HN2 : Hid (∀ j, j < i + 1 → ¬ OccAt (joinSp wordsL) s.data.toList j ∨ s.size = 0) := fun j hj => by
                by_cases e : j = i
                · subst e; exact .inl ho
                · exact HN.out j (by omega)
              have hi1 : i + 1 ≤ A.size := by omega
              have hms : A.size - (i + 1) < A.size - i := by omega
              clear hX hY HN ho hu hv
              go_wp2_with fail
              go_roundw
              case rel => exact ⟨i + 1, by go_num, hi1, HN2, (by first | rfl | trivial)⟩
              case measure => simp [intOf]; omega
          · have h0i : ¬ (0 : Int) < s.size := by omega
            have HN2 : Hid (∀ j, j < i + 1 → ¬ OccAt (joinSp wordsL) s.data.toList j ∨ s.size = 0) := fun j hj => .inr (by omega)
            have hi1 : i + 1 ≤ A.size := by omega
            have hms : A.size - (i + 1) < A.size - i := by omega
            clear HN hu hv
            go_wp2_with fail
            go_roundw
            case rel => exact ⟨i + 1, by go_num, hi1, HN2, (by first | rfl | trivial)⟩
            case measure => simp [intOf]; omega
        · have hvAi : ¬ (v : Int) ≤ A.size := by omega
          obtain rfl : q = false := by
            rw [← HQ.out]
            cases hr : resB s.data.toList with
            | false => rfl
            | true =>
              exfalso
              obtain ⟨h1, h2⟩ := res_plain hr
              obtain ⟨j, hj⟩ := (res_occ h1 h2).1 hr
              have hjl := occ_len hj
              rcases HN.out j (by omega) with h | h
              · exact h hj
              · exact h2 (List.eq_nil_of_length_eq_zero (by omega))
          clear HN HQ hu hv
          go_wp2_with fail
          go_ret
          exact ⟨rfl, rfl⟩
end Go.Proofs.YtcmhnaanfkpheaaDoor
