/- Contracts of the reference: Prefix, Exact and Quote. -/
import Derived.Test.YtcojhpfnehfppaaLkJ
import Derived.Laws.BytesArg
namespace Go.Proofs.Ytcojhpfnehfppaa
set_option linter.unusedVariables false
open Go.ChangeShapes Go.WideShapes Go.ChangeAt Go.RowKit

theorem strL_app (a b : List UInt8) : strL (a ++ b) = strL a ++ strL b := by
  apply ByteArray.ext
  simp [strL, ByteArray.data_append]
theorem slice_one (s : ByteArray) (k : Nat) (h : k < s.size) : s.extract k (k + 1) = strL [s[k]] := by
  apply ByteArray.ext
  apply Array.ext'
  rw [ByteArray.data_extract, Array.toList_extract, List.extract_eq_take_drop, List.drop_eq_getElem_cons (by rw [str_len]; exact h), show k + 1 - k = 1 by omega]
  rfl
theorem pick_one (s : ByteArray) (j : Nat) (h : j < s.size) (hm : s.size ≤ 1048576) (W : World) : (Instr.slice 9 (.string s) (some (.int .i64 j)) (some (.int .i64 ((j : Int) + 1))) none).run Try.prog W = .ok (.string (strL [s[j]])) W := by
  rw [run_slice_string (P := Try.prog) W 9 s .i64 .i64 j ((j : Int) + 1) Try.underlying9 (by omega) (by omega) (by omega)]
  rw [show ((j : Int)).toNat = j by omega, show ((j : Int) + 1).toNat = j + 1 by omega, slice_one s j h]
set_option maxRecDepth 100000 in
set_option maxHeartbeats 1000000 in
theorem rquote_c (s : ByteArray) (w : World) (hs : s.size ≤ 1048576) : Calls Try.prog 15 #[.string s] w fun e w' => e = .returned (.string (quoteP s)) ∧ w = w' := by
  have HSL := hide (str_len s)
  go_enter Try.func15, Try.ntmps15
  go_wp2_with fail
  go_loop [3, 4] (fun o i => ∃ k : Nat, ∃ a : ByteArray, k ≤ s.size ∧ i = .int .i64 k ∧ o = .string a ∧ Hid (a = strL (quoteL (s.data.toList.take k)))) (fun _ i => s.size - (intOf i).toNat)
  case atStart => exact ⟨0, _, Nat.zero_le _, rfl, rfl, rfl⟩
  case round =>
    obtain ⟨k, a, hk, rfl, rfl, HA⟩ := hrel
    have hw1 : IntKind.i64.wrap ((k : Int) + 1) = (k : Int) + 1 := IntWalk.i64_in _ (by omega)
    have hql : (a.size : Int) ≤ 2097152 := by
      have := quote_len (s.data.toList.take k)
      rw [List.length_take] at this
      have h2 := strL_size (quoteL (s.data.toList.take k))
      rw [← HA.out] at h2
      omega
    by_cases hlt : k < s.size
    · have hT := quote_snoc (str_get hlt)
      have hx := fun W => pick_one s k hlt hs W
      have hx1 : (strL [s[k]]).size = 1 := strL_size _
      have QS := hide (fun W => rspecial_c s[k] W)
      by_cases hsp : specialB s[k] = true
      · rw [if_pos hsp] at hT
        rw [hsp] at QS
        have H2 := hide (show a ++ { data := #[92] } ++ strL [s[k]] = strL (quoteL (s.data.toList.take (k + 1))) by
          rw [hT, strL_app, ← HA.out, ByteArray.append_assoc]
          congr 1)
        clear hT hsp HA
        generalize strL [s[k]] = u at *
        have hx2 : (u.size : Int) ≤ 1 := by omega
        clear hx1
        go_wp2_with fail
        refine (QS.out _).mono ?_
        rintro e w2 ⟨rfl, rfl⟩
        clear QS
        go_wp2_with fail
        go_round
        case rel => exact ⟨k + 1, _, by omega, by go_num, rfl, H2⟩
        case measure => simp [intOf]; omega
      · rw [if_neg hsp] at hT
        have hsp : specialB s[k] = false := by simpa using hsp
        rw [hsp] at QS
        have H2 := hide (show a ++ strL [s[k]] = strL (quoteL (s.data.toList.take (k + 1))) by
          rw [hT, strL_app, ← HA.out])
        clear hT hsp HA
        generalize strL [s[k]] = u at *
        have hx2 : (u.size : Int) ≤ 1 := by omega
        clear hx1
        go_wp2_with fail
        refine (QS.out _).mono ?_
        rintro e w2 ⟨rfl, rfl⟩
        clear QS
        go_wp2_with fail
        go_round
        case rel => exact ⟨k + 1, _, by omega, by go_num, rfl, H2⟩
        case measure => simp [intOf]; omega
    · obtain rfl : k = s.size := by omega
      have e : s.data.toList.take s.size = s.data.toList := List.take_of_length_le (by rw [HSL.out]; omega)
      have hA := HA.out
      rw [e] at hA
      have HA2 := hide (show a = quoteP s from hA)
      clear hA e HA
      go_wp2_with fail
      go_ret
      exact ⟨by show Ending.returned (.string a) = _; rw [HA2.out], rfl⟩
theorem conv_one (w : World) (y : UInt8) : (convert 40 9 (.slice (some ⟨w.heap.size, 0, none⟩) 1 1)).run Try.prog (w.alloc (.cells #[.int .u8 y.toNat] 5)) = .ok (.string (strL [y])) (w.alloc (.cells #[.int .u8 y.toNat] 5)) := by
  have e : strL [y] = strOfNums [(y.toNat : Int)] := by
    unfold strL strOfNums
    simp
  rw [e]
  refine run_convert_bytes_arg (w.alloc (.cells #[.int .u8 y.toNat] 5)) 40 5 Try.underlying40 Try.underlying5 w.heap.size 0 1 1 [(y.toNat : Int)] rfl ?_ 9 Try.underlying9
  intro i hi
  obtain rfl : i = 0 := by omega
  exact cell_of_row (w.alloc (.cells #[.int .u8 y.toNat] 5)) w.heap.size 0 _ _ _ (heap_alloc_new w _)
set_option maxRecDepth 100000 in
set_option maxHeartbeats 1000000 in
theorem rprefix_c (p : ByteArray) (w : World) (hp : p.size ≤ 1048576) : Calls Try.prog 13 #[.string p] w (GivesS w (prefixP p)) := by
  have hll : (signsL p.data.toList).length ≤ 1048576 := by have := signs_len p.data.toList; rw [str_len] at this; omega
  have QE := hide (fun W => rsigns_c p W hp)
  unfold prefixP
  generalize signsL p.data.toList = l at *
  go_enter Try.func13, Try.ntmps13
  go_wp2_with fail
  refine (QE.out _).mono ?_
  rintro e w1 ⟨A, c, rfl, hS, hb⟩
  have HB := hide hb
  have HS := hide hS
  have HE := hide hS.len
  generalize hn : l.length = n at *
  have HN := hide hn
  clear hS hb QE hn
  go_wp2_with fail
  go_loopw [4, 5] (fun o i wr => ∃ k : Nat, ∃ acc : List UInt8, k ≤ n ∧ i = .int .i64 k ∧ o = .string (strL acc) ∧ Hid (Below w1.heap.size w1 wr) ∧ Hid (PlainAt l k acc)) (fun _ i _ => n - (intOf i).toNat)
  case atStart => exact ⟨0, [], Nat.zero_le _, rfl, rfl, Below.refl _ _, rfl, Nat.le_refl _⟩
  case round =>
    obtain ⟨k, acc, hk, rfl, rfl, HBr, HP⟩ := hrel
    have hw1 : IntKind.i64.wrap ((k : Int) + 1) = (k : Int) + 1 := IntWalk.i64_in _ (by omega)
    by_cases hlt : k < n
    · obtain ⟨b, off, x, rfl, hbl, hx, hc⟩ := (HS.out.below HBr.out).at (by omega) hlt
      have h0 := hc 0 _ rfl
      rw [Nat.add_zero, Nat.mul_one] at h0
      clear hc
      cases x with
      | byte y =>
        have HP2 := hide (plainAt_next HP.out hx)
        have hy := y.toNat_lt
        have hlt2 : (y.toNat : Int) < 256 := by omega
        have hwy : IntKind.u8.wrap (y.toNat : Int) = y.toNat := IntWalk.u8_in _ (by omega)
        have hcv := conv_one wr y
        have hal := HP.out.2
        have hz1 := strL_size acc
        have hz2 : (strL [y]).size = 1 := strL_size _
        have H2 := hide (strL_app acc [y])
        have HB2 := hide (Bel.then HBr.out (Bel.one wr (.cells #[.int .u8 y.toNat] 5)))
        simp only [sgI] at h0
        have ha1 : ((strL acc).size : Int) ≤ 1048576 := by omega
        have ha2 : ((strL [y]).size : Int) ≤ 1 := by omega
        generalize strL [y] = u at *
        generalize hsa : strL acc = sa at *
        have HSA := hide hsa
        clear hx HP hz1 hz2 hal hsa hy
        go_wp2_with fail
        go_roundw
        case rel => exact ⟨k + 1, acc ++ [y], by omega, by go_num, by rw [H2.out], HB2, HP2⟩
        case measure => simp [intOf]; omega
      | _ =>
        have HP2 := hide (plainAt_end HP.out (by intro b e; rw [hx] at e; cases e))
        rw [HP2.out]
        generalize strL (plainL l) = t at *
        simp only [sgI] at h0
        clear hx HP HP2
        go_wp2_with fail
        go_ret
        exact ⟨rfl, Bel.then HB.out HBr.out⟩
    · have HP2 := hide (plainAt_end HP.out (by intro b e; rw [List.getElem?_eq_none (by rw [HN.out]; omega)] at e; cases e))
      rw [HP2.out]
      generalize strL (plainL l) = t at *
      clear HP HP2
      go_wp2_with fail
      go_ret
      exact ⟨rfl, Bel.then HB.out HBr.out⟩
set_option maxHeartbeats 400000 in
theorem rexact_c (p : ByteArray) (w : World) (hp : p.size ≤ 1048576) : Calls Try.prog 9 #[.string p] w (GivesX w (exactP p)) := by
  have hll : (signsL p.data.toList).length ≤ 1048576 := by have := signs_len p.data.toList; rw [str_len] at this; omega
  have QE := hide (fun W => rsigns_c p W hp)
  have QP := hide (fun W => rprefix_c p W hp)
  have hz := strL_size (plainL (signsL p.data.toList))
  unfold exactP
  unfold prefixP at QP
  generalize signsL p.data.toList = l at *
  have hy : (plainL l).length = (strL (plainL l)).size := hz.symm
  rw [hy]
  generalize strL (plainL l) = t at *
  have hpl := plain_len l
  have ht : t.size ≤ 1048576 := by omega
  clear hz hy hpl
  generalize hn : l.length = n at *
  by_cases hlt : t.size < n
  all_goals
    first | rw [if_pos hlt] | rw [if_neg hlt]
    go_enter Try.func9, Try.ntmps9
    go_wp2_with fail
    refine (QP.out _).mono ?_
    rintro e w1 ⟨rfl, hb⟩
    have HB := hide hb
    clear hb QP
    go_wp2_with fail
    refine (QE.out _).mono ?_
    rintro e w2 ⟨A, c, rfl, hS, hb2⟩
    rw [hn] at hS ⊢
    have HB2 := hide (Bel.then HB.out hb2)
    clear hb2 QE hS hn
    go_wp2_with fail
    go_ret2
    exact ⟨rfl, HB2.out⟩
end Go.Proofs.Ytcojhpfnehfppaa
