/- The walks of RowcodeBack, RowcodeCut. -/
import Derived.Test.YtfkccmkggggpbaaRcY
namespace Go.Proofs.Ytfkccmkggggpbaa
set_option linter.unusedVariables false
open Go.ChangeShapes Go.WideShapes Go.ChangeAt Go.RowKit

theorem strL_empty_ne {l : List UInt8} (h : l ≠ []) : strL l ≠ { data := #[] } := by
  intro e
  have := congrArg (fun s => s.data.toList) e
  exact h this
theorem bytes_ne (r : List ValV) : bytesR r ≠ [] := by unfold bytesR; simp
theorem toList_strL (l : List UInt8) : (strL l).toList = l := by rw [ByteArray.toList_eq]; rfl
set_option maxHeartbeats 2000000 in
theorem back_w (A B : Option Addr) (n c m d : Nat) (r s : List ValV) (w : World) (h : RowAt w w.heap.size A n c r) (h2 : RowAt w w.heap.size B m d s) (hn : n ≤ 1048576) (hm : m ≤ 1048576) (hr : ∀ a ∈ r, OkV a) (hs : ∀ a ∈ s, OkV a) :
    Calls Try.prog 5 #[.slice A n c, .slice B m d] w fun e w' => e = .returned (.bool true) ∧ Below w.heap.size w w' := by
  have QA := hide (fun W => awake_c W)
  have Q1 := hide (putR_c A n c r w h hn hr)
  have Q2 := hide (fun (W : World) (hW : Below w.heap.size w W) => putR_c B m d s W (h2.kept hW) hm hs)
  have QR := hide (fun (W : World) (hW : Below w.heap.size w W) => rights_c A n c r W (h.kept hW) hn hr)
  have QS := hide (fun (W : World) (hW : Below w.heap.size w W) => sizeR_c A n c r W (h.kept hW) hn hr)
  have HA := hide h
  have HB := hide h2
  have hlen := h.len
  clear h h2 hr hs
  rcases putG_cases r with ⟨ho, hp⟩ | ⟨hf, hp⟩ | ⟨ht, hno, hp⟩
  · rw [hp] at Q1
    rw [sizeR_ok ho] at QS
    have h32 := ho.len
    have h400 := ho.size
    have hb1 := bytes_ne r
    have hz : (strL (bytesR r)).size = (bytesR r).length := strL_size _
    have QG := hide (fun W => getR_c (strL (bytesR r)) W (by rw [hz]; omega))
    rw [strL_toList, get_put ho] at QG
    -- the three cases of the other row
    have hcase : Hid ((∃ x1 x2, putG s = (x1, x2) ∧ (x1 = 1 ∨ x1 = 4)) ∨ (OkR s ∧ putG s = (0, bytesR s))) := by
      rcases putG_cases s with ⟨ho, hp⟩ | ⟨hf, hp⟩ | ⟨ht, hno, hp⟩
      · exact .inr ⟨ho, hp⟩
      · exact .inl ⟨1, [], hp, .inl rfl⟩
      · exact .inl ⟨4, [], hp, .inr rfl⟩
    have hn32 : n ≤ 32 := by omega
    rcases hcase with ⟨x1, x2, hx, hx1⟩ | ⟨ho2, hp2⟩
    · rw [hx] at Q2
      unfold GivesP at Q1 Q2
      simp only at Q1 Q2
      generalize strL x2 = t2 at *
      generalize strL (bytesR r) = t at *
      rw [← hz] at QS h400
      clear hp hx hz hb1 ho
      rcases hx1 with rfl | rfl
      all_goals
        go_enter Try.func5, Try.ntmps5
        go_wp2_with fail
        refine Q1.out.mono ?_
        rintro e w1 ⟨rfl, hb⟩
        have HB1 := hide hb
        clear hb
        go_wp2_with fail
        refine (Q2.out _ HB1.out).mono ?_
        rintro e w2 ⟨rfl, hb⟩
        have HB2 := hide (Bel.then HB1.out hb)
        clear hb HB1
        go_wp2_with fail
        refine (QG.out _).mono ?_
        rintro e w3 ⟨A3, c3, rfl, hr3, hb⟩
        have HB3 := hide (Bel.then HB2.out hb)
        have QO := hide (orders_c A3 A _ c3 n c r r w3 hr3 (HA.out.kept HB3.out))
        rw [cmpR_refl, hlen] at QO
        clear hb HB2 hr3
        go_wp2_with fail
        refine QO.out.mono ?_
        rintro e w4 ⟨rfl, hb⟩
        have HB4 := hide (Bel.then HB3.out hb)
        clear hb HB3 QO
        go_wp2_with fail
        refine (QS.out _ HB4.out).mono ?_
        rintro e w5 ⟨rfl, hb⟩
        have HB5 := hide (Bel.then HB4.out hb)
        clear hb HB4
        go_wp2_with fail
        refine (QA.out _).mono ?_
        rintro e w6 ⟨rfl, hb⟩
        have HB6 := hide (Bel.then HB5.out hb)
        clear hb HB5
        go_wp2_with fail
        go_ret
        exact ⟨rfl, HB6.out⟩
    · rw [hp2] at Q2
      have hinj := bytes_inj ho ho2
      have hzero := @cmpR_zero r s
      unfold GivesP at Q1 Q2
      simp only at Q1 Q2
      have hq : ∃ b : Bool, Hid (((strL (bytesR r)).toList == (strL (bytesR s)).toList) = b) ∧ Hid ((cmpR r s == 0) = b) := by
        haveI : Decidable (r = s) := Classical.propDecidable _
        refine ⟨decide (r = s), ?_, ?_⟩
        · show (_ == _) = _
          rw [toList_strL, toList_strL, Bool.eq_iff_iff, decide_eq_true_eq, beq_iff_eq]
          exact hinj
        · show (_ == _) = _
          rw [Bool.eq_iff_iff, decide_eq_true_eq, beq_iff_eq]
          exact hzero
      obtain ⟨b, hb1', hb2'⟩ := hq
      generalize strL (bytesR s) = t2 at *
      generalize strL (bytesR r) = t at *
      rw [← hz] at QS h400
      have hbt : (t.toList == t2.toList) = b := hb1'.out
      have QO2 := hide (fun (W : World) (hW : Below w.heap.size w W) => orders_c A B n c m d r s W (HA.out.kept hW) (HB.out.kept hW))
      generalize cmpR r s = y at *
      have hby : (y == 0) = b := hb2'.out
      clear hp hz hb1 ho ho2 hp2 hinj hzero hb1' hb2'
      go_enter Try.func5, Try.ntmps5
      go_wp2_with fail
      refine Q1.out.mono ?_
      rintro e w1 ⟨rfl, hb⟩
      have HB1 := hide hb
      clear hb
      go_wp2_with fail
      refine (Q2.out _ HB1.out).mono ?_
      rintro e w2 ⟨rfl, hb⟩
      have HB2 := hide (Bel.then HB1.out hb)
      clear hb HB1
      go_wp2_with fail
      refine (QG.out _).mono ?_
      rintro e w3 ⟨A3, c3, rfl, hr3, hb⟩
      have HB3 := hide (Bel.then HB2.out hb)
      have QO := hide (orders_c A3 A _ c3 n c r r w3 hr3 (HA.out.kept HB3.out))
      rw [cmpR_refl, hlen] at QO
      clear hb HB2 hr3
      go_wp2_with fail
      refine QO.out.mono ?_
      rintro e w4 ⟨rfl, hb⟩
      have HB4 := hide (Bel.then HB3.out hb)
      clear hb HB3 QO
      go_wp2_with fail
      refine (QS.out _ HB4.out).mono ?_
      rintro e w5 ⟨rfl, hb⟩
      have HB5 := hide (Bel.then HB4.out hb)
      clear hb HB4
      go_wp2_with fail
      refine (QA.out _).mono ?_
      rintro e w6 ⟨rfl, hb⟩
      have HB6 := hide (Bel.then HB5.out hb)
      clear hb HB5
      go_wp2_with fail
      refine (QO2.out _ HB6.out).mono ?_
      rintro e w7 ⟨rfl, hb⟩
      have HB7 := hide (Bel.then HB6.out hb)
      clear hb HB6
      go_wp2_with fail
      go_ret
      exact ⟨rfl, HB7.out⟩
  · rw [hp] at Q1
    rw [hf] at QR
    unfold GivesP strL at Q1
    simp only at Q1
    go_enter Try.func5, Try.ntmps5
    go_wp2_with fail
    refine Q1.out.mono ?_
    rintro e w1 ⟨rfl, hb⟩
    have HB1 := hide hb
    clear hb
    go_wp2_with fail
    refine (Q2.out _ HB1.out).mono ?_
    rintro e w2 ⟨rfl, hb⟩
    have HB2 := hide (Bel.then HB1.out hb)
    clear hb HB1
    go_wp2_with fail
    refine (QA.out _).mono ?_
    rintro e w6 ⟨rfl, hb⟩
    have HB6 := hide (Bel.then HB2.out hb)
    clear hb HB2
    go_wp2_with fail
    refine (QR.out _ HB6.out).mono ?_
    rintro e w7 ⟨rfl, hb⟩
    have HB7 := hide (Bel.then HB6.out hb)
    clear hb HB6
    go_wp2_with fail
    go_ret
    exact ⟨rfl, HB7.out⟩
  · rw [hp] at Q1
    rw [ht] at QR
    unfold GivesP strL at Q1
    simp only at Q1
    go_enter Try.func5, Try.ntmps5
    go_wp2_with fail
    refine Q1.out.mono ?_
    rintro e w1 ⟨rfl, hb⟩
    have HB1 := hide hb
    clear hb
    go_wp2_with fail
    refine (Q2.out _ HB1.out).mono ?_
    rintro e w2 ⟨rfl, hb⟩
    have HB2 := hide (Bel.then HB1.out hb)
    clear hb HB1
    go_wp2_with fail
    refine (QA.out _).mono ?_
    rintro e w6 ⟨rfl, hb⟩
    have HB6 := hide (Bel.then HB2.out hb)
    clear hb HB2
    go_wp2_with fail
    refine (QR.out _ HB6.out).mono ?_
    rintro e w7 ⟨rfl, hb⟩
    have HB7 := hide (Bel.then HB6.out hb)
    clear hb HB6
    go_wp2_with fail
    go_ret
    exact ⟨rfl, HB7.out⟩
theorem cut_at (l : List UInt8) (k : Nat) (h : k < l.length) : (strL l).extract 0 k = strL (l.take k) := by
  apply ByteArray.ext
  apply Array.ext'
  rw [ByteArray.data_extract, Array.toList_extract, List.extract_eq_take_drop]
  show (l.drop 0).take (k - 0) = l.take k
  simp
set_option maxHeartbeats 1000000 in
theorem cut_w (A : Option Addr) (n c : Nat) (r : List ValV) (cut more : Int) (w : World) (h : RowAt w w.heap.size A n c r) (hn : n ≤ 1048576) (hr : ∀ a ∈ r, OkV a) (hc0 : 0 ≤ cut) (hc1 : cut < 65536) (hm0 : 0 ≤ more) (hm1 : more < 256) :
    Calls Try.prog 7 #[.slice A n c, .int .u16 cut, .int .u8 more] w fun e w' => e = .returned (.bool true) ∧ Below w.heap.size w w' := by
  have QA := hide (fun W => awake_c W)
  have Q1 := hide (putR_c A n c r w h hn hr)
  clear h hr
  rcases putG_cases r with ⟨ho, hp⟩ | ⟨hf, hp⟩ | ⟨ht, hno, hp⟩
  · rw [hp] at Q1
    have h400 := ho.size
    have hne := bytes_ne r
    have hlen : 0 < (bytesR r).length := List.length_pos_iff.2 hne
    have hz : (strL (bytesR r)).size = (bytesR r).length := strL_size _
    obtain ⟨k, hk⟩ : ∃ k : Nat, cut % ((bytesR r).length : Int) = k := ⟨(cut % ((bytesR r).length : Int)).toNat, by have := Int.emod_nonneg cut (b := ((bytesR r).length : Int)) (by omega); omega⟩
    have hkl : k < (bytesR r).length := by have := Int.emod_lt_of_pos cut (b := ((bytesR r).length : Int)) (by omega); omega
    have QG := hide (fun W => getR_c (strL ((bytesR r).take k)) W (by rw [strL_size, List.length_take]; omega))
    rw [strL_toList, get_cut ho (List.take_append_drop k (bytesR r)).symm (by intro e; have := congrArg List.length e; rw [List.length_drop] at this; simp at this; omega)] at QG
    have QM := hide (fun W => getR_c (strL (bytesR r) ++ strOfNums [more]) W (by rw [ByteArray.size_append, hz, strOf_one]; omega))
    have hml : (strL (bytesR r) ++ strOfNums [more]).data.toList = bytesR r ++ [byteOf more] := by
      rw [strL_app]
      rfl
    rw [hml, get_more ho] at QM
    have hsl : ∀ W, (Instr.slice 9 (.string (strL (bytesR r))) none (some (.int .i64 k)) none).run Try.prog W = .ok (.string (strL ((bytesR r).take k))) W := fun W => by
      rw [← cut_at (bytesR r) k hkl, run_slice_string_h (P := Try.prog) W 9 _ Try.underlying9 .i64 (k : Int) (by omega) (by omega)]
      rfl
    have hcv := fun W => conv_one more W
    have hz1 : ((strOfNums [more]).size : Int) ≤ 8388608 := by rw [strOf_one]; omega
    have hz2 : ((strL (bytesR r)).size : Int) ≤ 8388608 := by omega
    have hte : ((strL (bytesR r)).toList == []) = false := by rw [toList_strL, beq_eq_false_iff_ne]; exact hne
    rw [← hz] at hk
    have hzp : (0 : Int) < (strL (bytesR r)).size := by omega
    unfold GivesP at Q1
    simp only at Q1
    rw [← hz] at QM h400
    generalize strL ((bytesR r).take k) = t0 at *
    generalize hx : strL (bytesR r) ++ strOfNums [more] = tm at *
    have HX := hide hx
    generalize strL (bytesR r) = t at *
    generalize strOfNums [more] = u at *
    clear hp hz hml hkl hx hlen hne ho
    by_cases h4 : t.size < 400
    · rw [if_pos h4] at QM
      go_enter Try.func7, Try.ntmps7
      go_wp2_with fail
      refine Q1.out.mono ?_
      rintro e w1 ⟨rfl, hb⟩
      have HB1 := hide hb
      clear hb
      go_wp2_with fail
      refine (QG.out _).mono ?_
      rintro e w2 ⟨A2, c2, rfl, _, hb⟩
      have HB2 := hide (Bel.then HB1.out hb)
      clear hb HB1
      simp only [List.length_nil]
      go_wp2_with fail
      rw [HX.out]
      refine (QM.out _).mono ?_
      rintro e w3 ⟨A3, c3, rfl, _, hb⟩
      have HB3 := hide (Bel.then (Bel.alloc HB2.out _) hb)
      clear hb HB2
      simp only [List.length_nil]
      go_wp2_with fail
      refine (QA.out _).mono ?_
      rintro e w6 ⟨rfl, hb⟩
      have HB6 := hide (Bel.then HB3.out hb)
      clear hb HB3
      go_wp2_with fail
      go_ret
      exact ⟨rfl, HB6.out⟩
    · rw [if_neg h4] at QM
      have h44 : (t.size : Int) = 400 := by omega
      have h45 : ((t.size : Int) == 400) = true := by rw [h44]; rfl
      clear h44
      go_enter Try.func7, Try.ntmps7
      go_wp2_with fail
      refine Q1.out.mono ?_
      rintro e w1 ⟨rfl, hb⟩
      have HB1 := hide hb
      clear hb
      go_wp2_with fail
      refine (QG.out _).mono ?_
      rintro e w2 ⟨A2, c2, rfl, _, hb⟩
      have HB2 := hide (Bel.then HB1.out hb)
      clear hb HB1
      simp only [List.length_nil]
      go_wp2_with fail
      rw [HX.out]
      refine (QM.out _).mono ?_
      rintro e w3 ⟨A3, c3, rfl, _, hb⟩
      have HB3 := hide (Bel.then (Bel.alloc HB2.out _) hb)
      clear hb HB2
      simp only [List.length_nil]
      go_wp2_with fail
      refine (QA.out _).mono ?_
      rintro e w6 ⟨rfl, hb⟩
      have HB6 := hide (Bel.then HB3.out hb)
      clear hb HB3
      go_wp2_with fail
      go_ret
      exact ⟨rfl, HB6.out⟩
  all_goals
    rw [hp] at Q1
    unfold GivesP strL at Q1
    simp only at Q1
    go_enter Try.func7, Try.ntmps7
    go_wp2_with fail
    refine Q1.out.mono ?_
    rintro e w1 ⟨rfl, hb⟩
    have HB1 := hide hb
    clear hb
    go_wp2_with fail
    refine (QA.out _).mono ?_
    rintro e w6 ⟨rfl, hb⟩
    have HB6 := hide (Bel.then HB1.out hb)
    clear hb HB1
    go_wp2_with fail
    go_ret
    exact ⟨rfl, HB6.out⟩
end Go.Proofs.Ytfkccmkggggpbaa
