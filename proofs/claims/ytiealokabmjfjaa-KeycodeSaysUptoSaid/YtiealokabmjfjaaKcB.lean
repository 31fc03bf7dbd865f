/- Contracts: what stands behind a text; the order of two texts. -/
import Derived.Test.YtiealokabmjfjaaKcA
import Derived.Test.YtiealokabmjfjaaMk
import Derived.BigRegion
namespace Go.Proofs.Ytiealokabmjfjaa
set_option linter.unusedVariables false
open Go.ChangeShapes Go.WideShapes Go.ChangeAt Go.RowKit

def afterK : List UInt8 → Option (List UInt8)
  | [] => none
  | c :: l => match afterK l with
    | some m => some (c :: m)
    | none => if c = 255 then none else some [c + 1]
theorem after_all : ∀ l : List UInt8, (∀ b ∈ l, b = 255) → afterK l = none
  | [], _ => rfl
  | c :: l, h => by
    rw [afterK, after_all l (fun b hb => h b (List.mem_cons_of_mem _ hb))]
    simp [h c List.mem_cons_self]
theorem after_app : ∀ (p : List UInt8) (c : UInt8) (t : List UInt8), c ≠ 255 → (∀ b ∈ t, b = 255) → afterK (p ++ c :: t) = some (p ++ [c + 1])
  | [], c, t, hc, ht => by
    rw [List.nil_append, afterK, after_all t ht]
    simp [hc]
  | b :: p, c, t, hc, ht => by
    rw [List.cons_append, afterK, after_app p c t hc ht]
    rfl
/-- What After gives. -/
def GivesA (w : World) (x : Option (List UInt8)) (e : Ending) (w' : World) : Prop := e = .returned (.tuple #[.string (strL (x.getD [])), .bool x.isSome]) ∧ Below w.heap.size w w'
theorem drop_all {l : List UInt8} {K : Nat} {c : UInt8} (hM : l[K]? = some c) (hc : c = 255) (h : ∀ b ∈ l.drop (K + 1), b = 255) : ∀ b ∈ l.drop K, b = 255 := by
  rw [drop_at hM]
  intro b hb
  rcases List.mem_cons.1 hb with rfl | hb
  · exact hc
  · exact h b hb
theorem conv_one (x : Int) : ∀ W : World, (convert 43 9 (.slice (some ⟨W.heap.size, 0, none⟩) 1 1)).run Try.prog (W.alloc (.cells #[.int .u8 x] 5)) = .ok (.string (strOfNums [x])) (W.alloc (.cells #[.int .u8 x] 5)) := fun W => conv_c W [x] 5
theorem str_get {s : ByteArray} {k : Nat} (h : k < s.size) : s.data.toList[k]? = some s[k] := by
  rw [List.getElem?_eq_getElem (by rw [str_len]; exact h)]
  rfl
theorem strL_app (l : List UInt8) (s : ByteArray) : strL l ++ s = strL (l ++ s.data.toList) := by
  apply ByteArray.ext
  simp [strL, ByteArray.data_append]
theorem take_extract (s : ByteArray) (k : Nat) : s.extract 0 k = strL (s.data.toList.take k) := by
  apply ByteArray.ext
  apply Array.ext'
  rw [ByteArray.data_extract, Array.toList_extract, List.extract_eq_take_drop]
  show (s.data.toList.drop 0).take (k - 0) = _
  simp [strL]
set_option maxRecDepth 100000 in
set_option maxHeartbeats 1000000 in
theorem after_c (s : ByteArray) (w : World) (hm : s.size ≤ 2000000000) : Calls Try.prog 10 #[.string s] w (GivesA w (afterK s.data.toList)) := by
  have hl := str_len s
  go_enter Try.func10, Try.ntmps10
  go_wp2_with fail
  go_loop [4] (fun i => ∃ K : Nat, K ≤ s.size ∧ i = .int .i64 K ∧ Hid (∀ b ∈ s.data.toList.drop K, b = 255)) (fun i => (intOf i).toNat)
  case atStart => exact ⟨s.size, Nat.le_refl _, rfl, by rw [List.drop_of_length_le (by omega)]; intro b hb; cases hb⟩
  case round =>
    obtain ⟨K, hK, rfl, HA⟩ := hrel
    rcases Nat.eq_zero_or_pos K with rfl | hpos
    · have hx : afterK s.data.toList = none := after_all _ (by have := HA.out; rwa [List.drop_zero] at this)
      rw [hx]
      go_wp2
      go_ret2
      exact ⟨rfl, Below.refl _ _⟩
    · obtain ⟨M, rfl⟩ : ∃ M, K = M + 1 := ⟨K - 1, by omega⟩
      have hMs : M < s.size := by omega
      have hw : IntKind.i64.wrap (((M + 1 : Nat) : Int) - 1) = M := by rw [IntWalk.i64_in _ (by omega)]; omega
      have hgt : (0 : Int) < ((M + 1 : Nat) : Int) := by omega
      have hM1 : ((M + 1 : Nat) : Int) - 1 = M := by omega
      by_cases hc : s[M] = 255
      · have HA2 := hide (drop_all (str_get hMs) hc HA.out)
        have hcn : ((s[M].toNat : Int) == 255) = true := by rw [hc]; rfl
        clear HA hc
        go_wp2
        go_round
        case rel => exact ⟨M, by omega, by go_num, HA2⟩
        case measure => simp [intOf]; try omega
      · have hcn : ((s[M].toNat : Int) == 255) = false := by
          rw [beq_eq_false_iff_ne]
          intro e
          exact hc (UInt8.toNat_inj.1 (by have : s[M].toNat = 255 := by omega
                                          rw [this]; rfl))
        have hxe : afterK s.data.toList = some (s.data.toList.take M ++ [s[M] + 1]) := by
          have h1 : s.data.toList = s.data.toList.take M ++ s[M] :: s.data.toList.drop (M + 1) := by
            conv => lhs; rw [← List.take_append_drop M s.data.toList]
            rw [drop_at (str_get hMs)]
          conv => lhs; rw [h1]
          exact after_app _ _ _ hc HA.out
        have HXE := hide hxe
        have hlt255 : s[M].toNat < 255 := by
          have h1 := s[M].toNat_lt
          have h2 : (s[M].toNat : Int) ≠ 255 := by rw [beq_eq_false_iff_ne] at hcn; exact hcn
          omega
        have hsl : ∀ W, (Instr.slice 9 (.string s) none (some (.int .i64 (M : Int))) none).run Try.prog W = .ok (.string (strL (s.data.toList.take M))) W := fun W => by
          rw [← take_extract s M, run_slice_string_h (P := Try.prog) W 9 _ Try.underlying9 .i64 (M : Int) (by omega) (by omega)]
          rfl
        have hcv : ∀ W : World, (convert 43 9 (.slice (some ⟨W.heap.size, 0, none⟩) 1 1)).run Try.prog (W.alloc (.cells #[.int .u8 ((s[M].toNat : Int) + 1)] 5)).drew = .ok (.string (strOfNums [(s[M].toNat : Int) + 1])) (W.alloc (.cells #[.int .u8 ((s[M].toNat : Int) + 1)] 5)).drew := fun W => conv_one ((s[M].toNat : Int) + 1) W.drew
        have hcat : strL (s.data.toList.take M) ++ strOfNums [(s[M].toNat : Int) + 1] = strL (s.data.toList.take M ++ [s[M] + 1]) := by
          rw [strL_app]
          have : [byteOf ((s[M].toNat : Int) + 1)] = [s[M] + 1] := by
            congr 1
          rw [← this]
          rfl
        have A1 : ∀ W, (Op.stringOp .add (strL (s.data.toList.take M)) (strOfNums [(s[M].toNat : Int) + 1])).run Try.prog W = .ok (.string (strL (s.data.toList.take M) ++ strOfNums [(s[M].toNat : Int) + 1])) W := fun W => run_string_add_sum W _ _ (by
          have : (strL (s.data.toList.take M)).size ≤ s.size := by show (s.data.toList.take M).toArray.size ≤ _; rw [List.size_toArray, List.length_take]; omega
          have : (strOfNums [(s[M].toNat : Int) + 1]).size = 1 := strOfNums_size _
          omega)
        rw [hcat] at A1
        generalize htt : strL (s.data.toList.take M ++ [s[M] + 1]) = tt at *
        have HTT := hide htt
        generalize strL (s.data.toList.take M) = t0 at *
        generalize strOfNums [(s[M].toNat : Int) + 1] = t1 at *
        clear hcat hxe hc HA htt
        go_wp2_with fail
        go_region
        go_wp2_with fail
        go_ret2
        unfold GivesA
        rw [HXE.out]
        simp only [Option.getD_some, Option.isSome_some]
        exact ⟨by rw [HTT.out]; rfl, (Bel.one _ _).drew⟩
theorem sign_c (s t : ByteArray) (w : World) : Calls Try.prog 17 #[.string s, .string t] w fun e w' => e = .returned (.int .i64 (cmpT s t)) ∧ Below w.heap.size w w' := by
  have Q1 := hide (fun W => str_c s W)
  have Q2 := hide (fun W => str_c t W)
  have Q3 := hide (fun W => order_c ⟨3, 0, s⟩ ⟨3, 0, t⟩ W)
  have hc : cmpV ⟨3, 0, s⟩ ⟨3, 0, t⟩ = cmpT s t := rfl
  rw [hc] at Q3
  unfold valAgg at Q1 Q2 Q3
  simp only at Q1 Q2 Q3
  go_enter Try.func17, Try.ntmps17
  go_wp2_with fail
  refine (Q1.out _).mono ?_
  rintro e w1 ⟨rfl, hb⟩
  have HB1 := hide hb
  clear hb
  go_wp2_with fail
  refine (Q2.out _).mono ?_
  rintro e w2 ⟨rfl, hb⟩
  have HB2 := hide (Bel.then HB1.out hb)
  clear hb HB1
  go_wp2_with fail
  refine (Q3.out _).mono ?_
  rintro e w3 ⟨rfl, hb⟩
  have HB3 := hide (Bel.then HB2.out hb)
  clear hb HB2
  go_wp2_with fail
  go_ret
  exact ⟨rfl, HB3.out⟩
end Go.Proofs.Ytiealokabmjfjaa
