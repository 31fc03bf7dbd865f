/- The contract of the reference: the row of bytes. -/
import Derived.Test.YtiealokabmjfjaaKcS
namespace Go.Proofs.Ytiealokabmjfjaa
set_option linter.unusedVariables false
open Go.ChangeShapes Go.WideShapes Go.ChangeAt Go.RowKit

theorem firstN_le : ∀ l : List UInt8, (firstN l).2 ≤ l.length
  | [] => Nat.le_refl _
  | k :: r => by
    rw [firstN_cons, List.length_cons]
    split
    · exact Nat.succ_le_succ (Nat.zero_le _)
    · split
      · match r with
        | [] => exact Nat.zero_le _
        | _ :: r => show 2 ≤ _; rw [List.length_cons]; omega
      · split
        · split
          · show 9 ≤ _; omega
          · exact Nat.zero_le _
        · split
          · split
            · exact Nat.zero_le _
            · have := index_len r 0
              show (Lib.indexByte r 0).toNat + 2 ≤ _
              omega
          · exact Nat.zero_le _
theorem firstR_le (l : List UInt8) : (firstR l).2 ≤ l.length := by
  unfold firstR
  split
  · exact Nat.zero_le _
  · exact firstN_le l
theorem firstR_str (l : List UInt8) : (firstR l).1.str.size ≤ l.length := by
  unfold firstR
  split
  · exact Nat.zero_le _
  · exact firstN_str l
set_option maxRecDepth 100000 in
set_option maxHeartbeats 2000000 in
theorem rgetK_c (s : ByteArray) (w : World) (hm : s.size ≤ 2000000000) : Calls Try.prog 9 #[.string s] w (GivesO w (getK s.size s.data.toList)) := by
  obtain ⟨i0, hi0, hz0, hz1, hz2⟩ := info_parts value_info
  have hsl0 := str_len s
  generalize hx : getK s.size s.data.toList = X
  have HX := hide hx
  have HB0 := hide (Bel.one w (.cells #[] 39))
  have HO0 := hide (show (w.alloc (.cells #[] 39)).ownsRow w.heap.size 39 3 (.slice (some ⟨w.heap.size, 0, none⟩) 0 0) 0 [] from World.ownsRow_lit w #[] 0 (Nat.le_refl _) (by simp only [maxLen]; omega) rfl)
  clear hx
  go_enter Try.func9, Try.ntmps9
  go_wp2_with fail
  go_loopw [4, 5] (fun u i wr => ∃ (f a : Nat) (vs : List ValV), i = .int .i64 (a : Int) ∧ a ≤ s.size ∧ s.size ≤ a + f ∧ f + vs.length ≤ s.size ∧ Hid (Below w.heap.size w wr ∧ (getK f (s.data.toList.drop a)).map (vs ++ ·) = X ∧ wr.ownsRow w.heap.size 39 3 u vs.length (vs.map valCells).flatten)) (fun _ i _ => s.size - (intOf i).toNat)
  case atStart => exact ⟨s.size, 0, [], rfl, Nat.zero_le _, by omega, by simp, ⟨HB0.out, by rw [List.drop_zero, HX.out]; cases X <;> rfl, HO0.out⟩⟩
  case round =>
    clear HX HB0 HO0
    obtain ⟨f, a, vs, rfl, has, htf, hfv, HI⟩ := hrel
    by_cases ht : a < s.size
    · obtain ⟨hb, hX, hown⟩ := HI.out
      have hsl : ∀ W, (Instr.slice 9 (.string s) (some (.int .i64 (a : Int))) none none).run Try.prog W = .ok (.string (s.extract a s.size)) W := fun W => by
        rw [run_slice_string_l (P := Try.prog) W 9 s Try.underlying9 .i64 (a : Int) (by omega) (by omega)]
        rfl
      have hrl : (s.extract a s.size).data.toList = s.data.toList.drop a := by
        rw [ByteArray.data_extract, Array.toList_extract, List.extract_eq_take_drop, List.take_of_length_le (by rw [List.length_drop]; omega)]
      have htl : (s.extract a s.size).size = s.size - a := by rw [← str_len, hrl, List.length_drop, hsl0]
      have Q := hide (rfirst_c (s.extract a s.size) wr (by omega) (by omega))
      obtain ⟨f, rfl⟩ : ∃ f', f = f' + 1 := ⟨f - 1, by omega⟩
      have hd := drop_at (str_get ht)
      have hstep := getK_R f s[a] (s.data.toList.drop (a + 1))
      rw [← hd] at hstep
      rw [hstep] at hX
      have hle := firstR_le (s.data.toList.drop a)
      have hstr := firstR_str (s.data.toList.drop a)
      rw [List.length_drop, hsl0] at hle hstr
      rw [hrl] at Q
      generalize s.extract a s.size = t at *
      generalize firstR (s.data.toList.drop a) = x at *
      obtain ⟨⟨vk, vn, vz⟩, n⟩ := x
      unfold GivesF valAgg at Q
      simp only at Q hle hX hstr
      have HB := hide hb
      have HO := hide hown
      clear hb hown hstep hd HI hrl htl
      by_cases hn0 : n = 0
      · subst hn0
        have hX2 : none = X := by rw [← hX]; simp
        subst hX2
        clear hX
        go_wp2_with fail
        refine Q.out.mono ?_
        rintro e w2 ⟨rfl, hb2⟩
        have HB2 := hide (HB.out.trans (hb2.mono HB.out.size))
        clear hb2 Q HB HO
        go_wp2_with fail
        go_ret2
        exact ⟨none, 0, rfl, SlAt.empty _ _ _ _, HB2.out.alloc HB2.out.size _⟩
      · have hn0' : ((n : Int) == 0) = false := by rw [beq_eq_false_iff_ne]; omega
        have QR := hide (fun W => rright_c vk vn vz W (by unfold maxLen; omega))
        have hrp : rightP ⟨vk, vn, vz⟩ = rightV vk vn vz := rfl
        rw [hrp] at hX
        generalize rightV vk vn vz = p at *
        clear hrp
        cases p
        · have hX2 : none = X := by rw [← hX]; simp
          subst hX2
          clear hX
          go_wp2_with fail
          refine Q.out.mono ?_
          rintro e w2 ⟨rfl, hb2⟩
          have HB2 := hide (HB.out.trans (hb2.mono HB.out.size))
          clear hb2 Q HB HO
          go_wp2_with fail
          refine (QR.out _).mono ?_
          rintro e w3 ⟨rfl, hb3⟩
          have HB3 := hide ((HB2.out.alloc HB2.out.size (.cells #[.int .i64 vk, .int .i64 vn, .string vz] 39)).trans (hb3.mono (by rw [World.size_alloc]; have := HB2.out.size; omega)))
          clear hb3 HB2 QR
          go_wp2_with fail
          go_ret2
          exact ⟨none, 0, rfl, SlAt.empty _ _ _ _, HB3.out⟩
        · have hX2 : ((getK f ((s.data.toList.drop a).drop n)).map ((⟨vk, vn, vz⟩ : ValV) :: ·)).map (vs ++ ·) = X := by rw [← hX, if_neg (by simp [hn0])]
          rw [List.drop_drop] at hX2
          have HX2 := hide hX2
          have hw : IntKind.i64.wrap ((a : Int) + n) = (a : Int) + n := IntWalk.i64_in _ (by omega)
          clear hX hX2
          go_wp2_with fail
          refine Q.out.mono ?_
          rintro e w2 ⟨rfl, hb2⟩
          have HB2 := hide (HB.out.trans (hb2.mono HB.out.size))
          have HO2 := hide (own_below HO.out hb2)
          have HV2 := hide (vbox_new w2 ⟨vk, vn, vz⟩)
          clear hb2 Q HB HO
          go_wp2_with fail
          refine (QR.out _).mono ?_
          rintro e w3 ⟨rfl, hb3⟩
          have HB3 := hide ((HB2.out.alloc HB2.out.size (.cells #[.int .i64 vk, .int .i64 vn, .string vz] 39)).trans (hb3.mono (by rw [World.size_alloc]; have := HB2.out.size; omega)))
          have HO3 := hide (own_below (HO2.out.alloc (.cells #[.int .i64 vk, .int .i64 vn, .string vz] 39)) hb3)
          obtain ⟨k0, k1, k2⟩ := (HV2.out.kept hb3).cells
          simp only at k0 k1 k2
          clear hb3 HB2 QR HO2 HV2
          go_wp2_with (at_builtin; refine wpList_app rfl (.tmp 27) (.tmp 29) 23 rfl w.heap.size 39 i0 _ 3 32 Try.underlying23 hi0 hz0 hz1 hz2 rfl (by omega) _ vs.length _ rfl (HO3.out.alloc _) _ _ 1 1 (valCells ⟨vk, vn, vz⟩) rfl rfl (cells_lit w3 #[.int .i64 vk, .int .i64 vn, .string vz] 39) (by simp [valCells, Value.oneCell']) (by simp only [maxLen]; omega) (by omega) (by have := HB3.out.size; simp; omega) (by simp) ?_; intro v4 w4 hown4 hg4 hat4)
          have HB4 := hide ((HB3.out.alloc HB3.out.size (.cells #[.int .i64 vk, .int .i64 vn, .string vz] 39)).grown hg4 (by have := HB3.out.size; rw [World.size_alloc]; omega) (fun k hk => (HO3.out.lt k hk).1))
          have HO4 := hide hown4
          clear hown4 hg4 hat4 HB3 HO3 k0 k1 k2
          go_wp2_with fail
          go_roundw
          case rel => exact ⟨f, a + n, vs ++ [⟨vk, vn, vz⟩], by go_num, by omega, by omega, by simp; omega, ⟨HB4.out, by rw [← HX2.out]; cases getK f (s.data.toList.drop (a + n)) <;> simp, by have := HO4.out; simpa using this⟩⟩
          case measure => simp [intOf]; omega
    · obtain ⟨hb, hX, hown⟩ := HI.out
      obtain rfl : a = s.size := by omega
      have hnil : s.data.toList.drop s.size = [] := List.drop_of_length_le (by omega)
      have hX2 : some vs = X := by
        rw [← hX, hnil]
        cases f <;> simp [getK]
      subst hX2
      obtain ⟨A, c, rfl, hS⟩ := sl_of_own hown valCells_len
      have HS := hide hS
      have HB := hide hb
      clear hX hb hown HI hS
      go_wp2_with fail
      go_ret2
      exact ⟨A, c, rfl, HS.out, HB.out⟩
end Go.Proofs.Ytiealokabmjfjaa
