/- The contract of keycode.Get. -/
import Derived.Test.YtiealokabmjfjaaKcC
namespace Go.Proofs.Ytiealokabmjfjaa
set_option linter.unusedVariables false
open Go.ChangeShapes Go.WideShapes Go.ChangeAt Go.RowKit

def getK : Nat → List UInt8 → Option (List ValV)
  | _, [] => some []
  | 0, _ :: _ => none
  | f + 1, c :: l => if (firstN (c :: l)).2 = 0 ∨ rightP (firstN (c :: l)).1 = false then none else (getK f ((c :: l).drop (firstN (c :: l)).2)).map ((firstN (c :: l)).1 :: ·)
def sizeV' : Value → Nat | .string s => s.size | _ => 0
/-- What Get gives. -/
def GivesO (w : World) (x : Option (List ValV)) (e : Ending) (w' : World) : Prop := ∃ A c, e = .returned (.tuple #[.slice A (x.getD []).length c, .bool x.isSome]) ∧ RowAt w' w'.heap.size A (x.getD []).length c (x.getD []) ∧ Below w.heap.size w w'
theorem value_info : (Try.prog.info? 39).map (fun i => (i.zero, i.size, i.bytes)) = some (some (.agg #[.int .i64 0, .int .i64 0, .string .empty]), 3, 32) := by kernel_rfl
theorem valCells_len (v : ValV) : (valCells v).length = 3 := rfl
theorem index_some_pos (l : List UInt8) : (firstN l).2 ≤ l.length := by
  match l with
  | [] => decide
  | k :: r =>
    rw [firstN_cons, List.length_cons]
    have h1 := index_len r 0
    have h2 := Lib.indexByte_ge r 0
    split
    · simp
    · split
      · match r with
        | [] => simp
        | b :: r => simp
      · split
        · split
          · simp; omega
          · simp
        · split
          · split
            · simp
            · simp; omega
          · simp
theorem firstN_str (l : List UInt8) : (firstN l).1.str.size ≤ l.length := by
  match l with
  | [] => decide
  | k :: r =>
    rw [firstN_cons, List.length_cons]
    split
    · exact Nat.zero_le _
    · split
      · match r with
        | [] => exact Nat.zero_le _
        | b :: r => exact Nat.zero_le _
      · split
        · split
          · exact Nat.zero_le _
          · exact Nat.zero_le _
        · split
          · split
            · exact Nat.zero_le _
            · show (r.take _).toArray.size ≤ _
              rw [List.size_toArray, List.length_take]
              omega
          · exact Nat.zero_le _
set_option maxRecDepth 100000 in
set_option maxHeartbeats 2000000 in
theorem getK_c (s : ByteArray) (w : World) (hm : s.size ≤ 2000000000) : Calls Try.prog 8 #[.string s] w (GivesO w (getK s.size s.data.toList)) := by
  obtain ⟨i0, hi0, hz0, hz1, hz2⟩ := info_parts value_info
  generalize hx : getK s.size s.data.toList = X
  have HX := hide hx
  clear hx
  go_enter Try.func8, Try.ntmps8
  go_wp2_with fail
  go_loopw [0, 4] (fun z u wr => ∃ (f : Nat) (t : ByteArray) (vs : List ValV), z = .string t ∧ t.size ≤ f ∧ f + vs.length ≤ s.size ∧ Hid (Below w.heap.size w wr ∧ (getK f t.data.toList).map (vs ++ ·) = X ∧ wr.ownsRow w.heap.size 39 3 u vs.length (vs.map valCells).flatten)) (fun z _ _ => sizeV' z)
  case atStart => exact ⟨s.size, s, [], rfl, Nat.le_refl _, by simp, ⟨Below.refl _ _, by rw [HX.out]; cases X <;> rfl, World.ownsRow_nil _ _ _ _⟩⟩
  case round =>
    clear HX
    obtain ⟨f, t, vs, rfl, htf, hfv, HI⟩ := hrel
    have htl := str_len t
    by_cases ht : 0 < t.size
    · obtain ⟨hb, hX, hown⟩ := HI.out
      have Q := hide (first_c t wr ht (by omega))
      obtain ⟨f, rfl⟩ : ∃ f', f = f' + 1 := ⟨f - 1, by omega⟩
      have hd : t.data.toList = t[0] :: t.data.toList.drop 1 := by
        have := drop_at (str_get ht)
        rwa [List.drop_zero] at this
      have hstep : getK (f + 1) t.data.toList = if (firstN t.data.toList).2 = 0 ∨ rightP (firstN t.data.toList).1 = false then none else (getK f (t.data.toList.drop (firstN t.data.toList).2)).map ((firstN t.data.toList).1 :: ·) := by
        rw [hd]
        rfl
      rw [hstep] at hX
      have hne : ¬ ((t.toList == []) = true) := by
        rw [ByteArray.toList_eq, beq_iff_eq]
        intro e
        rw [e] at htl
        simp at htl
        omega
      have hne2 : (t.toList == []) = false := by simpa using hne
      have hnl := index_some_pos t.data.toList
      have hstr := firstN_str t.data.toList
      generalize firstN t.data.toList = x at *
      obtain ⟨⟨vk, vn, vz⟩, n⟩ := x
      unfold GivesF valAgg at Q
      simp only at Q hnl hX hstr
      have HB := hide hb
      have HO := hide hown
      clear hb hown hstep hd hne HI
      by_cases hn0 : n = 0
      · subst hn0
        have hX2 : none = X := by rw [← hX]; simp
        subst hX2
        clear hX
        go_wp2_with fail
        refine Q.out.mono ?_
        rintro e w2 ⟨rfl, hb2⟩
        have HB2 := hide (HB.out.trans (hb2.mono HB.out.size))
        clear hb2 Q HB HO
        go_wp2_with fail
        go_ret2
        exact ⟨none, 0, rfl, SlAt.empty _ _ _ _, HB2.out.alloc HB2.out.size _⟩
      · have hn0' : ((n : Int) == 0) = false := by rw [beq_eq_false_iff_ne]; omega
        have QR := hide (fun W => right_c vk vn vz W (by unfold maxLen; omega))
        have hrp : rightP ⟨vk, vn, vz⟩ = rightV vk vn vz := rfl
        rw [hrp] at hX
        generalize rightV vk vn vz = p at *
        clear hrp
        cases p
        · have hX2 : none = X := by rw [← hX]; simp
          subst hX2
          clear hX
          go_wp2_with fail
          refine Q.out.mono ?_
          rintro e w2 ⟨rfl, hb2⟩
          have HB2 := hide (HB.out.trans (hb2.mono HB.out.size))
          clear hb2 Q HB HO
          go_wp2_with fail
          refine (QR.out _).mono ?_
          rintro e w3 ⟨rfl, hb3⟩
          have HB3 := hide ((HB2.out.alloc HB2.out.size (.cells #[.int .i64 vk, .int .i64 vn, .string vz] 39)).trans (hb3.mono (by rw [World.size_alloc]; have := HB2.out.size; omega)))
          clear hb3 HB2 QR
          go_wp2_with fail
          go_ret2
          exact ⟨none, 0, rfl, SlAt.empty _ _ _ _, HB3.out⟩
        · have hX2 : ((getK f (t.data.toList.drop n)).map ((⟨vk, vn, vz⟩ : ValV) :: ·)).map (vs ++ ·) = X := by rw [← hX, if_neg (by simp [hn0])]
          have HX2 := hide hX2
          clear hX hX2
          have hsl : ∀ W, (Instr.slice 9 (.string t) (some (.int .i64 (n : Int))) none none).run Try.prog W = .ok (.string (t.extract n t.size)) W := fun W => by
            rw [run_slice_string_l (P := Try.prog) W 9 t Try.underlying9 .i64 (n : Int) (by omega) (by omega)]
            rfl
          have hrl : (t.extract n t.size).data.toList = t.data.toList.drop n := by
            rw [ByteArray.data_extract, Array.toList_extract, List.extract_eq_take_drop, List.take_of_length_le (by rw [List.length_drop]; omega)]
          have hrz : (t.extract n t.size).size = t.size - n := by rw [← str_len, hrl, List.length_drop, htl]
          rw [← hrl] at HX2
          generalize t.extract n t.size = t2 at *
          clear hrl
          go_wp2_with fail
          refine Q.out.mono ?_
          rintro e w2 ⟨rfl, hb2⟩
          have HB2 := hide (HB.out.trans (hb2.mono HB.out.size))
          have HO2 := hide (own_below HO.out hb2)
          have HV2 := hide (vbox_new w2 ⟨vk, vn, vz⟩)
          clear hb2 Q HB HO
          go_wp2_with fail
          refine (QR.out _).mono ?_
          rintro e w3 ⟨rfl, hb3⟩
          have HB3 := hide ((HB2.out.alloc HB2.out.size (.cells #[.int .i64 vk, .int .i64 vn, .string vz] 39)).trans (hb3.mono (by rw [World.size_alloc]; have := HB2.out.size; omega)))
          have HO3 := hide (own_below (HO2.out.alloc (.cells #[.int .i64 vk, .int .i64 vn, .string vz] 39)) hb3)
          obtain ⟨k0, k1, k2⟩ := (HV2.out.kept hb3).cells
          simp only at k0 k1 k2
          clear hb3 HB2 QR HO2 HV2
          go_wp2_with (at_builtin; refine wpList_app rfl (.tmp 21) (.tmp 23) 23 rfl w.heap.size 39 i0 _ 3 32 Try.underlying23 hi0 hz0 hz1 hz2 rfl (by omega) u4 vs.length _ rfl (HO3.out.alloc _) _ _ 1 1 (valCells ⟨vk, vn, vz⟩) rfl rfl (cells_lit w3 #[.int .i64 vk, .int .i64 vn, .string vz] 39) (by simp [valCells, Value.oneCell']) (by simp only [maxLen]; omega) (by omega) (by have := HB3.out.size; simp; omega) (by simp) ?_; intro v4 w4 hown4 hg4 hat4)
          have HB4 := hide ((HB3.out.alloc HB3.out.size (.cells #[.int .i64 vk, .int .i64 vn, .string vz] 39)).grown hg4 (by have := HB3.out.size; rw [World.size_alloc]; omega) (fun k hk => (HO3.out.lt k hk).1))
          have HO4 := hide hown4
          clear hown4 hg4 hat4 HB3 HO3 k0 k1 k2
          go_wp2_with fail
          go_roundw
          case rel => exact ⟨f, t2, vs ++ [⟨vk, vn, vz⟩], rfl, by omega, by simp; omega, ⟨HB4.out, by rw [← HX2.out]; cases getK f t2.data.toList <;> simp, by have := HO4.out; simpa using this⟩⟩
          case measure => simp [sizeV']; omega
    · obtain ⟨hb, hX, hown⟩ := HI.out
      have hnil : t.data.toList = [] := List.eq_nil_of_length_eq_zero (by omega)
      have hX2 : some vs = X := by
        rw [← hX, hnil]
        cases f <;> simp [getK]
      subst hX2
      have hte : (t.toList == []) = true := by rw [ByteArray.toList_eq, hnil]; rfl
      obtain ⟨A, c, rfl, hS⟩ := sl_of_own hown valCells_len
      have HS := hide hS
      have HB := hide hb
      clear hX hb hown HI hS
      go_wp2_with fail
      go_ret2
      exact ⟨A, c, rfl, HS.out, HB.out⟩
end Go.Proofs.Ytiealokabmjfjaa
