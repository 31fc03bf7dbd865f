/- The contract of the reference's Text. -/
import Derived.Test.YtammpddkeinijaaDoorValT
namespace Go.Proofs.YtammpddkeinijaaDoor
set_option linter.unusedVariables false
open Go.ChangeShapes Go.WideShapes Go.ChangeAt Go.RowKit

def openQ (l : List UInt8) : ByteArray := ⟨(39 :: quoteL l).toArray⟩
theorem openQ_size (l : List UInt8) : (openQ l).size ≤ 1 + 2 * l.length := by
  have := quoteL_len l
  show ((39 :: quoteL l).toArray.size : Nat) ≤ _
  rw [List.size_toArray, List.length_cons]
  omega
theorem openQ_snoc (l : List UInt8) (c : UInt8) : openQ (l ++ [c]) = if c = 39 then openQ l ++ { data := #[39] } ++ { data := #[c] } else openQ l ++ { data := #[c] } := by
  unfold openQ
  rw [quoteL_app]
  by_cases h : c = 39
  · subst h
    rw [if_pos rfl]
    apply ByteArray.ext
    simp [quoteL, ByteArray.data_append]
  · rw [if_neg h]
    apply ByteArray.ext
    simp [quoteL, h, ByteArray.data_append]
theorem openQ_end (s : ByteArray) : openQ s.data.toList ++ { data := #[39] } = quoteP s := by
  unfold openQ quoteP
  apply ByteArray.ext
  simp [ByteArray.data_append]
theorem slice_one (s : ByteArray) (k : Nat) (h : k < s.size) : s.extract k (k + 1) = { data := #[s[k]] } := by
  apply ByteArray.ext
  apply Array.ext'
  rw [ByteArray.data_extract, Array.toList_extract, List.extract_eq_take_drop, List.drop_eq_getElem_cons (by rw [str_len]; exact h), show k + 1 - k = 1 by omega]
  rfl
theorem pick_one (s : ByteArray) (j : Nat) (h : j < s.size) (hm : s.size ≤ 1048576) (W : World) : (Instr.slice 9 (.string s) (some (.int .i64 j)) (some (.int .i64 ((j : Int) + 1))) none).run Tryd.prog W = .ok (.string { data := #[s[j]] }) W := by
  rw [run_slice_string (P := Tryd.prog) W 9 s .i64 .i64 j ((j : Int) + 1) Tryd.underlying9 (by omega) (by omega) (by omega)]
  rw [show ((j : Int)).toNat = j by omega, show ((j : Int) + 1).toNat = j + 1 by omega, slice_one s j h]
set_option maxRecDepth 100000 in
set_option maxHeartbeats 1000000 in
theorem rtextV_c (v : ValV) (w : World) (hn : -9223372036854775808 ≤ v.num ∧ v.num ≤ 9223372036854775807) (hs : v.str.size ≤ 1048576) :
    Calls Tryd.prog 18 #[valAgg v] w fun e w' => e = .returned (.string (textV v)) ∧ Below w.heap.size w w' := by
  obtain ⟨k, n, s⟩ := v
  unfold valAgg textV
  simp only at *
  rcases (show k = 1 ∨ k = 2 ∨ k = 3 ∨ (¬ k = 1 ∧ ¬ k = 2 ∧ ¬ k = 3) by omega) with rfl | rfl | rfl | ⟨g1, g2, g3⟩
  · rw [if_pos rfl]
    by_cases h0 : n = 0
    · subst h0
      rw [if_pos rfl]
      go_enter Tryd.func18, Tryd.ntmps18
      go_wp2
      go_ret
      exact ⟨rfl, Bel.one _ _⟩
    · rw [if_neg h0]
      have f : (n == 0) = false := by simp [h0]
      clear h0
      go_enter Tryd.func18, Tryd.ntmps18
      go_wp2
      go_ret
      exact ⟨rfl, Bel.one _ _⟩
  · rw [if_neg (by omega), if_pos rfl]
    go_enter Tryd.func18, Tryd.ntmps18
    go_wp2_with fail
    refine (rtext_c n hn.1 hn.2 _).mono ?_
    rintro e w1 ⟨rfl, kk, rfl⟩
    go_wp2_with fail
    go_ret
    exact ⟨rfl, Bel.drewN (Bel.one _ _) _⟩
  · rw [if_neg (by omega), if_neg (by omega), if_pos rfl]
    have hE := openQ_end s
    have hl := str_len s
    have hsI : (s.size : Int) ≤ 1048576 := by omega
    go_enter Tryd.func18, Tryd.ntmps18
    go_wp2
    go_loop [3, 4] (fun o i => ∃ j : Nat, j ≤ s.size ∧ i = .int .i64 j ∧ o = .string (openQ (s.data.toList.take j))) (fun _ i => s.size - (intOf i).toNat)
    case atStart => exact ⟨0, Nat.zero_le _, rfl, rfl⟩
    case round =>
      obtain ⟨j, hj, rfl, rfl⟩ := hrel
      have hz : ((openQ (s.data.toList.take j)).size : Int) ≤ 4194304 := by
        have h1 := openQ_size (s.data.toList.take j)
        have h2 : (s.data.toList.take j).length ≤ j := List.length_take_le _ _
        omega
      by_cases hjt : j < s.size
      · have hst := openQ_snoc (s.data.toList.take j) s[j]
        rw [← str_take s j hjt] at hst
        have hx := fun W => pick_one s j hjt hs W
        generalize openQ (s.data.toList.take j) = o at *
        by_cases hc : s[j] = 39
        · rw [if_pos hc] at hst
          have f : ((s[j].toNat : Int) == 39) = true := by rw [hc]; rfl
          have HS := hide hst
          clear hst hc hE hl
          go_wp2
          go_round
          case rel => exact ⟨j + 1, by omega, by go_num, by rw [HS.out]⟩
          case measure => simp [intOf]; omega
        · rw [if_neg hc] at hst
          have f : ((s[j].toNat : Int) == 39) = false := by
            have : s[j].toNat ≠ 39 := fun e => hc (UInt8.toNat_inj.1 e)
            simp; omega
          have HS := hide hst
          clear hst hc hE hl
          go_wp2
          go_round
          case rel => exact ⟨j + 1, by omega, by go_num, by rw [HS.out]⟩
          case measure => simp [intOf]; omega
      · have e : s.data.toList.take j = s.data.toList := List.take_of_length_le (by omega)
        rw [e] at hz ⊢
        generalize openQ s.data.toList = o at *
        have HE := hide hE
        clear hE e hl
        go_wp2
        go_ret
        exact ⟨by rw [← HE.out]; rfl, Bel.one _ _⟩
  · rw [if_neg g1, if_neg g2, if_neg g3]
    have f1 : (k == 1) = false := by simp [g1]
    have f2 : (k == 2) = false := by simp [g2]
    have f3 : (k == 3) = false := by simp [g3]
    clear g1 g2 g3
    go_enter Tryd.func18, Tryd.ntmps18
    go_wp2
    go_ret
    exact ⟨rfl, Bel.one _ _⟩
end Go.Proofs.YtammpddkeinijaaDoor
