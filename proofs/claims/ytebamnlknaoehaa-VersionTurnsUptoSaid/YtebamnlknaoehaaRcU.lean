/- The contract of the reference's reading of a value. -/
import Derived.Test.YtebamnlknaoehaaRcT
namespace Go.Proofs.Ytebamnlknaoehaa
set_option linter.unusedVariables false
open Go.ChangeShapes Go.WideShapes Go.ChangeAt Go.RowKit

theorem extract_take (s : ByteArray) (i j : Nat) (hij : i ≤ j) : (s.extract i j).data.toList = (s.data.toList.drop i).take (j - i) := by
  rw [ByteArray.data_extract, Array.toList_extract, List.extract_eq_take_drop]
set_option maxRecDepth 100000 in
set_option maxHeartbeats 2000000 in
theorem rtake_c (s : ByteArray) (a : Nat) (w : World) (ha : a ≤ s.size) (hm : s.size ≤ 1048576) :
    Calls Try.prog 45 #[.string s, .int .i64 a] w (ReadsT s w (takeG (s.data.toList.drop a))) := by
  by_cases hlt : a < s.size
  · rw [drop_str hlt, takeG_cons]
    have hx : ¬ (s.size : Int) ≤ a := by omega
    have hc := s[a].toNat_lt
    generalize hn : s[a].toNat = z at *
    have HN := hide hn
    clear hn
    have hg : ((s[a].toNat : Nat) : Int) = z := by rw [HN.out]
    have hz : (z = 0) ∨ (z = 1) ∨ (z = 2) ∨ (z = 3) ∨ (((z : Int) == 0) = false ∧ ((z : Int) == 1) = false ∧ ((z : Int) == 2) = false ∧ ((z : Int) == 3) = false ∧ z ≠ 0 ∧ z ≠ 1 ∧ z ≠ 2 ∧ z ≠ 3) := by
      by_cases h0 : z = 0
      · exact .inl h0
      · by_cases h1 : z = 1
        · exact .inr (.inl h1)
        · by_cases h2 : z = 2
          · exact .inr (.inr (.inl h2))
          · by_cases h3 : z = 3
            · exact .inr (.inr (.inr (.inl h3)))
            · right; right; right; right
              simp [h0, h1, h2, h3]
              omega
    rcases hz with rfl | rfl | rfl | rfl | ⟨z0, z1, z2, z3, n0, n1, n2, n3⟩
    · rw [if_pos rfl]
      go_enter Try.func45, Try.ntmps45
      go_wp2_with fail
      exact end_val3 Try.results45 rfl rfl (vbox_new w null) rfl rfl ⟨a + 1, by go_num, Bel.one _ _, rfl, hlt⟩
    · rw [if_neg (by omega), if_pos rfl]
      by_cases h1 : a + 1 < s.size
      · rw [drop_str h1, boolG_cons]
        have hb := s[a + 1].toNat_lt
        generalize hn1 : s[a + 1].toNat = y at *
        have HN1 := hide hn1
        clear hn1
        have hg1 : ((s[a + 1].toNat : Nat) : Int) = y := by rw [HN1.out]
        by_cases hy : y ≤ 1
        · rw [if_pos hy]
          have QB := hide (fun (b : Bool) W => rbool_c b W)
          have hy2 : y = 0 ∨ y = 1 := by omega
          rcases hy2 with rfl | rfl
          all_goals
            go_enter Try.func45, Try.ntmps45
            go_wp2_with fail
            refine (QB.out _ _).mono ?_
            rintro e w3 ⟨rfl, hb3⟩
            have HX3 := hide (VBox.kept (vbox_new w null) hb3)
            have HB3 := hide (Bel.then (Bel.one w _) hb3)
            obtain ⟨k0, k1, k2, y0, y1, y2⟩ := HX3.out.all
            simp only [null] at k0 k1 k2
            unfold valAgg
            clear hb3 QB
            go_wp2_with fail
            exact end_val3 Try.results45 rfl rfl (HX3.out.set3 1 _ _) rfl rfl ⟨a + 2, by go_num, below_set3 HB3.out (Nat.le_refl _) _ _ _, rfl, by omega⟩
        · rw [if_neg hy]
          go_enter Try.func45, Try.ntmps45
          go_wp2_with fail
          exact end_val3 Try.results45 rfl rfl (vbox_new w null) rfl rfl ⟨rfl, Bel.one _ _⟩
      · rw [drop_end (by omega)]
        have hx1 : (s.size : Int) ≤ (a : Int) + 1 := by omega
        go_enter Try.func45, Try.ntmps45
        go_wp2_with fail
        exact end_val3 Try.results45 rfl rfl (vbox_new w null) rfl rfl ⟨rfl, Bel.one _ _⟩
    · rw [if_neg (by omega), if_neg (by omega), if_pos rfl]
      unfold intG
      have hlen : (s.data.toList.drop (a + 1)).length = s.size - (a + 1) := by rw [List.length_drop, str_len]
      by_cases h9 : a + 9 ≤ s.size
      · rw [if_neg (by omega)]
        have he : (s.extract (a + 1) (a + 9)).data.toList = (s.data.toList.drop (a + 1)).take 8 := by rw [extract_take s _ _ (by omega), show a + 9 - (a + 1) = 8 by omega]
        have h8 : (s.extract (a + 1) (a + 9)).size = 8 := by rw [← str_len, he, List.length_take]; omega
        have QN := hide (fun W => rnumber_c (s.extract (a + 1) (a + 9)) W h8)
        rw [he] at QN
        have hd : (s.data.toList.drop (a + 1)).drop 8 = s.data.toList.drop (a + 9) := by rw [List.drop_drop]
        rw [hd]
        generalize numB ((s.data.toList.drop (a + 1)).take 8) = n at *
        have hsl : ∀ W, (Instr.slice 9 (.string s) (some (.int .i64 ((a : Int) + 1))) (some (.int .i64 ((a : Int) + 9))) none).run Try.prog W = .ok (.string (s.extract (a + 1) (a + 9))) W := fun W => by
          rw [run_slice_string (P := Try.prog) W 9 s .i64 .i64 ((a : Int) + 1) ((a : Int) + 9) Try.underlying9 (by omega) (by omega) (by omega)]
          have e1 : ((a : Int) + 1).toNat = a + 1 := by omega
          have e2 : ((a : Int) + 9).toNat = a + 9 := by omega
          rw [e1, e2]
        generalize s.extract (a + 1) (a + 9) = t at *
        have QI := hide (fun W => rnumIn_c n W)
        have QM := hide (fun W => rnum_c n W)
        have hx9 : ¬ (s.size : Int) < (a : Int) + 9 := by omega
        clear he h8 hd hlen
        cases hb : inN n
        · rw [hb] at QI
          rw [if_neg (by simp)]
          clear hb
          go_enter Try.func45, Try.ntmps45
          go_wp2_with fail
          refine (QN.out _).mono ?_
          rintro e w1 ⟨rfl, rfl⟩
          go_wp2_with fail
          refine (QI.out _).mono ?_
          rintro e w1 ⟨rfl, rfl⟩
          go_wp2_with fail
          exact end_val3 Try.results45 rfl rfl (vbox_new w null) rfl rfl ⟨rfl, Bel.one _ _⟩
        · rw [hb] at QI
          rw [if_pos rfl]
          clear hb
          go_enter Try.func45, Try.ntmps45
          go_wp2_with fail
          refine (QN.out _).mono ?_
          rintro e w1 ⟨rfl, rfl⟩
          go_wp2_with fail
          refine (QI.out _).mono ?_
          rintro e w1 ⟨rfl, rfl⟩
          go_wp2_with fail
          refine (QM.out _).mono ?_
          rintro e w3 ⟨rfl, hb3⟩
          have HX3 := hide (VBox.kept (vbox_new w null) hb3)
          have HB3 := hide (Bel.then (Bel.one w _) hb3)
          obtain ⟨k0, k1, k2, y0, y1, y2⟩ := HX3.out.all
          simp only [null] at k0 k1 k2
          unfold valAgg
          clear hb3 QN QI QM
          go_wp2_with fail
          exact end_val3 Try.results45 rfl rfl (HX3.out.set3 2 _ _) rfl rfl ⟨a + 9, by go_num, below_set3 HB3.out (Nat.le_refl _) _ _ _, rfl, h9⟩
      · rw [if_pos (by omega)]
        have hx9 : (s.size : Int) < (a : Int) + 9 := by omega
        go_enter Try.func45, Try.ntmps45
        go_wp2_with fail
        exact end_val3 Try.results45 rfl rfl (vbox_new w null) rfl rfl ⟨rfl, Bel.one _ _⟩
    · rw [if_neg (by omega), if_neg (by omega), if_neg (by omega), if_pos rfl]
      have QT := hide (fun W => rtext_c s (a + 1) W hlt hm)
      have hcast : (((a + 1 : Nat) : Int)) = (a : Int) + 1 := by omega
      rw [hcast] at QT
      generalize strG (s.data.toList.drop (a + 1)) = x at *
      go_enter Try.func45, Try.ntmps45
      go_wp2_with fail
      refine (QT.out _).mono ?_
      intro e w3 h3
      have h4 : ∃ (v : ValV) (y z : Int), e = .returned (.tuple #[valAgg v, .int .i64 y, .int .i64 z]) ∧ Below (w.heap.size + 1) (w.alloc (.cells #[.int .i64 0, .int .i64 0, .string { data := #[] }] 49)) w3 ∧ ∀ w4, Below w.heap.size w w4 → ReadsT s w x (.returned (.tuple #[valAgg v, .int .i64 y, .int .i64 z])) w4 := by
        match x, h3 with
        | .bad c, ⟨he, hb⟩ => exact ⟨null, 0, c, he, by rw [World.size_alloc] at hb; exact hb, fun w4 h => ⟨rfl, h⟩⟩
        | .val v r, ⟨a', he, hb, hd, ha'⟩ => exact ⟨v, a', 0, he, by rw [World.size_alloc] at hb; exact hb, fun w4 h => ⟨a', rfl, h, hd, ha'⟩⟩
      clear h3
      obtain ⟨⟨vk, vn, vs⟩, y, z, rfl, hb3, hnext⟩ := h4
      have hb3' : Below (w.alloc (.cells #[.int .i64 0, .int .i64 0, .string { data := #[] }] 49)).heap.size (w.alloc (.cells #[.int .i64 0, .int .i64 0, .string { data := #[] }] 49)) w3 := by rw [World.size_alloc]; exact hb3
      have HX3 := hide (VBox.kept (vbox_new w null) hb3')
      have HB3 := hide (Bel.then (Bel.one w _) hb3')
      have HNX := hide hnext
      obtain ⟨k0, k1, k2, y0, y1, y2⟩ := HX3.out.all
      simp only [null] at k0 k1 k2
      unfold valAgg
      clear hb3 hb3' hnext QT
      go_wp2_with fail
      exact end_val3 Try.results45 rfl rfl (HX3.out.set3 vk vn vs) rfl rfl (HNX.out _ (below_set3 HB3.out (Nat.le_refl _) _ _ _))
    · rw [if_neg n0, if_neg n1, if_neg n2, if_neg n3]
      clear n0 n1 n2 n3
      go_enter Try.func45, Try.ntmps45
      go_wp2_with fail
      exact end_val3 Try.results45 rfl rfl (vbox_new w null) rfl rfl ⟨rfl, Bel.one _ _⟩
  · rw [drop_end (by omega)]
    have hx : (s.size : Int) ≤ a := by omega
    go_enter Try.func45, Try.ntmps45
    go_wp2_with fail
    exact end_val3 Try.results45 rfl rfl (vbox_new w null) rfl rfl ⟨rfl, Bel.one _ _⟩
end Go.Proofs.Ytebamnlknaoehaa
