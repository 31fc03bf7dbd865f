/- The contracts of zeros and New. -/
import Derived.Test.YtdfpmjfnlcccaaaDkJ
import Derived.Laws.BytesArg
namespace Go.Proofs.Ytdfpmjfnlcccaaa
set_option linter.unusedVariables false
open Go.ChangeShapes Go.WideShapes Go.ChangeAt Go.RowKit

theorem u8_info : (Try.prog.info? 5).map (fun i => (i.zero, i.size, i.bytes)) = some (some (.int .u8 0), 1, 1) := by kernel_rfl
theorem mk128 (W : World) : (Instr.makeSlice 43 (.int .i64 128) (.int .i64 128)).run Try.prog W = .ok (.slice (some ⟨W.heap.size, 0, none⟩) 128 128) (W.alloc (.cells (madeCells #[.int .u8 0] 128) 5)) :=
  run_make_row' (P := Try.prog) 43 5 (.int .u8 0) 1 Try.underlying43 u8_info rfl .i64 .i64 128 (by omega) (by omega) W
theorem zeroS_nums : strOfNums (List.replicate 128 (0 : Int)) = zeroS := by
  unfold strOfNums zeroS
  rw [List.map_replicate]
  rfl
theorem cvN (N : Nat) (W : World) : (convert 43 9 (.slice (some ⟨W.heap.size, 0, none⟩) N N)).run Try.prog (W.alloc (.cells (madeCells #[.int .u8 0] N) 5)) = .ok (.string (strOfNums (List.replicate N (0 : Int)))) (W.alloc (.cells (madeCells #[.int .u8 0] N) 5)) := by
  refine run_convert_bytes_arg (W.alloc (.cells (madeCells #[.int .u8 0] N) 5)) 43 5 Try.underlying43 Try.underlying5 W.heap.size 0 N N (List.replicate N (0 : Int)) (by rw [List.length_replicate]) ?_ 9 Try.underlying9
  intro i hi
  have hi' : i < N := by simpa using hi
  refine (cell_of_row (W.alloc (.cells (madeCells #[.int .u8 0] N) 5)) W.heap.size (0 + i) _ _ _ (heap_alloc_new W _)).trans ?_
  have h2 : (madeCells #[.int .u8 0] N)[0 + i]? = (madeCells #[.int .u8 0] N).toList[i]? := by rw [Nat.zero_add, Array.getElem?_toList]
  rw [h2, toList_madeCells_one, List.getElem?_replicate, if_pos hi', List.getD_eq_getElem?_getD, List.getElem?_replicate, if_pos hi']
  rfl
theorem cv128 (W : World) : (convert 43 9 (.slice (some ⟨W.heap.size, 0, none⟩) 128 128)).run Try.prog (W.alloc (.cells (madeCells #[.int .u8 0] 128) 5)) = .ok (.string zeroS) (W.alloc (.cells (madeCells #[.int .u8 0] 128) 5)) := by
  rw [← zeroS_nums]
  exact cvN 128 W
theorem zeros_c (w : World) : Calls Try.prog 25 #[] w fun e w' => e = .returned (.string zeroS) ∧ Below w.heap.size w w' := by
  have h1 := fun W => mk128 W
  have h2 := fun W => cv128 W
  generalize zeroS = z at *
  go_enter Try.func25, Try.ntmps25
  go_wp2
  go_ret
  exact ⟨rfl, Bel.one _ _⟩
/-- How far the sectors have been set. -/
def secsAt (m k : Nat) : List ByteArray := List.replicate k zeroS ++ List.replicate (m - k) .empty
theorem secsAt_len {m k : Nat} (h : k ≤ m) : (secsAt m k).length = m := by unfold secsAt; rw [List.length_append, List.length_replicate, List.length_replicate]; omega
theorem secsAt_set {m k : Nat} (h : k < m) : (secsAt m k).set k zeroS = secsAt m (k + 1) := by
  unfold secsAt
  rw [List.set_append_right _ _ (by rw [List.length_replicate]; omega), List.length_replicate, Nat.sub_self, show m - k = (m - (k + 1)) + 1 by omega, List.replicate_succ, List.set_cons_zero, List.replicate_succ']
  simp
theorem secsAt_end (m : Nat) : secsAt m m = List.replicate m zeroS := by unfold secsAt; rw [Nat.sub_self]; simp
theorem newD_bad {n : Int} (h : n < 1 ∨ 65536 < n) : newD n = (⟨[], 0, false⟩, 1) := by unfold newD; rw [if_pos h]
theorem newD_ok {m : Nat} (h1 : 1 ≤ m) (h2 : m ≤ 65536) : newD (m : Int) = (⟨List.replicate m zeroS, -1, false⟩, 0) := by
  unfold newD
  rw [if_neg (by omega)]
  rfl
theorem own_nil (w : World) (B : Nat) : OwnS w B (.slice none 0 0) [] := World.ownsRow_nil _ _ _ _
set_option maxRecDepth 100000 in
set_option maxHeartbeats 1000000 in
theorem New_c (n : Int) (w : World) : Calls Try.prog 7 #[.int .i64 n] w (GivesD w (newD n)) := by
  obtain ⟨i0, hi0, hz0, hz1, hz2⟩ := info_parts str_info
  by_cases hbad : n < 1 ∨ 65536 < n
  · rw [newD_bad hbad]
    rcases (show n < 1 ∨ (¬ n < 1 ∧ 65536 < n) by omega) with g | ⟨g, g2⟩
    all_goals
      clear hbad
      go_enter Try.func7, Try.ntmps7
      go_wp2_with fail
      exact end_disk2 Try.results7 rfl rfl (dbox_new w (.slice none 0 0) 0 false) rfl ⟨_, rfl, own_nil _ _, Bel.one _ _⟩
  · obtain ⟨m, rfl⟩ : ∃ m : Nat, n = (m : Int) := ⟨n.toNat, by omega⟩
    have h1 : 1 ≤ m := by omega
    have h2 : m ≤ 65536 := by omega
    rw [newD_ok h1 h2]
    have g : ¬ (m : Int) < 1 := by omega
    have g2 : ¬ 65536 < (m : Int) := by omega
    have hcv := fun W => cv128 W
    have hmk := fun W => mk128 W
    have hset := hide (fun k (h : k < m) => @secsAt_set m k h)
    have hend := hide (secsAt_end m)
    have hlen := hide (fun k (h : k ≤ m) => @secsAt_len m k h)
    have hs0 : (madeCells (Value.string .empty).cells (m * 1)).toList = ((secsAt m 0).map stC).flatten := by
      rw [stC_flat, Nat.mul_one]
      show (madeCells #[.string .empty] m).toList = _
      rw [toList_madeCells_one]
      unfold secsAt
      simp
    have HS0 := hide hs0
    clear hbad hs0
    generalize zeroS = z at *
    go_enter Try.func7, Try.ntmps7
    go_upto_region 4 with (at_make; refine wpList_make_full _ rfl (.tmp 14) (.tmp 14) 23 rfl w.heap.size 9 i0 _ 1 Try.underlying23 hi0 hz0 hz1 .i64 .i64 m m m rfl rfl rfl rfl (by rw [hz2]; omega) (by unfold maxLen; omega) (by simp) ?_; intro w1 hown1 hg1; have HR1 := hide ((dbox_new w (.slice none 0 0) 0 false).grown hg1 (by simp)); have HB1 := hide (own_grown (Bel.one w _) hg1 (by simp)); have HO1 := hide hown1; clear hown1 hg1)
    have hO := HO1.out
    rw [World.size_alloc, HS0.out] at hO
    have hO2 : OwnS w1 w.heap.size (.slice (some ⟨w.heap.size + 1, 0, none⟩) m m) (secsAt m 0) := by
      unfold OwnS
      rw [hlen.out 0 (by omega)]
      exact hO
    have X2 := hide (dbox_new w1 (.slice (some ⟨w.heap.size + 1, 0, none⟩) m m) (-1) false)
    have O2 := hide (hO2.kept (Bel.one w1 (.cells #[.slice (some ⟨w.heap.size + 1, 0, none⟩) m m, .int .i64 (-1), .bool false] 25)))
    have R2 := hide (HR1.out.alloc (.cells #[.slice (some ⟨w.heap.size + 1, 0, none⟩) m m, .int .i64 (-1), .bool false] 25))
    have B2 := hide (Bel.alloc HB1.out (.cells #[.slice (some ⟨w.heap.size + 1, 0, none⟩) m m, .int .i64 (-1), .bool false] 25))
    have hbx : w.heap.size < w1.heap.size := by have := HR1.out.lt; omega
    generalize hbe : w1.heap.size = bx at *
    generalize w1.alloc (.cells #[.slice (some ⟨w.heap.size + 1, 0, none⟩) m m, .int .i64 (-1), .bool false] 25) = w2 at *
    clear hO hO2 HO1 HR1 HB1 HS0 hbe g g2
    obtain ⟨c0, c1, c2, f0, f1, f2⟩ := X2.out.cells
    have hbl : bx < w2.heap.size := X2.out.lt
    go_wp2_with fail
    have X3 := hide (X2.out.alloc (.cells (madeCells #[.int .u8 0] 128) 5))
    have O3 := hide (O2.out.kept (Bel.one w2 (.cells (madeCells #[.int .u8 0] 128) 5)))
    have R3 := hide (R2.out.alloc (.cells (madeCells #[.int .u8 0] 128) 5))
    have B3 := hide (Bel.alloc B2.out (.cells (madeCells #[.int .u8 0] 128) 5))
    clear hcv hmk X2 O2 R2 B2 c0 c1 c2 f0 f1 f2
    go_loopw [22] (fun i wr => ∃ k : Nat, k ≤ m ∧ i = .int .i64 k ∧ Hid (DBox wr bx (.slice (some ⟨w.heap.size + 1, 0, none⟩) m m) (-1) false) ∧ Hid (OwnS wr w.heap.size (.slice (some ⟨w.heap.size + 1, 0, none⟩) m m) (secsAt m k)) ∧ Hid (DBox wr w.heap.size (.slice none 0 0) 0 false) ∧ Hid (Below w.heap.size w wr)) (fun i _ => m - (intOf i).toNat)
    case atStart => exact ⟨0, Nat.zero_le _, rfl, X3, O3, R3, B3⟩
    case round =>
      obtain ⟨k, hk, rfl, HX, HO, HR, HB⟩ := hrel
      clear X3 O3 R3 B3
      have hwk : IntKind.i64.wrap ((k : Int) + 1) = (k : Int) + 1 := IntWalk.i64_in _ (by omega)
      obtain ⟨c0, c1, c2, f0, f1, f2⟩ := HX.out.cells
      by_cases hlt : k < m
      · obtain ⟨gr, cr, hv, hBr, hcr, hfr⟩ := HO.out.cells k (by rw [hlen.out k hk]; exact hlt)
        injection hv with e1 e2 e3
        injection e1 with e1
        injection e1 with e1 e4
        subst e1
        clear e2 e4
        generalize (secsAt m k)[k]'(by rw [hlen.out k hk]; exact hlt) = z0 at *
        have O4 := hide (show OwnS (wr.setCell ⟨w.heap.size + 1, k, none⟩ (.string z)) w.heap.size (.slice (some ⟨w.heap.size + 1, 0, none⟩) m m) (secsAt m (k + 1)) by rw [← hset.out k hlt]; exact HO.out.put (by rw [hlen.out k hk]; exact hlt) z)
        have X4 := hide (HX.out.far (p := ⟨w.heap.size + 1, k, none⟩) (box_row_ne HO.out HX.out) (.string z))
        have R4 := hide (HR.out.far (p := ⟨w.heap.size + 1, k, none⟩) (box_row_ne HO.out HR.out) (.string z))
        have B4 := hide (HB.out.setCell (p := ⟨w.heap.size + 1, k, none⟩) (by omega) (.string z))
        clear HO HX HR HB hBr e3
        go_wp2_with fail
        go_roundw
        case rel => exact ⟨k + 1, by omega, by go_num, X4, O4, R4, B4⟩
        case measure => simp [intOf]; omega
      · obtain rfl : k = m := by omega
        have hO := HO.out
        rw [hend.out] at hO
        have O4 := hide hO
        obtain ⟨e0, e1, e2, k0, k1, k2⟩ := HR.out.cells
        clear hO HO
        go_wp2_with fail
        refine end_disk2 Try.results7 rfl rfl (HR.out.set3 _ _ _) rfl ?_
        exact ⟨_, rfl, O4.out.far3 HR.out _ _ _, below_set3 HB.out (Nat.le_refl _) _ _ _⟩
end Go.Proofs.Ytdfpmjfnlcccaaa
