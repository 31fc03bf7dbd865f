/- The contract of the reference's New. -/
import Derived.Test.YtdfpmjfnlcccaaaDkK
import Derived.Deep.RegionLaw
namespace Go.Proofs.Ytdfpmjfnlcccaaa
set_option linter.unusedVariables false
open Go.ChangeShapes Go.WideShapes Go.ChangeAt Go.RowKit

theorem own_box_ne {w : World} {B q : Nat} {v u : Value} {l : List ByteArray} {x : Int} {z : Bool} (ho : OwnS w B v l) (hx : DBox w q u x z) : some q ≠ v.ownBlock := by
  rcases ho.2 with ⟨rfl, _⟩ | ⟨g, cap, cur, rfl, _, _⟩
  · simp [Value.ownBlock]
  · intro e
    have e2 : q = g := by simpa [Value.ownBlock] using e
    exact box_row_ne ho hx e2
theorem own_low {w : World} {B : Nat} {v : Value} {l : List ByteArray} (ho : OwnS w B v l) : ∀ k, v.ownBlock = some k → B ≤ k := fun k hk => (ho.lt k hk).1
set_option maxRecDepth 100000 in
set_option maxHeartbeats 2000000 in
theorem rNew_c (n : Int) (w : World) : Calls Try.prog 8 #[.int .i64 n] w (GivesD w (newD n)) := by
  obtain ⟨i0, hi0, hz0, hz1, hz2⟩ := info_parts str_info
  by_cases hbad : n < 1 ∨ 65536 < n
  · rw [newD_bad hbad]
    rcases (show n < 1 ∨ (¬ n < 1 ∧ 65536 < n) by omega) with g | ⟨g, g2⟩
    all_goals
      clear hbad
      go_enter Try.func8, Try.ntmps8
      go_wp2_with fail
      exact end_disk2 Try.results8 rfl rfl (dbox_new w (.slice none 0 0) 0 false) rfl ⟨_, rfl, own_nil _ _, Bel.one _ _⟩
  · obtain ⟨m, rfl⟩ : ∃ m : Nat, n = (m : Int) := ⟨n.toNat, by omega⟩
    have h1 : 1 ≤ m := by omega
    have h2 : m ≤ 65536 := by omega
    rw [newD_ok h1 h2]
    have g : ¬ (m : Int) < 1 := by omega
    have g2 : ¬ 65536 < (m : Int) := by omega
    have QZ := hide (fun W => zeros_c W)
    clear hbad
    generalize zeroS = z at *
    have HT := hide (dbox_two w (.slice none 0 0) (.slice none 0 0) 0 (-1) false false)
    have HB2 := hide (Bel.alloc (Bel.one w (.cells #[.slice none 0 0, .int .i64 0, .bool false] 25)) (.cells #[.slice none 0 0, .int .i64 (-1), .bool false] 25))
    go_enter Try.func8, Try.ntmps8
    go_upto_region 4 with (fail)
    generalize (w.alloc (.cells #[.slice none 0 0, .int .i64 0, .bool false] 25)).alloc (.cells #[.slice none 0 0, .int .i64 (-1), .bool false] 25) = w2 at *
    have X2 := hide HT.out.2
    have R2 := hide HT.out.1
    clear HT g g2
    go_wp2_with fail
    go_loopw [5] (fun i wr => ∃ k : Nat, ∃ v : Value, k ≤ m ∧ i = .int .i64 k ∧ Hid (DBox wr (w.heap.size + 1) v (-1) false) ∧ Hid (OwnS wr w.heap.size v (List.replicate k z)) ∧ Hid (DBox wr w.heap.size (.slice none 0 0) 0 false) ∧ Hid (Below w.heap.size w wr)) (fun i _ => m - (intOf i).toNat)
    case atStart => exact ⟨0, .slice none 0 0, Nat.zero_le _, rfl, X2, own_nil _ _, R2, HB2⟩
    case round =>
      obtain ⟨k, v, hk, rfl, HX, HO, HR, HB⟩ := hrel
      clear X2 R2 HB2
      obtain ⟨A, c, rfl, _⟩ := HO.out.sl
      rw [List.length_replicate] at HX HO
      have hwk : IntKind.i64.wrap ((k : Int) + 1) = (k : Int) + 1 := IntWalk.i64_in _ (by omega)
      obtain ⟨c0, c1, c2, f0, f1, f2⟩ := HX.out.cells
      by_cases hlt : k < m
      · have HXd := hide (show DBox wr.drew (w.heap.size + 1) (.slice A k c) (-1) false from HX.out)
        have HRd := hide (show DBox wr.drew w.heap.size (.slice none 0 0) 0 false from HR.out)
        have HOd := hide (show OwnS wr.drew w.heap.size (.slice A k c) (List.replicate k z) from HO.out)
        have HBd := hide (show Below w.heap.size w wr.drew from HB.out.drew)
        go_wp2_with fail
        go_region_law (first
          | (refine step_append_lies _ rfl (.tmp 20) (.tmp 22) 23 rfl w.heap.size 9 i0 _ 1 16 Try.underlying23 hi0 hz0 hz1 hz2 rfl (by omega) (.slice A k c) k ((List.replicate k z).map stC).flatten (by simp [Act.eval]) (by have := O5.out.alloc (.cells #[.string z] 9); unfold OwnS at this; rw [List.length_replicate] at this; exact this) ⟨w5.heap.size, 0, none⟩ 1 1 [.string z] (by simp [Act.eval]) rfl (by intro j u hj; match j, hj with | 0, hj => injection hj with hj; subst hj; exact cell_of_row _ _ 0 _ _ _ (heap_alloc_new w5 _) | j + 1, hj => simp at hj) (by simp [Value.oneCell']) (by omega) (by simp only [maxLen]; omega) (by omega) (Bel.alloc B5.out _).size _ rfl ?_; intro g cap w7 hown hg hat hglt; have X7 := hide ((X5.out.alloc (.cells #[.string z] 9)).grown hg (own_box_ne (O5.out.kept (Bel.one w5 (.cells #[.string z] 9))) (X5.out.alloc (.cells #[.string z] 9)))); have R7 := hide ((R5.out.alloc (.cells #[.string z] 9)).grown hg (own_box_ne (O5.out.kept (Bel.one w5 (.cells #[.string z] 9))) (R5.out.alloc (.cells #[.string z] 9)))); have B7 := hide (own_grown (Bel.alloc B5.out (.cells #[.string z] 9)) hg (own_low O5.out)); have O7 := hide hown; obtain ⟨b0, b1, b2, q0, q1, q2⟩ := X7.out.cells; clear hown hg hat)
          | (go_simp; go_at_call 25; refine (QZ.out _).mono ?_; rintro e w5 ⟨rfl, hb5⟩; have X5 := hide (HXd.out.kept hb5); have R5 := hide (HRd.out.kept hb5); have O5 := hide (HOd.out.kept hb5); have B5 := hide (Bel.then HBd.out hb5); obtain ⟨d0, d1, d2, p0, p1, p2⟩ := X5.out.cells; have hl5 : w.heap.size + 1 < w5.heap.size := X5.out.lt))
        all_goals
          have OX := hide (show OwnS w7 w.heap.size (.slice (some ⟨g, 0, none⟩) (k + 1) cap) (List.replicate (k + 1) z) by
            have := O7.out
            unfold OwnS
            rw [List.length_replicate, List.replicate_succ', List.map_append, List.flatten_append]
            exact this)
          have XX := hide (X7.out.set0 (.slice (some ⟨g, 0, none⟩) (k + 1) cap))
          have RX := hide (R7.out.far (p := ⟨w.heap.size + 1, 0, none⟩) (show w.heap.size ≠ w.heap.size + 1 by omega) (.slice (some ⟨g, 0, none⟩) (k + 1) cap))
          have OX2 := hide (OX.out.far (p := ⟨w.heap.size + 1, 0, none⟩) X7.out (.slice (some ⟨g, 0, none⟩) (k + 1) cap))
          have BX := hide (B7.out.setCell (p := ⟨w.heap.size + 1, 0, none⟩) (Nat.le_succ _) (.slice (some ⟨g, 0, none⟩) (k + 1) cap))
          clear X5 R5 O5 B5 X7 R7 O7 B7 OX HXd HRd HOd HBd QZ
          go_wp2_with fail
          go_roundw
          case rel => exact ⟨k + 1, _, by omega, by go_num, XX, OX2, RX, BX⟩
          case measure => simp [intOf]; omega
      · obtain rfl : k = m := by omega
        obtain ⟨e0, e1, e2, k0, k1, k2⟩ := HR.out.cells
        go_wp2_with fail
        refine end_disk2 Try.results8 rfl rfl (HR.out.set3 _ _ _) rfl ?_
        exact ⟨_, rfl, HO.out.far3 HR.out _ _ _, below_set3 HB.out (Nat.le_refl _) _ _ _⟩
end Go.Proofs.Ytdfpmjfnlcccaaa
