/- The contracts of the reference's meant and Find. -/
import Derived.Test.YtjbnhaiiedajjaaDoorFind
import Derived.Test.YtjbnhaiiedajjaaDoorLib2
namespace Go.Proofs.YtjbnhaiiedajjaaDoor
set_option linter.unusedVariables false
open Go.ChangeShapes Go.WideShapes Go.ChangeAt Go.RowKit

theorem int_info : (Tryd.prog.info? 3).map (fun i => (i.zero, i.size, i.bytes)) = some (some (.int .i64 0), 1, 8) := by kernel_rfl
def natsV (l : List Nat) : List Value := l.map fun k : Nat => .int .i64 (k : Int)
theorem natsV_map (l : List Nat) : natsV l = (l.map fun k : Nat => (k : Int)).map (.int .i64) := by unfold natsV; rw [List.map_map]; rfl
set_option maxHeartbeats 1000000 in
theorem meant_c (A : Option Addr) (N C : Nat) (cs : List ColV) (t n : ByteArray) (w : World) (h : ColsAt w w.heap.size A N C cs) (hm : N ≤ 1048576) :
    Calls Tryd.prog 18 #[.slice A N C, .string t, .string n] w fun e w' => GivesInts w (placesF (meansB t n) 0 cs).length ((placesF (meansB t n) 0 cs).map fun k : Nat => (k : Int)) e w' := by
  obtain ⟨i0, hi0, hz0, hz1, hz2⟩ := info_parts int_info
  have hm1 := h.cap
  have HC := hide h
  clear h
  go_enter Tryd.func18, Tryd.ntmps18
  go_wp2
  go_loopw [7, 8] (fun o i wr => ∃ j : Nat, j ≤ N ∧ i = .int .i64 j ∧ Hid (wr.ownsRow w.heap.size 3 1 o (placesF (meansB t n) 0 (cs.take j)).length (natsV (placesF (meansB t n) 0 (cs.take j)))) ∧ Hid (Below w.heap.size w wr)) (fun _ i _ => N - (intOf i).toNat)
  case atStart => exact ⟨0, Nat.zero_le _, rfl, World.ownsRow_lit w #[] 0 (Nat.le_refl _) (by simp [maxLen]) (by simp), (Below.refl _ _).alloc (Nat.le_refl _) _⟩
  case round =>
    obtain ⟨j, hj, rfl, HO, HB⟩ := hrel
    by_cases hjt : j < N
    · obtain ⟨b2, off2, c, rfl, hb2, hc, hc0, hc1, hc2⟩ := (HC.out.below HB.out).col hjt
      have hst := places_at (meansB t n) hc
      have hL : (placesF (meansB t n) 0 (cs.take j)).length ≤ j := Nat.le_trans (places_len _ _ _) (List.length_take_le _ _)
      generalize placesF (meansB t n) 0 (cs.take j) = L at *
      generalize hnx : placesF (meansB t n) 0 (cs.take (j + 1)) = L2 at *
      rcases (show (meansB t n c = false ∧ (c.nam.toList == n.toList) = false) ∨ (meansB t n c = true ∧ (c.nam.toList == n.toList) = true ∧ t.toList.isEmpty = true) ∨ (meansB t n c = true ∧ (c.nam.toList == n.toList) = true ∧ t.toList.isEmpty = false ∧ (c.tab.toList == t.toList) = true) ∨ (meansB t n c = false ∧ (c.nam.toList == n.toList) = true ∧ t.toList.isEmpty = false ∧ (c.tab.toList == t.toList) = false) by unfold meansB; cases (c.nam.toList == n.toList) <;> cases t.toList.isEmpty <;> cases (c.tab.toList == t.toList) <;> simp) with ⟨hp, h1⟩ | ⟨hp, h1, h2⟩ | ⟨hp, h1, h2, h3⟩ | ⟨hp, h1, h2, h3⟩
      all_goals
        rw [hp] at hst
        simp only [if_true, if_false, Bool.false_eq_true, List.append_nil] at hst
        have HST := hide hst
        have HNX := hide hnx
        clear hst hnx hc hp
        go_wp2_with (
          at_builtin
          refine wpList_app rfl (.tmp 36) (.tmp 38) 30 rfl w.heap.size 3 i0 _ 1 8 Tryd.underlying30 hi0 hz0 hz1 hz2 rfl (by omega) u7 L.length _ rfl (HO.out.alloc _) _ _ 1 1 [.int .i64 j] rfl rfl (cells_lit wr #[.int .i64 j] 3) (by simp [Value.oneCell']) (by simp only [maxLen]; omega) (by omega) (by have := HB.out.size; simp; omega) (by simp) ?_
          intro v1 w1 hown1 hg1 hat1
          have HB1 := hide (((Below.refl w.heap.size wr).alloc HB.out.size (.cells #[.int .i64 j] 3)).grown hg1 (by have := HB.out.size; simp; omega) (fun k hk => (HO.out.lt k hk).1))
          have HO1 := hide hown1
          clear hown1 hg1 hat1)
        go_roundw
        case rel =>
          refine ⟨j + 1, by omega, by go_num, ?_, ?_⟩
          · show World.ownsRow _ _ _ _ _ _ _
            rw [HNX.out, HST.out]
            first | exact HO.out | (have := HO1.out; simpa [natsV] using this)
          · first | exact HB | exact HB.out.trans HB1.out
        case measure => simp [intOf]; omega
    · have hjn : cs.take j = cs := List.take_of_length_le (by have := HC.out.len; omega)
      rw [hjn] at HO
      clear hjn
      go_wp2
      obtain ⟨A, c, rfl, hnc, hA, hC⟩ := own_form HO.out
      go_ret
      refine ⟨A, c, rfl, ⟨by simp, by rw [← natsV_map]; exact hC⟩, HB.out, ?_⟩
      intro ad e
      subst e
      exact (HO.out.lt ad.block rfl).1
end Go.Proofs.YtjbnhaiiedajjaaDoor
