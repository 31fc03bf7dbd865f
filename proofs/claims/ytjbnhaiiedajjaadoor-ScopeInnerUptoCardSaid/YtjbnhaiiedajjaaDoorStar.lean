/- The contracts of Star and of the reference's. -/
import Derived.Test.YtjbnhaiiedajjaaDoorMeant
namespace Go.Proofs.YtjbnhaiiedajjaaDoor
set_option linter.unusedVariables false
open Go.ChangeShapes Go.WideShapes Go.ChangeAt Go.RowKit

def starB (t : ByteArray) (c : ColV) : Bool := t.toList.isEmpty || (c.tab.toList == t.toList)
def starE (l : List Nat) : Int := if l.isEmpty then 6 else 0
/-- A slice of numbers, and an error. -/
def GivesIntsE (w : World) (n : Nat) (zs : List Int) (err : Int) (e : Ending) (w' : World) : Prop := ∃ A c, e = .returned (.tuple #[.slice A n c, .int .i64 err]) ∧ Ints w' w'.heap.size A n zs ∧ n ≤ c ∧ Below w.heap.size w w' ∧ FreshA w.heap.size A
set_option maxHeartbeats 1000000 in
theorem star_c (A : Option Addr) (N C : Nat) (cs : List ColV) (t : ByteArray) (w : World) (h : ColsAt w w.heap.size A N C cs) (hm : N ≤ 1048576) :
    Calls Tryd.prog 10 #[.slice A N C, .string t] w fun e w' => GivesIntsE w (placesF (starB t) 0 cs).length ((placesF (starB t) 0 cs).map fun k : Nat => (k : Int)) (starE (placesF (starB t) 0 cs)) e w' := by
  obtain ⟨i0, hi0, hz0, hz1, hz2⟩ := info_parts int_info
  have hm1 := h.cap
  have HC := hide h
  clear h
  go_enter Tryd.func10, Tryd.ntmps10
  go_wp2
  go_loopw [6, 11] (fun o i wr => ∃ j : Nat, j ≤ N ∧ i = .int .i64 j ∧ Hid (wr.ownsRow w.heap.size 3 1 o (placesF (starB t) 0 (cs.take j)).length (natsV (placesF (starB t) 0 (cs.take j)))) ∧ Hid (Below w.heap.size w wr)) (fun _ i _ => N - (intOf i).toNat)
  case atStart => exact ⟨0, Nat.zero_le _, rfl, World.ownsRow_nil _ _ _ _, Below.refl _ _⟩
  case round =>
    obtain ⟨j, hj, rfl, HO, HB⟩ := hrel
    by_cases hjt : j < N
    · obtain ⟨b2, off2, c, rfl, hb2, hc, hc0, hc1, hc2⟩ := (HC.out.below HB.out).col hjt
      have hst := places_at (starB t) hc
      have hL : (placesF (starB t) 0 (cs.take j)).length ≤ j := Nat.le_trans (places_len _ _ _) (List.length_take_le _ _)
      generalize placesF (starB t) 0 (cs.take j) = L at *
      generalize hnx : placesF (starB t) 0 (cs.take (j + 1)) = L2 at *
      rcases (show (starB t c = true ∧ t.toList.isEmpty = true) ∨ (starB t c = true ∧ t.toList.isEmpty = false ∧ (c.tab.toList == t.toList) = true) ∨ (starB t c = false ∧ t.toList.isEmpty = false ∧ (c.tab.toList == t.toList) = false) by unfold starB; cases t.toList.isEmpty <;> cases (c.tab.toList == t.toList) <;> simp) with ⟨hp, h2⟩ | ⟨hp, h2, h3⟩ | ⟨hp, h2, h3⟩
      all_goals
        rw [hp] at hst
        simp only [if_true, if_false, Bool.false_eq_true, List.append_nil] at hst
        have HST := hide hst
        have HNX := hide hnx
        clear hst hnx hc hp
        go_wp2_with (
          at_builtin
          refine wpList_app rfl (.tmp 24) (.tmp 26) 30 rfl w.heap.size 3 i0 _ 1 8 Tryd.underlying30 hi0 hz0 hz1 hz2 rfl (by omega) u6 L.length _ rfl ((HO.out.alloc _).alloc _) _ _ 1 1 [.int .i64 j] rfl rfl (cells_lit2 wr _ #[.int .i64 j] 3) (by simp [Value.oneCell']) (by simp only [maxLen]; omega) (by omega) (by have := HB.out.size; simp; omega) (by simp) ?_
          intro v1 w1 hown1 hg1 hat1
          have HB1 := hide ((((Below.refl w.heap.size wr).alloc HB.out.size _).alloc (by have := HB.out.size; simp; omega) (.cells #[.int .i64 j] 3)).grown hg1 (by have := HB.out.size; simp; omega) (fun k hk => (HO.out.lt k hk).1))
          have HO1 := hide hown1
          clear hown1 hg1 hat1)
        go_roundw
        case rel =>
          refine ⟨j + 1, by omega, by go_num, ?_, ?_⟩
          · show World.ownsRow _ _ _ _ _ _ _
            rw [HNX.out, HST.out]
            first | exact HO.out | exact HO.out.alloc _ | (have := HO1.out; simpa [natsV] using this)
          · first | exact HB | exact HB.out.alloc HB.out.size _ | exact HB.out.trans HB1.out
        case measure => simp [intOf]; omega
    · have hjn : cs.take j = cs := List.take_of_length_le (by have := HC.out.len; omega)
      rw [hjn] at HO
      clear hjn
      generalize hL : placesF (starB t) 0 cs = L at *
      have HL := hide hL
      clear hL
      cases L with
      | nil =>
        obtain ⟨A', c', rfl, _, _, _⟩ := own_form HO.out
        clear HO
        go_wp2
        go_ret2
        refine ⟨none, 0, ?_, ?_, by rw [HL.out]; exact Nat.zero_le _, HB.out, fun ad e => by cases e⟩
        · rw [HL.out]; rfl
        · rw [HL.out]; exact ⟨rfl, Cells.none _ _ _⟩
      | cons i r =>
        have hr1 : (((i :: r).length : Int) == 0) = false := by simp; omega
        have hr2 : (0 : Int) < ((i :: r).length : Int) := by rw [List.length_cons]; omega
        obtain ⟨g, cap, rfl, hnc, hg⟩ := own_some HO.out (by simp)
        have hC := Cells.of_own HO.out
        have hE : starE (i :: r) = 0 := rfl
        have HC1 := hide hC
        generalize hK : (i :: r).length = K at *
        have HK := hide hK
        clear hK hC
        go_wp2
        go_ret2
        refine ⟨some ⟨g, 0, none⟩, cap, ?_, ?_, ?_, HB.out, FreshA.new hg⟩
        · rw [HL.out, hE, HK.out]
          rfl
        · rw [HL.out, HK.out]; exact ⟨by simpa using HK.out, by rw [← natsV_map]; exact HC1.out⟩
        · rw [HL.out, HK.out]; exact hnc
set_option maxHeartbeats 1000000 in
theorem rstar_c (A : Option Addr) (N C : Nat) (cs : List ColV) (t : ByteArray) (w : World) (h : ColsAt w w.heap.size A N C cs) (hm : N ≤ 1048576) :
    Calls Tryd.prog 11 #[.slice A N C, .string t] w fun e w' => GivesIntsE w (placesF (starB t) 0 cs).length ((placesF (starB t) 0 cs).map fun k : Nat => (k : Int)) (starE (placesF (starB t) 0 cs)) e w' := by
  obtain ⟨i0, hi0, hz0, hz1, hz2⟩ := info_parts int_info
  have hm1 := h.cap
  have HC := hide h
  clear h
  go_enter Tryd.func11, Tryd.ntmps11
  go_wp2
  go_loopw [6, 7] (fun o i wr => ∃ j : Nat, j ≤ N ∧ i = .int .i64 j ∧ Hid (wr.ownsRow w.heap.size 3 1 o (placesF (starB t) 0 (cs.take j)).length (natsV (placesF (starB t) 0 (cs.take j)))) ∧ Hid (Below w.heap.size w wr)) (fun _ i _ => N - (intOf i).toNat)
  case atStart => exact ⟨0, Nat.zero_le _, rfl, World.ownsRow_lit w #[] 0 (Nat.le_refl _) (by simp [maxLen]) (by simp), (Below.refl _ _).alloc (Nat.le_refl _) _⟩
  case round =>
    obtain ⟨j, hj, rfl, HO, HB⟩ := hrel
    by_cases hjt : j < N
    · obtain ⟨b2, off2, c, rfl, hb2, hc, hc0, hc1, hc2⟩ := (HC.out.below HB.out).col hjt
      have hst := places_at (starB t) hc
      have hL : (placesF (starB t) 0 (cs.take j)).length ≤ j := Nat.le_trans (places_len _ _ _) (List.length_take_le _ _)
      generalize placesF (starB t) 0 (cs.take j) = L at *
      generalize hnx : placesF (starB t) 0 (cs.take (j + 1)) = L2 at *
      rcases (show (starB t c = true ∧ t.toList.isEmpty = true) ∨ (starB t c = true ∧ t.toList.isEmpty = false ∧ (c.tab.toList == t.toList) = true) ∨ (starB t c = false ∧ t.toList.isEmpty = false ∧ (c.tab.toList == t.toList) = false) by unfold starB; cases t.toList.isEmpty <;> cases (c.tab.toList == t.toList) <;> simp) with ⟨hp, h2⟩ | ⟨hp, h2, h3⟩ | ⟨hp, h2, h3⟩
      all_goals
        rw [hp] at hst
        simp only [if_true, if_false, Bool.false_eq_true, List.append_nil] at hst
        have HST := hide hst
        have HNX := hide hnx
        clear hst hnx hc hp
        go_wp2_with (
          at_builtin
          refine wpList_app rfl (.tmp 26) (.tmp 28) 30 rfl w.heap.size 3 i0 _ 1 8 Tryd.underlying30 hi0 hz0 hz1 hz2 rfl (by omega) u6 L.length _ rfl (HO.out.alloc _) _ _ 1 1 [.int .i64 j] rfl rfl (cells_lit wr #[.int .i64 j] 3) (by simp [Value.oneCell']) (by simp only [maxLen]; omega) (by omega) (by have := HB.out.size; simp; omega) (by simp) ?_
          intro v1 w1 hown1 hg1 hat1
          have HB1 := hide (((Below.refl w.heap.size wr).alloc HB.out.size (.cells #[.int .i64 j] 3)).grown hg1 (by have := HB.out.size; simp; omega) (fun k hk => (HO.out.lt k hk).1))
          have HO1 := hide hown1
          clear hown1 hg1 hat1)
        go_roundw
        case rel =>
          refine ⟨j + 1, by omega, by go_num, ?_, ?_⟩
          · show World.ownsRow _ _ _ _ _ _ _
            rw [HNX.out, HST.out]
            first | exact HO.out | exact HO.out.alloc _ | (have := HO1.out; simpa [natsV] using this)
          · first | exact HB | exact HB.out.alloc HB.out.size _ | exact HB.out.trans HB1.out
        case measure => simp [intOf]; omega
    · have hjn : cs.take j = cs := List.take_of_length_le (by have := HC.out.len; omega)
      rw [hjn] at HO
      clear hjn
      generalize hL : placesF (starB t) 0 cs = L at *
      have HL := hide hL
      clear hL
      cases L with
      | nil =>
        obtain ⟨A', c', rfl, _, _, _⟩ := own_form HO.out
        clear HO
        go_wp2
        go_ret2
        refine ⟨none, 0, ?_, ?_, by rw [HL.out]; exact Nat.zero_le _, HB.out, fun ad e => by cases e⟩
        · rw [HL.out]; rfl
        · rw [HL.out]; exact ⟨rfl, Cells.none _ _ _⟩
      | cons i r =>
        have hr1 : (((i :: r).length : Int) == 0) = false := by simp; omega
        have hr2 : (0 : Int) < ((i :: r).length : Int) := by rw [List.length_cons]; omega
        obtain ⟨g, cap, rfl, hnc, hg⟩ := own_some HO.out (by simp)
        have hC := Cells.of_own HO.out
        have hE : starE (i :: r) = 0 := rfl
        have HC1 := hide hC
        generalize hK : (i :: r).length = K at *
        have HK := hide hK
        clear hK hC
        go_wp2
        go_ret2
        refine ⟨some ⟨g, 0, none⟩, cap, ?_, ?_, ?_, HB.out, FreshA.new hg⟩
        · rw [HL.out, hE, HK.out]
          rfl
        · rw [HL.out, HK.out]; exact ⟨by simpa using HK.out, by rw [← natsV_map]; exact HC1.out⟩
        · rw [HL.out, HK.out]; exact hnc
end Go.Proofs.YtjbnhaiiedajjaaDoor
