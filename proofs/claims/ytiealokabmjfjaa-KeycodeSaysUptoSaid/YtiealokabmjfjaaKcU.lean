/- The contract of the reference: what stands behind a text. -/
import Derived.Test.YtiealokabmjfjaaKcT
import Derived.Test.YtiealokabmjfjaaKcG
namespace Go.Proofs.Ytiealokabmjfjaa
set_option linter.unusedVariables false
open Go.ChangeShapes Go.WideShapes Go.ChangeAt Go.RowKit

/-- Block g holds the bytes l, not frozen. -/
def Holds (w : World) (g : Nat) (l : List UInt8) : Prop := ∀ j, j < l.length → w.cell? ⟨g, j, none⟩ = some (.int .u8 ((l.getD j 0).toNat : Int)) ∧ w.frozen? ⟨g, j, none⟩ = false
theorem made_bytes (w : World) (s : ByteArray) : ∃ cap W1, (convert 9 43 (.string s)).run Try.prog w = .ok (.slice (some ⟨w.heap.size, 0, none⟩) s.size cap) W1 ∧ s.size ≤ cap ∧ Below w.heap.size w W1 ∧ Holds W1 w.heap.size s.data.toList ∧ w.heap.size < W1.heap.size := by
  have hr := run_bytes_of_string (P := Try.prog) w 9 43 5 s Try.underlying9 Try.underlying43 Try.underlying5
  have hcap : s.size ≤ grownCap w s.size 0 5 := grownCap_ge _ _ _ _
  generalize grownCap w s.size 0 5 = c at *
  refine ⟨_, _, hr, hcap, ?_, ?_, ?_⟩
  · exact (Below.refl _ _).drew.alloc (Nat.le_refl _) _
  · intro j hj
    have hl := str_len s
    refine ⟨?_, ?_⟩
    · refine (cell_of_row (w.drew.alloc _) w.heap.size j _ _ _ (heap_alloc_new w.drew _)).trans ?_
      rw [bytesRow, Array.getElem?_append_left (by rw [Array.size_map]; show j < s.size; omega), Array.getElem?_map]
      have hj2 : j < s.data.size := by show j < s.size; omega
      rw [Array.getElem?_eq_getElem hj2, List.getD_eq_getElem?_getD, List.getElem?_eq_getElem hj]
      simp
    · have := World.frozen?_alloc_mark w.drew (bytesRow s c) 5 (bytesRow s c).size ((bytesRow s c).size + 1) j
      refine this.trans ?_
      have hz : s.size ≤ (bytesRow s c).size := by
        unfold bytesRow
        rw [Array.size_append, Array.size_map]
        exact Nat.le_add_right _ _
      simp
      omega
  · rw [World.size_alloc]
    exact Nat.lt_succ_self _
theorem Holds.set {w : World} {g : Nat} {l : List UInt8} (h : Holds w g l) {k : Nat} (hk : k < l.length) (x : UInt8) {v : Int} (hv : v = (x.toNat : Int)) : Holds (w.setCell ⟨g, k, none⟩ (.int .u8 v)).drew g (l.set k x) := by
  intro j hj
  rw [List.length_set] at hj
  obtain ⟨h1, h2⟩ := h j hj
  refine ⟨?_, by simpa using h2⟩
  show (w.setCell ⟨g, k, none⟩ (.int .u8 v)).cell? ⟨g, j, none⟩ = _
  by_cases e : k = j
  · subst e
    rw [World.cell?_setCell_same w _ _ (h k hk).1, List.getD_eq_getElem?_getD, List.getElem?_set_self hk, hv]
    rfl
  · rw [World.cell?_setCell_other w _ _ _ (fun q => e (by injection q)), h1, List.getD_eq_getElem?_getD, List.getD_eq_getElem?_getD, List.getElem?_set_ne e]
theorem back_c (w : World) (g cap : Nat) (l : List UInt8) (n : Nat) (hn : l.length = n) (h : Holds w g l) : (convert 43 9 (.slice (some ⟨g, 0, none⟩) n cap)).run Try.prog w = .ok (.string ⟨l.toArray⟩) w := by
  subst hn
  refine run_convert_bytes_back (P := Try.prog) w 43 9 5 ⟨g, 0, none⟩ cap l Try.underlying43 Try.underlying5 Try.underlying9 ?_
  intro j hj
  have := (h j hj).1
  rw [List.getD_eq_getElem?_getD, List.getElem?_eq_getElem hj] at this
  rw [add_off, Nat.zero_add]
  exact this
set_option maxRecDepth 100000 in
set_option maxHeartbeats 1000000 in
theorem rafter_c (s : ByteArray) (w : World) (hm : s.size ≤ 2000000000) : Calls Try.prog 11 #[.string s] w (GivesA w (afterK s.data.toList)) := by
  have hl := str_len s
  go_enter Try.func11, Try.ntmps11
  go_wp2_with fail
  go_loop [4] (fun i => ∃ K : Nat, K ≤ s.size ∧ i = .int .i64 K ∧ Hid (∀ b ∈ s.data.toList.drop K, b = 255)) (fun i => (intOf i).toNat)
  case atStart => exact ⟨s.size, Nat.le_refl _, rfl, by rw [List.drop_of_length_le (by omega)]; intro b hb; cases hb⟩
  case round =>
    obtain ⟨K, hK, rfl, HA⟩ := hrel
    rcases Nat.eq_zero_or_pos K with rfl | hpos
    · have hx : afterK s.data.toList = none := after_all _ (by have := HA.out; rwa [List.drop_zero] at this)
      rw [hx]
      go_wp2
      go_ret2
      exact ⟨rfl, Below.refl _ _⟩
    · obtain ⟨M, rfl⟩ : ∃ M, K = M + 1 := ⟨K - 1, by omega⟩
      have hMs : M < s.size := by omega
      have hw : IntKind.i64.wrap (((M + 1 : Nat) : Int) - 1) = M := by rw [IntWalk.i64_in _ (by omega)]; omega
      have hgt : (0 : Int) < ((M + 1 : Nat) : Int) := by omega
      have hM1 : ((M + 1 : Nat) : Int) - 1 = M := by omega
      by_cases hc : s[M] = 255
      · have HA2 := hide (drop_all (str_get hMs) hc HA.out)
        have hcn : ((s[M].toNat : Int) == 255) = true := by rw [hc]; rfl
        clear HA hc
        go_wp2
        go_round
        case rel => exact ⟨M, by omega, by go_num, HA2⟩
        case measure => simp [intOf]; try omega
      · have hcn : ((s[M].toNat : Int) == 255) = false := by
          rw [beq_eq_false_iff_ne]
          intro e
          exact hc (UInt8.toNat_inj.1 (by have : s[M].toNat = 255 := by omega
                                          rw [this]; rfl))
        have hxe : afterK s.data.toList = some (s.data.toList.take M ++ [s[M] + 1]) := by
          have h1 : s.data.toList = s.data.toList.take M ++ s[M] :: s.data.toList.drop (M + 1) := by
            conv => lhs; rw [← List.take_append_drop M s.data.toList]
            rw [drop_at (str_get hMs)]
          conv => lhs; rw [h1]
          exact after_app _ _ _ hc HA.out
        have hlt255 : s[M].toNat < 255 := by
          have h1 := s[M].toNat_lt
          have h2 : (s[M].toNat : Int) ≠ 255 := by rw [beq_eq_false_iff_ne] at hcn; exact hcn
          omega
        obtain ⟨cap, W1, hr, hcap, hb, hh, hz⟩ := made_bytes w (s.extract 0 (M + 1))
        have hte := take_extract s (M + 1)
        have ht0 : (s.extract 0 (M + 1)).size = M + 1 := by
          rw [hte]
          show (s.data.toList.take (M + 1)).toArray.size = _
          rw [List.size_toArray, List.length_take]
          omega
        have hll : (s.data.toList.take (M + 1)).length = M + 1 := by rw [List.length_take]; omega
        have hh2 : Holds W1 w.heap.size (s.data.toList.take (M + 1)) := by rw [hte] at hh; exact hh
        obtain ⟨hcell, hfz⟩ := hh2 M (by omega)
        have hgd : (s.data.toList.take (M + 1)).getD M 0 = s[M] := by rw [List.getD_eq_getElem?_getD, List.getElem?_take_of_lt (by omega), str_get hMs]; rfl
        rw [hgd] at hcell
        have hset := hh2.set (k := M) (by omega) (s[M] + 1) (v := (s[M].toNat : Int) + 1) (by have := inc_nat hc; omega)
        have hls : (s.data.toList.take (M + 1)).set M (s[M] + 1) = s.data.toList.take M ++ [s[M] + 1] := by
          rw [take_at (str_get hMs), List.set_append_right _ _ (by rw [List.length_take]; omega), List.length_take, show M - min M s.data.toList.length = 0 by omega]
          rfl
        rw [hls] at hset
        have hset : Holds (W1.setCell ⟨w.heap.size, M, none⟩ (.int .u8 ((s[M].toNat : Int) + 1))) w.heap.size (s.data.toList.take M ++ [s[M] + 1]) := fun j hj => hset j hj
        have hcv := back_c _ w.heap.size cap _ (M + 1) (by rw [List.length_append, List.length_take]; simp; omega) hset
        rw [ht0] at hr
        have hB := hide (((hb.setCell (p := ⟨w.heap.size, M, none⟩) (Nat.le_refl _) (.int .u8 ((s[M].toNat : Int) + 1)))))
        have hwu : IntKind.u8.wrap ((s[M].toNat : Int) + 1) = (s[M].toNat : Int) + 1 := by
          unfold IntKind.wrap
          simp [IntKind.bits, IntKind.signed]
          omega
        have hfin : (⟨(s.data.toList.take M ++ [s[M] + 1]).toArray⟩ : ByteArray) = strL (s.data.toList.take M ++ [s[M] + 1]) := rfl
        rw [hfin] at hcv
        generalize htt : strL (s.data.toList.take M ++ [s[M] + 1]) = tt at *
        have HTT := hide htt
        have HXE := hide hxe
        clear hb hh hh2 hte hset hls hgd hll ht0 hxe HA htt hfin hc
        go_wp2_with fail
        go_ret2
        unfold GivesA
        rw [HXE.out]
        simp only [Option.getD_some, Option.isSome_some]
        exact ⟨by rw [HTT.out]; rfl, hB.out⟩
end Go.Proofs.Ytiealokabmjfjaa
