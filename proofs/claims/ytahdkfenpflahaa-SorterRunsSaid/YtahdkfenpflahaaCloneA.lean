/- Contracts of package clone: a row, rows. -/
import Derived.Test.YtahdkfenpflahaaValRR
import Derived.Test.YtahdkfenpflahaaCopy
namespace Go.Proofs.Ytahdkfenpflahaa
set_option linter.unusedVariables false
open Go.ChangeShapes Go.WideShapes Go.ChangeAt Go.RowKit

/-- A slice in new memory. -/
def GivesSl {α : Type} (f : α → List Value) (k : Nat) (w : World) (l : List α) (e : Ending) (w' : World) : Prop := ∃ A c, e = .returned (.slice A l.length c) ∧ SlAt f k w' w'.heap.size A l.length c l ∧ Below w.heap.size w w' ∧ FreshA w.heap.size A
theorem value_info : (Try.prog.info? 44).map (fun i => (i.zero, i.size, i.bytes)) = some (some (.agg #[.int .i64 0, .int .i64 0, .string .empty]), 3, 32) := by kernel_rfl
theorem valCells_len (v : ValV) : (valCells v).length = 3 := rfl
set_option maxRecDepth 100000 in
set_option maxHeartbeats 1000000 in
theorem flat_c (A : Option Addr) (n c : Nat) (r : List ValV) (w : World) (h : RowAt w w.heap.size A n c r) (hn : n ≤ 1048576) :
    Calls Try.prog 46 #[.slice A n c] w fun e w' => GivesSl valCells 3 w r e w' := by
  obtain ⟨i0, hi0, hz0, hz1, hz2⟩ := info_parts value_info
  have hl := h.len
  by_cases h0 : n = 0
  · subst h0
    obtain rfl : r = [] := List.eq_nil_of_length_eq_zero hl
    go_enter Try.func46, Try.ntmps46
    go_wp2
    go_ret
    exact ⟨none, 0, rfl, SlAt.empty _ _ _ _, Below.refl _ _, fun ad e => by cases e⟩
  · obtain ⟨b, off, e, hb, hc⟩ := h.recs.2 (by rw [flat_len _ 3 h.recs.1, List.length_map, hl]; omega)
    subst e
    have hfl : (r.map valCells).flatten.length = n * 3 := by rw [flat_len _ 3 h.recs.1, List.length_map, hl]
    have h1 : ∀ v ∈ (r.map valCells).flatten, v.oneCell' = true := by
      intro v hv
      obtain ⟨xs, hx, hvx⟩ := List.mem_flatten.1 hv
      obtain ⟨a, _, rfl⟩ := List.mem_map.1 hx
      simp [valCells] at hvx
      rcases hvx with rfl | rfl | rfl <;> rfl
    have HC := hide hc
    have H1 := hide h1
    have HF := hide hfl
    have hnz : ((n : Int) == 0) = false := by simp; omega
    have hnI : (n : Int) ≤ 1048576 := by omega
    have HL := hide hl
    clear h hc h1 hfl h0 hl
    go_enter Try.func46, Try.ntmps46
    go_wp2_with (first
      | (at_make; refine wpList_make_full _ rfl (.tmp 8) (.tmp 8) 23 rfl w.heap.size 44 i0 _ 3 Try.underlying23 hi0 hz0 hz1 .i64 .i64 n n n rfl rfl rfl rfl (by rw [hz2]; omega) (by unfold maxLen; omega) (Nat.le_refl _) ?_; intro w1 hown1 hg1
         have HO1 := hide hown1
         have HB1 := hide ((Below.refl w.heap.size w).grown hg1 (Nat.le_refl _) (fun k hk => by cases hk))
         clear hown1 hg1)
      | ((with_reducible refine wpList_copy_row rfl (.tmp 10) (.tmp 11) 23 23 rfl 44 3 Try.underlying23 (by rw [hi0]; simp [hz1]) w.heap.size w.heap.size n c ⟨b, off, none⟩ _ (r.map valCells).flatten rfl rfl HO1.out HF.out (fun j v hj => by rw [add_off]; exact (HB1.out.cell (p := ⟨b, off + j, none⟩) hb).trans (HC.out j v hj)) H1.out ?_); intro w2 hown2 hb2 hsz2
         have HO2 := hide hown2
         have HB2 := hide (HB1.out.trans hb2)
         clear hown2 hb2 hsz2))
    go_ret
    have hl2 := HL.out
    subst hl2
    obtain ⟨A', c', e, hS⟩ := sl_of_own HO2.out valCells_len
    injection e with e1 e2 e3
    subst e1 e3
    exact ⟨_, _, rfl, hS, HB2.out, FreshA.new (Nat.le_refl _)⟩
theorem row_c (A : Option Addr) (n c : Nat) (r : List ValV) (w : World) (h : RowAt w w.heap.size A n c r) (hn : n ≤ 1048576) :
    Calls Try.prog 40 #[.slice A n c] w fun e w' => GivesSl valCells 3 w r e w' := by
  have Q := hide (flat_c A n c r w h hn)
  clear h hn
  go_enter Try.func40, Try.ntmps40
  go_wp2_with fail
  refine Q.out.mono ?_
  rintro e w1 ⟨X, cx, rfl, hX, hb, hf⟩
  go_wp2_with fail
  go_ret
  exact ⟨X, cx, rfl, hX, hb, hf⟩
end Go.Proofs.Ytahdkfenpflahaa
