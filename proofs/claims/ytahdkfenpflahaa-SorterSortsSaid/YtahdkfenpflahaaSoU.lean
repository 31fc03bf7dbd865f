/- The contract of the reference's Copy: the same values in new memory. -/
import Derived.Test.YtahdkfenpflahaaSoT
namespace Go.Proofs.Ytahdkfenpflahaa
set_option linter.unusedVariables false
open Go.ChangeShapes Go.WideShapes Go.ChangeAt Go.RowKit

theorem value_info' : (Try.prog.info? 44).map (fun i => (i.zero, i.size, i.bytes)) = some (some (.agg #[.int .i64 0, .int .i64 0, .string .empty]), 3, 32) := by kernel_rfl
theorem cells_one (r : List ValV) : ∀ u ∈ (r.map valCells).flatten, u.oneCell' = true := by
  intro u hu
  obtain ⟨xs, hx, hu⟩ := List.mem_flatten.1 hu
  obtain ⟨v, _, rfl⟩ := List.mem_map.1 hx
  simp only [valCells, List.mem_cons, List.not_mem_nil, or_false] at hu
  rcases hu with rfl | rfl | rfl <;> rfl
set_option maxRecDepth 100000 in
theorem Copy_c (A : Option Addr) (n c : Nat) (r : List ValV) (w : World) (h : RowAt w w.heap.size A n c r) (hn : n ≤ 1048576) :
    Calls Try.prog 31 #[.slice A n c] w fun e w' => ∃ X cx, e = .returned (.slice X n cx) ∧ RowAt w' w'.heap.size X n cx r ∧ Below w.heap.size w w' := by
  obtain ⟨i0, hi0, hz0, hz1, hz2⟩ := info_parts value_info'
  have hl := h.len
  have H := hide (h.kept (Bel.one w (.cells #[] 44)))
  have HO := hide (World.ownsRow_lit (base := w.heap.size) (e := 44) (size := 3) w #[] 0 (Nat.le_refl _) (by simp [maxLen]) rfl)
  have HB := hide (Bel.one w (.cells #[] 44))
  clear h
  go_enter Try.func31, Try.ntmps31
  go_wp2_with (at_builtin; refine wpList_app rfl (.tmp 3) (.tmp 4) 23 rfl w.heap.size 44 i0 _ 3 32 Try.underlying23 hi0 hz0 hz1 hz2 rfl (by omega) _ 0 [] rfl HO.out _ A n c (r.map valCells).flatten rfl (by rw [flat_len _ 3 (H.out.recs.1), List.length_map, H.out.len]) H.out.recs.2 (cells_one _) (by unfold maxLen; omega) (by omega) HB.out.size H.out.nil ?_; intro v1 w2 hown hgr _; have HOn := hide hown; have HBn := hide (own_grown HB.out hgr (by intro k hk; have hk2 : w.heap.size = k := Option.some.inj hk; omega)); clear hown hgr HO HB H)
  have ho := HOn.out
  rw [Nat.zero_add, List.nil_append] at ho
  obtain ⟨X, cx, rfl, hX⟩ := sl_of_own (l := r) (f := valCells) (by rw [hl]; exact ho) valCells_len
  rw [hl] at hX ⊢
  have HX := hide hX
  clear ho hX HOn
  go_wp2_with fail
  go_ret
  exact ⟨X, cx, rfl, HX.out, HBn.out⟩
end Go.Proofs.Ytahdkfenpflahaa
