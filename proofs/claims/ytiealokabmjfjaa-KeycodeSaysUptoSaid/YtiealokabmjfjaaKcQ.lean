/- Contracts of the reference: a value's bytes. -/
import Derived.Test.YtiealokabmjfjaaKcP
import Derived.Lib.AppendStr
import Derived.BigRegion
namespace Go.Proofs.Ytiealokabmjfjaa
set_option linter.unusedVariables false
open Go.ChangeShapes Go.WideShapes Go.ChangeAt Go.RowKit Go.Lib

theorem u8_info : (Try.prog.info? 5).map (fun i => (i.zero, i.size, i.bytes)) = some (some (.int .u8 0), 1, 1) := by kernel_rfl
theorem gives_own {w w' : World} {base n : Nat} {v : Value} {xs : List Value} (l : List UInt8) (h : w'.ownsRow base 5 1 v n xs) (hn : n = l.length) (hx : xs = (l.map bC).flatten) (hb : Below w.heap.size w w') : GivesBs w l (.returned v) w' := by
  subst hn hx
  obtain ⟨A, c, rfl, hS⟩ := sl_of_own h bC_len
  exact ⟨A, c, rfl, hS, hb⟩
theorem bC_ones (l : List UInt8) : ∀ u ∈ (l.map bC).flatten, u.oneCell' = true := by
  rw [bC_flat]
  intro u hu
  obtain ⟨b, _, rfl⟩ := List.mem_map.1 hu
  rfl
theorem bC_flen (l : List UInt8) : (l.map bC).flatten.length = l.length * 1 := by rw [bC_flat, List.length_map, Nat.mul_one]
theorem lit_cells (w : World) (o p : Obj) (cs : Array Value) (t : TypeId) : Cells (((w.alloc o).alloc p).alloc (.cells cs t)) (w.heap.size + 1 + 1 + 1) (some ⟨w.heap.size + 1 + 1, 0, none⟩) cs.toList := by
  have h := cells_lit ((w.alloc o).alloc p) cs t
  rw [World.size_alloc, World.size_alloc] at h
  exact h
theorem own_lo {w : World} {base n : Nat} {e : TypeId} {size : Nat} {v : Value} {xs : List Value} (h : w.ownsRow base e size v n xs) : ∀ k, v.ownBlock = some k → base ≤ k := fun k hk => (h.lt k hk).1
theorem lit_own (w : World) (x : Int) (o : Obj) : ((w.alloc o).alloc (.cells #[.int .u8 x] 5)).ownsRow w.heap.size 5 1 (.slice (some ⟨w.heap.size + 1, 0, none⟩) 1 1) 1 [.int .u8 x] := by
  have h := World.ownsRow_lit (w.alloc o) #[.int .u8 x] 1 (base := w.heap.size) (e := 5) (size := 1) (by rw [World.size_alloc]; omega) (by simp only [maxLen]; omega) rfl
  rw [World.size_alloc] at h
  exact h
set_option maxRecDepth 100000 in
set_option maxHeartbeats 1000000 in
theorem one_c (v : ValV) (w : World) (hv : rightP v = true) : Calls Try.prog 27 #[valAgg v] w (GivesBs w (encK v)) := by
  obtain ⟨i0, hi0, hz0, hz1, hz2⟩ := info_parts u8_info
  rcases right_kinds hv with rfl | rfl | rfl | ⟨n, rfl, hn⟩ | ⟨s, rfl, hs⟩
  · unfold valAgg
    go_enter Try.func27, Try.ntmps27
    go_wp2
    go_ret
    exact gives_own _ (lit_own w 0 _) rfl rfl (Bel.alloc (Bel.one _ _) _)
  · have ho := lit_own w 1 (.cells #[.int .i64 1, .int .i64 0, .string .empty] 39)
    unfold valAgg
    go_enter Try.func27, Try.ntmps27
    go_wp2_with (at_builtin; refine wpList_app rfl (.tmp 12) (.tmp 16) 43 rfl w.heap.size 5 i0 _ 1 1 Try.underlying43 hi0 hz0 hz1 hz2 rfl (by omega) _ 1 _ rfl (ho.alloc _) _ _ 1 1 [.int .u8 0] rfl rfl (lit_cells w _ _ #[.int .u8 0] 5) (by simp [Value.oneCell']) (by simp only [maxLen]; omega) (by omega) (by first | (simp; done) | (simp; omega)) (by intro h; cases h) ?_; intro v1 w7 hown1 hg1 _)
    go_ret
    exact gives_own _ hown1 rfl (by rw [ek_false]; rfl) (own_grown (Bel.alloc (Bel.alloc (Bel.one _ _) _) _) hg1 (own_lo ho))
  · have ho := lit_own w 1 (.cells #[.int .i64 1, .int .i64 1, .string .empty] 39)
    unfold valAgg
    go_enter Try.func27, Try.ntmps27
    go_wp2_with (at_builtin; refine wpList_app rfl (.tmp 12) (.tmp 16) 43 rfl w.heap.size 5 i0 _ 1 1 Try.underlying43 hi0 hz0 hz1 hz2 rfl (by omega) _ 1 _ rfl (ho.alloc _) _ _ 1 1 [.int .u8 1] rfl rfl (lit_cells w _ _ #[.int .u8 1] 5) (by simp [Value.oneCell']) (by simp only [maxLen]; omega) (by omega) (by first | (simp; done) | (simp; omega)) (by intro h; cases h) ?_; intro v1 w7 hown1 hg1 _)
    go_ret
    exact gives_own _ hown1 rfl (by rw [ek_true]; rfl) (own_grown (Bel.alloc (Bel.alloc (Bel.one _ _) _) _) hg1 (own_lo ho))
  · have Q := hide (fun W => eight_c n W)
    unfold GivesBs at Q
    rw [key8_len] at Q
    have ho := hide (lit_own w 2 (.cells #[.int .i64 2, .int .i64 n, .string .empty] 39))
    rw [ek_num]
    have HL := hide (bC_flen (key8 n))
    have H1 := hide (bC_ones (key8 n))
    have HN := hide (key8_len n)
    rw [key8_len] at HL
    generalize key8 n = l at *
    clear hn hv
    unfold valAgg
    go_enter Try.func27, Try.ntmps27
    go_wp2_with fail
    refine (Q.out _).mono ?_
    rintro e w1 ⟨A8, c8, rfl, h8, hb⟩
    have H8 := hide h8
    have HO := hide (own_below ho.out hb)
    have HB := hide (Bel.then (Bel.alloc (Bel.one w (.cells #[.int .i64 2, .int .i64 n, .string .empty] 39)) (.cells #[.int .u8 2] 5)) hb)
    clear h8 hb ho Q
    go_wp2_with (at_builtin; refine wpList_app rfl (.tmp 20) (.tmp 23) 43 rfl w.heap.size 5 i0 _ 1 1 Try.underlying43 hi0 hz0 hz1 hz2 rfl (by omega) _ 1 _ rfl HO.out _ A8 8 c8 (l.map bC).flatten rfl HL.out H8.out.recs.2 H1.out (by simp only [maxLen]; omega) (by omega) HB.out.size H8.out.nil ?_; intro v1 w7 hown1 hg1 _)
    go_ret
    exact gives_own _ hown1 (by rw [List.length_cons, HN.out]) rfl (own_grown HB.out hg1 (own_lo HO.out))
  · have hz := (plain_iff.1 hs).1
    have ho := lit_own w 3 (.cells #[.int .i64 3, .int .i64 0, .string s] 39)
    rw [ek_text]
    clear hs hv
    unfold valAgg
    go_enter Try.func27, Try.ntmps27
    go_wp2_with (first
      | (at_builtin; refine wpList_append_own_string _ rfl (.tmp 27) (.tmp 29) 43 9 rfl w.heap.size 5 i0 Try.underlying43 Try.underlying9 hi0 hz0 hz1 hz2 _ 1 _ rfl ho s rfl (by simp only [maxLen]; omega) (by omega) (by first | (simp; done) | (simp; omega)) ?_; intro v1 w7 hown1 hg1 _
         have HB := hide (own_grown (Bel.alloc (Bel.one w (.cells #[.int .i64 3, .int .i64 0, .string s] 39)) (.cells #[.int .u8 3] 5)) hg1 (own_lo ho))
         have HO := hide hown1
         clear hown1 hg1)
      | (at_builtin; refine wpList_app rfl (.tmp 30) (.tmp 31) 43 rfl w.heap.size 5 i0 _ 1 1 Try.underlying43 hi0 hz0 hz1 hz2 rfl (by omega) v1 (1 + s.size) _ rfl (HO.out.alloc _) _ _ 1 1 [.int .u8 0] rfl rfl (cells_lit _ #[.int .u8 0] 5) (by simp [Value.oneCell']) (by simp only [maxLen]; omega) (by omega) (by have := HB.out.size; first | (simp; done) | (simp; omega)) (by intro h; cases h) ?_; intro v2 w8 hown2 hg2 _))
    go_ret
    exact gives_own _ hown2 (by simp; omega) (by rw [bC_flat]; simp [strCells]) (own_grown (Bel.alloc HB.out _) hg2 (own_lo HO.out))
end Go.Proofs.Ytiealokabmjfjaa
