/- Pages: the walk of PageOthers. -/
import Derived.Test.YtfdedkcidemimaaDoorPsB
import Derived.Test.YtfdedkcidemimaaDoorPmK
namespace Go.Proofs.YtfdedkcidemimaaDoor
set_option linter.unusedVariables false
set_option linter.unusedSimpArgs false
open Go.ChangeShapes Go.WideShapes Go.ChangeAt Go.RowKit


/-- Two ints in a block of their own. -/
structure OtS (w : World) (a b : Int) (wr : World) : Prop where
  bx : wr.heap[w.heap.size]? = some (.cells #[.int .i64 a, .int .i64 b] 36 (0, 0))
  hb : Below w.heap.size w wr
section
variable {w wr w' : World} {a b : Int}
theorem OtS.lt (h : OtS w a b wr) : w.heap.size < wr.heap.size := (Array.getElem?_eq_some_iff.1 h.bx).1
theorem OtS.kept (h : OtS w a b wr) (hb : Below wr.heap.size wr w') : OtS w a b w' := ⟨(hb.block _ h.lt).trans h.bx, Bel.then h.hb hb⟩
theorem OtS.cells (h : OtS w a b wr) : wr.cell? ⟨w.heap.size, 0, none⟩ = some (.int .i64 a) ∧ wr.cell? ⟨w.heap.size, 1, none⟩ = some (.int .i64 b) :=
  ⟨cell_of_row wr w.heap.size 0 _ _ (0, 0) h.bx, cell_of_row wr w.heap.size 1 _ _ (0, 0) h.bx⟩
theorem OtS.new (w : World) (a b : Int) : OtS w a b (w.alloc (.cells #[.int .i64 a, .int .i64 b] 36)) := ⟨heap_alloc_new w _, Bel.one w _⟩
theorem OtS.grown {row : Option Nat} (h : OtS w a b wr) (hg : wr.grownBy w' row) (hr : ∀ k, row = some k → w.heap.size < k) : OtS w a b w' :=
  ⟨(hg.block _ h.lt (fun e => by have := hr _ e.symm; omega)).trans h.bx, own_grown h.hb hg (fun k hk => by have := hr k hk; omega)⟩
theorem OtS.store (h : OtS w a b wr) {q : Addr} (hq : w.heap.size < q.block) (u : Value) : OtS w a b (wr.setCell q u) :=
  ⟨(Below.heap_setCell wr q u _ (by omega)).trans h.bx, h.hb.setCell (by omega) u⟩
end
set_option maxRecDepth 100000 in
set_option maxHeartbeats 4000000 in
theorem others_big (p : ByteArray) (a b : Int) (r : ByteArray) (w : World) (hT : TabW w) (hp : 600 < p.size) : Calls Tryd.prog 7 #[.string p, .agg #[.int .i64 a, .int .i64 b], .string r] w fun e w' => e = .returned (.bool true) ∧ Below w.heap.size w w' := by
  have HT := hide hT
  clear hT
  have QA := hide (fun W hW => awake_p W hW)
  have h1 : (600 : Int) < p.size := by omega
  go_enter Tryd.func7, Tryd.ntmps7
  go_upto_region 1 with (fail)
  have HS := hide (OtS.new w a b)
  generalize w.alloc (.cells #[.int .i64 a, .int .i64 b] 36) = w1 at *
  obtain ⟨c0, c1⟩ := HS.out.cells
  go_wp2_with fail
  refine (QA.out _ (HT.out.keep HS.out.hb)).mono ?_
  rintro e wz1 ⟨rfl, hb⟩
  replace HS := hide (HS.out.kept hb)
  clear hb c0 c1
  obtain ⟨c0, c1⟩ := HS.out.cells
  go_wp2_with fail
  go_ret
  exact ⟨rfl, HS.out.hb⟩
set_option maxRecDepth 100000 in
set_option maxHeartbeats 4000000 in
theorem others_big2 (p : ByteArray) (a b : Int) (r : ByteArray) (w : World) (hT : TabW w) (hp : p.size ≤ 600) (hr : 600 < r.size) : Calls Tryd.prog 7 #[.string p, .agg #[.int .i64 a, .int .i64 b], .string r] w fun e w' => e = .returned (.bool true) ∧ Below w.heap.size w w' := by
  have HT := hide hT
  clear hT
  have QA := hide (fun W hW => awake_p W hW)
  have h1 : ¬ (600 : Int) < p.size := by omega
  have h2 : (600 : Int) < r.size := by omega
  go_enter Tryd.func7, Tryd.ntmps7
  go_upto_region 1 with (fail)
  have HS := hide (OtS.new w a b)
  generalize w.alloc (.cells #[.int .i64 a, .int .i64 b] 36) = w1 at *
  obtain ⟨c0, c1⟩ := HS.out.cells
  go_wp2_with fail
  refine (QA.out _ (HT.out.keep HS.out.hb)).mono ?_
  rintro e wz1 ⟨rfl, hb⟩
  replace HS := hide (HS.out.kept hb)
  clear hb c0 c1
  obtain ⟨c0, c1⟩ := HS.out.cells
  go_wp2_with fail
  go_ret
  exact ⟨rfl, HS.out.hb⟩
set_option maxRecDepth 100000 in
set_option maxHeartbeats 4000000 in
theorem others_far (p : ByteArray) (a b : Int) (r : ByteArray) (w : World) (hT : TabW w) (hp : p.size ≤ 600) (hr : r.size ≤ 600) (hb : 1073741824 < b) : Calls Tryd.prog 7 #[.string p, .agg #[.int .i64 a, .int .i64 b], .string r] w fun e w' => e = .returned (.bool true) ∧ Below w.heap.size w w' := by
  have HT := hide hT
  clear hT
  have QA := hide (fun W hW => awake_p W hW)
  have h1 : ¬ (600 : Int) < p.size := by omega
  have h2 : ¬ (600 : Int) < r.size := by omega
  go_enter Tryd.func7, Tryd.ntmps7
  go_upto_region 1 with (fail)
  have HS := hide (OtS.new w a b)
  generalize w.alloc (.cells #[.int .i64 a, .int .i64 b] 36) = w1 at *
  obtain ⟨c0, c1⟩ := HS.out.cells
  go_wp2_with fail
  refine (QA.out _ (HT.out.keep HS.out.hb)).mono ?_
  rintro e wz1 ⟨rfl, hb⟩
  replace HS := hide (HS.out.kept hb)
  clear hb c0 c1
  obtain ⟨c0, c1⟩ := HS.out.cells
  go_wp2_with fail
  go_ret
  exact ⟨rfl, HS.out.hb⟩
set_option maxRecDepth 100000 in
set_option maxHeartbeats 4000000 in
theorem others_neg (p : ByteArray) (a b : Int) (r : ByteArray) (w : World) (hT : TabW w) (hp : p.size ≤ 600) (hr : r.size ≤ 600) (hb : b < 0) : Calls Tryd.prog 7 #[.string p, .agg #[.int .i64 a, .int .i64 b], .string r] w fun e w' => e = .returned (.bool true) ∧ Below w.heap.size w w' := by
  have HT := hide hT
  clear hT
  have QA := hide (fun W hW => awake_p W hW)
  have h1 : ¬ (600 : Int) < p.size := by omega
  have h2 : ¬ (600 : Int) < r.size := by omega
  have h3 : ¬ (1073741824 : Int) < b := by omega
  go_enter Tryd.func7, Tryd.ntmps7
  go_upto_region 1 with (fail)
  have HS := hide (OtS.new w a b)
  generalize w.alloc (.cells #[.int .i64 a, .int .i64 b] 36) = w1 at *
  obtain ⟨c0, c1⟩ := HS.out.cells
  go_wp2_with fail
  refine (QA.out _ (HT.out.keep HS.out.hb)).mono ?_
  rintro e wz1 ⟨rfl, hb⟩
  replace HS := hide (HS.out.kept hb)
  clear hb c0 c1
  obtain ⟨c0, c1⟩ := HS.out.cells
  go_wp2_with fail
  go_ret
  exact ⟨rfl, HS.out.hb⟩
set_option maxRecDepth 100000 in
set_option maxHeartbeats 4000000 in
theorem others_w (p : ByteArray) (a b : Int) (r : ByteArray) (w : World) (hT : TabW w) (hp : p.size ≤ 600) (hr : r.size ≤ 600) (hb : 0 ≤ b ∧ b ≤ 1073741824) : Calls Tryd.prog 7 #[.string p, .agg #[.int .i64 a, .int .i64 b], .string r] w fun e w' => e = .returned (.bool true) ∧ Below w.heap.size w w' := by
  have HT := hide hT
  clear hT
  have QA := hide (fun W hW => awake_p W hW)
  have h1 : ¬ (600 : Int) < p.size := by omega
  have h2 : ¬ (600 : Int) < r.size := by omega
  have h3 : ¬ (1073741824 : Int) < b := by omega
  have h4 : ¬ b < 0 := by omega
  have hm : p.size ≤ 4000 := by omega
  have hmr : r.size ≤ 4000 := by omega
  obtain ⟨i0, hi0, hz0, hz1, hz2⟩ := info_parts str_info
  have u1 := fun W => getpage_c p b hm W
  have u2 := fun W => putpage_c p a r hm hmr W
  have u3 := fun W => setpage_c p a r hm hmr W
  have u4 := fun W => cutpage_c p a hm W
  have u5 := fun W => addpage_c p a r hm hmr W
  have u6 := fun W => delpage_c p a hm W
  have HP := hide (fun q e (h : putS p a r = (q, e)) => (show q.size ≤ 4000 ∧ (q.size ≠ 0 → a ≠ b → getS q b = getS p b) from ⟨size_small (r := r) (.inl h), fun hq hab => (other_put h hq hb.1 hab).2⟩))
  have HSE := hide (fun q e (h : setS p a r = (q, e)) => (show q.size ≤ 4000 ∧ (q.size ≠ 0 → a ≠ b → getS q b = getS p b) from ⟨size_small (r := r) (.inr (.inl h)), fun hq hab => (other_set h hq hb.1 hab).2⟩))
  have HC := hide (fun q e (h : cutS p a = (q, e)) => (show q.size ≤ 4000 ∧ (q.size ≠ 0 → a ≠ b → getS q b = getS p b) from ⟨size_small (r := r) (.inr (.inr h)), fun hq hab => (other_cut h hq hb.1 hab).2⟩))
  have HAd := hide (fun q (h : addS p a r = (q, 0)) => other_add h hb.1)
  have HD := hide (fun q (h : delS p a = (q, 0)) (hab : a ≠ b) => other_del h hb.1 hab)
  generalize getS p b = g at *
  obtain ⟨g1, g2⟩ := g
  generalize putS p a r = v0 at *
  obtain ⟨q0, e0⟩ := v0
  generalize setS p a r = v1 at *
  obtain ⟨q1, e1⟩ := v1
  generalize cutS p a = v2 at *
  obtain ⟨q2, e2⟩ := v2
  generalize addS p a r = v3 at *
  obtain ⟨q3, e3⟩ := v3
  generalize delS p a = v4 at *
  obtain ⟨q4, e4⟩ := v4
  have HQ : Hid (∀ x ∈ [q0, q1, q2], x.size ≤ 4000 ∧ (x.size ≠ 0 → a ≠ b → getS x b = (g1, g2))) := by
    intro x hx
    simp at hx
    rcases hx with rfl | rfl | rfl
    · exact HP.out _ _ rfl
    · exact HSE.out _ _ rfl
    · exact HC.out _ _ rfl
  have U1 := hide u1
  have U2 := hide u2
  have U3 := hide u3
  have U4 := hide u4
  have U5 := hide u5
  have U6 := hide u6
  clear u1 u2 u3 u4 u5 u6 HP HSE HC
  have t1 : ∀ b : Bool, (b == b) = true := fun b => by cases b <;> rfl
  have t2 : ∀ x : Int, decide (x = x) = true := fun x => by simp
  have t3 : ∀ x : Int, (x == x) = true := fun x => by simp
  have t4 : ∀ s : ByteArray, (s.toList == s.toList) = true := fun s => by simp
  have hmk : ∀ W, (Instr.makeSlice 37 (.int .i64 3) (.int .i64 3)).run Tryd.prog W = .ok (.slice (some ⟨W.heap.size, 0, none⟩) 3 3) (W.alloc (.cells #[.string ⟨#[]⟩, .string ⟨#[]⟩, .string ⟨#[]⟩] 9)) := fun W => by kernel_rfl
  go_enter Tryd.func7, Tryd.ntmps7
  go_upto_region 1 with (fail)
  have HS := hide (OtS.new w a b)
  generalize w.alloc (.cells #[.int .i64 a, .int .i64 b] 36) = w1 at *
  obtain ⟨c0, c1⟩ := HS.out.cells
  go_wp2_with fail
  refine (U1.out _).mono ?_
  rintro e wz1 ⟨rfl, hb⟩
  replace HS := hide (HS.out.kept hb)
  clear hb c0 c1
  obtain ⟨c0, c1⟩ := HS.out.cells
  go_upto_region 5 with (fail)
  obtain ⟨wy, hwy⟩ : ∃ wy, wy = wz1 := ⟨_, rfl⟩
  subst hwy
  have HO := hide (show OwnS (wy.alloc (.cells #[.string ⟨#[]⟩, .string ⟨#[]⟩, .string ⟨#[]⟩] 9)) (w.heap.size + 1) (.slice (some ⟨wy.heap.size, 0, none⟩) 3 3) [⟨#[]⟩, ⟨#[]⟩, ⟨#[]⟩] from World.ownsRow_lit _ _ 3 HS.out.lt (by unfold maxLen; omega) rfl)
  replace HS := hide (HS.out.kept (Bel.one wy (.cells #[.string ⟨#[]⟩, .string ⟨#[]⟩, .string ⟨#[]⟩] 9)))
  clear hmk c0 c1
  generalize wy.alloc (.cells #[.string ⟨#[]⟩, .string ⟨#[]⟩, .string ⟨#[]⟩] 9) = wm at *
  generalize wy.heap.size = gl at *
  obtain ⟨c0, c1⟩ := HS.out.cells
  go_wp2_with fail
  refine (U2.out _).mono ?_
  rintro e wz2 ⟨rfl, hb⟩
  replace HS := hide (HS.out.kept hb)
  replace HO := hide (HO.out.kept hb)
  clear hb c0 c1
  obtain ⟨c0, c1⟩ := HS.out.cells
  obtain ⟨d0, d1, d2⟩ := HO.out.cell (i := 0) (by simp)
  go_upto_region 6 with (fail)
  replace HO := hide (HO.out.put (i := 0) (by simp) q0)
  replace HS := hide (HS.out.store (q := ⟨gl, 0, none⟩) d2 (.string q0))
  clear c0 c1 d0 d1
  change Hid (OwnS _ _ _ [q0, ⟨#[]⟩, ⟨#[]⟩]) at HO
  generalize World.setCell wz2 ⟨gl, 0, none⟩ (.string q0) = wp0 at *
  obtain ⟨c0, c1⟩ := HS.out.cells
  go_wp2_with fail
  refine (U3.out _).mono ?_
  rintro e wz3 ⟨rfl, hb⟩
  replace HS := hide (HS.out.kept hb)
  replace HO := hide (HO.out.kept hb)
  clear hb c0 c1
  obtain ⟨c0, c1⟩ := HS.out.cells
  obtain ⟨d0, d1, d2⟩ := HO.out.cell (i := 1) (by simp)
  go_upto_region 7 with (fail)
  replace HO := hide (HO.out.put (i := 1) (by simp) q1)
  replace HS := hide (HS.out.store (q := ⟨gl, 1, none⟩) d2 (.string q1))
  clear c0 c1 d0 d1
  change Hid (OwnS _ _ _ [q0, q1, ⟨#[]⟩]) at HO
  generalize World.setCell wz3 ⟨gl, 1, none⟩ (.string q1) = wp1 at *
  obtain ⟨c0, c1⟩ := HS.out.cells
  go_wp2_with fail
  refine (U4.out _).mono ?_
  rintro e wz4 ⟨rfl, hb⟩
  replace HS := hide (HS.out.kept hb)
  replace HO := hide (HO.out.kept hb)
  clear hb c0 c1
  obtain ⟨c0, c1⟩ := HS.out.cells
  obtain ⟨d0, d1, d2⟩ := HO.out.cell (i := 2) (by simp)
  go_upto_region 8 with (fail)
  replace HO := hide (HO.out.put (i := 2) (by simp) q2)
  replace HS := hide (HS.out.store (q := ⟨gl, 2, none⟩) d2 (.string q2))
  clear c0 c1 d0 d1
  change Hid (OwnS _ _ _ [q0, q1, q2]) at HO
  generalize World.setCell wz4 ⟨gl, 2, none⟩ (.string q2) = wp2 at *
  obtain ⟨c0, c1⟩ := HS.out.cells
  obtain ⟨LQ, hLQ⟩ : ∃ LQ, [q0, q1, q2] = LQ := ⟨_, rfl⟩
  have hl3 : LQ.length = 3 := by rw [← hLQ]; rfl
  rw [hLQ] at HO HQ
  have HL3 := hide hl3
  clear hLQ hl3 c0 c1 d2
  go_upto_region 9 with (fail)
  go_loopw [10, 11, 12] (fun i _ _ wr => ∃ k : Nat, k ≤ 3 ∧ i = .int .i64 k ∧ Hid (OtS w a b wr) ∧ Hid (OwnS wr (w.heap.size + 1) (.slice (some ⟨gl, 0, none⟩) 3 3) LQ)) (fun i _ _ _ => 3 - (intOf i).toNat)
  case atStart => exact ⟨0, Nat.zero_le _, rfl, HS, HO⟩
  case round =>
    clear HS HO
    obtain ⟨k, hk, rfl, HS, HO⟩ := hrel
    by_cases hlt : k < 3
    · have hlti : (k : Int) < 3 := by omega
      have hwk : IntKind.i64.wrap ((k : Int) + 1) = (k : Int) + 1 := IntWalk.i64_in _ (by omega)
      have hkl : k < LQ.length := by rw [HL3.out]; exact hlt
      have hx := HQ.out LQ[k] (List.getElem_mem hkl)
      have HCELL := hide (fun (W : World) (h : OwnS W (w.heap.size + 1) (.slice (some ⟨gl, 0, none⟩) 3 3) LQ) => (h.cell hkl).1)
      generalize LQ[k] = x at *
      have QX := hide (fun W => getpage_c x b hx.1 W)
      have hx2 := hx.2
      generalize getS x b = X at *
      obtain ⟨x1, x2⟩ := X
      have HX2 := hide hx2
      clear hx hx2 hkl
      by_cases hz : x.size = 0
      · obtain rfl : x = ⟨#[]⟩ := nil_of_zero hz
        clear hz
        go_upto_region 11 with (fail)
        refine wp_region_held_drew (S := (fun w' => OtS w a b w' ∧ OwnS w' (w.heap.size + 1) (.slice (some ⟨gl, 0, none⟩) 3 3) LQ)) (by kernel_rfl) (⟨HS.out.kept (Below.refl _ _).drew, HO.out.kept (Below.refl _ _).drew⟩) (fun hHeld => ?_)
        first | (refine wpAnyH_take (i := 0) (v := ?_) nth0 (by kernel_rfl) (by kernel_rfl) (by kernel_rfl) (fun _ _ _ h => h) (Or.inl ⟨by rfl, ?_⟩) hHeld ?_; rotate_left; focus (intro wS hSw; (have dd := (HCELL.out _ hSw.2); obtain ⟨cc0, cc1⟩ := hSw.1.cells); go_simp; try with_reducible rfl; done)) | (refine wpAnyH_take (i := 0) (v := undef) nth0 (by kernel_rfl) (by kernel_rfl) (by kernel_rfl) (fun _ _ _ h => h) (Or.inr ⟨by rfl, rfl⟩) hHeld ?_)
        (try simp only [Act.put]); (try simp only [List.setIfInBounds_toArray]); (try simp only [List.set_cons_succ]); (try simp only [List.set_cons_zero])
        first | (refine wpAnyH_take (i := 1) (v := ?_) nth1 (by kernel_rfl) (by kernel_rfl) (by kernel_rfl) (fun _ _ _ h => h) (Or.inl ⟨by rfl, ?_⟩) hHeld ?_; rotate_left; focus (intro wS hSw; (have dd := (HCELL.out _ hSw.2); obtain ⟨cc0, cc1⟩ := hSw.1.cells); go_simp; try with_reducible rfl; done)) | (refine wpAnyH_take (i := 1) (v := undef) nth1 (by kernel_rfl) (by kernel_rfl) (by kernel_rfl) (fun _ _ _ h => h) (Or.inr ⟨by rfl, rfl⟩) hHeld ?_)
        (try simp only [Act.put]); (try simp only [List.setIfInBounds_toArray]); (try simp only [List.set_cons_succ]); (try simp only [List.set_cons_zero])
        first | (refine wpAnyH_take (i := 2) (v := ?_) nth2 (by kernel_rfl) (by kernel_rfl) (by kernel_rfl) (fun _ _ _ h => h) (Or.inl ⟨by rfl, ?_⟩) hHeld ?_; rotate_left; focus (intro wS hSw; (have dd := (HCELL.out _ hSw.2); obtain ⟨cc0, cc1⟩ := hSw.1.cells); go_simp; try with_reducible rfl; done)) | (refine wpAnyH_take (i := 2) (v := undef) nth2 (by kernel_rfl) (by kernel_rfl) (by kernel_rfl) (fun _ _ _ h => h) (Or.inr ⟨by rfl, rfl⟩) hHeld ?_)
        (try simp only [Act.put]); (try simp only [List.setIfInBounds_toArray]); (try simp only [List.set_cons_succ]); (try simp only [List.set_cons_zero])
        first | (refine wpAnyH_take (i := 3) (v := ?_) nth3 (by kernel_rfl) (by kernel_rfl) (by kernel_rfl) (fun _ _ _ h => h) (Or.inl ⟨by rfl, ?_⟩) hHeld ?_; rotate_left; focus (intro wS hSw; (have dd := (HCELL.out _ hSw.2); obtain ⟨cc0, cc1⟩ := hSw.1.cells); go_simp; try with_reducible rfl; done)) | (refine wpAnyH_take (i := 3) (v := undef) nth3 (by kernel_rfl) (by kernel_rfl) (by kernel_rfl) (fun _ _ _ h => h) (Or.inr ⟨by rfl, rfl⟩) hHeld ?_)
        (try simp only [Act.put]); (try simp only [List.setIfInBounds_toArray]); (try simp only [List.set_cons_succ]); (try simp only [List.set_cons_zero])
        first | (refine wpAnyH_take (i := 4) (v := ?_) nth4 (by kernel_rfl) (by kernel_rfl) (by kernel_rfl) (fun _ _ _ h => h) (Or.inl ⟨by rfl, ?_⟩) hHeld ?_; rotate_left; focus (intro wS hSw; (have dd := (HCELL.out _ hSw.2); obtain ⟨cc0, cc1⟩ := hSw.1.cells); go_simp; try with_reducible rfl; done)) | (refine wpAnyH_take (i := 4) (v := undef) nth4 (by kernel_rfl) (by kernel_rfl) (by kernel_rfl) (fun _ _ _ h => h) (Or.inr ⟨by rfl, rfl⟩) hHeld ?_)
        (try simp only [Act.put]); (try simp only [List.setIfInBounds_toArray]); (try simp only [List.set_cons_succ]); (try simp only [List.set_cons_zero])
        first | (refine wpAnyH_take (i := 5) (v := ?_) nth5 (by kernel_rfl) (by kernel_rfl) (by kernel_rfl) (fun _ _ _ h => h) (Or.inl ⟨by rfl, ?_⟩) hHeld ?_; rotate_left; focus (intro wS hSw; (have dd := (HCELL.out _ hSw.2); obtain ⟨cc0, cc1⟩ := hSw.1.cells); go_simp; try with_reducible rfl; done)) | (refine wpAnyH_take (i := 5) (v := undef) nth5 (by kernel_rfl) (by kernel_rfl) (by kernel_rfl) (fun _ _ _ h => h) (Or.inr ⟨by rfl, rfl⟩) hHeld ?_)
        (try simp only [Act.put]); (try simp only [List.setIfInBounds_toArray]); (try simp only [List.set_cons_succ]); (try simp only [List.set_cons_zero])
        refine wpAnyH_ready (rs := [6]) (by kernel_rfl) (by simp) ?_
        refine AllReadyH.cons nth6 (fun K hK => ?_) AllReadyH.nil
        go_simp
        (refine (QX.out _).mono ?_; rintro e w' ⟨rfl, hb⟩)
        refine hK.out _ _ (⟨hHeld.1.kept hb, hHeld.2.kept hb⟩) (fun hHeld => ?_)
        clear hK K
        (try simp only [Act.put]); (try simp only [List.setIfInBounds_toArray]); (try simp only [List.set_cons_succ]); (try simp only [List.set_cons_zero])
        first | (refine wpAnyH_take (i := 7) (v := ?_) nth7 (by kernel_rfl) (by kernel_rfl) (by kernel_rfl) (fun _ _ _ h => h) (Or.inl ⟨by rfl, ?_⟩) hHeld ?_; rotate_left; focus (intro wS hSw; (have dd := (HCELL.out _ hSw.2); obtain ⟨cc0, cc1⟩ := hSw.1.cells); go_simp; try with_reducible rfl; done)) | (refine wpAnyH_take (i := 7) (v := undef) nth7 (by kernel_rfl) (by kernel_rfl) (by kernel_rfl) (fun _ _ _ h => h) (Or.inr ⟨by rfl, rfl⟩) hHeld ?_)
        (try simp only [Act.put]); (try simp only [List.setIfInBounds_toArray]); (try simp only [List.set_cons_succ]); (try simp only [List.set_cons_zero])
        first | (refine wpAnyH_take (i := 8) (v := ?_) nth8 (by kernel_rfl) (by kernel_rfl) (by kernel_rfl) (fun _ _ _ h => h) (Or.inl ⟨by rfl, ?_⟩) hHeld ?_; rotate_left; focus (intro wS hSw; (have dd := (HCELL.out _ hSw.2); obtain ⟨cc0, cc1⟩ := hSw.1.cells); go_simp; try with_reducible rfl; done)) | (refine wpAnyH_take (i := 8) (v := undef) nth8 (by kernel_rfl) (by kernel_rfl) (by kernel_rfl) (fun _ _ _ h => h) (Or.inr ⟨by rfl, rfl⟩) hHeld ?_)
        (try simp only [Act.put]); (try simp only [List.setIfInBounds_toArray]); (try simp only [List.set_cons_succ]); (try simp only [List.set_cons_zero])
        first | (refine wpAnyH_take (i := 9) (v := ?_) nth9 (by kernel_rfl) (by kernel_rfl) (by kernel_rfl) (fun _ _ _ h => h) (Or.inl ⟨by rfl, ?_⟩) hHeld ?_; rotate_left; focus (intro wS hSw; (have dd := (HCELL.out _ hSw.2); obtain ⟨cc0, cc1⟩ := hSw.1.cells); go_simp; try with_reducible rfl; done)) | (refine wpAnyH_take (i := 9) (v := undef) nth9 (by kernel_rfl) (by kernel_rfl) (by kernel_rfl) (fun _ _ _ h => h) (Or.inr ⟨by rfl, rfl⟩) hHeld ?_)
        (try simp only [Act.put]); (try simp only [List.setIfInBounds_toArray]); (try simp only [List.set_cons_succ]); (try simp only [List.set_cons_zero])
        first | (refine wpAnyH_take (i := 10) (v := ?_) nth10 (by kernel_rfl) (by kernel_rfl) (by kernel_rfl) (fun _ _ _ h => h) (Or.inl ⟨by rfl, ?_⟩) hHeld ?_; rotate_left; focus (intro wS hSw; (have dd := (HCELL.out _ hSw.2); obtain ⟨cc0, cc1⟩ := hSw.1.cells); go_simp; try with_reducible rfl; done)) | (refine wpAnyH_take (i := 10) (v := undef) nth10 (by kernel_rfl) (by kernel_rfl) (by kernel_rfl) (fun _ _ _ h => h) (Or.inr ⟨by rfl, rfl⟩) hHeld ?_)
        (try simp only [Act.put]); (try simp only [List.setIfInBounds_toArray]); (try simp only [List.set_cons_succ]); (try simp only [List.set_cons_zero])
        first | (refine wpAnyH_take (i := 11) (v := ?_) nth11 (by kernel_rfl) (by kernel_rfl) (by kernel_rfl) (fun _ _ _ h => h) (Or.inl ⟨by rfl, ?_⟩) hHeld ?_; rotate_left; focus (intro wS hSw; (have dd := (HCELL.out _ hSw.2); obtain ⟨cc0, cc1⟩ := hSw.1.cells); go_simp; try with_reducible rfl; done)) | (refine wpAnyH_take (i := 11) (v := undef) nth11 (by kernel_rfl) (by kernel_rfl) (by kernel_rfl) (fun _ _ _ h => h) (Or.inr ⟨by rfl, rfl⟩) hHeld ?_)
        (try simp only [Act.put]); (try simp only [List.setIfInBounds_toArray]); (try simp only [List.set_cons_succ]); (try simp only [List.set_cons_zero])
        refine wpAnyH_done (by kernel_rfl) ?_ _
        have HS2 := hide hHeld.1
        have HO2 := hide hHeld.2
        clear hHeld
        have dd := HCELL.out _ HO2.out
        obtain ⟨cc0, cc1⟩ := HS2.out.cells
        go_wp2_with fail
        go_roundw
        case rel => exact ⟨k + 1, by omega, by go_num, HS2, HO2⟩
        case measure => simp [intOf]; omega
      · have e1 : (x.toList == []) = false := by
          cases hq : x.toList with
          | nil => exact absurd (by have := congrArg List.length hq; rw [ByteArray.toList_eq] at this; simpa using this) hz
          | cons y t => rfl
        by_cases hab : a = b
        · subst hab
          clear HX2 hz
          go_upto_region 11 with (fail)
          refine wp_region_held_drew (S := (fun w' => OtS w a a w' ∧ OwnS w' (w.heap.size + 1) (.slice (some ⟨gl, 0, none⟩) 3 3) LQ)) (by kernel_rfl) (⟨HS.out.kept (Below.refl _ _).drew, HO.out.kept (Below.refl _ _).drew⟩) (fun hHeld => ?_)
          first | (refine wpAnyH_take (i := 0) (v := ?_) nth0 (by kernel_rfl) (by kernel_rfl) (by kernel_rfl) (fun _ _ _ h => h) (Or.inl ⟨by rfl, ?_⟩) hHeld ?_; rotate_left; focus (intro wS hSw; (have dd := (HCELL.out _ hSw.2); obtain ⟨cc0, cc1⟩ := hSw.1.cells); go_simp; try with_reducible rfl; done)) | (refine wpAnyH_take (i := 0) (v := undef) nth0 (by kernel_rfl) (by kernel_rfl) (by kernel_rfl) (fun _ _ _ h => h) (Or.inr ⟨by rfl, rfl⟩) hHeld ?_)
          (try simp only [Act.put]); (try simp only [List.setIfInBounds_toArray]); (try simp only [List.set_cons_succ]); (try simp only [List.set_cons_zero])
          first | (refine wpAnyH_take (i := 1) (v := ?_) nth1 (by kernel_rfl) (by kernel_rfl) (by kernel_rfl) (fun _ _ _ h => h) (Or.inl ⟨by rfl, ?_⟩) hHeld ?_; rotate_left; focus (intro wS hSw; (have dd := (HCELL.out _ hSw.2); obtain ⟨cc0, cc1⟩ := hSw.1.cells); go_simp; try with_reducible rfl; done)) | (refine wpAnyH_take (i := 1) (v := undef) nth1 (by kernel_rfl) (by kernel_rfl) (by kernel_rfl) (fun _ _ _ h => h) (Or.inr ⟨by rfl, rfl⟩) hHeld ?_)
          (try simp only [Act.put]); (try simp only [List.setIfInBounds_toArray]); (try simp only [List.set_cons_succ]); (try simp only [List.set_cons_zero])
          first | (refine wpAnyH_take (i := 2) (v := ?_) nth2 (by kernel_rfl) (by kernel_rfl) (by kernel_rfl) (fun _ _ _ h => h) (Or.inl ⟨by rfl, ?_⟩) hHeld ?_; rotate_left; focus (intro wS hSw; (have dd := (HCELL.out _ hSw.2); obtain ⟨cc0, cc1⟩ := hSw.1.cells); go_simp; try with_reducible rfl; done)) | (refine wpAnyH_take (i := 2) (v := undef) nth2 (by kernel_rfl) (by kernel_rfl) (by kernel_rfl) (fun _ _ _ h => h) (Or.inr ⟨by rfl, rfl⟩) hHeld ?_)
          (try simp only [Act.put]); (try simp only [List.setIfInBounds_toArray]); (try simp only [List.set_cons_succ]); (try simp only [List.set_cons_zero])
          first | (refine wpAnyH_take (i := 3) (v := ?_) nth3 (by kernel_rfl) (by kernel_rfl) (by kernel_rfl) (fun _ _ _ h => h) (Or.inl ⟨by rfl, ?_⟩) hHeld ?_; rotate_left; focus (intro wS hSw; (have dd := (HCELL.out _ hSw.2); obtain ⟨cc0, cc1⟩ := hSw.1.cells); go_simp; try with_reducible rfl; done)) | (refine wpAnyH_take (i := 3) (v := undef) nth3 (by kernel_rfl) (by kernel_rfl) (by kernel_rfl) (fun _ _ _ h => h) (Or.inr ⟨by rfl, rfl⟩) hHeld ?_)
          (try simp only [Act.put]); (try simp only [List.setIfInBounds_toArray]); (try simp only [List.set_cons_succ]); (try simp only [List.set_cons_zero])
          first | (refine wpAnyH_take (i := 4) (v := ?_) nth4 (by kernel_rfl) (by kernel_rfl) (by kernel_rfl) (fun _ _ _ h => h) (Or.inl ⟨by rfl, ?_⟩) hHeld ?_; rotate_left; focus (intro wS hSw; (have dd := (HCELL.out _ hSw.2); obtain ⟨cc0, cc1⟩ := hSw.1.cells); go_simp; try with_reducible rfl; done)) | (refine wpAnyH_take (i := 4) (v := undef) nth4 (by kernel_rfl) (by kernel_rfl) (by kernel_rfl) (fun _ _ _ h => h) (Or.inr ⟨by rfl, rfl⟩) hHeld ?_)
          (try simp only [Act.put]); (try simp only [List.setIfInBounds_toArray]); (try simp only [List.set_cons_succ]); (try simp only [List.set_cons_zero])
          first | (refine wpAnyH_take (i := 5) (v := ?_) nth5 (by kernel_rfl) (by kernel_rfl) (by kernel_rfl) (fun _ _ _ h => h) (Or.inl ⟨by rfl, ?_⟩) hHeld ?_; rotate_left; focus (intro wS hSw; (have dd := (HCELL.out _ hSw.2); obtain ⟨cc0, cc1⟩ := hSw.1.cells); go_simp; try with_reducible rfl; done)) | (refine wpAnyH_take (i := 5) (v := undef) nth5 (by kernel_rfl) (by kernel_rfl) (by kernel_rfl) (fun _ _ _ h => h) (Or.inr ⟨by rfl, rfl⟩) hHeld ?_)
          (try simp only [Act.put]); (try simp only [List.setIfInBounds_toArray]); (try simp only [List.set_cons_succ]); (try simp only [List.set_cons_zero])
          refine wpAnyH_ready (rs := [6]) (by kernel_rfl) (by simp) ?_
          refine AllReadyH.cons nth6 (fun K hK => ?_) AllReadyH.nil
          go_simp
          (refine (QX.out _).mono ?_; rintro e w' ⟨rfl, hb⟩)
          refine hK.out _ _ (⟨hHeld.1.kept hb, hHeld.2.kept hb⟩) (fun hHeld => ?_)
          clear hK K
          (try simp only [Act.put]); (try simp only [List.setIfInBounds_toArray]); (try simp only [List.set_cons_succ]); (try simp only [List.set_cons_zero])
          first | (refine wpAnyH_take (i := 7) (v := ?_) nth7 (by kernel_rfl) (by kernel_rfl) (by kernel_rfl) (fun _ _ _ h => h) (Or.inl ⟨by rfl, ?_⟩) hHeld ?_; rotate_left; focus (intro wS hSw; (have dd := (HCELL.out _ hSw.2); obtain ⟨cc0, cc1⟩ := hSw.1.cells); go_simp; try with_reducible rfl; done)) | (refine wpAnyH_take (i := 7) (v := undef) nth7 (by kernel_rfl) (by kernel_rfl) (by kernel_rfl) (fun _ _ _ h => h) (Or.inr ⟨by rfl, rfl⟩) hHeld ?_)
          (try simp only [Act.put]); (try simp only [List.setIfInBounds_toArray]); (try simp only [List.set_cons_succ]); (try simp only [List.set_cons_zero])
          first | (refine wpAnyH_take (i := 8) (v := ?_) nth8 (by kernel_rfl) (by kernel_rfl) (by kernel_rfl) (fun _ _ _ h => h) (Or.inl ⟨by rfl, ?_⟩) hHeld ?_; rotate_left; focus (intro wS hSw; (have dd := (HCELL.out _ hSw.2); obtain ⟨cc0, cc1⟩ := hSw.1.cells); go_simp; try with_reducible rfl; done)) | (refine wpAnyH_take (i := 8) (v := undef) nth8 (by kernel_rfl) (by kernel_rfl) (by kernel_rfl) (fun _ _ _ h => h) (Or.inr ⟨by rfl, rfl⟩) hHeld ?_)
          (try simp only [Act.put]); (try simp only [List.setIfInBounds_toArray]); (try simp only [List.set_cons_succ]); (try simp only [List.set_cons_zero])
          first | (refine wpAnyH_take (i := 9) (v := ?_) nth9 (by kernel_rfl) (by kernel_rfl) (by kernel_rfl) (fun _ _ _ h => h) (Or.inl ⟨by rfl, ?_⟩) hHeld ?_; rotate_left; focus (intro wS hSw; (have dd := (HCELL.out _ hSw.2); obtain ⟨cc0, cc1⟩ := hSw.1.cells); go_simp; try with_reducible rfl; done)) | (refine wpAnyH_take (i := 9) (v := undef) nth9 (by kernel_rfl) (by kernel_rfl) (by kernel_rfl) (fun _ _ _ h => h) (Or.inr ⟨by rfl, rfl⟩) hHeld ?_)
          (try simp only [Act.put]); (try simp only [List.setIfInBounds_toArray]); (try simp only [List.set_cons_succ]); (try simp only [List.set_cons_zero])
          first | (refine wpAnyH_take (i := 10) (v := ?_) nth10 (by kernel_rfl) (by kernel_rfl) (by kernel_rfl) (fun _ _ _ h => h) (Or.inl ⟨by rfl, ?_⟩) hHeld ?_; rotate_left; focus (intro wS hSw; (have dd := (HCELL.out _ hSw.2); obtain ⟨cc0, cc1⟩ := hSw.1.cells); go_simp; try with_reducible rfl; done)) | (refine wpAnyH_take (i := 10) (v := undef) nth10 (by kernel_rfl) (by kernel_rfl) (by kernel_rfl) (fun _ _ _ h => h) (Or.inr ⟨by rfl, rfl⟩) hHeld ?_)
          (try simp only [Act.put]); (try simp only [List.setIfInBounds_toArray]); (try simp only [List.set_cons_succ]); (try simp only [List.set_cons_zero])
          first | (refine wpAnyH_take (i := 11) (v := ?_) nth11 (by kernel_rfl) (by kernel_rfl) (by kernel_rfl) (fun _ _ _ h => h) (Or.inl ⟨by rfl, ?_⟩) hHeld ?_; rotate_left; focus (intro wS hSw; (have dd := (HCELL.out _ hSw.2); obtain ⟨cc0, cc1⟩ := hSw.1.cells); go_simp; try with_reducible rfl; done)) | (refine wpAnyH_take (i := 11) (v := undef) nth11 (by kernel_rfl) (by kernel_rfl) (by kernel_rfl) (fun _ _ _ h => h) (Or.inr ⟨by rfl, rfl⟩) hHeld ?_)
          (try simp only [Act.put]); (try simp only [List.setIfInBounds_toArray]); (try simp only [List.set_cons_succ]); (try simp only [List.set_cons_zero])
          refine wpAnyH_done (by kernel_rfl) ?_ _
          have HS2 := hide hHeld.1
          have HO2 := hide hHeld.2
          clear hHeld
          have dd := HCELL.out _ HO2.out
          obtain ⟨cc0, cc1⟩ := HS2.out.cells
          go_wp2_with fail
          go_roundw
          case rel => exact ⟨k + 1, by omega, by go_num, HS2, HO2⟩
          case measure => simp [intOf]; omega
        · have hab2 : (a == b) = false := by simp [hab]
          have hab3 : (a != b) = true := by simp [hab]
          have hg := HX2.out hz hab
          injection hg with hg1 hg2
          subst hg1 hg2
          clear HX2 hz
          go_upto_region 11 with (fail)
          refine wp_region_held_drew (S := (fun w' => OtS w a b w' ∧ OwnS w' (w.heap.size + 1) (.slice (some ⟨gl, 0, none⟩) 3 3) LQ)) (by kernel_rfl) (⟨HS.out.kept (Below.refl _ _).drew, HO.out.kept (Below.refl _ _).drew⟩) (fun hHeld => ?_)
          first | (refine wpAnyH_take (i := 0) (v := ?_) nth0 (by kernel_rfl) (by kernel_rfl) (by kernel_rfl) (fun _ _ _ h => h) (Or.inl ⟨by rfl, ?_⟩) hHeld ?_; rotate_left; focus (intro wS hSw; (have dd := (HCELL.out _ hSw.2); obtain ⟨cc0, cc1⟩ := hSw.1.cells); go_simp; try with_reducible rfl; done)) | (refine wpAnyH_take (i := 0) (v := undef) nth0 (by kernel_rfl) (by kernel_rfl) (by kernel_rfl) (fun _ _ _ h => h) (Or.inr ⟨by rfl, rfl⟩) hHeld ?_)
          (try simp only [Act.put]); (try simp only [List.setIfInBounds_toArray]); (try simp only [List.set_cons_succ]); (try simp only [List.set_cons_zero])
          first | (refine wpAnyH_take (i := 1) (v := ?_) nth1 (by kernel_rfl) (by kernel_rfl) (by kernel_rfl) (fun _ _ _ h => h) (Or.inl ⟨by rfl, ?_⟩) hHeld ?_; rotate_left; focus (intro wS hSw; (have dd := (HCELL.out _ hSw.2); obtain ⟨cc0, cc1⟩ := hSw.1.cells); go_simp; try with_reducible rfl; done)) | (refine wpAnyH_take (i := 1) (v := undef) nth1 (by kernel_rfl) (by kernel_rfl) (by kernel_rfl) (fun _ _ _ h => h) (Or.inr ⟨by rfl, rfl⟩) hHeld ?_)
          (try simp only [Act.put]); (try simp only [List.setIfInBounds_toArray]); (try simp only [List.set_cons_succ]); (try simp only [List.set_cons_zero])
          first | (refine wpAnyH_take (i := 2) (v := ?_) nth2 (by kernel_rfl) (by kernel_rfl) (by kernel_rfl) (fun _ _ _ h => h) (Or.inl ⟨by rfl, ?_⟩) hHeld ?_; rotate_left; focus (intro wS hSw; (have dd := (HCELL.out _ hSw.2); obtain ⟨cc0, cc1⟩ := hSw.1.cells); go_simp; try with_reducible rfl; done)) | (refine wpAnyH_take (i := 2) (v := undef) nth2 (by kernel_rfl) (by kernel_rfl) (by kernel_rfl) (fun _ _ _ h => h) (Or.inr ⟨by rfl, rfl⟩) hHeld ?_)
          (try simp only [Act.put]); (try simp only [List.setIfInBounds_toArray]); (try simp only [List.set_cons_succ]); (try simp only [List.set_cons_zero])
          first | (refine wpAnyH_take (i := 3) (v := ?_) nth3 (by kernel_rfl) (by kernel_rfl) (by kernel_rfl) (fun _ _ _ h => h) (Or.inl ⟨by rfl, ?_⟩) hHeld ?_; rotate_left; focus (intro wS hSw; (have dd := (HCELL.out _ hSw.2); obtain ⟨cc0, cc1⟩ := hSw.1.cells); go_simp; try with_reducible rfl; done)) | (refine wpAnyH_take (i := 3) (v := undef) nth3 (by kernel_rfl) (by kernel_rfl) (by kernel_rfl) (fun _ _ _ h => h) (Or.inr ⟨by rfl, rfl⟩) hHeld ?_)
          (try simp only [Act.put]); (try simp only [List.setIfInBounds_toArray]); (try simp only [List.set_cons_succ]); (try simp only [List.set_cons_zero])
          first | (refine wpAnyH_take (i := 4) (v := ?_) nth4 (by kernel_rfl) (by kernel_rfl) (by kernel_rfl) (fun _ _ _ h => h) (Or.inl ⟨by rfl, ?_⟩) hHeld ?_; rotate_left; focus (intro wS hSw; (have dd := (HCELL.out _ hSw.2); obtain ⟨cc0, cc1⟩ := hSw.1.cells); go_simp; try with_reducible rfl; done)) | (refine wpAnyH_take (i := 4) (v := undef) nth4 (by kernel_rfl) (by kernel_rfl) (by kernel_rfl) (fun _ _ _ h => h) (Or.inr ⟨by rfl, rfl⟩) hHeld ?_)
          (try simp only [Act.put]); (try simp only [List.setIfInBounds_toArray]); (try simp only [List.set_cons_succ]); (try simp only [List.set_cons_zero])
          first | (refine wpAnyH_take (i := 5) (v := ?_) nth5 (by kernel_rfl) (by kernel_rfl) (by kernel_rfl) (fun _ _ _ h => h) (Or.inl ⟨by rfl, ?_⟩) hHeld ?_; rotate_left; focus (intro wS hSw; (have dd := (HCELL.out _ hSw.2); obtain ⟨cc0, cc1⟩ := hSw.1.cells); go_simp; try with_reducible rfl; done)) | (refine wpAnyH_take (i := 5) (v := undef) nth5 (by kernel_rfl) (by kernel_rfl) (by kernel_rfl) (fun _ _ _ h => h) (Or.inr ⟨by rfl, rfl⟩) hHeld ?_)
          (try simp only [Act.put]); (try simp only [List.setIfInBounds_toArray]); (try simp only [List.set_cons_succ]); (try simp only [List.set_cons_zero])
          refine wpAnyH_ready (rs := [6]) (by kernel_rfl) (by simp) ?_
          refine AllReadyH.cons nth6 (fun K hK => ?_) AllReadyH.nil
          go_simp
          (refine (QX.out _).mono ?_; rintro e w' ⟨rfl, hb⟩)
          refine hK.out _ _ (⟨hHeld.1.kept hb, hHeld.2.kept hb⟩) (fun hHeld => ?_)
          clear hK K
          (try simp only [Act.put]); (try simp only [List.setIfInBounds_toArray]); (try simp only [List.set_cons_succ]); (try simp only [List.set_cons_zero])
          first | (refine wpAnyH_take (i := 7) (v := ?_) nth7 (by kernel_rfl) (by kernel_rfl) (by kernel_rfl) (fun _ _ _ h => h) (Or.inl ⟨by rfl, ?_⟩) hHeld ?_; rotate_left; focus (intro wS hSw; (have dd := (HCELL.out _ hSw.2); obtain ⟨cc0, cc1⟩ := hSw.1.cells); go_simp; try with_reducible rfl; done)) | (refine wpAnyH_take (i := 7) (v := undef) nth7 (by kernel_rfl) (by kernel_rfl) (by kernel_rfl) (fun _ _ _ h => h) (Or.inr ⟨by rfl, rfl⟩) hHeld ?_)
          (try simp only [Act.put]); (try simp only [List.setIfInBounds_toArray]); (try simp only [List.set_cons_succ]); (try simp only [List.set_cons_zero])
          first | (refine wpAnyH_take (i := 8) (v := ?_) nth8 (by kernel_rfl) (by kernel_rfl) (by kernel_rfl) (fun _ _ _ h => h) (Or.inl ⟨by rfl, ?_⟩) hHeld ?_; rotate_left; focus (intro wS hSw; (have dd := (HCELL.out _ hSw.2); obtain ⟨cc0, cc1⟩ := hSw.1.cells); go_simp; try with_reducible rfl; done)) | (refine wpAnyH_take (i := 8) (v := undef) nth8 (by kernel_rfl) (by kernel_rfl) (by kernel_rfl) (fun _ _ _ h => h) (Or.inr ⟨by rfl, rfl⟩) hHeld ?_)
          (try simp only [Act.put]); (try simp only [List.setIfInBounds_toArray]); (try simp only [List.set_cons_succ]); (try simp only [List.set_cons_zero])
          first | (refine wpAnyH_take (i := 9) (v := ?_) nth9 (by kernel_rfl) (by kernel_rfl) (by kernel_rfl) (fun _ _ _ h => h) (Or.inl ⟨by rfl, ?_⟩) hHeld ?_; rotate_left; focus (intro wS hSw; (have dd := (HCELL.out _ hSw.2); obtain ⟨cc0, cc1⟩ := hSw.1.cells); go_simp; try with_reducible rfl; done)) | (refine wpAnyH_take (i := 9) (v := undef) nth9 (by kernel_rfl) (by kernel_rfl) (by kernel_rfl) (fun _ _ _ h => h) (Or.inr ⟨by rfl, rfl⟩) hHeld ?_)
          (try simp only [Act.put]); (try simp only [List.setIfInBounds_toArray]); (try simp only [List.set_cons_succ]); (try simp only [List.set_cons_zero])
          first | (refine wpAnyH_take (i := 10) (v := ?_) nth10 (by kernel_rfl) (by kernel_rfl) (by kernel_rfl) (fun _ _ _ h => h) (Or.inl ⟨by rfl, ?_⟩) hHeld ?_; rotate_left; focus (intro wS hSw; (have dd := (HCELL.out _ hSw.2); obtain ⟨cc0, cc1⟩ := hSw.1.cells); go_simp; try with_reducible rfl; done)) | (refine wpAnyH_take (i := 10) (v := undef) nth10 (by kernel_rfl) (by kernel_rfl) (by kernel_rfl) (fun _ _ _ h => h) (Or.inr ⟨by rfl, rfl⟩) hHeld ?_)
          (try simp only [Act.put]); (try simp only [List.setIfInBounds_toArray]); (try simp only [List.set_cons_succ]); (try simp only [List.set_cons_zero])
          first | (refine wpAnyH_take (i := 11) (v := ?_) nth11 (by kernel_rfl) (by kernel_rfl) (by kernel_rfl) (fun _ _ _ h => h) (Or.inl ⟨by rfl, ?_⟩) hHeld ?_; rotate_left; focus (intro wS hSw; (have dd := (HCELL.out _ hSw.2); obtain ⟨cc0, cc1⟩ := hSw.1.cells); go_simp; try with_reducible rfl; done)) | (refine wpAnyH_take (i := 11) (v := undef) nth11 (by kernel_rfl) (by kernel_rfl) (by kernel_rfl) (fun _ _ _ h => h) (Or.inr ⟨by rfl, rfl⟩) hHeld ?_)
          (try simp only [Act.put]); (try simp only [List.setIfInBounds_toArray]); (try simp only [List.set_cons_succ]); (try simp only [List.set_cons_zero])
          refine wpAnyH_done (by kernel_rfl) ?_ _
          have HS2 := hide hHeld.1
          have HO2 := hide hHeld.2
          clear hHeld
          have dd := HCELL.out _ HO2.out
          obtain ⟨cc0, cc1⟩ := HS2.out.cells
          go_wp2_with fail
          go_roundw
          case rel => exact ⟨k + 1, by omega, by go_num, HS2, HO2⟩
          case measure => simp [intOf]; omega
    · have hlti : ¬ (k : Int) < 3 := by omega
      obtain ⟨c0, c1⟩ := HS.out.cells
      clear HO
      go_wp2_with fail
      refine (U5.out _).mono ?_
      rintro e wz5 ⟨rfl, hb⟩
      replace HS := hide (HS.out.kept hb)
      clear hb c0 c1
      obtain ⟨c0, c1⟩ := HS.out.cells
      go_upto_if 126 with (fail)
      go_cut [15, 16, 17, 18, 19] from 125 to 164 (fun _ _ _ _ _ wx => Hid (OtS w a b wx))
      case first =>
        by_cases he : e3 = 0
        · subst he
          obtain ⟨z1, z2, z3⟩ := HAd.out _ rfl
          have v1 := hide (fun W => getpage_c q3 (if a ≤ b then b + 1 else b) (by omega) W)
          have v2 := hide (fun W => getpage_c q3 a (by omega) W)
          rw [z2] at v1
          rw [z3] at v2
          clear z1 z2 z3
          have hw1 : IntKind.i64.wrap (b + 1) = b + 1 := IntWalk.i64_in _ (by omega)
          by_cases hab : a ≤ b
          · rw [if_pos hab] at v1
            go_wp2_with fail
            refine (v1.out _).mono ?_
            rintro e wz6 ⟨rfl, hb⟩
            replace HS := hide (HS.out.kept hb)
            clear hb c0 c1
            obtain ⟨c0, c1⟩ := HS.out.cells
            go_wp2_with fail
            refine (v2.out _).mono ?_
            rintro e wz7 ⟨rfl, hb⟩
            replace HS := hide (HS.out.kept hb)
            clear hb c0 c1
            obtain ⟨c0, c1⟩ := HS.out.cells
            go_wp2_with fail
            go_meet
            case rel => exact HS
          · rw [if_neg hab] at v1
            go_wp2_with fail
            refine (v1.out _).mono ?_
            rintro e wz8 ⟨rfl, hb⟩
            replace HS := hide (HS.out.kept hb)
            clear hb c0 c1
            obtain ⟨c0, c1⟩ := HS.out.cells
            go_wp2_with fail
            refine (v2.out _).mono ?_
            rintro e wz9 ⟨rfl, hb⟩
            replace HS := hide (HS.out.kept hb)
            clear hb c0 c1
            obtain ⟨c0, c1⟩ := HS.out.cells
            go_wp2_with fail
            go_meet
            case rel => exact HS
        · have he2 : (e3 == 0) = false := by simp [he]
          go_wp2_with fail
          go_meet
          case rel => exact HS
      case rest =>
        clear HS c0 c1
        have HS := hcut
        obtain ⟨c0, c1⟩ := HS.out.cells
        go_wp2_with fail
        refine (U6.out _).mono ?_
        rintro e wz11 ⟨rfl, hb⟩
        replace HS := hide (HS.out.kept hb)
        clear hb c0 c1
        obtain ⟨c0, c1⟩ := HS.out.cells
        by_cases he : e4 = 0
        · subst he
          by_cases hab : a = b
          · subst hab
            go_wp2_with fail
            refine (QA.out _ (HT.out.keep HS.out.hb)).mono ?_
            rintro e wz10 ⟨rfl, hb⟩
            replace HS := hide (HS.out.kept hb)
            clear hb c0 c1
            obtain ⟨c0, c1⟩ := HS.out.cells
            go_wp2_with fail
            go_ret
            exact ⟨rfl, HS.out.hb⟩
          · have hab2 : (a == b) = false := by simp [hab]
            have hab3 : (a != b) = true := by simp [hab]
            obtain ⟨z1, z2⟩ := HD.out _ rfl hab
            have v1 := hide (fun W => getpage_c q4 (if a < b then b - 1 else b) (by omega) W)
            rw [z2] at v1
            clear z1 z2
            have hw1 : IntKind.i64.wrap (b - 1) = b - 1 := IntWalk.i64_in _ (by omega)
            by_cases hlt2 : a < b
            · rw [if_pos hlt2] at v1
              go_wp2_with fail
              refine (v1.out _).mono ?_
              rintro e wz12 ⟨rfl, hb⟩
              replace HS := hide (HS.out.kept hb)
              clear hb c0 c1
              obtain ⟨c0, c1⟩ := HS.out.cells
              go_wp2_with fail
              refine (QA.out _ (HT.out.keep HS.out.hb)).mono ?_
              rintro e wz10 ⟨rfl, hb⟩
              replace HS := hide (HS.out.kept hb)
              clear hb c0 c1
              obtain ⟨c0, c1⟩ := HS.out.cells
              go_wp2_with fail
              go_ret
              exact ⟨rfl, HS.out.hb⟩
            · rw [if_neg hlt2] at v1
              go_wp2_with fail
              refine (v1.out _).mono ?_
              rintro e wz13 ⟨rfl, hb⟩
              replace HS := hide (HS.out.kept hb)
              clear hb c0 c1
              obtain ⟨c0, c1⟩ := HS.out.cells
              go_wp2_with fail
              refine (QA.out _ (HT.out.keep HS.out.hb)).mono ?_
              rintro e wz10 ⟨rfl, hb⟩
              replace HS := hide (HS.out.kept hb)
              clear hb c0 c1
              obtain ⟨c0, c1⟩ := HS.out.cells
              go_wp2_with fail
              go_ret
              exact ⟨rfl, HS.out.hb⟩
        · have he2 : (e4 == 0) = false := by simp [he]
          go_wp2_with fail
          refine (QA.out _ (HT.out.keep HS.out.hb)).mono ?_
          rintro e wz10 ⟨rfl, hb⟩
          replace HS := hide (HS.out.kept hb)
          clear hb c0 c1
          obtain ⟨c0, c1⟩ := HS.out.cells
          go_wp2_with fail
          go_ret
          exact ⟨rfl, HS.out.hb⟩
end Go.Proofs.YtfdedkcidemimaaDoor
