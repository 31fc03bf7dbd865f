/- The walk of SorterOrder. -/
import Derived.Test.YtahdkfenpflahaaSoL
import Derived.Deep.Cut
namespace Go.Proofs.Ytahdkfenpflahaa
set_option linter.unusedVariables false
open Go.ChangeShapes Go.WideShapes Go.ChangeAt Go.RowKit Go.Joins Go.Deep

theorem open_three {H : Type} {enc : TypeId × Value → H} {w : World} {base : Nat} {v : Value} {d : DataW H} {p : List MemPlace}
    (hok : Value.okWide Try.prog w .any base 27 v) (h : DataW.Trod enc Try.prog w 0 (fun _ => true) true 27 v d p) :
    ∃ A0 n0 c0 r A1 n1 c1 s A2 n2 c2 t, v = .agg #[.slice A0 n0 c0, .slice A1 n1 c1, .slice A2 n2 c2] ∧ RowAt w w.heap.size A0 n0 c0 r ∧ RowAt w w.heap.size A1 n1 c1 s ∧ RowAt w w.heap.size A2 n2 c2 t ∧ StrsOk r ∧ StrsOk s := by
  have ht := Try.underlying27
  have hc : Try.prog.cellsOf 23 = 1 := by kernel_rfl
  have hC : Try.prog.cellsOf 27 = 3 := by kernel_rfl
  simp only [Value.okWide, ht] at hok
  obtain ⟨cs, rfl, hsz, _⟩ := hok
  obtain ⟨l⟩ := cs
  match l, hsz.trans hC with
  | [k0, k1, k2], _ =>
    obtain ⟨fuel, hf⟩ := h
    obtain ⟨xs, m, _, ex, _, hlen, hg⟩ := DataW.trod_array ht hf
    match xs, hlen with
    | [y0, y1, y2], _ =>
      obtain ⟨A0, n0, c0, r, e0, g0, b0⟩ := open_rowC (x := y0) (by simpa [Value.cells, hc] using hg 0 (by omega))
      obtain ⟨A1, n1, c1, s, e1, g1, b1⟩ := open_rowC (x := y1) (by simpa [Value.cells, hc] using hg 1 (by omega))
      obtain ⟨A2, n2, c2, t, e2, g2, _⟩ := open_rowC (x := y2) (by simpa [Value.cells, hc] using hg 2 (by omega))
      simp at e0 e1 e2
      subst e0 e1 e2
      exact ⟨A0, n0, c0, r, A1, n1, c1, s, A2, n2, c2, t, rfl, g0, g1, g2, b0, b1⟩
set_option maxRecDepth 100000 in
set_option maxHeartbeats 4000000 in
theorem sorterOrder_w (A0 A1 A2 A3 : Option Addr) (n0 c0 n1 c1 n2 c2 n3 c3 : Nat) (r s t : List ValV) (ks : List (Int × Bool)) (w : World) (h0 : RowAt w w.heap.size A0 n0 c0 r) (h1 : RowAt w w.heap.size A1 n1 c1 s) (h2 : RowAt w w.heap.size A2 n2 c2 t) (hk : KeysAt w w.heap.size A3 n3 c3 ks) (hr : StrsOk r) (hs : StrsOk s) :
    Calls Try.prog 4 #[.agg #[.slice A0 n0 c0, .slice A1 n1 c1, .slice A2 n2 c2], .slice A3 n3 c3] w fun e w' => e = .returned (.bool true) ∧ Below w.heap.size w w' := by
  have QA := hide (fun W => awake_c W)
  have Q1 := hide (fun (W : World) (hW : Below w.heap.size w W) => before_c A0 A1 A3 n0 c0 n1 c1 n3 c3 r s ks W (h0.kept hW) (h1.kept hW) (hk.kept hW))
  have Q2 := hide (fun (W : World) (hW : Below w.heap.size w W) => before_c A1 A0 A3 n1 c1 n0 c0 n3 c3 s r ks W (h1.kept hW) (h0.kept hW) (hk.kept hW))
  have Q3 := hide (fun (W : World) (hW : Below w.heap.size w W) => before_c A1 A2 A3 n1 c1 n2 c2 n3 c3 s t ks W (h1.kept hW) (h2.kept hW) (hk.kept hW))
  have Q4 := hide (fun (W : World) (hW : Below w.heap.size w W) => before_c A0 A2 A3 n0 c0 n2 c2 n3 c3 r t ks W (h0.kept hW) (h2.kept hW) (hk.kept hW))
  have Q5 := hide (fun (W : World) (hW : Below w.heap.size w W) => rorders_c A0 A1 n0 c0 n1 c1 r s W (h0.kept hW) (h1.kept hW) hr hs)
  have QL := hide (fun (W : World) (hW : Below w.heap.size w W) => All_c (some ⟨W.heap.size, 0, none⟩) A3 3 3 n3 c3 [(⟨A0, n0, c0⟩, r), (⟨A1, n1, c1⟩, s), (⟨A2, n2, c2⟩, t)] ks (W.alloc (.cells #[.slice A0 n0 c0, .slice A1 n1 c1, .slice A2 n2 c2] 23))
    (hs_lit W [(⟨A0, n0, c0⟩, r), (⟨A1, n1, c1⟩, s), (⟨A2, n2, c2⟩, t)] 3 rfl (by simp [maxLen]) #[.slice A0 n0 c0, .slice A1 n1 c1, .slice A2 n2 c2] rfl (by
      intro p hp
      rcases List.mem_cons.1 hp with rfl | hp
      · exact h0.kept hW
      · rcases List.mem_cons.1 hp with rfl | hp
        · exact h1.kept hW
        · obtain rfl := List.mem_singleton.1 hp
          exact h2.kept hW)) ((hk.kept hW).kept (Bel.one W _)))
  have HO := hide (@befB_order r s t ks)
  clear h0 h1 h2 hk hr hs
  go_enter Try.func4, Try.ntmps4
  go_upto_region 1 with (fail)
  have hbx := heap_alloc_new w (.cells #[.slice A0 n0 c0, .slice A1 n1 c1, .slice A2 n2 c2] 27)
  have HB := hide (Bel.one w (.cells #[.slice A0 n0 c0, .slice A1 n1 c1, .slice A2 n2 c2] 27))
  generalize w.alloc (.cells #[.slice A0 n0 c0, .slice A1 n1 c1, .slice A2 n2 c2] 27) = w1 at *
  have x0 : w1.cell? ⟨w.heap.size, 0, none⟩ = some (.slice A0 n0 c0) := cell_of_row w1 _ 0 _ _ (0, 0) hbx
  have x1 : w1.cell? ⟨w.heap.size, 1, none⟩ = some (.slice A1 n1 c1) := cell_of_row w1 _ 1 _ _ (0, 0) hbx
  have x2 : w1.cell? ⟨w.heap.size, 2, none⟩ = some (.slice A2 n2 c2) := cell_of_row w1 _ 2 _ _ (0, 0) hbx
  clear hbx
  go_quiet (fail)
  have HB2 := hide (Bel.drewN HB.out nq)
  generalize w1.drewN nq = w2 at *
  clear x0 x1 x2 HB
  go_wp2_with fail
  refine (QL.out _ HB2.out).mono ?_
  rintro e w3 ⟨q, rfl, hq, hb⟩
  have HB := hide (Bel.then (Bel.alloc HB2.out (.cells #[.slice A0 n0 c0, .slice A1 n1 c1, .slice A2 n2 c2] 23)) hb)
  have HQ := hide hq
  clear hb hq HB2 QL
  cases q with
  | false =>
    clear HQ
    go_wp2_with fail
    refine (QA.out _).mono ?_
    rintro e w4 ⟨rfl, hb⟩
    replace HB := hide (Bel.then HB.out hb)
    clear hb
    go_wp2_with fail
    go_ret
    exact ⟨rfl, HB.out⟩
  | true =>
    have hq := HQ.out rfl
    obtain ⟨y1, y2⟩ := HO.out (hq (⟨A0, n0, c0⟩, r) (by simp)) (hq (⟨A1, n1, c1⟩, s) (by simp)) (hq (⟨A2, n2, c2⟩, t) (by simp))
    clear hq HQ HO
    generalize befB r s ks = ab at *
    generalize befB s r ks = ba at *
    generalize befB s t ks = bc at *
    generalize befB r t ks = ac at *
    generalize cmpR r s = o at *
    have hz : (o == 0) = (!ab && !ba) := by rw [y1]; by_cases h : o = 0 <;> simp [h]
    clear y1
    have HZ := hide hz
    have HY := hide y2
    clear hz y2
    go_wp2_with fail
    refine (Q1.out _ HB.out).mono ?_
    rintro e w4 ⟨rfl, hb⟩
    replace HB := hide (Bel.then HB.out hb)
    clear hb
    go_wp2_with fail
    refine (Q2.out _ HB.out).mono ?_
    rintro e w5 ⟨rfl, hb⟩
    replace HB := hide (Bel.then HB.out hb)
    clear hb
    go_wp2_with fail
    refine (Q3.out _ HB.out).mono ?_
    rintro e w6 ⟨rfl, hb⟩
    replace HB := hide (Bel.then HB.out hb)
    clear hb
    go_wp2_with fail
    refine (Q4.out _ HB.out).mono ?_
    rintro e w7 ⟨rfl, hb⟩
    replace HB := hide (Bel.then HB.out hb)
    clear hb
    go_wp2_with fail
    refine (QA.out _).mono ?_
    rintro e w8 ⟨rfl, hb⟩
    replace HB := hide (Bel.then HB.out hb)
    clear hb
    cases ab <;> cases ba <;> cases bc <;> cases ac <;> (first | exact absurd (HY.out rfl rfl) (by decide) | skip)
    all_goals
      have hz := HZ.out
      clear HZ HY
      go_wp2_with fail
      refine (Q5.out _ HB.out).mono ?_
      rintro e w9 ⟨rfl, hb⟩
      replace HB := hide (Bel.then HB.out hb)
      clear hb
      go_wp2_with fail
      go_ret
      exact ⟨ret_bool (by first | rfl | (simp; done)), HB.out⟩
end Go.Proofs.Ytahdkfenpflahaa
