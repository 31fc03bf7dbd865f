/- The walk of DiskSays. -/
import Derived.Test.YtdfpmjfnlcccaaaDkQ
namespace Go.Proofs.Ytdfpmjfnlcccaaa
set_option linter.unusedVariables false
open Go.ChangeShapes Go.WideShapes Go.ChangeAt Go.RowKit

theorem newD_min (m : Int) : newD (if 70000 < m then 70000 else m) = newD m := by
  by_cases h : 70000 < m
  · rw [if_pos h]
    unfold newD
    rw [if_pos (by omega), if_pos (by omega)]
  · rw [if_neg h]
set_option maxRecDepth 100000 in
set_option maxHeartbeats 4000000 in
theorem diskSays_w (A : Option Addr) (n c : Nat) (D : DiskV) (at' : Int) (b : ByteArray) (m : Int) (w : World) (h : DkAt w A n c D.secs) (hl : Left64 D) (ha : -9223372036854775808 ≤ at' ∧ at' ≤ 9223372036854775807) (hbz : b.size ≤ maxLen) :
    Calls Try.prog 4 #[.agg #[.slice A n c, .int .i64 D.left, .bool D.down], .int .i64 at', .string b, .int .i64 m] w fun e w' => e = .returned (.bool true) ∧ Below w.heap.size w w' := by
  obtain ⟨i0, hi0, hz0, hz1, hz2⟩ := info_parts str_info
  unfold maxLen at hbz
  have hcap := Nat.le_trans (SlAt.cap h) (SlAt.max h)
  unfold maxLen at hcap
  have hnil := SlAt.nil h
  have hlen := SlAt.len h
  have Xd := hide (dbox_new w (.slice A n c) D.left D.down)
  have Sd := hide (h.kept (Bel.one w (.cells #[.slice A n c, .int .i64 D.left, .bool D.down] 25)))
  have HB := hide (Bel.one w (.cells #[.slice A n c, .int .i64 D.left, .bool D.down] 25))
  have QM := hide (fun W hW => cMay D (A := A) (n := n) (c := c) (w := W) hW)
  have QA := hide (fun W => awake_c W)
  have hmf := @may_facts D
  generalize hmm : mayB D = mm at *
  cases mm with
  | false =>
    obtain ⟨ds, dl, dd⟩ := D
    simp only at *
    clear hmm hmf
    go_enter Try.func4, Try.ntmps4
    go_upto_region 1 with (fail)
    generalize w.alloc (.cells #[.slice A n c, .int .i64 dl, .bool dd] 25) = w1 at *
    obtain ⟨d_0, d_1, d_2, d_3, d_4, d_5⟩ := Xd.out.cells
    go_wp2_with fail
    refine (QM.out _ Sd.out).mono ?_
    rintro e w' ⟨rfl, hb⟩
    replace Xd := hide (Xd.out.kept hb)
    replace HB := hide (Bel.then HB.out hb)
    clear hb d_0 d_1 d_2 d_3 d_4 d_5
    obtain ⟨d_0, d_1, d_2, d_3, d_4, d_5⟩ := Xd.out.cells
    go_wp2_with fail
    refine (QA.out _).mono ?_
    rintro e w'' ⟨rfl, hb⟩
    replace HB := hide (Bel.then HB.out hb)
    clear hb
    go_wp2_with fail
    go_ret
    exact ⟨rfl, HB.out⟩
  | true =>
  obtain ⟨hsec, hn1, hn2, hn3, hn4⟩ := hmf rfl
  rw [hlen] at hn1 hn2
  by_cases g1 : 100 < n
  · have g1i : (100 : Int) < n := by omega
    obtain ⟨ds, dl, dd⟩ := D
    simp only at *
    clear hmm hmf hsec
    go_enter Try.func4, Try.ntmps4
    go_upto_region 1 with (fail)
    generalize w.alloc (.cells #[.slice A n c, .int .i64 dl, .bool dd] 25) = w1 at *
    obtain ⟨d_0, d_1, d_2, d_3, d_4, d_5⟩ := Xd.out.cells
    go_wp2_with fail
    refine (QM.out _ Sd.out).mono ?_
    rintro e w' ⟨rfl, hb⟩
    replace Xd := hide (Xd.out.kept hb)
    replace HB := hide (Bel.then HB.out hb)
    clear hb d_0 d_1 d_2 d_3 d_4 d_5
    obtain ⟨d_0, d_1, d_2, d_3, d_4, d_5⟩ := Xd.out.cells
    go_wp2_with fail
    refine (QA.out _).mono ?_
    rintro e w'' ⟨rfl, hb⟩
    replace HB := hide (Bel.then HB.out hb)
    clear hb
    go_wp2_with fail
    go_ret
    exact ⟨rfl, HB.out⟩
  have g1i : ¬ (100 : Int) < n := by omega
  by_cases g2 : 1000 < b.size
  · have g2i : (1000 : Int) < b.size := by omega
    obtain ⟨ds, dl, dd⟩ := D
    simp only at *
    clear hmm hmf hsec
    go_enter Try.func4, Try.ntmps4
    go_upto_region 1 with (fail)
    generalize w.alloc (.cells #[.slice A n c, .int .i64 dl, .bool dd] 25) = w1 at *
    obtain ⟨d_0, d_1, d_2, d_3, d_4, d_5⟩ := Xd.out.cells
    go_wp2_with fail
    refine (QM.out _ Sd.out).mono ?_
    rintro e w' ⟨rfl, hb⟩
    replace Xd := hide (Xd.out.kept hb)
    replace HB := hide (Bel.then HB.out hb)
    clear hb d_0 d_1 d_2 d_3 d_4 d_5
    obtain ⟨d_0, d_1, d_2, d_3, d_4, d_5⟩ := Xd.out.cells
    go_wp2_with fail
    refine (QA.out _).mono ?_
    rintro e w'' ⟨rfl, hb⟩
    replace HB := hide (Bel.then HB.out hb)
    clear hb
    go_wp2_with fail
    go_ret
    exact ⟨rfl, HB.out⟩
  have g2i : ¬ (1000 : Int) < b.size := by omega
  have hn : n ≤ 1048576 := by omega
  have HL := hide (stC_flen D.secs)
  rw [hlen] at HL
  have H1 := hide (stC_ones D.secs)
  have HLEN := hide hlen
  have QN1 := hide (fun W => cNew (w := W) m rfl)
  have QN2 := hide (fun W => rcNew (w := W) (if 70000 < m then 70000 else m) rfl)
  rw [newD_min] at QN2
  have QR1 := hide (fun A c W hW => cRead (A := A) (n := n) (c := c) (d := D) (w := W) at' hW hn)
  have QR2 := hide (fun A c W hW => rcRead (A := A) (n := n) (c := c) (d := D) (w := W) at' hW hn)
  have QP1 := hide (fun A c W hW => cReadP (A := A) (n := n) (c := c) (d := D) (w := W) at' hW hn hsec ha)
  have QP2 := hide (fun A c W hW => rcReadP (A := A) (n := n) (c := c) (d := D) (w := W) at' hW hn hsec ha)
  have QW1 := hide (fun A c W hW => cWrite (A := A) (n := n) (c := c) (d := D) (w := W) at' b hW hn hl)
  have QW2 := hide (fun A c W hW => rcWrite (A := A) (n := n) (c := c) (d := D) (w := W) at' b hW hn hl)
  have QG1 := hide (fun A c W hW => cWriteP (A := A) (n := n) (c := c) (d := D) (w := W) at' b hW hn hl)
  have QG2 := hide (fun A c W hW => rcWriteP (A := A) (n := n) (c := c) (d := D) (w := W) at' b hW hn hl)
  have QA1 := hide (fun A c W hW => cArm (A := A) (n := n) (c := c) (d := D) (w := W) m hW hn)
  have QA2 := hide (fun A c W hW => rcArm (A := A) (n := n) (c := c) (d := D) (w := W) m hW)
  have QT1 := hide (fun A c W hW => cStart (A := A) (n := n) (c := c) (d := D) (w := W) hW hn)
  have QT2 := hide (fun A c W hW => rcStart (A := A) (n := n) (c := c) (d := D) (w := W) hW)
  have QS1 := hide (fun A1 A2 c1 c2 W h1 h2 => cSame (writeD D at' b).1 (A1 := A1) (A2 := A2) (n := n) (c1 := c1) (c2 := c2) (w := W) h1 h2)
  have QS2 := hide (fun A1 A2 c1 c2 W h1 h2 => cSame (writeP D at' b).1 (A1 := A1) (A2 := A2) (n := n) (c1 := c1) (c2 := c2) (w := W) h1 h2)
  have QS3 := hide (fun A1 A2 c1 c2 W h1 h2 => cSame (armD D m) (A1 := A1) (A2 := A2) (n := n) (c1 := c1) (c2 := c2) (w := W) h1 h2)
  have QS4 := hide (fun A1 A2 c1 c2 W h1 h2 => cSame (startD D) (A1 := A1) (A2 := A2) (n := n) (c1 := c1) (c2 := c2) (w := W) h1 h2)
  have QS5 := hide (fun A1 A2 c1 c2 W h1 h2 => cSame D (A1 := A1) (A2 := A2) (n := n) (c1 := c1) (c2 := c2) (w := W) h1 h2)
  generalize hmin : (if (70000 : Int) < m then 70000 else m) = m2 at *
  generalize newD m = xn at *
  generalize readD D at' = xr at *
  generalize readP D at' = xp at *
  generalize writeD D at' b = xw at *
  generalize writeP D at' b = xg at *
  generalize armD D m = xa at *
  generalize startD D = xt at *
  obtain ⟨⟨ns, nl, nd⟩, ne⟩ := xn
  obtain ⟨rs, re⟩ := xr
  obtain ⟨ps, pe⟩ := xp
  obtain ⟨⟨xs, xl, xd⟩, xe⟩ := xw
  obtain ⟨⟨qs, ql, qd⟩, qe⟩ := xg
  obtain ⟨arms, al, ad⟩ := xa
  obtain ⟨ts, tl, td⟩ := xt
  obtain ⟨ds, dl, dd⟩ := D
  simp only at *
  generalize ns.length = n1 at *
  unfold GivesN at QN1 QN2 QW1 QW2 QG1 QG2
  unfold GivesK at QA1 QA2 QT1 QT2
  unfold GivesR at QR1 QR2 QP1 QP2
  simp only at QN1 QN2 QW1 QW2 QG1 QG2 QA1 QA2 QT1 QT2 QR1 QR2 QP1 QP2
  clear hmm hmf hsec hl ha h g1 g2 hn1 hn2 hn3 hn4 hcap hlen
  go_enter Try.func4, Try.ntmps4
  go_upto_region 1 with (fail)
  generalize w.alloc (.cells #[.slice A n c, .int .i64 dl, .bool dd] 25) = w1 at *
  obtain ⟨d_0, d_1, d_2, d_3, d_4, d_5⟩ := Xd.out.cells
  go_wp2_with fail
  refine (QM.out _ Sd.out).mono ?_
  rintro e w' ⟨rfl, hb⟩
  replace Xd := hide (Xd.out.kept hb)
  replace Sd := hide (Sd.out.kept hb)
  replace HB := hide (Bel.then HB.out hb)
  clear hb
  clear d_0 d_1 d_2 d_3 d_4 d_5
  obtain ⟨d_0, d_1, d_2, d_3, d_4, d_5⟩ := Xd.out.cells
  go_upto_region 4 with (fail)
  have hX := dbox_new w' (.slice A n c) dl dd
  have hnds : w.heap.size ≠ w'.heap.size := by have := Xd.out.lt; omega
  have hwgs : w.heap.size ≤ w'.heap.size := HB.out.size
  replace Xd := hide (Xd.out.alloc (.cells #[.slice A n c, .int .i64 dl, .bool dd] 25))
  replace Sd := hide (Sd.out.kept (Bel.one w' (.cells #[.slice A n c, .int .i64 dl, .bool dd] 25)))
  replace HB := hide (Bel.alloc HB.out (.cells #[.slice A n c, .int .i64 dl, .bool dd] 25))
  clear d_0 d_1 d_2 d_3 d_4 d_5
  generalize w'.alloc (.cells #[.slice A n c, .int .i64 dl, .bool dd] 25) = w2 at *
  generalize w'.heap.size = gs at *
  have Xs := hide hX
  clear hX
  obtain ⟨d_0, d_1, d_2, d_3, d_4, d_5⟩ := Xd.out.cells
  obtain ⟨s_0, s_1, s_2, s_3, s_4, s_5⟩ := Xs.out.cells
  have hE : (w2.alloc (.cells #[] 9)).ownsRow w.heap.size 9 1 (.slice (some ⟨w2.heap.size, 0, none⟩) 0 0) 0 [] := World.ownsRow_lit w2 #[] 0 HB.out.size (by simp only [maxLen]; omega) rfl
  have HE := hide hE
  clear hE
  have hltd : w.heap.size < w2.heap.size := Xd.out.lt
  clear d_0 d_1 d_2 d_3 d_4 d_5 s_0 s_1 s_2 s_3 s_4 s_5
  obtain ⟨d_0, d_1, d_2, d_3, d_4, d_5⟩ := Xd.out.cells
  go_upto_region 5 with (clear d_0 d_1 d_2 d_3 d_4 d_5; at_builtin; refine wpList_app rfl (.tmp 46) (.tmp 48) 23 rfl w.heap.size 9 i0 _ 1 16 Try.underlying23 hi0 hz0 hz1 hz2 rfl (by omega) _ 0 [] rfl HE.out _ A n c (ds.map stC).flatten rfl HL.out (Sd.out.kept (Bel.one w2 (.cells #[] 9))).recs.2 H1.out (by simp only [maxLen]; omega) (by omega) (Bel.alloc HB.out (.cells #[] 9)).size hnil ?_; intro v1 w3 hown1 hg0 _; have hg1 : World.grownBy _ w3 (some w2.heap.size) := hg0; have HO := hide (show OwnS w3 w.heap.size v1 ds by have := hown1; rw [Nat.zero_add, List.nil_append, ← HLEN.out] at this; exact this); have hb := own_grown (Bel.one w2 (.cells #[] 9)) hg1 (by intro k hk; injection hk with hk; omega); replace Xd := hide (Xd.out.kept hb); replace Xs := hide (Xs.out.kept hb); replace Sd := hide (Sd.out.kept hb); replace HB := hide (Bel.then HB.out hb); clear hown1 hg0 hg1 HE hb hltd; obtain ⟨A9, c9, rfl, h9⟩ := HO.out.sl; rw [HLEN.out] at h9 ⊢; obtain ⟨d_0, d_1, d_2, d_3, d_4, d_5⟩ := Xd.out.cells; obtain ⟨s_0, s_1, s_2, s_3, s_4, s_5⟩ := Xs.out.cells)
  have hX := Xs.out.set0 (.slice A9 n c9)
  have hD := Xd.out.far (p := ⟨gs, 0, none⟩) hnds (.slice A9 n c9)
  have hS := (sl_far Sd.out Xs.out (by intro s h; cases h) 0 (.slice A9 n c9)).more (show _ ≤ (w3.setCell ⟨gs, 0, none⟩ (.slice A9 n c9)).heap.size by simp)
  have hS9 := (sl_far h9 Xs.out (by intro s h; cases h) 0 (.slice A9 n c9)).more (show _ ≤ (w3.setCell ⟨gs, 0, none⟩ (.slice A9 n c9)).heap.size by simp)
  have hB := HB.out.setCell (p := ⟨gs, 0, none⟩) hwgs (.slice A9 n c9)
  generalize w3.setCell ⟨gs, 0, none⟩ (.slice A9 n c9) = w4 at *
  clear Xd Xs Sd HB h9 HO d_0 d_1 d_2 d_3 d_4 d_5 s_0 s_1 s_2 s_3 s_4 s_5
  have Xd := hide hD
  have Xs := hide hX
  have Sd := hide (show DkAt w4 A n c ds from hS)
  have S9 := hide (show DkAt w4 A9 n c9 ds from hS9)
  have HB := hide hB
  clear hX hD hS hS9 hB
  obtain ⟨d_0, d_1, d_2, d_3, d_4, d_5⟩ := Xd.out.cells
  obtain ⟨s_0, s_1, s_2, s_3, s_4, s_5⟩ := Xs.out.cells
  go_wp2_with fail
  refine (QN1.out _).mono ?_
  rintro e w' ⟨Av, cv, rfl, hSv, hb⟩
  replace Xd := hide (Xd.out.kept hb)
  replace Xs := hide (Xs.out.kept hb)
  replace Sd := hide (Sd.out.kept hb)
  replace S9 := hide (S9.out.kept hb)
  replace HB := hide (Bel.then HB.out hb)
  clear hb
  clear d_0 d_1 d_2 d_3 d_4 d_5 s_0 s_1 s_2 s_3 s_4 s_5
  have Sv := hide hSv
  clear hSv
  obtain ⟨d_0, d_1, d_2, d_3, d_4, d_5⟩ := Xd.out.cells
  obtain ⟨s_0, s_1, s_2, s_3, s_4, s_5⟩ := Xs.out.cells
  go_upto_region 6 with (fail)
  have hX := dbox_new w' (.slice Av n1 cv) nl nd
  have hndv : w.heap.size ≠ w'.heap.size := by have := Xd.out.lt; omega
  have hwgv : w.heap.size ≤ w'.heap.size := HB.out.size
  replace Xd := hide (Xd.out.alloc (.cells #[.slice Av n1 cv, .int .i64 nl, .bool nd] 25))
  replace Xs := hide (Xs.out.alloc (.cells #[.slice Av n1 cv, .int .i64 nl, .bool nd] 25))
  replace Sd := hide (Sd.out.kept (Bel.one w' (.cells #[.slice Av n1 cv, .int .i64 nl, .bool nd] 25)))
  replace S9 := hide (S9.out.kept (Bel.one w' (.cells #[.slice Av n1 cv, .int .i64 nl, .bool nd] 25)))
  replace Sv := hide (Sv.out.kept (Bel.one w' (.cells #[.slice Av n1 cv, .int .i64 nl, .bool nd] 25)))
  replace HB := hide (Bel.alloc HB.out (.cells #[.slice Av n1 cv, .int .i64 nl, .bool nd] 25))
  clear d_0 d_1 d_2 d_3 d_4 d_5 s_0 s_1 s_2 s_3 s_4 s_5
  generalize w'.alloc (.cells #[.slice Av n1 cv, .int .i64 nl, .bool nd] 25) = w2 at *
  generalize w'.heap.size = gv at *
  have Xv := hide hX
  clear hX
  obtain ⟨d_0, d_1, d_2, d_3, d_4, d_5⟩ := Xd.out.cells
  obtain ⟨s_0, s_1, s_2, s_3, s_4, s_5⟩ := Xs.out.cells
  obtain ⟨v_0, v_1, v_2, v_3, v_4, v_5⟩ := Xv.out.cells
  go_wp2_with fail
  refine (QN2.out _).mono ?_
  rintro e w' ⟨Aw, cw, rfl, hSw, hb⟩
  replace Xd := hide (Xd.out.kept hb)
  replace Xs := hide (Xs.out.kept hb)
  replace Xv := hide (Xv.out.kept hb)
  replace Sd := hide (Sd.out.kept hb)
  replace S9 := hide (S9.out.kept hb)
  replace Sv := hide (Sv.out.kept hb)
  replace HB := hide (Bel.then HB.out hb)
  clear hb
  clear d_0 d_1 d_2 d_3 d_4 d_5 s_0 s_1 s_2 s_3 s_4 s_5 v_0 v_1 v_2 v_3 v_4 v_5
  have Sw := hide hSw
  clear hSw
  obtain ⟨d_0, d_1, d_2, d_3, d_4, d_5⟩ := Xd.out.cells
  obtain ⟨s_0, s_1, s_2, s_3, s_4, s_5⟩ := Xs.out.cells
  obtain ⟨v_0, v_1, v_2, v_3, v_4, v_5⟩ := Xv.out.cells
  go_upto_region 7 with (fail)
  have hX := dbox_new w' (.slice Aw n1 cw) nl nd
  have hndw : w.heap.size ≠ w'.heap.size := by have := Xd.out.lt; omega
  have hwgw : w.heap.size ≤ w'.heap.size := HB.out.size
  replace Xd := hide (Xd.out.alloc (.cells #[.slice Aw n1 cw, .int .i64 nl, .bool nd] 25))
  replace Xs := hide (Xs.out.alloc (.cells #[.slice Aw n1 cw, .int .i64 nl, .bool nd] 25))
  replace Xv := hide (Xv.out.alloc (.cells #[.slice Aw n1 cw, .int .i64 nl, .bool nd] 25))
  replace Sd := hide (Sd.out.kept (Bel.one w' (.cells #[.slice Aw n1 cw, .int .i64 nl, .bool nd] 25)))
  replace S9 := hide (S9.out.kept (Bel.one w' (.cells #[.slice Aw n1 cw, .int .i64 nl, .bool nd] 25)))
  replace Sv := hide (Sv.out.kept (Bel.one w' (.cells #[.slice Aw n1 cw, .int .i64 nl, .bool nd] 25)))
  replace Sw := hide (Sw.out.kept (Bel.one w' (.cells #[.slice Aw n1 cw, .int .i64 nl, .bool nd] 25)))
  replace HB := hide (Bel.alloc HB.out (.cells #[.slice Aw n1 cw, .int .i64 nl, .bool nd] 25))
  clear d_0 d_1 d_2 d_3 d_4 d_5 s_0 s_1 s_2 s_3 s_4 s_5 v_0 v_1 v_2 v_3 v_4 v_5
  generalize w'.alloc (.cells #[.slice Aw n1 cw, .int .i64 nl, .bool nd] 25) = w2 at *
  generalize w'.heap.size = gw at *
  have Xw := hide hX
  clear hX
  obtain ⟨d_0, d_1, d_2, d_3, d_4, d_5⟩ := Xd.out.cells
  obtain ⟨s_0, s_1, s_2, s_3, s_4, s_5⟩ := Xs.out.cells
  obtain ⟨v_0, v_1, v_2, v_3, v_4, v_5⟩ := Xv.out.cells
  obtain ⟨w_0, w_1, w_2, w_3, w_4, w_5⟩ := Xw.out.cells
  go_wp2_with fail
  refine (QR1.out _ _ _ Sd.out).mono ?_
  rintro e w' ⟨rfl, hb⟩
  replace Xd := hide (Xd.out.kept hb)
  replace Xs := hide (Xs.out.kept hb)
  replace Xv := hide (Xv.out.kept hb)
  replace Xw := hide (Xw.out.kept hb)
  replace Sd := hide (Sd.out.kept hb)
  replace S9 := hide (S9.out.kept hb)
  replace Sv := hide (Sv.out.kept hb)
  replace Sw := hide (Sw.out.kept hb)
  replace HB := hide (Bel.then HB.out hb)
  clear hb
  clear d_0 d_1 d_2 d_3 d_4 d_5 s_0 s_1 s_2 s_3 s_4 s_5 v_0 v_1 v_2 v_3 v_4 v_5 w_0 w_1 w_2 w_3 w_4 w_5
  obtain ⟨d_0, d_1, d_2, d_3, d_4, d_5⟩ := Xd.out.cells
  obtain ⟨s_0, s_1, s_2, s_3, s_4, s_5⟩ := Xs.out.cells
  obtain ⟨v_0, v_1, v_2, v_3, v_4, v_5⟩ := Xv.out.cells
  obtain ⟨w_0, w_1, w_2, w_3, w_4, w_5⟩ := Xw.out.cells
  go_wp2_with fail
  refine (QR2.out _ _ _ Sd.out).mono ?_
  rintro e w' ⟨rfl, hb⟩
  replace Xd := hide (Xd.out.kept hb)
  replace Xs := hide (Xs.out.kept hb)
  replace Xv := hide (Xv.out.kept hb)
  replace Xw := hide (Xw.out.kept hb)
  replace Sd := hide (Sd.out.kept hb)
  replace S9 := hide (S9.out.kept hb)
  replace Sv := hide (Sv.out.kept hb)
  replace Sw := hide (Sw.out.kept hb)
  replace HB := hide (Bel.then HB.out hb)
  clear hb
  clear d_0 d_1 d_2 d_3 d_4 d_5 s_0 s_1 s_2 s_3 s_4 s_5 v_0 v_1 v_2 v_3 v_4 v_5 w_0 w_1 w_2 w_3 w_4 w_5
  obtain ⟨d_0, d_1, d_2, d_3, d_4, d_5⟩ := Xd.out.cells
  obtain ⟨s_0, s_1, s_2, s_3, s_4, s_5⟩ := Xs.out.cells
  obtain ⟨v_0, v_1, v_2, v_3, v_4, v_5⟩ := Xv.out.cells
  obtain ⟨w_0, w_1, w_2, w_3, w_4, w_5⟩ := Xw.out.cells
  go_wp2_with fail
  refine (QP1.out _ _ _ Sd.out).mono ?_
  rintro e w' ⟨rfl, hb⟩
  replace Xd := hide (Xd.out.kept hb)
  replace Xs := hide (Xs.out.kept hb)
  replace Xv := hide (Xv.out.kept hb)
  replace Xw := hide (Xw.out.kept hb)
  replace Sd := hide (Sd.out.kept hb)
  replace S9 := hide (S9.out.kept hb)
  replace Sv := hide (Sv.out.kept hb)
  replace Sw := hide (Sw.out.kept hb)
  replace HB := hide (Bel.then HB.out hb)
  clear hb
  clear d_0 d_1 d_2 d_3 d_4 d_5 s_0 s_1 s_2 s_3 s_4 s_5 v_0 v_1 v_2 v_3 v_4 v_5 w_0 w_1 w_2 w_3 w_4 w_5
  obtain ⟨d_0, d_1, d_2, d_3, d_4, d_5⟩ := Xd.out.cells
  obtain ⟨s_0, s_1, s_2, s_3, s_4, s_5⟩ := Xs.out.cells
  obtain ⟨v_0, v_1, v_2, v_3, v_4, v_5⟩ := Xv.out.cells
  obtain ⟨w_0, w_1, w_2, w_3, w_4, w_5⟩ := Xw.out.cells
  go_wp2_with fail
  refine (QP2.out _ _ _ Sd.out).mono ?_
  rintro e w' ⟨rfl, hb⟩
  replace Xd := hide (Xd.out.kept hb)
  replace Xs := hide (Xs.out.kept hb)
  replace Xv := hide (Xv.out.kept hb)
  replace Xw := hide (Xw.out.kept hb)
  replace Sd := hide (Sd.out.kept hb)
  replace S9 := hide (S9.out.kept hb)
  replace Sv := hide (Sv.out.kept hb)
  replace Sw := hide (Sw.out.kept hb)
  replace HB := hide (Bel.then HB.out hb)
  clear hb
  clear d_0 d_1 d_2 d_3 d_4 d_5 s_0 s_1 s_2 s_3 s_4 s_5 v_0 v_1 v_2 v_3 v_4 v_5 w_0 w_1 w_2 w_3 w_4 w_5
  obtain ⟨d_0, d_1, d_2, d_3, d_4, d_5⟩ := Xd.out.cells
  obtain ⟨s_0, s_1, s_2, s_3, s_4, s_5⟩ := Xs.out.cells
  obtain ⟨v_0, v_1, v_2, v_3, v_4, v_5⟩ := Xv.out.cells
  obtain ⟨w_0, w_1, w_2, w_3, w_4, w_5⟩ := Xw.out.cells
  go_wp2_with fail
  refine (QW1.out _ _ _ Sd.out).mono ?_
  rintro e w' ⟨Ax, cx, rfl, hSx, hb⟩
  replace Xd := hide (Xd.out.kept hb)
  replace Xs := hide (Xs.out.kept hb)
  replace Xv := hide (Xv.out.kept hb)
  replace Xw := hide (Xw.out.kept hb)
  replace Sd := hide (Sd.out.kept hb)
  replace S9 := hide (S9.out.kept hb)
  replace Sv := hide (Sv.out.kept hb)
  replace Sw := hide (Sw.out.kept hb)
  replace HB := hide (Bel.then HB.out hb)
  clear hb
  clear d_0 d_1 d_2 d_3 d_4 d_5 s_0 s_1 s_2 s_3 s_4 s_5 v_0 v_1 v_2 v_3 v_4 v_5 w_0 w_1 w_2 w_3 w_4 w_5
  have Sx := hide hSx
  clear hSx
  obtain ⟨d_0, d_1, d_2, d_3, d_4, d_5⟩ := Xd.out.cells
  obtain ⟨s_0, s_1, s_2, s_3, s_4, s_5⟩ := Xs.out.cells
  obtain ⟨v_0, v_1, v_2, v_3, v_4, v_5⟩ := Xv.out.cells
  obtain ⟨w_0, w_1, w_2, w_3, w_4, w_5⟩ := Xw.out.cells
  go_upto_region 14 with (fail)
  have hX := dbox_new w' (.slice Ax n cx) xl xd
  have hndx : w.heap.size ≠ w'.heap.size := by have := Xd.out.lt; omega
  have hwgx : w.heap.size ≤ w'.heap.size := HB.out.size
  replace Xd := hide (Xd.out.alloc (.cells #[.slice Ax n cx, .int .i64 xl, .bool xd] 25))
  replace Xs := hide (Xs.out.alloc (.cells #[.slice Ax n cx, .int .i64 xl, .bool xd] 25))
  replace Xv := hide (Xv.out.alloc (.cells #[.slice Ax n cx, .int .i64 xl, .bool xd] 25))
  replace Xw := hide (Xw.out.alloc (.cells #[.slice Ax n cx, .int .i64 xl, .bool xd] 25))
  replace Sd := hide (Sd.out.kept (Bel.one w' (.cells #[.slice Ax n cx, .int .i64 xl, .bool xd] 25)))
  replace S9 := hide (S9.out.kept (Bel.one w' (.cells #[.slice Ax n cx, .int .i64 xl, .bool xd] 25)))
  replace Sv := hide (Sv.out.kept (Bel.one w' (.cells #[.slice Ax n cx, .int .i64 xl, .bool xd] 25)))
  replace Sw := hide (Sw.out.kept (Bel.one w' (.cells #[.slice Ax n cx, .int .i64 xl, .bool xd] 25)))
  replace Sx := hide (Sx.out.kept (Bel.one w' (.cells #[.slice Ax n cx, .int .i64 xl, .bool xd] 25)))
  replace HB := hide (Bel.alloc HB.out (.cells #[.slice Ax n cx, .int .i64 xl, .bool xd] 25))
  clear d_0 d_1 d_2 d_3 d_4 d_5 s_0 s_1 s_2 s_3 s_4 s_5 v_0 v_1 v_2 v_3 v_4 v_5 w_0 w_1 w_2 w_3 w_4 w_5
  generalize w'.alloc (.cells #[.slice Ax n cx, .int .i64 xl, .bool xd] 25) = w2 at *
  generalize w'.heap.size = gx at *
  have Xx := hide hX
  clear hX
  obtain ⟨d_0, d_1, d_2, d_3, d_4, d_5⟩ := Xd.out.cells
  obtain ⟨s_0, s_1, s_2, s_3, s_4, s_5⟩ := Xs.out.cells
  obtain ⟨v_0, v_1, v_2, v_3, v_4, v_5⟩ := Xv.out.cells
  obtain ⟨w_0, w_1, w_2, w_3, w_4, w_5⟩ := Xw.out.cells
  obtain ⟨x_0, x_1, x_2, x_3, x_4, x_5⟩ := Xx.out.cells
  go_wp2_with fail
  refine (QW2.out _ _ _ Sd.out).mono ?_
  rintro e w' ⟨Ay, cy, rfl, hSy, hb⟩
  replace Xd := hide (Xd.out.kept hb)
  replace Xs := hide (Xs.out.kept hb)
  replace Xv := hide (Xv.out.kept hb)
  replace Xw := hide (Xw.out.kept hb)
  replace Xx := hide (Xx.out.kept hb)
  replace Sd := hide (Sd.out.kept hb)
  replace S9 := hide (S9.out.kept hb)
  replace Sv := hide (Sv.out.kept hb)
  replace Sw := hide (Sw.out.kept hb)
  replace Sx := hide (Sx.out.kept hb)
  replace HB := hide (Bel.then HB.out hb)
  clear hb
  clear d_0 d_1 d_2 d_3 d_4 d_5 s_0 s_1 s_2 s_3 s_4 s_5 v_0 v_1 v_2 v_3 v_4 v_5 w_0 w_1 w_2 w_3 w_4 w_5 x_0 x_1 x_2 x_3 x_4 x_5
  have Sy := hide hSy
  clear hSy
  obtain ⟨d_0, d_1, d_2, d_3, d_4, d_5⟩ := Xd.out.cells
  obtain ⟨s_0, s_1, s_2, s_3, s_4, s_5⟩ := Xs.out.cells
  obtain ⟨v_0, v_1, v_2, v_3, v_4, v_5⟩ := Xv.out.cells
  obtain ⟨w_0, w_1, w_2, w_3, w_4, w_5⟩ := Xw.out.cells
  obtain ⟨x_0, x_1, x_2, x_3, x_4, x_5⟩ := Xx.out.cells
  go_upto_region 15 with (fail)
  have hX := dbox_new w' (.slice Ay n cy) xl xd
  have hndy : w.heap.size ≠ w'.heap.size := by have := Xd.out.lt; omega
  have hwgy : w.heap.size ≤ w'.heap.size := HB.out.size
  replace Xd := hide (Xd.out.alloc (.cells #[.slice Ay n cy, .int .i64 xl, .bool xd] 25))
  replace Xs := hide (Xs.out.alloc (.cells #[.slice Ay n cy, .int .i64 xl, .bool xd] 25))
  replace Xv := hide (Xv.out.alloc (.cells #[.slice Ay n cy, .int .i64 xl, .bool xd] 25))
  replace Xw := hide (Xw.out.alloc (.cells #[.slice Ay n cy, .int .i64 xl, .bool xd] 25))
  replace Xx := hide (Xx.out.alloc (.cells #[.slice Ay n cy, .int .i64 xl, .bool xd] 25))
  replace Sd := hide (Sd.out.kept (Bel.one w' (.cells #[.slice Ay n cy, .int .i64 xl, .bool xd] 25)))
  replace S9 := hide (S9.out.kept (Bel.one w' (.cells #[.slice Ay n cy, .int .i64 xl, .bool xd] 25)))
  replace Sv := hide (Sv.out.kept (Bel.one w' (.cells #[.slice Ay n cy, .int .i64 xl, .bool xd] 25)))
  replace Sw := hide (Sw.out.kept (Bel.one w' (.cells #[.slice Ay n cy, .int .i64 xl, .bool xd] 25)))
  replace Sx := hide (Sx.out.kept (Bel.one w' (.cells #[.slice Ay n cy, .int .i64 xl, .bool xd] 25)))
  replace Sy := hide (Sy.out.kept (Bel.one w' (.cells #[.slice Ay n cy, .int .i64 xl, .bool xd] 25)))
  replace HB := hide (Bel.alloc HB.out (.cells #[.slice Ay n cy, .int .i64 xl, .bool xd] 25))
  clear d_0 d_1 d_2 d_3 d_4 d_5 s_0 s_1 s_2 s_3 s_4 s_5 v_0 v_1 v_2 v_3 v_4 v_5 w_0 w_1 w_2 w_3 w_4 w_5 x_0 x_1 x_2 x_3 x_4 x_5
  generalize w'.alloc (.cells #[.slice Ay n cy, .int .i64 xl, .bool xd] 25) = w2 at *
  generalize w'.heap.size = gy at *
  have Xy := hide hX
  clear hX
  obtain ⟨d_0, d_1, d_2, d_3, d_4, d_5⟩ := Xd.out.cells
  obtain ⟨s_0, s_1, s_2, s_3, s_4, s_5⟩ := Xs.out.cells
  obtain ⟨v_0, v_1, v_2, v_3, v_4, v_5⟩ := Xv.out.cells
  obtain ⟨w_0, w_1, w_2, w_3, w_4, w_5⟩ := Xw.out.cells
  obtain ⟨x_0, x_1, x_2, x_3, x_4, x_5⟩ := Xx.out.cells
  obtain ⟨y_0, y_1, y_2, y_3, y_4, y_5⟩ := Xy.out.cells
  go_wp2_with fail
  refine (QG1.out _ _ _ Sd.out).mono ?_
  rintro e w' ⟨Ag, cg, rfl, hSg, hb⟩
  replace Xd := hide (Xd.out.kept hb)
  replace Xs := hide (Xs.out.kept hb)
  replace Xv := hide (Xv.out.kept hb)
  replace Xw := hide (Xw.out.kept hb)
  replace Xx := hide (Xx.out.kept hb)
  replace Xy := hide (Xy.out.kept hb)
  replace Sd := hide (Sd.out.kept hb)
  replace S9 := hide (S9.out.kept hb)
  replace Sv := hide (Sv.out.kept hb)
  replace Sw := hide (Sw.out.kept hb)
  replace Sx := hide (Sx.out.kept hb)
  replace Sy := hide (Sy.out.kept hb)
  replace HB := hide (Bel.then HB.out hb)
  clear hb
  clear d_0 d_1 d_2 d_3 d_4 d_5 s_0 s_1 s_2 s_3 s_4 s_5 v_0 v_1 v_2 v_3 v_4 v_5 w_0 w_1 w_2 w_3 w_4 w_5 x_0 x_1 x_2 x_3 x_4 x_5 y_0 y_1 y_2 y_3 y_4 y_5
  have Sg := hide hSg
  clear hSg
  obtain ⟨d_0, d_1, d_2, d_3, d_4, d_5⟩ := Xd.out.cells
  obtain ⟨s_0, s_1, s_2, s_3, s_4, s_5⟩ := Xs.out.cells
  obtain ⟨v_0, v_1, v_2, v_3, v_4, v_5⟩ := Xv.out.cells
  obtain ⟨w_0, w_1, w_2, w_3, w_4, w_5⟩ := Xw.out.cells
  obtain ⟨x_0, x_1, x_2, x_3, x_4, x_5⟩ := Xx.out.cells
  obtain ⟨y_0, y_1, y_2, y_3, y_4, y_5⟩ := Xy.out.cells
  go_upto_region 16 with (fail)
  have hX := dbox_new w' (.slice Ag n cg) ql qd
  have hndg : w.heap.size ≠ w'.heap.size := by have := Xd.out.lt; omega
  have hwgg : w.heap.size ≤ w'.heap.size := HB.out.size
  replace Xd := hide (Xd.out.alloc (.cells #[.slice Ag n cg, .int .i64 ql, .bool qd] 25))
  replace Xs := hide (Xs.out.alloc (.cells #[.slice Ag n cg, .int .i64 ql, .bool qd] 25))
  replace Xv := hide (Xv.out.alloc (.cells #[.slice Ag n cg, .int .i64 ql, .bool qd] 25))
  replace Xw := hide (Xw.out.alloc (.cells #[.slice Ag n cg, .int .i64 ql, .bool qd] 25))
  replace Xx := hide (Xx.out.alloc (.cells #[.slice Ag n cg, .int .i64 ql, .bool qd] 25))
  replace Xy := hide (Xy.out.alloc (.cells #[.slice Ag n cg, .int .i64 ql, .bool qd] 25))
  replace Sd := hide (Sd.out.kept (Bel.one w' (.cells #[.slice Ag n cg, .int .i64 ql, .bool qd] 25)))
  replace S9 := hide (S9.out.kept (Bel.one w' (.cells #[.slice Ag n cg, .int .i64 ql, .bool qd] 25)))
  replace Sv := hide (Sv.out.kept (Bel.one w' (.cells #[.slice Ag n cg, .int .i64 ql, .bool qd] 25)))
  replace Sw := hide (Sw.out.kept (Bel.one w' (.cells #[.slice Ag n cg, .int .i64 ql, .bool qd] 25)))
  replace Sx := hide (Sx.out.kept (Bel.one w' (.cells #[.slice Ag n cg, .int .i64 ql, .bool qd] 25)))
  replace Sy := hide (Sy.out.kept (Bel.one w' (.cells #[.slice Ag n cg, .int .i64 ql, .bool qd] 25)))
  replace Sg := hide (Sg.out.kept (Bel.one w' (.cells #[.slice Ag n cg, .int .i64 ql, .bool qd] 25)))
  replace HB := hide (Bel.alloc HB.out (.cells #[.slice Ag n cg, .int .i64 ql, .bool qd] 25))
  clear d_0 d_1 d_2 d_3 d_4 d_5 s_0 s_1 s_2 s_3 s_4 s_5 v_0 v_1 v_2 v_3 v_4 v_5 w_0 w_1 w_2 w_3 w_4 w_5 x_0 x_1 x_2 x_3 x_4 x_5 y_0 y_1 y_2 y_3 y_4 y_5
  generalize w'.alloc (.cells #[.slice Ag n cg, .int .i64 ql, .bool qd] 25) = w2 at *
  generalize w'.heap.size = gg at *
  have Xg := hide hX
  clear hX
  obtain ⟨d_0, d_1, d_2, d_3, d_4, d_5⟩ := Xd.out.cells
  obtain ⟨s_0, s_1, s_2, s_3, s_4, s_5⟩ := Xs.out.cells
  obtain ⟨v_0, v_1, v_2, v_3, v_4, v_5⟩ := Xv.out.cells
  obtain ⟨w_0, w_1, w_2, w_3, w_4, w_5⟩ := Xw.out.cells
  obtain ⟨x_0, x_1, x_2, x_3, x_4, x_5⟩ := Xx.out.cells
  obtain ⟨y_0, y_1, y_2, y_3, y_4, y_5⟩ := Xy.out.cells
  obtain ⟨g_0, g_1, g_2, g_3, g_4, g_5⟩ := Xg.out.cells
  go_wp2_with fail
  refine (QG2.out _ _ _ Sd.out).mono ?_
  rintro e w' ⟨Ah, ch, rfl, hSh, hb⟩
  replace Xd := hide (Xd.out.kept hb)
  replace Xs := hide (Xs.out.kept hb)
  replace Xv := hide (Xv.out.kept hb)
  replace Xw := hide (Xw.out.kept hb)
  replace Xx := hide (Xx.out.kept hb)
  replace Xy := hide (Xy.out.kept hb)
  replace Xg := hide (Xg.out.kept hb)
  replace Sd := hide (Sd.out.kept hb)
  replace S9 := hide (S9.out.kept hb)
  replace Sv := hide (Sv.out.kept hb)
  replace Sw := hide (Sw.out.kept hb)
  replace Sx := hide (Sx.out.kept hb)
  replace Sy := hide (Sy.out.kept hb)
  replace Sg := hide (Sg.out.kept hb)
  replace HB := hide (Bel.then HB.out hb)
  clear hb
  clear d_0 d_1 d_2 d_3 d_4 d_5 s_0 s_1 s_2 s_3 s_4 s_5 v_0 v_1 v_2 v_3 v_4 v_5 w_0 w_1 w_2 w_3 w_4 w_5 x_0 x_1 x_2 x_3 x_4 x_5 y_0 y_1 y_2 y_3 y_4 y_5 g_0 g_1 g_2 g_3 g_4 g_5
  have Sh := hide hSh
  clear hSh
  obtain ⟨d_0, d_1, d_2, d_3, d_4, d_5⟩ := Xd.out.cells
  obtain ⟨s_0, s_1, s_2, s_3, s_4, s_5⟩ := Xs.out.cells
  obtain ⟨v_0, v_1, v_2, v_3, v_4, v_5⟩ := Xv.out.cells
  obtain ⟨w_0, w_1, w_2, w_3, w_4, w_5⟩ := Xw.out.cells
  obtain ⟨x_0, x_1, x_2, x_3, x_4, x_5⟩ := Xx.out.cells
  obtain ⟨y_0, y_1, y_2, y_3, y_4, y_5⟩ := Xy.out.cells
  obtain ⟨g_0, g_1, g_2, g_3, g_4, g_5⟩ := Xg.out.cells
  go_upto_region 17 with (fail)
  have hX := dbox_new w' (.slice Ah n ch) ql qd
  have hndh : w.heap.size ≠ w'.heap.size := by have := Xd.out.lt; omega
  have hwgh : w.heap.size ≤ w'.heap.size := HB.out.size
  replace Xd := hide (Xd.out.alloc (.cells #[.slice Ah n ch, .int .i64 ql, .bool qd] 25))
  replace Xs := hide (Xs.out.alloc (.cells #[.slice Ah n ch, .int .i64 ql, .bool qd] 25))
  replace Xv := hide (Xv.out.alloc (.cells #[.slice Ah n ch, .int .i64 ql, .bool qd] 25))
  replace Xw := hide (Xw.out.alloc (.cells #[.slice Ah n ch, .int .i64 ql, .bool qd] 25))
  replace Xx := hide (Xx.out.alloc (.cells #[.slice Ah n ch, .int .i64 ql, .bool qd] 25))
  replace Xy := hide (Xy.out.alloc (.cells #[.slice Ah n ch, .int .i64 ql, .bool qd] 25))
  replace Xg := hide (Xg.out.alloc (.cells #[.slice Ah n ch, .int .i64 ql, .bool qd] 25))
  replace Sd := hide (Sd.out.kept (Bel.one w' (.cells #[.slice Ah n ch, .int .i64 ql, .bool qd] 25)))
  replace S9 := hide (S9.out.kept (Bel.one w' (.cells #[.slice Ah n ch, .int .i64 ql, .bool qd] 25)))
  replace Sv := hide (Sv.out.kept (Bel.one w' (.cells #[.slice Ah n ch, .int .i64 ql, .bool qd] 25)))
  replace Sw := hide (Sw.out.kept (Bel.one w' (.cells #[.slice Ah n ch, .int .i64 ql, .bool qd] 25)))
  replace Sx := hide (Sx.out.kept (Bel.one w' (.cells #[.slice Ah n ch, .int .i64 ql, .bool qd] 25)))
  replace Sy := hide (Sy.out.kept (Bel.one w' (.cells #[.slice Ah n ch, .int .i64 ql, .bool qd] 25)))
  replace Sg := hide (Sg.out.kept (Bel.one w' (.cells #[.slice Ah n ch, .int .i64 ql, .bool qd] 25)))
  replace Sh := hide (Sh.out.kept (Bel.one w' (.cells #[.slice Ah n ch, .int .i64 ql, .bool qd] 25)))
  replace HB := hide (Bel.alloc HB.out (.cells #[.slice Ah n ch, .int .i64 ql, .bool qd] 25))
  clear d_0 d_1 d_2 d_3 d_4 d_5 s_0 s_1 s_2 s_3 s_4 s_5 v_0 v_1 v_2 v_3 v_4 v_5 w_0 w_1 w_2 w_3 w_4 w_5 x_0 x_1 x_2 x_3 x_4 x_5 y_0 y_1 y_2 y_3 y_4 y_5 g_0 g_1 g_2 g_3 g_4 g_5
  generalize w'.alloc (.cells #[.slice Ah n ch, .int .i64 ql, .bool qd] 25) = w2 at *
  generalize w'.heap.size = gh at *
  have Xh := hide hX
  clear hX
  obtain ⟨d_0, d_1, d_2, d_3, d_4, d_5⟩ := Xd.out.cells
  obtain ⟨s_0, s_1, s_2, s_3, s_4, s_5⟩ := Xs.out.cells
  obtain ⟨v_0, v_1, v_2, v_3, v_4, v_5⟩ := Xv.out.cells
  obtain ⟨w_0, w_1, w_2, w_3, w_4, w_5⟩ := Xw.out.cells
  obtain ⟨x_0, x_1, x_2, x_3, x_4, x_5⟩ := Xx.out.cells
  obtain ⟨y_0, y_1, y_2, y_3, y_4, y_5⟩ := Xy.out.cells
  obtain ⟨g_0, g_1, g_2, g_3, g_4, g_5⟩ := Xg.out.cells
  obtain ⟨h_0, h_1, h_2, h_3, h_4, h_5⟩ := Xh.out.cells
  go_wp2_with fail
  refine (QS1.out _ _ _ _ _ Sx.out Sy.out).mono ?_
  rintro e w' ⟨rfl, hb⟩
  replace Xd := hide (Xd.out.kept hb)
  replace Xs := hide (Xs.out.kept hb)
  replace Xv := hide (Xv.out.kept hb)
  replace Xw := hide (Xw.out.kept hb)
  replace Xx := hide (Xx.out.kept hb)
  replace Xy := hide (Xy.out.kept hb)
  replace Xg := hide (Xg.out.kept hb)
  replace Xh := hide (Xh.out.kept hb)
  replace Sd := hide (Sd.out.kept hb)
  replace S9 := hide (S9.out.kept hb)
  replace Sv := hide (Sv.out.kept hb)
  replace Sw := hide (Sw.out.kept hb)
  replace Sx := hide (Sx.out.kept hb)
  replace Sy := hide (Sy.out.kept hb)
  replace Sg := hide (Sg.out.kept hb)
  replace Sh := hide (Sh.out.kept hb)
  replace HB := hide (Bel.then HB.out hb)
  clear hb
  clear d_0 d_1 d_2 d_3 d_4 d_5 s_0 s_1 s_2 s_3 s_4 s_5 v_0 v_1 v_2 v_3 v_4 v_5 w_0 w_1 w_2 w_3 w_4 w_5 x_0 x_1 x_2 x_3 x_4 x_5 y_0 y_1 y_2 y_3 y_4 y_5 g_0 g_1 g_2 g_3 g_4 g_5 h_0 h_1 h_2 h_3 h_4 h_5
  obtain ⟨d_0, d_1, d_2, d_3, d_4, d_5⟩ := Xd.out.cells
  obtain ⟨s_0, s_1, s_2, s_3, s_4, s_5⟩ := Xs.out.cells
  obtain ⟨v_0, v_1, v_2, v_3, v_4, v_5⟩ := Xv.out.cells
  obtain ⟨w_0, w_1, w_2, w_3, w_4, w_5⟩ := Xw.out.cells
  obtain ⟨x_0, x_1, x_2, x_3, x_4, x_5⟩ := Xx.out.cells
  obtain ⟨y_0, y_1, y_2, y_3, y_4, y_5⟩ := Xy.out.cells
  obtain ⟨g_0, g_1, g_2, g_3, g_4, g_5⟩ := Xg.out.cells
  obtain ⟨h_0, h_1, h_2, h_3, h_4, h_5⟩ := Xh.out.cells
  go_wp2_with fail
  refine (QS2.out _ _ _ _ _ Sg.out Sh.out).mono ?_
  rintro e w' ⟨rfl, hb⟩
  replace Xd := hide (Xd.out.kept hb)
  replace Xs := hide (Xs.out.kept hb)
  replace Xv := hide (Xv.out.kept hb)
  replace Xw := hide (Xw.out.kept hb)
  replace Xx := hide (Xx.out.kept hb)
  replace Xy := hide (Xy.out.kept hb)
  replace Xg := hide (Xg.out.kept hb)
  replace Xh := hide (Xh.out.kept hb)
  replace Sd := hide (Sd.out.kept hb)
  replace S9 := hide (S9.out.kept hb)
  replace Sv := hide (Sv.out.kept hb)
  replace Sw := hide (Sw.out.kept hb)
  replace Sx := hide (Sx.out.kept hb)
  replace Sy := hide (Sy.out.kept hb)
  replace Sg := hide (Sg.out.kept hb)
  replace Sh := hide (Sh.out.kept hb)
  replace HB := hide (Bel.then HB.out hb)
  clear hb
  clear d_0 d_1 d_2 d_3 d_4 d_5 s_0 s_1 s_2 s_3 s_4 s_5 v_0 v_1 v_2 v_3 v_4 v_5 w_0 w_1 w_2 w_3 w_4 w_5 x_0 x_1 x_2 x_3 x_4 x_5 y_0 y_1 y_2 y_3 y_4 y_5 g_0 g_1 g_2 g_3 g_4 g_5 h_0 h_1 h_2 h_3 h_4 h_5
  obtain ⟨d_0, d_1, d_2, d_3, d_4, d_5⟩ := Xd.out.cells
  obtain ⟨s_0, s_1, s_2, s_3, s_4, s_5⟩ := Xs.out.cells
  obtain ⟨v_0, v_1, v_2, v_3, v_4, v_5⟩ := Xv.out.cells
  obtain ⟨w_0, w_1, w_2, w_3, w_4, w_5⟩ := Xw.out.cells
  obtain ⟨x_0, x_1, x_2, x_3, x_4, x_5⟩ := Xx.out.cells
  obtain ⟨y_0, y_1, y_2, y_3, y_4, y_5⟩ := Xy.out.cells
  obtain ⟨g_0, g_1, g_2, g_3, g_4, g_5⟩ := Xg.out.cells
  obtain ⟨h_0, h_1, h_2, h_3, h_4, h_5⟩ := Xh.out.cells
  go_wp2_with fail
  refine wp_region_held_drew (S := (fun w' => DBox w' w.heap.size (.slice A n c) dl dd ∧ DBox w' gs (.slice A9 n c9) dl dd ∧ DkAt w' A n c ds ∧ DkAt w' A9 n c9 ds ∧ Below w.heap.size w w')) (by kernel_rfl) (⟨Xd.out, Xs.out, Sd.out.kept (Below.refl _ _).drew, S9.out.kept (Below.refl _ _).drew, HB.out.drew⟩) (fun hHeld => ?_)
  refine wpAnyH_ready (rs := [0]) (by kernel_rfl) (by simp) ?_
  refine AllReadyH.cons nth0 (fun K hK => ?_) AllReadyH.nil
  go_simp
  first | (go_at_call 9; refine (QA.out _).mono ?_; rintro e w' ⟨rfl, hb⟩) | (go_at_call 20; refine (QA1.out _ _ _ hHeld.2.2.1).mono ?_; rintro e w' ⟨Aa, ca, rfl, hSa, hb⟩) | (go_at_call 21; refine (QA2.out _ _ _ hHeld.2.2.1).mono ?_; rintro e w' ⟨Ab, cb, rfl, hSb, hb⟩; replace hSa := hSa.kept hb) | (go_at_call 22; refine (QT1.out _ _ _ hHeld.2.2.1).mono ?_; rintro e w' ⟨Ac, cc, rfl, hSc, hb⟩) | (go_at_call 23; refine (QT2.out _ _ _ hHeld.2.2.1).mono ?_; rintro e w' ⟨Ae, ce, rfl, hSe, hb⟩; replace hSc := hSc.kept hb) | (go_at_call 10; with_reducible refine (QS3.out _ _ _ _ _ hSa hSb).mono ?_; rintro e w' ⟨rfl, hb⟩) | (go_at_call 10; with_reducible refine (QS4.out _ _ _ _ _ hSc hSe).mono ?_; rintro e w' ⟨rfl, hb⟩) | (go_at_call 10; with_reducible refine (QS5.out _ _ _ _ _ hHeld.2.2.1 hHeld.2.2.2.1).mono ?_; rintro e w' ⟨rfl, hb⟩)
  refine hK.out _ _ (⟨hHeld.1.kept hb, hHeld.2.1.kept hb, hHeld.2.2.1.kept hb, hHeld.2.2.2.1.kept hb, Bel.then hHeld.2.2.2.2 hb⟩) (fun hHeld => ?_)
  clear hK K
  (try simp only [Act.put]); (try simp only [List.setIfInBounds_toArray]); (try simp only [List.set_cons_succ]); (try simp only [List.set_cons_zero])
  first | (refine wpAnyH_take (i := 1) (v := ?_) nth1 (by kernel_rfl) (by kernel_rfl) (by kernel_rfl) (fun _ _ _ h => h) (Or.inl ⟨by rfl, ?_⟩) hHeld ?_; rotate_left; focus (intro wS hSw; (obtain ⟨d_0, d_1, d_2, d_3, d_4, d_5⟩ := hSw.1.cells; obtain ⟨s_0, s_1, s_2, s_3, s_4, s_5⟩ := hSw.2.1.cells); go_simp; try with_reducible rfl; done)) | (refine wpAnyH_take (i := 1) (v := undef) nth1 (by kernel_rfl) (by kernel_rfl) (by kernel_rfl) (fun _ _ _ h => h) (Or.inr ⟨by rfl, rfl⟩) hHeld ?_)
  (try simp only [Act.put]); (try simp only [List.setIfInBounds_toArray]); (try simp only [List.set_cons_succ]); (try simp only [List.set_cons_zero])
  first | (refine wpAnyH_take (i := 2) (v := ?_) nth2 (by kernel_rfl) (by kernel_rfl) (by kernel_rfl) (fun _ _ _ h => h) (Or.inl ⟨by rfl, ?_⟩) hHeld ?_; rotate_left; focus (intro wS hSw; (obtain ⟨d_0, d_1, d_2, d_3, d_4, d_5⟩ := hSw.1.cells; obtain ⟨s_0, s_1, s_2, s_3, s_4, s_5⟩ := hSw.2.1.cells); go_simp; try with_reducible rfl; done)) | (refine wpAnyH_take (i := 2) (v := undef) nth2 (by kernel_rfl) (by kernel_rfl) (by kernel_rfl) (fun _ _ _ h => h) (Or.inr ⟨by rfl, rfl⟩) hHeld ?_)
  (try simp only [Act.put]); (try simp only [List.setIfInBounds_toArray]); (try simp only [List.set_cons_succ]); (try simp only [List.set_cons_zero])
  first | (refine wpAnyH_take (i := 3) (v := ?_) nth3 (by kernel_rfl) (by kernel_rfl) (by kernel_rfl) (fun _ _ _ h => h) (Or.inl ⟨by rfl, ?_⟩) hHeld ?_; rotate_left; focus (intro wS hSw; (obtain ⟨d_0, d_1, d_2, d_3, d_4, d_5⟩ := hSw.1.cells; obtain ⟨s_0, s_1, s_2, s_3, s_4, s_5⟩ := hSw.2.1.cells); go_simp; try with_reducible rfl; done)) | (refine wpAnyH_take (i := 3) (v := undef) nth3 (by kernel_rfl) (by kernel_rfl) (by kernel_rfl) (fun _ _ _ h => h) (Or.inr ⟨by rfl, rfl⟩) hHeld ?_)
  (try simp only [Act.put]); (try simp only [List.setIfInBounds_toArray]); (try simp only [List.set_cons_succ]); (try simp only [List.set_cons_zero])
  first | (refine wpAnyH_take (i := 5) (v := ?_) nth5 (by kernel_rfl) (by kernel_rfl) (by kernel_rfl) (fun _ _ _ h => h) (Or.inl ⟨by rfl, ?_⟩) hHeld ?_; rotate_left; focus (intro wS hSw; (obtain ⟨d_0, d_1, d_2, d_3, d_4, d_5⟩ := hSw.1.cells; obtain ⟨s_0, s_1, s_2, s_3, s_4, s_5⟩ := hSw.2.1.cells); go_simp; try with_reducible rfl; done)) | (refine wpAnyH_take (i := 5) (v := undef) nth5 (by kernel_rfl) (by kernel_rfl) (by kernel_rfl) (fun _ _ _ h => h) (Or.inr ⟨by rfl, rfl⟩) hHeld ?_)
  (try simp only [Act.put]); (try simp only [List.setIfInBounds_toArray]); (try simp only [List.set_cons_succ]); (try simp only [List.set_cons_zero])
  first | (refine wpAnyH_take (i := 6) (v := ?_) nth6 (by kernel_rfl) (by kernel_rfl) (by kernel_rfl) (fun _ _ _ h => h) (Or.inl ⟨by rfl, ?_⟩) hHeld ?_; rotate_left; focus (intro wS hSw; (obtain ⟨d_0, d_1, d_2, d_3, d_4, d_5⟩ := hSw.1.cells; obtain ⟨s_0, s_1, s_2, s_3, s_4, s_5⟩ := hSw.2.1.cells); go_simp; try with_reducible rfl; done)) | (refine wpAnyH_take (i := 6) (v := undef) nth6 (by kernel_rfl) (by kernel_rfl) (by kernel_rfl) (fun _ _ _ h => h) (Or.inr ⟨by rfl, rfl⟩) hHeld ?_)
  (try simp only [Act.put]); (try simp only [List.setIfInBounds_toArray]); (try simp only [List.set_cons_succ]); (try simp only [List.set_cons_zero])
  refine wpAnyH_ready (rs := [4]) (by kernel_rfl) (by simp) ?_
  refine AllReadyH.cons nth4 (fun K hK => ?_) AllReadyH.nil
  go_simp
  first | (go_at_call 9; refine (QA.out _).mono ?_; rintro e w' ⟨rfl, hb⟩) | (go_at_call 20; refine (QA1.out _ _ _ hHeld.2.2.1).mono ?_; rintro e w' ⟨Aa, ca, rfl, hSa, hb⟩) | (go_at_call 21; refine (QA2.out _ _ _ hHeld.2.2.1).mono ?_; rintro e w' ⟨Ab, cb, rfl, hSb, hb⟩; replace hSa := hSa.kept hb) | (go_at_call 22; refine (QT1.out _ _ _ hHeld.2.2.1).mono ?_; rintro e w' ⟨Ac, cc, rfl, hSc, hb⟩) | (go_at_call 23; refine (QT2.out _ _ _ hHeld.2.2.1).mono ?_; rintro e w' ⟨Ae, ce, rfl, hSe, hb⟩; replace hSc := hSc.kept hb) | (go_at_call 10; with_reducible refine (QS3.out _ _ _ _ _ hSa hSb).mono ?_; rintro e w' ⟨rfl, hb⟩) | (go_at_call 10; with_reducible refine (QS4.out _ _ _ _ _ hSc hSe).mono ?_; rintro e w' ⟨rfl, hb⟩) | (go_at_call 10; with_reducible refine (QS5.out _ _ _ _ _ hHeld.2.2.1 hHeld.2.2.2.1).mono ?_; rintro e w' ⟨rfl, hb⟩)
  refine hK.out _ _ (⟨hHeld.1.kept hb, hHeld.2.1.kept hb, hHeld.2.2.1.kept hb, hHeld.2.2.2.1.kept hb, Bel.then hHeld.2.2.2.2 hb⟩) (fun hHeld => ?_)
  clear hK K
  (try simp only [Act.put]); (try simp only [List.setIfInBounds_toArray]); (try simp only [List.set_cons_succ]); (try simp only [List.set_cons_zero])
  refine wpAnyH_ready (rs := [7]) (by kernel_rfl) (by simp) ?_
  refine AllReadyH.cons nth7 (fun K hK => ?_) AllReadyH.nil
  go_simp
  first | (go_at_call 9; refine (QA.out _).mono ?_; rintro e w' ⟨rfl, hb⟩) | (go_at_call 20; refine (QA1.out _ _ _ hHeld.2.2.1).mono ?_; rintro e w' ⟨Aa, ca, rfl, hSa, hb⟩) | (go_at_call 21; refine (QA2.out _ _ _ hHeld.2.2.1).mono ?_; rintro e w' ⟨Ab, cb, rfl, hSb, hb⟩; replace hSa := hSa.kept hb) | (go_at_call 22; refine (QT1.out _ _ _ hHeld.2.2.1).mono ?_; rintro e w' ⟨Ac, cc, rfl, hSc, hb⟩) | (go_at_call 23; refine (QT2.out _ _ _ hHeld.2.2.1).mono ?_; rintro e w' ⟨Ae, ce, rfl, hSe, hb⟩; replace hSc := hSc.kept hb) | (go_at_call 10; with_reducible refine (QS3.out _ _ _ _ _ hSa hSb).mono ?_; rintro e w' ⟨rfl, hb⟩) | (go_at_call 10; with_reducible refine (QS4.out _ _ _ _ _ hSc hSe).mono ?_; rintro e w' ⟨rfl, hb⟩) | (go_at_call 10; with_reducible refine (QS5.out _ _ _ _ _ hHeld.2.2.1 hHeld.2.2.2.1).mono ?_; rintro e w' ⟨rfl, hb⟩)
  refine hK.out _ _ (⟨hHeld.1.kept hb, hHeld.2.1.kept hb, hHeld.2.2.1.kept hb, hHeld.2.2.2.1.kept hb, Bel.then hHeld.2.2.2.2 hb⟩) (fun hHeld => ?_)
  clear hK K
  (try simp only [Act.put]); (try simp only [List.setIfInBounds_toArray]); (try simp only [List.set_cons_succ]); (try simp only [List.set_cons_zero])
  refine wpAnyH_ready (rs := [8]) (by kernel_rfl) (by simp) ?_
  refine AllReadyH.cons nth8 (fun K hK => ?_) AllReadyH.nil
  go_simp
  first | (go_at_call 9; refine (QA.out _).mono ?_; rintro e w' ⟨rfl, hb⟩) | (go_at_call 20; refine (QA1.out _ _ _ hHeld.2.2.1).mono ?_; rintro e w' ⟨Aa, ca, rfl, hSa, hb⟩) | (go_at_call 21; refine (QA2.out _ _ _ hHeld.2.2.1).mono ?_; rintro e w' ⟨Ab, cb, rfl, hSb, hb⟩; replace hSa := hSa.kept hb) | (go_at_call 22; refine (QT1.out _ _ _ hHeld.2.2.1).mono ?_; rintro e w' ⟨Ac, cc, rfl, hSc, hb⟩) | (go_at_call 23; refine (QT2.out _ _ _ hHeld.2.2.1).mono ?_; rintro e w' ⟨Ae, ce, rfl, hSe, hb⟩; replace hSc := hSc.kept hb) | (go_at_call 10; with_reducible refine (QS3.out _ _ _ _ _ hSa hSb).mono ?_; rintro e w' ⟨rfl, hb⟩) | (go_at_call 10; with_reducible refine (QS4.out _ _ _ _ _ hSc hSe).mono ?_; rintro e w' ⟨rfl, hb⟩) | (go_at_call 10; with_reducible refine (QS5.out _ _ _ _ _ hHeld.2.2.1 hHeld.2.2.2.1).mono ?_; rintro e w' ⟨rfl, hb⟩)
  refine hK.out _ _ (⟨hHeld.1.kept hb, hHeld.2.1.kept hb, hHeld.2.2.1.kept hb, hHeld.2.2.2.1.kept hb, Bel.then hHeld.2.2.2.2 hb⟩) (fun hHeld => ?_)
  clear hK K
  (try simp only [Act.put]); (try simp only [List.setIfInBounds_toArray]); (try simp only [List.set_cons_succ]); (try simp only [List.set_cons_zero])
  first | (refine wpAnyH_take (i := 9) (v := ?_) nth9 (by kernel_rfl) (by kernel_rfl) (by kernel_rfl) (fun _ _ _ h => h) (Or.inl ⟨by rfl, ?_⟩) hHeld ?_; rotate_left; focus (intro wS hSw; (obtain ⟨d_0, d_1, d_2, d_3, d_4, d_5⟩ := hSw.1.cells; obtain ⟨s_0, s_1, s_2, s_3, s_4, s_5⟩ := hSw.2.1.cells); go_simp; try with_reducible rfl; done)) | (refine wpAnyH_take (i := 9) (v := undef) nth9 (by kernel_rfl) (by kernel_rfl) (by kernel_rfl) (fun _ _ _ h => h) (Or.inr ⟨by rfl, rfl⟩) hHeld ?_)
  (try simp only [Act.put]); (try simp only [List.setIfInBounds_toArray]); (try simp only [List.set_cons_succ]); (try simp only [List.set_cons_zero])
  first | (refine wpAnyH_take (i := 10) (v := ?_) nth10 (by kernel_rfl) (by kernel_rfl) (by kernel_rfl) (fun _ _ _ h => h) (Or.inl ⟨by rfl, ?_⟩) hHeld ?_; rotate_left; focus (intro wS hSw; (obtain ⟨d_0, d_1, d_2, d_3, d_4, d_5⟩ := hSw.1.cells; obtain ⟨s_0, s_1, s_2, s_3, s_4, s_5⟩ := hSw.2.1.cells); go_simp; try with_reducible rfl; done)) | (refine wpAnyH_take (i := 10) (v := undef) nth10 (by kernel_rfl) (by kernel_rfl) (by kernel_rfl) (fun _ _ _ h => h) (Or.inr ⟨by rfl, rfl⟩) hHeld ?_)
  (try simp only [Act.put]); (try simp only [List.setIfInBounds_toArray]); (try simp only [List.set_cons_succ]); (try simp only [List.set_cons_zero])
  first | (refine wpAnyH_take (i := 11) (v := ?_) nth11 (by kernel_rfl) (by kernel_rfl) (by kernel_rfl) (fun _ _ _ h => h) (Or.inl ⟨by rfl, ?_⟩) hHeld ?_; rotate_left; focus (intro wS hSw; (obtain ⟨d_0, d_1, d_2, d_3, d_4, d_5⟩ := hSw.1.cells; obtain ⟨s_0, s_1, s_2, s_3, s_4, s_5⟩ := hSw.2.1.cells); go_simp; try with_reducible rfl; done)) | (refine wpAnyH_take (i := 11) (v := undef) nth11 (by kernel_rfl) (by kernel_rfl) (by kernel_rfl) (fun _ _ _ h => h) (Or.inr ⟨by rfl, rfl⟩) hHeld ?_)
  (try simp only [Act.put]); (try simp only [List.setIfInBounds_toArray]); (try simp only [List.set_cons_succ]); (try simp only [List.set_cons_zero])
  first | (refine wpAnyH_take (i := 13) (v := ?_) nth13 (by kernel_rfl) (by kernel_rfl) (by kernel_rfl) (fun _ _ _ h => h) (Or.inl ⟨by rfl, ?_⟩) hHeld ?_; rotate_left; focus (intro wS hSw; (obtain ⟨d_0, d_1, d_2, d_3, d_4, d_5⟩ := hSw.1.cells; obtain ⟨s_0, s_1, s_2, s_3, s_4, s_5⟩ := hSw.2.1.cells); go_simp; try with_reducible rfl; done)) | (refine wpAnyH_take (i := 13) (v := undef) nth13 (by kernel_rfl) (by kernel_rfl) (by kernel_rfl) (fun _ _ _ h => h) (Or.inr ⟨by rfl, rfl⟩) hHeld ?_)
  (try simp only [Act.put]); (try simp only [List.setIfInBounds_toArray]); (try simp only [List.set_cons_succ]); (try simp only [List.set_cons_zero])
  refine wpAnyH_ready (rs := [12]) (by kernel_rfl) (by simp) ?_
  refine AllReadyH.cons nth12 (fun K hK => ?_) AllReadyH.nil
  go_simp
  first | (go_at_call 9; refine (QA.out _).mono ?_; rintro e w' ⟨rfl, hb⟩) | (go_at_call 20; refine (QA1.out _ _ _ hHeld.2.2.1).mono ?_; rintro e w' ⟨Aa, ca, rfl, hSa, hb⟩) | (go_at_call 21; refine (QA2.out _ _ _ hHeld.2.2.1).mono ?_; rintro e w' ⟨Ab, cb, rfl, hSb, hb⟩; replace hSa := hSa.kept hb) | (go_at_call 22; refine (QT1.out _ _ _ hHeld.2.2.1).mono ?_; rintro e w' ⟨Ac, cc, rfl, hSc, hb⟩) | (go_at_call 23; refine (QT2.out _ _ _ hHeld.2.2.1).mono ?_; rintro e w' ⟨Ae, ce, rfl, hSe, hb⟩; replace hSc := hSc.kept hb) | (go_at_call 10; with_reducible refine (QS3.out _ _ _ _ _ hSa hSb).mono ?_; rintro e w' ⟨rfl, hb⟩) | (go_at_call 10; with_reducible refine (QS4.out _ _ _ _ _ hSc hSe).mono ?_; rintro e w' ⟨rfl, hb⟩) | (go_at_call 10; with_reducible refine (QS5.out _ _ _ _ _ hHeld.2.2.1 hHeld.2.2.2.1).mono ?_; rintro e w' ⟨rfl, hb⟩)
  refine hK.out _ _ (⟨hHeld.1.kept hb, hHeld.2.1.kept hb, hHeld.2.2.1.kept hb, hHeld.2.2.2.1.kept hb, Bel.then hHeld.2.2.2.2 hb⟩) (fun hHeld => ?_)
  clear hK K
  (try simp only [Act.put]); (try simp only [List.setIfInBounds_toArray]); (try simp only [List.set_cons_succ]); (try simp only [List.set_cons_zero])
  refine wpAnyH_ready (rs := [14]) (by kernel_rfl) (by simp) ?_
  refine AllReadyH.cons nth14 (fun K hK => ?_) AllReadyH.nil
  go_simp
  first | (go_at_call 9; refine (QA.out _).mono ?_; rintro e w' ⟨rfl, hb⟩) | (go_at_call 20; refine (QA1.out _ _ _ hHeld.2.2.1).mono ?_; rintro e w' ⟨Aa, ca, rfl, hSa, hb⟩) | (go_at_call 21; refine (QA2.out _ _ _ hHeld.2.2.1).mono ?_; rintro e w' ⟨Ab, cb, rfl, hSb, hb⟩; replace hSa := hSa.kept hb) | (go_at_call 22; refine (QT1.out _ _ _ hHeld.2.2.1).mono ?_; rintro e w' ⟨Ac, cc, rfl, hSc, hb⟩) | (go_at_call 23; refine (QT2.out _ _ _ hHeld.2.2.1).mono ?_; rintro e w' ⟨Ae, ce, rfl, hSe, hb⟩; replace hSc := hSc.kept hb) | (go_at_call 10; with_reducible refine (QS3.out _ _ _ _ _ hSa hSb).mono ?_; rintro e w' ⟨rfl, hb⟩) | (go_at_call 10; with_reducible refine (QS4.out _ _ _ _ _ hSc hSe).mono ?_; rintro e w' ⟨rfl, hb⟩) | (go_at_call 10; with_reducible refine (QS5.out _ _ _ _ _ hHeld.2.2.1 hHeld.2.2.2.1).mono ?_; rintro e w' ⟨rfl, hb⟩)
  refine hK.out _ _ (⟨hHeld.1.kept hb, hHeld.2.1.kept hb, hHeld.2.2.1.kept hb, hHeld.2.2.2.1.kept hb, Bel.then hHeld.2.2.2.2 hb⟩) (fun hHeld => ?_)
  clear hK K
  (try simp only [Act.put]); (try simp only [List.setIfInBounds_toArray]); (try simp only [List.set_cons_succ]); (try simp only [List.set_cons_zero])
  refine wpAnyH_ready (rs := [15]) (by kernel_rfl) (by simp) ?_
  refine AllReadyH.cons nth15 (fun K hK => ?_) AllReadyH.nil
  go_simp
  first | (go_at_call 9; refine (QA.out _).mono ?_; rintro e w' ⟨rfl, hb⟩) | (go_at_call 20; refine (QA1.out _ _ _ hHeld.2.2.1).mono ?_; rintro e w' ⟨Aa, ca, rfl, hSa, hb⟩) | (go_at_call 21; refine (QA2.out _ _ _ hHeld.2.2.1).mono ?_; rintro e w' ⟨Ab, cb, rfl, hSb, hb⟩; replace hSa := hSa.kept hb) | (go_at_call 22; refine (QT1.out _ _ _ hHeld.2.2.1).mono ?_; rintro e w' ⟨Ac, cc, rfl, hSc, hb⟩) | (go_at_call 23; refine (QT2.out _ _ _ hHeld.2.2.1).mono ?_; rintro e w' ⟨Ae, ce, rfl, hSe, hb⟩; replace hSc := hSc.kept hb) | (go_at_call 10; with_reducible refine (QS3.out _ _ _ _ _ hSa hSb).mono ?_; rintro e w' ⟨rfl, hb⟩) | (go_at_call 10; with_reducible refine (QS4.out _ _ _ _ _ hSc hSe).mono ?_; rintro e w' ⟨rfl, hb⟩) | (go_at_call 10; with_reducible refine (QS5.out _ _ _ _ _ hHeld.2.2.1 hHeld.2.2.2.1).mono ?_; rintro e w' ⟨rfl, hb⟩)
  refine hK.out _ _ (⟨hHeld.1.kept hb, hHeld.2.1.kept hb, hHeld.2.2.1.kept hb, hHeld.2.2.2.1.kept hb, Bel.then hHeld.2.2.2.2 hb⟩) (fun hHeld => ?_)
  clear hK K
  (try simp only [Act.put]); (try simp only [List.setIfInBounds_toArray]); (try simp only [List.set_cons_succ]); (try simp only [List.set_cons_zero])
  first | (refine wpAnyH_take (i := 16) (v := ?_) nth16 (by kernel_rfl) (by kernel_rfl) (by kernel_rfl) (fun _ _ _ h => h) (Or.inl ⟨by rfl, ?_⟩) hHeld ?_; rotate_left; focus (intro wS hSw; (obtain ⟨d_0, d_1, d_2, d_3, d_4, d_5⟩ := hSw.1.cells; obtain ⟨s_0, s_1, s_2, s_3, s_4, s_5⟩ := hSw.2.1.cells); go_simp; try with_reducible rfl; done)) | (refine wpAnyH_take (i := 16) (v := undef) nth16 (by kernel_rfl) (by kernel_rfl) (by kernel_rfl) (fun _ _ _ h => h) (Or.inr ⟨by rfl, rfl⟩) hHeld ?_)
  (try simp only [Act.put]); (try simp only [List.setIfInBounds_toArray]); (try simp only [List.set_cons_succ]); (try simp only [List.set_cons_zero])
  first | (refine wpAnyH_take (i := 17) (v := ?_) nth17 (by kernel_rfl) (by kernel_rfl) (by kernel_rfl) (fun _ _ _ h => h) (Or.inl ⟨by rfl, ?_⟩) hHeld ?_; rotate_left; focus (intro wS hSw; (obtain ⟨d_0, d_1, d_2, d_3, d_4, d_5⟩ := hSw.1.cells; obtain ⟨s_0, s_1, s_2, s_3, s_4, s_5⟩ := hSw.2.1.cells); go_simp; try with_reducible rfl; done)) | (refine wpAnyH_take (i := 17) (v := undef) nth17 (by kernel_rfl) (by kernel_rfl) (by kernel_rfl) (fun _ _ _ h => h) (Or.inr ⟨by rfl, rfl⟩) hHeld ?_)
  (try simp only [Act.put]); (try simp only [List.setIfInBounds_toArray]); (try simp only [List.set_cons_succ]); (try simp only [List.set_cons_zero])
  first | (refine wpAnyH_take (i := 18) (v := ?_) nth18 (by kernel_rfl) (by kernel_rfl) (by kernel_rfl) (fun _ _ _ h => h) (Or.inl ⟨by rfl, ?_⟩) hHeld ?_; rotate_left; focus (intro wS hSw; (obtain ⟨d_0, d_1, d_2, d_3, d_4, d_5⟩ := hSw.1.cells; obtain ⟨s_0, s_1, s_2, s_3, s_4, s_5⟩ := hSw.2.1.cells); go_simp; try with_reducible rfl; done)) | (refine wpAnyH_take (i := 18) (v := undef) nth18 (by kernel_rfl) (by kernel_rfl) (by kernel_rfl) (fun _ _ _ h => h) (Or.inr ⟨by rfl, rfl⟩) hHeld ?_)
  (try simp only [Act.put]); (try simp only [List.setIfInBounds_toArray]); (try simp only [List.set_cons_succ]); (try simp only [List.set_cons_zero])
  first | (refine wpAnyH_take (i := 19) (v := ?_) nth19 (by kernel_rfl) (by kernel_rfl) (by kernel_rfl) (fun _ _ _ h => h) (Or.inl ⟨by rfl, ?_⟩) hHeld ?_; rotate_left; focus (intro wS hSw; (obtain ⟨d_0, d_1, d_2, d_3, d_4, d_5⟩ := hSw.1.cells; obtain ⟨s_0, s_1, s_2, s_3, s_4, s_5⟩ := hSw.2.1.cells); go_simp; try with_reducible rfl; done)) | (refine wpAnyH_take (i := 19) (v := undef) nth19 (by kernel_rfl) (by kernel_rfl) (by kernel_rfl) (fun _ _ _ h => h) (Or.inr ⟨by rfl, rfl⟩) hHeld ?_)
  (try simp only [Act.put]); (try simp only [List.setIfInBounds_toArray]); (try simp only [List.set_cons_succ]); (try simp only [List.set_cons_zero])
  refine wpAnyH_ready (rs := [20]) (by kernel_rfl) (by simp) ?_
  refine AllReadyH.cons nth20 (fun K hK => ?_) AllReadyH.nil
  go_simp
  first | (go_at_call 9; refine (QA.out _).mono ?_; rintro e w' ⟨rfl, hb⟩) | (go_at_call 20; refine (QA1.out _ _ _ hHeld.2.2.1).mono ?_; rintro e w' ⟨Aa, ca, rfl, hSa, hb⟩) | (go_at_call 21; refine (QA2.out _ _ _ hHeld.2.2.1).mono ?_; rintro e w' ⟨Ab, cb, rfl, hSb, hb⟩; replace hSa := hSa.kept hb) | (go_at_call 22; refine (QT1.out _ _ _ hHeld.2.2.1).mono ?_; rintro e w' ⟨Ac, cc, rfl, hSc, hb⟩) | (go_at_call 23; refine (QT2.out _ _ _ hHeld.2.2.1).mono ?_; rintro e w' ⟨Ae, ce, rfl, hSe, hb⟩; replace hSc := hSc.kept hb) | (go_at_call 10; with_reducible refine (QS3.out _ _ _ _ _ hSa hSb).mono ?_; rintro e w' ⟨rfl, hb⟩) | (go_at_call 10; with_reducible refine (QS4.out _ _ _ _ _ hSc hSe).mono ?_; rintro e w' ⟨rfl, hb⟩) | (go_at_call 10; with_reducible refine (QS5.out _ _ _ _ _ hHeld.2.2.1 hHeld.2.2.2.1).mono ?_; rintro e w' ⟨rfl, hb⟩)
  refine hK.out _ _ (⟨hHeld.1.kept hb, hHeld.2.1.kept hb, hHeld.2.2.1.kept hb, hHeld.2.2.2.1.kept hb, Bel.then hHeld.2.2.2.2 hb⟩) (fun hHeld => ?_)
  clear hK K
  (try simp only [Act.put]); (try simp only [List.setIfInBounds_toArray]); (try simp only [List.set_cons_succ]); (try simp only [List.set_cons_zero])
  first | (refine wpAnyH_take (i := 21) (v := ?_) nth21 (by kernel_rfl) (by kernel_rfl) (by kernel_rfl) (fun _ _ _ h => h) (Or.inl ⟨by rfl, ?_⟩) hHeld ?_; rotate_left; focus (intro wS hSw; (obtain ⟨d_0, d_1, d_2, d_3, d_4, d_5⟩ := hSw.1.cells; obtain ⟨s_0, s_1, s_2, s_3, s_4, s_5⟩ := hSw.2.1.cells); go_simp; try with_reducible rfl; done)) | (refine wpAnyH_take (i := 21) (v := undef) nth21 (by kernel_rfl) (by kernel_rfl) (by kernel_rfl) (fun _ _ _ h => h) (Or.inr ⟨by rfl, rfl⟩) hHeld ?_)
  (try simp only [Act.put]); (try simp only [List.setIfInBounds_toArray]); (try simp only [List.set_cons_succ]); (try simp only [List.set_cons_zero])
  first | (refine wpAnyH_take (i := 22) (v := ?_) nth22 (by kernel_rfl) (by kernel_rfl) (by kernel_rfl) (fun _ _ _ h => h) (Or.inl ⟨by rfl, ?_⟩) hHeld ?_; rotate_left; focus (intro wS hSw; (obtain ⟨d_0, d_1, d_2, d_3, d_4, d_5⟩ := hSw.1.cells; obtain ⟨s_0, s_1, s_2, s_3, s_4, s_5⟩ := hSw.2.1.cells); go_simp; try with_reducible rfl; done)) | (refine wpAnyH_take (i := 22) (v := undef) nth22 (by kernel_rfl) (by kernel_rfl) (by kernel_rfl) (fun _ _ _ h => h) (Or.inr ⟨by rfl, rfl⟩) hHeld ?_)
  (try simp only [Act.put]); (try simp only [List.setIfInBounds_toArray]); (try simp only [List.set_cons_succ]); (try simp only [List.set_cons_zero])
  refine wpAnyH_done (by kernel_rfl) ?_ _
  go_wp2_with fail
  go_ret
  exact ⟨ret_bool (by first | rfl | (simp; done)), hHeld.2.2.2.2⟩
end Go.Proofs.Ytdfpmjfnlcccaaa
