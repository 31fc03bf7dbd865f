/- The contract of disk.WritePage. -/
import Derived.Test.YtdfpmjfnlcccaaaDkE
namespace Go.Proofs.Ytdfpmjfnlcccaaa
set_option linter.unusedVariables false
open Go.ChangeShapes Go.WideShapes Go.ChangeAt Go.RowKit

/-- How far a page has been written. -/
structure WpAt (d : DiskV) (at' : Int) (p : ByteArray) (k : Nat) (dk : DiskV) : Prop where
  eq : writeFrom p at' k (4 - k) dk = writeP d at' p
  len : dk.secs.length = d.secs.length
  left : Left64 dk
theorem wp_step {d : DiskV} {at' : Int} {p : ByteArray} {k : Nat} {dk : DiskV} (h : WpAt d at' p k dk) (hk : k < 4) : ((writeD dk (at' + k) (secOf p k)).2 ≠ 0 ∧ writeP d at' p = writeD dk (at' + k) (secOf p k)) ∨ ((writeD dk (at' + k) (secOf p k)).2 = 0 ∧ WpAt d at' p (k + 1) (writeD dk (at' + k) (secOf p k)).1) := by
  have he := h.eq
  rw [show 4 - k = (4 - (k + 1)) + 1 by omega, writeFrom] at he
  by_cases h0 : (writeD dk (at' + k) (secOf p k)).2 = 0
  · right
    rw [if_neg (by simpa using h0)] at he
    exact ⟨h0, he, by rw [writeD_len]; exact h.len, writeD_left h.left _ _⟩
  · left
    rw [if_pos h0] at he
    exact ⟨h0, he.symm⟩
theorem wp_end {d : DiskV} {at' : Int} {p : ByteArray} {dk : DiskV} (h : WpAt d at' p 4 dk) : writeP d at' p = (dk, 0) := h.eq.symm
theorem wp_start {d : DiskV} {at' : Int} {p : ByteArray} (h0 : d.down = false) (h1 : ¬ (p.size ≠ 512 ∨ at' < 0 ∨ (d.secs.length : Int) - 4 < at')) (hl : Left64 d) : WpAt d at' p 0 d :=
  ⟨by unfold writeP; rw [if_neg (by rw [h0]; simp), if_neg h1], rfl, hl⟩
theorem sec_run (p : ByteArray) (k : Nat) (h : p.size = 512) (hk : k < 4) (W : World) : (Instr.slice 9 (.string p) (some (.int .i64 ((k : Int) * 128))) (some (.int .i64 (((k : Int) + 1) * 128))) none).run Try.prog W = .ok (.string (secOf p k)) W := by
  rw [run_slice_string (P := Try.prog) W 9 p .i64 .i64 ((k : Int) * 128) (((k : Int) + 1) * 128) Try.underlying9 (by omega) (by omega) (by omega)]
  rw [show ((k : Int) * 128).toNat = k * 128 by omega, show (((k : Int) + 1) * 128).toNat = (k + 1) * 128 by omega]
  rfl
set_option maxRecDepth 100000 in
set_option maxHeartbeats 2000000 in
theorem WritePage_c (A : Option Addr) (n c : Nat) (d : DiskV) (at' : Int) (p : ByteArray) (w : World) (h : SlAt stC 1 w w.heap.size A n c d.secs) (hn : n ≤ 1048576) (hl : Left64 d) :
    Calls Try.prog 15 #[diskAgg A n c d.left d.down, .int .i64 at', .string p] w (GivesD w (writeP d at' p)) := by
  have hlen := h.len
  have HT := hide (dbox_two w (.slice A n c) (.slice none 0 0) d.left 0 d.down false)
  have HB2 := hide (Bel.alloc (Bel.one w (.cells #[.slice A n c, .int .i64 d.left, .bool d.down] 25)) (.cells #[.slice none 0 0, .int .i64 0, .bool false] 25))
  have QF := hide (fresh_c A n c d.secs d.left d.down _ (h.kept HB2.out) hn)
  have hlen2 : d.secs.length ≤ 1048576 := by omega
  have HLL := hide hl
  have HST := hide (fun h0 h1 => @wp_start d at' p h0 h1 hl)
  have HSP := hide (fun k dk h hk => @wp_step d at' p k dk h hk)
  have HEN := hide (fun dk h => @wp_end d at' p dk h)
  have HCS : Hid ((d.down = true → writeP d at' p = (d, 20)) ∧ (d.down = false → (p.size ≠ 512 ∨ at' < 0 ∨ (d.secs.length : Int) - 4 < at') → writeP d at' p = (d, 1))) := by
    refine ⟨fun h0 => by unfold writeP; rw [if_pos h0], fun h0 h1 => by unfold writeP; rw [if_neg (by rw [h0]; simp), if_pos h1]⟩
  clear h hlen hn hl
  unfold diskAgg at *
  generalize writeP d at' p = R at *
  obtain ⟨ds, dl, dd⟩ := d
  simp only at *
  have HLN := hide hlen2
  go_enter Try.func15, Try.ntmps15
  go_wp2_with fail
  refine QF.out.mono ?_
  rintro e w3 ⟨v, rfl, ho, hb⟩
  obtain ⟨A1, cc1, rfl, _⟩ := ho.sl
  have D1 := hide (HT.out.1.kept hb)
  have D2 := hide (HT.out.2.kept hb)
  have HO := hide (ho.more (B' := w.heap.size) HB2.out.size)
  have HB3 := hide (Bel.then HB2.out hb)
  obtain ⟨c0, c1, c2, f0, f1, f2⟩ := D1.out.cells
  clear ho hb QF HT HB2
  go_upto_region 2 with (fail)
  have X4 := D1.out.set3 (.slice A1 ds.length cc1) dl dd
  have R4 := far3 D2.out (show w.heap.size + 1 ≠ w.heap.size by omega) (.slice A1 ds.length cc1) (.int .i64 dl) (.bool dd)
  have O4 := HO.out.far3 D1.out (.slice A1 ds.length cc1) dl dd
  have B4 := below_set3 HB3.out (Nat.le_refl w.heap.size) (.slice A1 ds.length cc1) (.int .i64 dl) (.bool dd)
  generalize (((w3.setCell ⟨w.heap.size, 0, none⟩ (.slice A1 ds.length cc1)).setCell ⟨w.heap.size, 1, none⟩ (.int .i64 dl)).setCell ⟨w.heap.size, 2, none⟩ (.bool dd)) = w4 at *
  clear c0 c1 c2 f0 f1 f2 D1 D2 HO HB3
  obtain ⟨c0, c1, c2, f0, f1, f2⟩ := X4.cells
  obtain ⟨r0, r1, r2, q0, q1, q2⟩ := R4.cells
  have XX := hide X4
  have RR := hide R4
  have OO := hide O4
  have BB := hide B4
  clear X4 R4 O4 B4
  cases dd with
  | true =>
    have HR := hide (HCS.out.1 rfl)
    clear HST HSP HEN HCS
    go_wp2_with fail
    refine end_disk2 Try.results15 rfl rfl (RR.out.set3 _ _ _) rfl ?_
    rw [HR.out]
    exact ⟨_, rfl, OO.out.far3 RR.out _ _ _, below_set3 BB.out (by omega) _ _ _⟩
  | false =>
    by_cases hbad : p.size ≠ 512 ∨ at' < 0 ∨ (ds.length : Int) - 4 < at'
    · have HR := hide (HCS.out.2 rfl hbad)
      have hw4 : IntKind.i64.wrap ((ds.length : Int) - 4) = (ds.length : Int) - 4 := IntWalk.i64_in _ (by omega)
      rcases (show ((p.size : Int) != 512) = true ∨ (((p.size : Int) != 512) = false ∧ at' < 0) ∨ (((p.size : Int) != 512) = false ∧ ¬ at' < 0 ∧ (ds.length : Int) - 4 < at') by
        rw [bne_iff_ne, bne_eq_false_iff_eq]; omega) with g | ⟨g, g2⟩ | ⟨g, g2, g3⟩
      all_goals
        clear HST HSP HEN HCS hbad
        go_wp2_with fail
        refine end_disk2 Try.results15 rfl rfl (RR.out.set3 _ _ _) rfl ?_
        rw [HR.out]
        exact ⟨_, rfl, OO.out.far3 RR.out _ _ _, below_set3 BB.out (by omega) _ _ _⟩
    · have HW0 := hide (HST.out rfl hbad)
      have g : ((p.size : Int) != 512) = false := by rw [bne_eq_false_iff_eq]; omega
      have g2 : ¬ at' < 0 := by omega
      have g3 : ¬ (ds.length : Int) - 4 < at' := by omega
      have hw4 : IntKind.i64.wrap ((ds.length : Int) - 4) = (ds.length : Int) - 4 := IntWalk.i64_in _ (by omega)
      have HP := hide (show p.size = 512 by omega)
      have ha0 : 0 ≤ at' := by omega
      have ha1 : at' ≤ 1048576 := by omega
      clear HST HCS hbad
      go_wp2_with fail
      have hgz : w.heap.size + 1 < w4.heap.size := RR.out.lt
      clear c0 c1 c2 f0 f1 f2 r0 r1 r2 q0 q1 q2 g g2 g3 hw4
      go_loopw [31] (fun i wr => ∃ k : Nat, ∃ dk : DiskV, k ≤ 4 ∧ i = .int .i64 k ∧ Hid (DBox wr w.heap.size (.slice A1 ds.length cc1) dk.left dk.down) ∧ Hid (OwnS wr w.heap.size (.slice A1 ds.length cc1) dk.secs) ∧ Hid (DBox wr (w.heap.size + 1) (.slice none 0 0) 0 false) ∧ Hid (Below w.heap.size w wr) ∧ Hid (WpAt ⟨ds, dl, false⟩ at' p k dk)) (fun i _ => 4 - (intOf i).toNat)
      case atStart => exact ⟨0, ⟨ds, dl, false⟩, by omega, rfl, XX, OO, RR, BB, HW0⟩
      case round =>
        obtain ⟨k, dk, hk, rfl, HX, HO, HRb, HB, HW⟩ := hrel
        clear XX OO RR BB HW0 hgz
        obtain ⟨c0, c1, c2, f0, f1, f2⟩ := HX.out.cells
        obtain ⟨r0, r1, r2, q0, q1, q2⟩ := HRb.out.cells
        by_cases hlt : k < 4
        · have hlti : (k : Int) < 4 := by omega
          have hwk : IntKind.i64.wrap ((k : Int) + 1) = (k : Int) + 1 := IntWalk.i64_in _ (by omega)
          have hwa : IntKind.i64.wrap (at' + (k : Int)) = at' + k := IntWalk.i64_in _ (by omega)
          have hwm : IntKind.i64.wrap ((k : Int) * 128) = (k : Int) * 128 := IntWalk.i64_in _ (by omega)
          have hwn : IntKind.i64.wrap (((k : Int) + 1) * 128) = ((k : Int) + 1) * 128 := IntWalk.i64_in _ (by omega)
          have hsr := fun W => sec_run p k HP.out hlt W
          have Q := hide (write_c w.heap.size w.heap.size _ dk (at' + k) (secOf p k) wr HX.out HO.out (Nat.le_refl _) (by rw [HW.out.len]; exact HLN.out) HW.out.left)
          rcases HSP.out k dk HW.out hlt with ⟨h1, h2⟩ | ⟨h1, h2⟩
          · have hne : ((writeD dk (at' + (k : Int)) (secOf p k)).2 != 0) = true := by rw [bne_iff_ne]; exact h1
            generalize writeD dk (at' + (k : Int)) (secOf p k) = x at *
            generalize secOf p k = sk at *
            obtain ⟨⟨xs, xl, xd⟩, xe⟩ := x
            simp only at hne
            have HR2 := hide h2
            clear h1 h2 HSP HEN HW
            go_wp2_with fail
            refine Q.out.mono ?_
            rintro e w5 ⟨rfl, hx5, ho5, hb5, hk5⟩
            have X5 := hide hx5
            have O5 := hide ho5
            have B5 := hide (HB.out.trans hb5)
            have R5 := hide (hk5 _ _ _ _ HRb.out (by omega))
            simp only at hx5
            clear c0 c1 c2 f0 f1 f2 r0 r1 r2 q0 q1 q2
            obtain ⟨c0, c1, c2, f0, f1, f2⟩ := hx5.cells
            obtain ⟨r0, r1, r2, q0, q1, q2⟩ := R5.out.cells
            clear hx5 ho5 hb5 hk5 Q
            go_wp2_with fail
            refine end_disk2 Try.results15 rfl rfl (R5.out.set3 _ _ _) rfl ?_
            rw [HR2.out]
            exact ⟨_, rfl, O5.out.far3 R5.out _ _ _, below_set3 B5.out (by omega) _ _ _⟩
          · generalize writeD dk (at' + (k : Int)) (secOf p k) = x at *
            generalize secOf p k = sk at *
            obtain ⟨xk, xe⟩ := x
            simp only at h1
            subst h1
            have HW2 := hide h2
            clear h2 HSP HEN HW
            go_wp2_with fail
            refine Q.out.mono ?_
            rintro e w5 ⟨rfl, hx5, ho5, hb5, hk5⟩
            have X5 := hide hx5
            have O5 := hide ho5
            have B5 := hide (HB.out.trans hb5)
            have R5 := hide (hk5 _ _ _ _ HRb.out (by omega))
            clear c0 c1 c2 f0 f1 f2 r0 r1 r2 q0 q1 q2 hx5 ho5 hb5 hk5 Q
            go_wp2_with fail
            go_roundw
            case rel => exact ⟨k + 1, xk, by omega, by go_num, X5, O5, R5, B5, HW2⟩
            case measure => simp [intOf]; omega
        · obtain rfl : k = 4 := by omega
          have HR2 := hide (HEN.out dk HW.out)
          have hlti : ¬ ((4 : Nat) : Int) < 4 := by omega
          clear HSP HEN HW
          go_wp2_with fail
          refine end_disk2 Try.results15 rfl rfl (HRb.out.set3 _ _ _) rfl ?_
          rw [HR2.out]
          exact ⟨_, rfl, HO.out.far3 HRb.out _ _ _, below_set3 HB.out (by omega) _ _ _⟩
end Go.Proofs.Ytdfpmjfnlcccaaa
