/- The contracts of the reference's Same and May, and of the statements' own pages. -/
import Derived.Test.YtdfpmjfnlcccaaaDkL
namespace Go.Proofs.Ytdfpmjfnlcccaaa
set_option linter.unusedVariables false
open Go.ChangeShapes Go.WideShapes Go.ChangeAt Go.RowKit

theorem str_beq_self (s : ByteArray) : (s.toList == s.toList) = true := beq_self_eq_true _
set_option maxRecDepth 100000 in
set_option maxHeartbeats 1000000 in
theorem Same_c (A1 A2 : Option Addr) (c1 c2 : Nat) (d : DiskV) (w : World) (h1 : SlAt stC 1 w w.heap.size A1 d.secs.length c1 d.secs) (h2 : SlAt stC 1 w w.heap.size A2 d.secs.length c2 d.secs) :
    Calls Try.prog 10 #[diskAgg A1 d.secs.length c1 d.left d.down, diskAgg A2 d.secs.length c2 d.left d.down] w fun e w' => e = .returned (.bool true) ∧ Below w.heap.size w w' := by
  have hmax := Nat.le_trans h1.cap h1.max
  unfold maxLen at hmax
  have HT := hide (dbox_two w (.slice A1 d.secs.length c1) (.slice A2 d.secs.length c2) d.left d.left d.down d.down)
  have HB2 := hide (Bel.alloc (Bel.one w (.cells #[.slice A1 d.secs.length c1, .int .i64 d.left, .bool d.down] 25)) (.cells #[.slice A2 d.secs.length c2, .int .i64 d.left, .bool d.down] 25))
  have S1 := hide (h1.kept HB2.out)
  have S2 := hide (h2.kept HB2.out)
  clear h1 h2
  obtain ⟨ds, dl, dd⟩ := d
  simp only at *
  unfold diskAgg at *
  generalize hn : ds.length = n at *
  have hne : (n != n) = false := by simp
  clear hn
  go_enter Try.func10, Try.ntmps10
  go_upto_region 1 with (fail)
  generalize (w.alloc (.cells #[.slice A1 n c1, .int .i64 dl, .bool dd] 25)).alloc (.cells #[.slice A2 n c2, .int .i64 dl, .bool dd] 25) = w2 at *
  obtain ⟨X1, X2⟩ := HT.out
  obtain ⟨a0, a1, a2, f0, f1, f2⟩ := X1.cells
  obtain ⟨b0, b1, b2, k0, k1, k2⟩ := X2.cells
  clear X1 X2 f0 f1 f2 k0 k1 k2
  go_wp2_with fail
  go_loopw [5] (fun i wr => ∃ k q : Nat, k ≤ n ∧ i = .int .i64 k ∧ wr = w2.drewN q) (fun i _ => n - (intOf i).toNat)
  case atStart => exact ⟨0, 0, Nat.zero_le _, rfl, rfl⟩
  case round =>
    obtain ⟨k, q, hk, rfl, rfl⟩ := hrel
    by_cases hlt : k < n
    · have hwk : IntKind.i64.wrap ((k : Int) + 1) = (k : Int) + 1 := IntWalk.i64_in _ (by omega)
      obtain ⟨b, off, x, rfl, _, hx, hc⟩ := S1.out.at (by omega) hlt
      obtain ⟨b', off', x', rfl, _, hx', hc'⟩ := S2.out.at (by omega) hlt
      have hxx : x' = x := by rw [hx] at hx'; injection hx' with h; exact h.symm
      subst hxx
      have l0 := hc 0 _ rfl
      have l1 := hc' 0 _ rfl
      rw [Nat.add_zero, Nat.mul_one] at l0 l1
      have hself := str_beq_self x'
      clear hc hc' hx hx'
      go_wp2_with fail
      go_quiet (fail)
      go_wp2_with fail
      go_roundw
      case rel => exact ⟨k + 1, _, by omega, by go_num, by first | rfl | simp only [World.drewN_drewN]⟩
      case measure => simp [intOf]; omega
    · go_wp2_with fail
      go_ret
      exact ⟨rfl, Bel.drewN HB2.out _⟩
def mayB (d : DiskV) : Bool := d.secs.all (fun s => s.size == 128) && decide (1 ≤ d.secs.length ∧ d.secs.length ≤ 65536 ∧ -1 ≤ d.left ∧ (d.down = false ∨ d.left = 0))
set_option maxRecDepth 100000 in
set_option maxHeartbeats 1000000 in
theorem May_c (A : Option Addr) (c : Nat) (d : DiskV) (w : World) (h : SlAt stC 1 w w.heap.size A d.secs.length c d.secs) :
    Calls Try.prog 24 #[diskAgg A d.secs.length c d.left d.down] w fun e w' => e = .returned (.bool (mayB d)) ∧ Below w.heap.size w w' := by
  have hmax := Nat.le_trans h.cap h.max
  unfold maxLen at hmax
  have HX := hide (dbox_new w (.slice A d.secs.length c) d.left d.down)
  have HB := hide (Bel.one w (.cells #[.slice A d.secs.length c, .int .i64 d.left, .bool d.down] 25))
  have S1 := hide (h.kept HB.out)
  clear h
  obtain ⟨ds, dl, dd⟩ := d
  unfold mayB
  simp only at *
  unfold diskAgg at *
  generalize hn : ds.length = n at *
  have HN := hide hn
  clear hn
  generalize hr : ((ds.all fun s => s.size == 128) && decide (1 ≤ n ∧ n ≤ 65536 ∧ -1 ≤ dl ∧ (dd = false ∨ dl = 0))) = r
  have HR := hide hr
  clear hr
  go_enter Try.func24, Try.ntmps24
  go_upto_region 1 with (fail)
  generalize w.alloc (.cells #[.slice A n c, .int .i64 dl, .bool dd] 25) = w2 at *
  obtain ⟨a0, a1, a2, f0, f1, f2⟩ := HX.out.cells
  clear f0 f1 f2
  go_wp2_with fail
  go_loop [3] (fun i => ∃ k : Nat, k ≤ n ∧ i = .int .i64 k ∧ Hid ((ds.take k).all (fun s => s.size == 128) = true)) (fun i => n - (intOf i).toNat)
  case atStart => exact ⟨0, Nat.zero_le _, rfl, rfl⟩
  case round =>
    obtain ⟨k, hk, rfl, HK⟩ := hrel
    by_cases hlt : k < n
    · have hwk : IntKind.i64.wrap ((k : Int) + 1) = (k : Int) + 1 := IntWalk.i64_in _ (by omega)
      obtain ⟨b, off, x, rfl, _, hx, hc⟩ := S1.out.at (by omega) hlt
      have l0 := hc 0 _ rfl
      rw [Nat.add_zero, Nat.mul_one] at l0
      by_cases hz : x.size = 128
      · have hzb : ((x.size : Int) != 128) = false := by rw [bne_eq_false_iff_eq]; omega
        have HK2 := hide (show (ds.take (k + 1)).all (fun s => s.size == 128) = true by rw [take_at hx, List.all_append, HK.out]; simp [hz])
        clear hc hx HK hz
        go_wp2_with fail
        go_round
        case rel => exact ⟨k + 1, by omega, by go_num, HK2⟩
        case measure => simp [intOf]; omega
      · have hzb : ((x.size : Int) != 128) = true := by rw [bne_iff_ne]; omega
        have hf : ds.all (fun s => s.size == 128) = false := by
          rw [List.all_eq_false]
          exact ⟨x, List.mem_of_getElem? hx, by simpa using hz⟩
        have HF := hide hf
        clear hc hx HK hz hf
        go_wp2_with fail
        go_ret
        exact ⟨by have h := HR.out; rw [HF.out, Bool.false_and] at h; rw [← h]; rfl, HB.out⟩
    · obtain rfl : k = n := by omega
      have hall : ds.all (fun s => s.size == 128) = true := by have := HK.out; rwa [List.take_of_length_le (by rw [HN.out]; omega)] at this
      have HALL := hide hall
      clear hall HK
      by_cases g1 : 1 ≤ k
      · by_cases g2 : k ≤ 65536
        · by_cases g3 : -1 ≤ dl
          · cases dd with
            | false =>
              have HD := hide (show decide (1 ≤ k ∧ k ≤ 65536 ∧ -1 ≤ dl ∧ (false = false ∨ dl = 0)) = true by simp; omega)
              have g1i : (1 : Int) ≤ k := by omega
              have g2i : (k : Int) ≤ 65536 := by omega
              go_wp2_with fail
              go_ret
              exact ⟨by have h := HR.out; rw [HALL.out, HD.out] at h; rw [← h]; rfl, HB.out⟩
            | true =>
              by_cases g4 : dl = 0
              · have HD := hide (show decide (1 ≤ k ∧ k ≤ 65536 ∧ -1 ≤ dl ∧ (true = false ∨ dl = 0)) = true by simp; omega)
                have g1i : (1 : Int) ≤ k := by omega
                have g2i : (k : Int) ≤ 65536 := by omega
                have g4b : (dl == 0) = true := by simpa using g4
                clear g4
                go_wp2_with fail
                go_ret
                exact ⟨by have h := HR.out; rw [HALL.out, HD.out] at h; rw [← h]; rfl, HB.out⟩
              · have HD := hide (show decide (1 ≤ k ∧ k ≤ 65536 ∧ -1 ≤ dl ∧ (true = false ∨ dl = 0)) = false by simp; omega)
                have g1i : (1 : Int) ≤ k := by omega
                have g2i : (k : Int) ≤ 65536 := by omega
                have g4b : (dl == 0) = false := by simpa using g4
                clear g4
                go_wp2_with fail
                go_ret
                exact ⟨by have h := HR.out; rw [HALL.out, HD.out] at h; rw [← h]; rfl, HB.out⟩
          · have HD := hide (show decide (1 ≤ k ∧ k ≤ 65536 ∧ -1 ≤ dl ∧ (dd = false ∨ dl = 0)) = false by simp; omega)
            have g1i : (1 : Int) ≤ k := by omega
            have g2i : (k : Int) ≤ 65536 := by omega
            go_wp2_with fail
            go_ret
            exact ⟨by have h := HR.out; rw [HALL.out, HD.out] at h; rw [← h]; rfl, HB.out⟩
        · have HD := hide (show decide (1 ≤ k ∧ k ≤ 65536 ∧ -1 ≤ dl ∧ (dd = false ∨ dl = 0)) = false by simp; omega)
          have g1i : (1 : Int) ≤ k := by omega
          have g2i : ¬ (k : Int) ≤ 65536 := by omega
          go_wp2_with fail
          go_ret
          exact ⟨by have h := HR.out; rw [HALL.out, HD.out] at h; rw [← h]; rfl, HB.out⟩
      · have HD := hide (show decide (1 ≤ k ∧ k ≤ 65536 ∧ -1 ≤ dl ∧ (dd = false ∨ dl = 0)) = false by simp; omega)
        have g1i : ¬ (1 : Int) ≤ k := by omega
        go_wp2_with fail
        go_ret
        exact ⟨by have h := HR.out; rw [HALL.out, HD.out] at h; rw [← h]; rfl, HB.out⟩
end Go.Proofs.Ytdfpmjfnlcccaaa
