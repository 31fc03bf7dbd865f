/- Pages of the reference: num, trimmed, Fits, may. -/
import Derived.Test.YtfdedkcidemimaaDoorPrA
import Derived.Test.YtfdedkcidemimaaDoorPmD
namespace Go.Proofs.YtfdedkcidemimaaDoor
set_option linter.unusedVariables false
set_option linter.unusedSimpArgs false
open Go.ChangeShapes Go.WideShapes Go.ChangeAt Go.RowKit

theorem rnum_c (p : ByteArray) (a z : Int) (hm : p.size ≤ 4000) (ha : 0 ≤ a) (w : World) : Calls Tryd.prog 69 #[.string p, .int .i64 a, .int .i64 z] w fun e w' => e = .returned (.int .i64 (getP p a z).1) ∧ w = w' := by
  have Q := hide (fun W => rget_c p a z (by omega) (by omega) W)
  generalize getP p a z = g at *
  go_enter Tryd.func69, Tryd.ntmps69
  go_wp2_with fail
  refine (Q.out _).mono ?_
  rintro e w4 ⟨rfl, rfl⟩
  go_wp2_with fail
  go_ret
  exact ⟨rfl, rfl⟩
theorem rmay_c (r : ByteArray) (hm : r.size ≤ 4000) (w : World) : Calls Tryd.prog 64 #[.string r] w fun e w' => e = .returned (.bool (isRec r)) ∧ w = w' := by
  unfold isRec
  rcases Nat.eq_zero_or_pos r.size with h0 | h0
  · have h1 : ¬ (1 : Int) ≤ (r.size : Int) := by omega
    have h2 : decide (1 ≤ r.size) = false := decide_eq_false (by omega)
    rw [h2]
    clear h0 h2
    go_enter Tryd.func64, Tryd.ntmps64
    go_wp2_with fail
    go_ret
    exact ⟨rfl, rfl⟩
  · have h1 : (1 : Int) ≤ (r.size : Int) := by omega
    have h2 : decide (1 ≤ r.size) = true := decide_eq_true (by omega)
    rw [h2]
    by_cases h4 : r.size ≤ 400
    · have h5 : (r.size : Int) ≤ 400 := by omega
      rw [decide_eq_true h4]
      clear h0 h2 h4
      go_enter Tryd.func64, Tryd.ntmps64
      go_wp2_with fail
      go_ret
      exact ⟨rfl, rfl⟩
    · have h5 : ¬ (r.size : Int) ≤ 400 := by omega
      rw [decide_eq_false h4]
      clear h0 h2 h4
      go_enter Tryd.func64, Tryd.ntmps64
      go_wp2_with fail
      go_ret
      exact ⟨rfl, rfl⟩
set_option maxRecDepth 100000 in
theorem rtrim_c (A : Option Addr) (n c : Nat) (l : List ByteArray) (w : World) (h : SlAt stC 1 w w.heap.size A n c l) (hn : n ≤ 1048576) : Calls Tryd.prog 74 #[.slice A n c] w fun e w' => e = .returned (.slice A (trimN l n) c) ∧ w = w' := by
  have hcap := h.cap
  have H := hide h
  obtain ⟨T, hT⟩ : ∃ T, trimN l n = T := ⟨_, rfl⟩
  have HT0 := hide hT
  rw [hT]
  clear h hT
  go_enter Tryd.func74, Tryd.ntmps74
  go_wp2_with fail
  go_loopw [0] (fun v wr => ∃ k : Nat, k ≤ n ∧ v = .slice A k c ∧ Hid (trimN l k = T) ∧ wr = w) (fun v _ => lenV v)
  case atStart => exact ⟨n, Nat.le_refl _, rfl, HT0, rfl⟩
  case round =>
    obtain ⟨k, hk, rfl, HT, rfl⟩ := hrel
    rcases Nat.eq_zero_or_pos k with rfl | hpos
    · have hTK : T = 0 := HT.out.symm
      subst hTK
      clear HT HT0
      go_wp2_with fail
      go_ret
      exact ⟨rfl, rfl⟩
    · obtain ⟨j, rfl⟩ : ∃ j, k = j + 1 := ⟨k - 1, by omega⟩
      obtain ⟨b, off, r, rfl, _, hx, hc⟩ := H.out.at (by decide) (show j < n by omega)
      have d0 := hc 0 _ rfl
      simp only [Nat.mul_one, Nat.add_zero] at d0
      clear hc
      have hTT := HT.out
      unfold trimN at hTT
      have hgd : l.getD j .empty = r := by rw [List.getD_eq_getElem?_getD, hx]; rfl
      rw [hgd] at hTT
      have wj : IntKind.i64.wrap (((j + 1 : Nat) : Int) - 1) = (j : Int) := by rw [IntWalk.i64_in _ (by omega)]; omega
      have hp1 : (0 : Int) < ((j + 1 : Nat) : Int) := by omega
      by_cases hr : r.size = 0
      · rw [if_pos hr] at hTT
        have HT2 := hide hTT
        obtain rfl : r = ⟨#[]⟩ := by
          apply ByteArray.ext
          exact Array.eq_empty_of_size_eq_zero hr
        clear hTT HT hr hgd hx
        go_wp2_with fail
        go_roundw
        case rel => exact ⟨j, by omega, by first | rfl | simp, HT2, by first | trivial | rfl⟩
        case measure => simp [lenV]
      · rw [if_neg hr] at hTT
        subst hTT
        have e1 : (r.toList == []) = false := by
          cases hq : r.toList with
          | nil => exact absurd (by have := congrArg List.length hq; rw [ByteArray.toList_eq] at this; simpa using this) hr
          | cons a t => rfl
        clear HT HT0 hgd hx hr
        go_wp2_with fail
        go_ret
        exact ⟨rfl, rfl⟩
set_option maxRecDepth 100000 in
theorem rfits_c (x y z : Int) (A : Option Addr) (n c : Nat) (l : List ByteArray) (w : World) (h : SlAt stC 1 w w.heap.size A n c l) (hn : sizeN l ≤ 1048576) : Calls Tryd.prog 75 #[.agg #[.int .i64 x, .int .i64 y, .int .i64 z, .slice A n c]] w fun e w' => e = .returned (.bool (decide (sizeN l ≤ 512))) ∧ Below w.heap.size w w' := by
  have HL := hide h.len
  have hB := Bel.one w (.cells #[.int .i64 x, .int .i64 y, .int .i64 z, .slice A n c] 46)
  have H := hide (h.kept hB)
  have HB := hide hB
  have HX := hide (pbx_new w x y z (.slice A n c))
  obtain ⟨R, hR⟩ : ∃ R, sizeN l = R := ⟨_, rfl⟩
  rw [hR] at hn ⊢
  have hn3 : n ≤ 1048576 := by rw [← h.len]; unfold sizeN at hR; omega
  have HR0 := hide (show (19 + 4 * n) + sumS (l.drop 0) = R by rw [← h.len]; exact hR)
  have w1' : IntKind.i64.wrap (4 * (n : Int)) = 4 * (n : Int) := IntWalk.i64_in _ (by omega)
  have w2' : IntKind.i64.wrap (19 + 4 * (n : Int)) = ((19 + 4 * n : Nat) : Int) := by rw [IntWalk.i64_in _ (by omega)]; omega
  clear hR h hB
  go_enter Tryd.func75, Tryd.ntmps75
  go_upto_region 1 with (fail)
  generalize w.alloc (.cells #[.int .i64 x, .int .i64 y, .int .i64 z, .slice A n c] 46) = w1 at *
  obtain ⟨c0, c1, c2, c3, f0, f1, f2, f3⟩ := HX.out.cells
  go_wp2_with fail
  go_loopw [3, 4] (fun s i wr => ∃ (k m : Nat), k ≤ n ∧ m ≤ R ∧ s = .int .i64 m ∧ i = .int .i64 k ∧ wr = w1 ∧ Hid (m + sumS (l.drop k) = R)) (fun _ i _ => n - (intOf i).toNat)
  case atStart => exact ⟨0, 19 + 4 * n, Nat.zero_le _, by have := HR0.out; omega, rfl, rfl, rfl, HR0⟩
  case round =>
    clear HR0
    obtain ⟨k, m, hk, hm, rfl, rfl, rfl, HK⟩ := hrel
    by_cases hlt : k < n
    · have hlti : (k : Int) < n := by omega
      have hwk : IntKind.i64.wrap ((k : Int) + 1) = (k : Int) + 1 := IntWalk.i64_in _ (by omega)
      obtain ⟨b, off, u, rfl, _, hx, hc⟩ := H.out.at (by decide) hlt
      have d0 := hc 0 _ rfl
      simp only [Nat.mul_one, Nat.add_zero] at d0
      clear hc
      have HK2 := HK.out
      rw [drop_at hx] at HK2
      unfold sumS at HK2
      have HK3 := hide (show (m + u.size) + sumS (l.drop (k + 1)) = R by omega)
      have w3' : IntKind.i64.wrap ((m : Int) + (u.size : Int)) = ((m + u.size : Nat) : Int) := by rw [IntWalk.i64_in _ (by omega)]; omega
      have hmu : m + u.size ≤ R := by omega
      clear HK HK2
      go_wp2_with fail
      go_roundw
      case rel => exact ⟨k + 1, m + u.size, by omega, hmu, by first | rfl | go_num, by go_num, by first | trivial | rfl, HK3⟩
      case measure => simp [intOf]; omega
    · have hlti : ¬ (k : Int) < n := by omega
      have HK2 := HK.out
      rw [List.drop_eq_nil_of_le (by rw [HL.out]; omega)] at HK2
      obtain rfl : m = R := HK2
      clear HK
      by_cases h5 : m ≤ 512
      · have h5i : (m : Int) ≤ 512 := by omega
        go_wp2_with fail
        go_ret
        exact ⟨rfl, HB.out⟩
      · have h5i : ¬ (m : Int) ≤ 512 := by omega
        go_wp2_with fail
        go_ret
        exact ⟨rfl, HB.out⟩
end Go.Proofs.YtfdedkcidemimaaDoor
