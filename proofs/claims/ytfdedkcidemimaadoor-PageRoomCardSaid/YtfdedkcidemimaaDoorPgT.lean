/- Pages: slices.Index, content.free, content.size. -/
import Derived.Test.YtfdedkcidemimaaDoorPgR
namespace Go.Proofs.YtfdedkcidemimaaDoor
set_option linter.unusedVariables false
set_option linter.unusedSimpArgs false
open Go.ChangeShapes Go.WideShapes Go.ChangeAt Go.RowKit

def idxFrom (v : ByteArray) : List ByteArray → Nat → Int
  | [], _ => -1
  | x :: l, k => if (v.toList == x.toList) = true then (k : Int) else idxFrom v l (k + 1)
set_option maxRecDepth 100000 in
theorem index_c (A : Option Addr) (n c : Nat) (l : List ByteArray) (v : ByteArray) (w : World) (h : SlAt stC 1 w w.heap.size A n c l) (hn : n ≤ 1048576) : Calls Tryd.prog 71 #[.slice A n c, .string v] w fun e w' => e = .returned (.int .i64 (idxFrom v l 0)) ∧ w = w' := by
  have H := hide h
  have HL := hide h.len
  obtain ⟨R, hR⟩ : ∃ R, idxFrom v l 0 = R := ⟨_, rfl⟩
  rw [hR]
  have HR0 := hide (show idxFrom v (l.drop 0) 0 = R from hR)
  clear hR h
  go_enter Tryd.func71, Tryd.ntmps71
  go_wp2_with fail
  go_loopw [5, 8] (fun _ i wr => ∃ k : Nat, k ≤ n ∧ i = .int .i64 k ∧ wr = w ∧ Hid (idxFrom v (l.drop k) k = R)) (fun _ i _ => n - (intOf i).toNat)
  case atStart => exact ⟨0, Nat.zero_le _, rfl, rfl, HR0⟩
  case round =>
    clear HR0
    obtain ⟨k, hk, rfl, rfl, HK⟩ := hrel
    by_cases hlt : k < n
    · have hlti : (k : Int) < n := by omega
      have hwk : IntKind.i64.wrap ((k : Int) + 1) = (k : Int) + 1 := IntWalk.i64_in _ (by omega)
      obtain ⟨b, off, x, rfl, _, hx, hc⟩ := H.out.at (by decide) hlt
      have c0 := hc 0 _ rfl
      simp only [Nat.mul_one, Nat.add_zero] at c0
      clear hc
      have HK2 := HK.out
      rw [drop_at hx] at HK2
      unfold idxFrom at HK2
      obtain ⟨q, hq⟩ : ∃ q, (v.toList == x.toList) = q := ⟨_, rfl⟩
      cases q with
      | true =>
        rw [if_pos hq] at HK2
        subst HK2
        clear HK
        go_wp2_with fail
        go_ret
        exact ⟨rfl, rfl⟩
      | false =>
        rw [if_neg (by rw [hq]; decide)] at HK2
        have HK3 := hide HK2
        clear HK HK2
        go_wp2_with fail
        go_roundw
        case rel => exact ⟨k + 1, by omega, by go_num, by first | trivial | rfl, HK3⟩
        case measure => simp [intOf]; omega
    · have hlti : ¬ (k : Int) < n := by omega
      have HK2 := HK.out
      rw [List.drop_eq_nil_of_le (by rw [HL.out]; omega)] at HK2
      obtain rfl : -1 = R := HK2
      clear HK
      go_wp2_with fail
      go_ret
      exact ⟨rfl, rfl⟩
def sumS : List ByteArray → Nat
  | [] => 0
  | x :: l => x.size + sumS l
def sizeN (l : List ByteArray) : Nat := 19 + 4 * l.length + sumS l
set_option maxRecDepth 100000 in
theorem size_c (x y z : Int) (A : Option Addr) (n c : Nat) (l : List ByteArray) (w : World) (h : SlAt stC 1 w w.heap.size A n c l) (hn : sizeN l ≤ 1048576) : Calls Tryd.prog 54 #[.agg #[.int .i64 x, .int .i64 y, .int .i64 z, .slice A n c]] w fun e w' => e = .returned (.int .i64 (sizeN l)) ∧ Below w.heap.size w w' := by
  have HL := hide h.len
  have hB := Bel.one w (.cells #[.int .i64 x, .int .i64 y, .int .i64 z, .slice A n c] 52)
  have H := hide (h.kept hB)
  have HB := hide hB
  have HX := hide (cbx_new w x y z (.slice A n c))
  obtain ⟨R, hR⟩ : ∃ R, sizeN l = R := ⟨_, rfl⟩
  rw [hR] at hn ⊢
  have hn3 : n ≤ 1048576 := by rw [← h.len]; unfold sizeN at hR; omega
  have HR0 := hide (show (19 + 4 * n) + sumS (l.drop 0) = R by rw [← h.len]; exact hR)
  have w1' : IntKind.i64.wrap (4 * (n : Int)) = 4 * (n : Int) := IntWalk.i64_in _ (by omega)
  have w2' : IntKind.i64.wrap (19 + 4 * (n : Int)) = ((19 + 4 * n : Nat) : Int) := by rw [IntWalk.i64_in _ (by omega)]; omega
  clear hR h hB
  go_enter Tryd.func54, Tryd.ntmps54
  go_upto_region 1 with (fail)
  generalize w.alloc (.cells #[.int .i64 x, .int .i64 y, .int .i64 z, .slice A n c] 52) = w1 at *
  obtain ⟨c0, c1, c2, c3, f0, f1, f2, f3⟩ := HX.out.cells
  go_wp2_with fail
  clear c0 c1 c2 c3 f0 f1 f2 f3
  go_loopw [3, 5, 14] (fun s _ i wr => ∃ (k m : Nat), k ≤ n ∧ m ≤ R ∧ s = .int .i64 m ∧ i = .int .i64 k ∧ wr = w1 ∧ Hid (m + sumS (l.drop k) = R)) (fun _ _ i _ => n - (intOf i).toNat)
  case atStart => exact ⟨0, 19 + 4 * n, Nat.zero_le _, by have := HR0.out; omega, rfl, rfl, rfl, HR0⟩
  case round =>
    clear HR0
    obtain ⟨k, m, hk, hm, rfl, rfl, rfl, HK⟩ := hrel
    by_cases hlt : k < n
    · have hlti : (k : Int) < n := by omega
      have hwk : IntKind.i64.wrap ((k : Int) + 1) = (k : Int) + 1 := IntWalk.i64_in _ (by omega)
      obtain ⟨b, off, u, rfl, _, hx, hc⟩ := H.out.at (by decide) hlt
      have d0 := hc 0 _ rfl
      simp only [Nat.mul_one, Nat.add_zero] at d0
      clear hc
      have HK2 := HK.out
      rw [drop_at hx] at HK2
      unfold sumS at HK2
      have HK3 := hide (show (m + u.size) + sumS (l.drop (k + 1)) = R by omega)
      have w3' : IntKind.i64.wrap ((m : Int) + (u.size : Int)) = ((m + u.size : Nat) : Int) := by rw [IntWalk.i64_in _ (by omega)]; omega
      have hmu : m + u.size ≤ R := by omega
      clear HK HK2
      go_wp2_with fail
      go_roundw
      case rel => exact ⟨k + 1, m + u.size, by omega, hmu, by first | rfl | go_num, by go_num, by first | trivial | rfl, HK3⟩
      case measure => simp [intOf]; omega
    · have hlti : ¬ (k : Int) < n := by omega
      have HK2 := HK.out
      rw [List.drop_eq_nil_of_le (by rw [HL.out]; omega)] at HK2
      obtain rfl : m = R := HK2
      clear HK
      go_wp2_with fail
      go_ret
      exact ⟨rfl, HB.out⟩
def freeI (l : List ByteArray) : Int := if idxFrom ⟨#[]⟩ l 0 < 0 then (l.length : Int) else idxFrom ⟨#[]⟩ l 0
set_option maxRecDepth 100000 in
theorem free_c (x y z : Int) (A : Option Addr) (n c : Nat) (l : List ByteArray) (w : World) (h : SlAt stC 1 w w.heap.size A n c l) (hn : n ≤ 1048576) : Calls Tryd.prog 53 #[.agg #[.int .i64 x, .int .i64 y, .int .i64 z, .slice A n c]] w fun e w' => e = .returned (.int .i64 (freeI l)) ∧ Below w.heap.size w w' := by
  have hB := Bel.one w (.cells #[.int .i64 x, .int .i64 y, .int .i64 z, .slice A n c] 52)
  have H := hide (h.kept hB)
  have HB := hide hB
  have HX := hide (cbx_new w x y z (.slice A n c))
  have Q := hide (fun W hW => index_c A n c l ⟨#[]⟩ W hW hn)
  unfold freeI
  rw [h.len]
  generalize idxFrom ⟨#[]⟩ l 0 = I at *
  obtain ⟨V, hV⟩ : ∃ V, (if I < 0 then (n : Int) else I) = V := ⟨_, rfl⟩
  rw [hV]
  have HV := hide hV
  clear h hB hV
  go_enter Tryd.func53, Tryd.ntmps53
  go_upto_region 1 with (fail)
  generalize w.alloc (.cells #[.int .i64 x, .int .i64 y, .int .i64 z, .slice A n c] 52) = w1 at *
  obtain ⟨c0, c1, c2, c3, f0, f1, f2, f3⟩ := HX.out.cells
  go_wp2_with fail
  refine (Q.out _ H.out).mono ?_
  rintro e w4 ⟨rfl, rfl⟩
  by_cases hI : I < 0
  · have e := HV.out
    rw [if_pos hI] at e
    subst e
    go_wp2_with fail
    go_ret
    exact ⟨rfl, HB.out⟩
  · have e := HV.out
    rw [if_neg hI] at e
    subst e
    go_wp2_with fail
    go_ret
    exact ⟨rfl, HB.out⟩
end Go.Proofs.YtfdedkcidemimaaDoor
