/- Contracts of the reference: a number's bytes, a value's bytes. -/
import Derived.Test.YtebamnlknaoehaaRcI
namespace Go.Proofs.Ytebamnlknaoehaa
set_option linter.unusedVariables false
open Go.ChangeShapes Go.WideShapes Go.ChangeAt Go.RowKit

def dv (u : Int) : Nat → Int
  | 0 => u
  | k + 1 => dv u k / 256
theorem dv_in : ∀ (k : Nat) (u : Int), dv (u / 256) k = dv u (k + 1)
  | 0, _ => rfl
  | k + 1, u => by rw [dv, dv_in k u]; rfl
theorem dv_range (u : Int) (h : 0 ≤ u ∧ u < 18446744073709551616) : ∀ k : Nat, 0 ≤ dv u k ∧ dv u k < 18446744073709551616
  | 0 => h
  | k + 1 => by
    have := dv_range u h k
    rw [dv]
    omega
theorem putL_front : ∀ (k : Nat) (u : Int), putL u (k + 1) = (dv u k % 256) :: putL u k
  | 0, _ => rfl
  | k + 1, u => by
    rw [putL, putL_front k (u / 256), dv_in]
    rfl
theorem strOf_cons (x : Int) (l : List Int) : strOfNums [x] ++ strOfNums l = strOfNums (x :: l) := by
  apply ByteArray.ext
  simp [strOfNums, ByteArray.data_append]
theorem wrapU_mod (n : Int) : IntKind.u64.wrap n = n % 256 ^ 8 := by
  unfold IntKind.wrap
  simp [IntKind.bits, IntKind.signed]
set_option maxRecDepth 100000 in
set_option maxHeartbeats 1000000 in
theorem word_c (n : Int) (w : World) : Calls Try.prog 56 #[.int .i64 n] w fun e w' => e = .returned (.string (strOfNums (putL n 8))) ∧ Below w.heap.size w w' := by
  have hp : putL n 8 = putL (IntKind.u64.wrap n) 8 := by rw [wrapU_mod, putL_mod 8 8 _ (Nat.le_refl _)]
  rw [hp]
  have hu0 : 0 ≤ IntKind.u64.wrap n ∧ IntKind.u64.wrap n < 18446744073709551616 := by rw [wrapU_mod]; omega
  generalize hu : IntKind.u64.wrap n = u at *
  have HR := hide (dv_range u hu0)
  clear hp hu0
  go_enter Try.func56, Try.ntmps56
  go_wp2_with fail
  go_loopw [3, 4, 5] (fun v o i wr => ∃ k : Nat, k ≤ 8 ∧ i = .int .i64 k ∧ v = .int .u64 (dv u k) ∧ o = .string (strOfNums (putL u k)) ∧ Below w.heap.size w wr) (fun _ _ i _ => (8 - intOf i).toNat)
  case atStart => exact ⟨0, by omega, rfl, rfl, rfl, Below.refl _ _⟩
  case round =>
    obtain ⟨k, hk, rfl, rfl, rfl, hB⟩ := hrel
    have HB := hide hB
    clear hB
    by_cases hlt : k < 8
    · have hn : strOfNums (putL u (k + 1)) = strOfNums [dv u k % 256] ++ strOfNums (putL u k) := by rw [putL_front, strOf_cons]
      have hd : dv u (k + 1) = dv u k / 256 := rfl
      have hs1 : ((strOfNums (putL u k)).size : Int) ≤ 8388608 := by rw [strOfNums_size, putL_len]; omega
      have hs2 : ((strOfNums [dv u k % 256]).size : Int) ≤ 8388608 := by rw [strOfNums_size]; simp
      have hcv := conv_c wr [dv u k % 256] 5
      simp only [List.map_cons, List.map_nil, List.length_cons, List.length_nil, Nat.zero_add] at hcv
      have hr := HR.out k
      generalize strOfNums (putL u k) = so at *
      generalize strOfNums [dv u k % 256] = sx at *
      generalize hsn : strOfNums (putL u (k + 1)) = sn at *
      generalize hv2 : dv u (k + 1) = v2 at *
      generalize dv u k = v at *
      obtain ⟨hr0, hr1⟩ := hr
      have HN := hide hn
      have HD := hide hd
      have HSN := hide hsn
      have HV2 := hide hv2
      clear hn hd hsn hv2
      go_wp2
      go_round
      case rel =>
        refine ⟨k + 1, by omega, by go_num, ?_, ?_, Bel.then HB.out (Bel.one _ _)⟩
        · rw [HV2.out, HD.out]
        · rw [HSN.out, HN.out]
      case measure => simp [intOf]; omega
    · obtain rfl : k = 8 := by omega
      go_wp2_with fail
      go_ret
      exact ⟨rfl, HB.out⟩
theorem conv_one (x : Int) : ∀ W : World, (convert 62 9 (.slice (some ⟨W.heap.size, 0, none⟩) 1 1)).run Try.prog (W.alloc (.cells #[.int .u8 x] 5)) = .ok (.string (strOfNums [x])) (W.alloc (.cells #[.int .u8 x] 5)) := fun W => conv_c W [x] 5
theorem conv_at (x : Int) (W : World) (g : Nat) (hg : W.heap.size = g) : (convert 62 9 (.slice (some ⟨g, 0, none⟩) 1 1)).run Try.prog (W.alloc (.cells #[.int .u8 x] 5)) = .ok (.string (strOfNums [x])) (W.alloc (.cells #[.int .u8 x] 5)) := by
  subst hg
  exact conv_one x W
/-- The world with a value's box. -/
def boxW (w : World) (k n : Int) (s : ByteArray) : World := w.alloc (.cells #[.int .i64 k, .int .i64 n, .string s] 49)
theorem strOf_one (x : Int) : (strOfNums [x]).size = 1 := strOfNums_size [x]
/-- What one gives. -/
def GivesS (w : World) (l : List UInt8) (e : Ending) (w' : World) : Prop := e = .returned (.string (strL l)) ∧ Below w.heap.size w w'
theorem strL_app (l : List UInt8) (s : ByteArray) : strL l ++ s = strL (l ++ s.data.toList) := by
  apply ByteArray.ext
  simp [strL, ByteArray.data_append]
theorem strL_size (l : List UInt8) : (strL l).size = l.length := by show l.toArray.size = _; simp
theorem bel_many {w w' : World} (h : Below w.heap.size w w') : Below w.heap.size w w' := h
set_option maxRecDepth 100000 in
set_option maxHeartbeats 1000000 in
theorem one_c (v : ValV) (w : World) (hv : rightP v = true) : Calls Try.prog 41 #[valAgg v] w (GivesS w (encV v)) := by
  rcases right_kinds hv with rfl | rfl | rfl | ⟨n, rfl, hn⟩ | ⟨s, rfl, hs⟩
  · have h1 := conv_at (0) (w.alloc (.cells #[.int .i64 0, .int .i64 0, .string .empty] 49)) (w.heap.size + 1) (World.size_alloc _ _)
    have he : strOfNums [0] = strL (encV ⟨0, 0, .empty⟩) := rfl
    unfold GivesS
    rw [← he]
    generalize strOfNums [0] = t at *
    clear hv he
    unfold valAgg
    go_enter Try.func41, Try.ntmps41
    go_wp2
    go_ret
    exact ⟨rfl, Bel.alloc (Bel.one _ _) _⟩
  · have h1 := conv_at (1) (w.alloc (.cells #[.int .i64 1, .int .i64 0, .string .empty] 49)) (w.heap.size + 1) (World.size_alloc _ _)
    have h2 := conv_at (0) ((w.alloc (.cells #[.int .i64 1, .int .i64 0, .string .empty] 49)).alloc (.cells #[.int .u8 1] 5)) (w.heap.size + 2) (by rw [World.size_alloc, World.size_alloc])
    have he : strOfNums [1] ++ strOfNums [0] = strL (encV ⟨1, 0, .empty⟩) := by rw [strOf_cons, enc_false]; rfl
    have z1 : ((strOfNums [1]).size : Int) ≤ 8388608 := by rw [strOf_one]; omega
    have z0 : ((strOfNums [0]).size : Int) ≤ 8388608 := by rw [strOf_one]; omega
    unfold GivesS
    rw [← he]
    generalize strOfNums [0] = t at *
    generalize strOfNums [1] = u at *
    clear hv he
    unfold valAgg
    go_enter Try.func41, Try.ntmps41
    go_wp2
    go_ret
    exact ⟨rfl, Bel.alloc (Bel.alloc (Bel.one _ _) _) _⟩
  · have h1 := conv_at (1) (w.alloc (.cells #[.int .i64 1, .int .i64 1, .string .empty] 49)) (w.heap.size + 1) (World.size_alloc _ _)
    have h2 := conv_at (1) ((w.alloc (.cells #[.int .i64 1, .int .i64 1, .string .empty] 49)).alloc (.cells #[.int .u8 1] 5)) (w.heap.size + 2) (by rw [World.size_alloc, World.size_alloc])
    have he : strOfNums [1] ++ strOfNums [1] = strL (encV ⟨1, 1, .empty⟩) := by rw [strOf_cons, enc_true]; rfl
    have z1 : ((strOfNums [1]).size : Int) ≤ 8388608 := by rw [strOf_one]; omega
    unfold GivesS
    rw [← he]
    generalize strOfNums [1] = u at *
    clear hv he
    unfold valAgg
    go_enter Try.func41, Try.ntmps41
    go_wp2
    go_ret
    exact ⟨rfl, Bel.alloc (Bel.alloc (Bel.one _ _) _) _⟩
  · have h1 := conv_at (2) (w.alloc (.cells #[.int .i64 2, .int .i64 n, .string .empty] 49)) (w.heap.size + 1) (World.size_alloc _ _)
    have QW := hide (fun W => word_c n W)
    have he : strOfNums [2] ++ strOfNums (putL n 8) = strL (encV ⟨2, n, .empty⟩) := by rw [strOf_cons, enc_num]; rfl
    have z1 : ((strOfNums [2]).size : Int) ≤ 8388608 := by rw [strOf_one]; omega
    have z2 : ((strOfNums (putL n 8)).size : Int) ≤ 8388608 := by rw [strOfNums_size, putL_len]; omega
    unfold GivesS
    rw [← he]
    generalize strOfNums (putL n 8) = t at *
    generalize strOfNums [2] = u at *
    clear hv he hn
    unfold valAgg
    go_enter Try.func41, Try.ntmps41
    go_wp2_with fail
    refine (QW.out _).mono ?_
    rintro e w1 ⟨rfl, hb⟩
    have HB := hide (Bel.then (Bel.alloc (Bel.one w _) _) hb)
    clear hb
    go_wp2_with fail
    go_ret
    exact ⟨rfl, HB.out⟩
  · have hp := (plain_iff.1 hs).1
    have h1 := conv_at (3) (w.alloc (.cells #[.int .i64 3, .int .i64 0, .string s] 49)) (w.heap.size + 1) (World.size_alloc _ _)
    have h2 := conv_at ((s.size : Int)) ((w.alloc (.cells #[.int .i64 3, .int .i64 0, .string s] 49)).alloc (.cells #[.int .u8 3] 5)) (w.heap.size + 2) (by rw [World.size_alloc, World.size_alloc])
    have he : strOfNums [3] ++ strOfNums [(s.size : Int)] ++ s = strL (encV ⟨3, 0, s⟩) := by
      rw [strOf_cons, enc_text]
      show strL [byteOf 3, byteOf (s.size : Int)] ++ s = _
      rw [strL_app]
      rfl
    have z1 : ((strOfNums [3]).size : Int) ≤ 8388608 := by rw [strOf_one]; omega
    have z2 : ((strOfNums [(s.size : Int)]).size : Int) ≤ 8388608 := by rw [strOf_one]; omega
    have z3 : (s.size : Int) ≤ 8388608 := by omega
    have z4 : ((strOfNums [3] ++ strOfNums [(s.size : Int)]).size : Int) ≤ 8388608 := by rw [ByteArray.size_append, strOf_one, strOf_one]; omega
    unfold GivesS
    rw [← he]
    generalize hx : strOfNums [3] ++ strOfNums [(s.size : Int)] = x at *
    have HX := hide hx
    generalize strOfNums [(s.size : Int)] = t at *
    generalize strOfNums [3] = u at *
    clear hv he hs hx
    unfold valAgg
    go_enter Try.func41, Try.ntmps41
    go_wp2
    go_ret
    refine ⟨by rw [← HX.out]; rfl, Bel.alloc (Bel.alloc (Bel.one _ _) _) _⟩
end Go.Proofs.Ytebamnlknaoehaa
