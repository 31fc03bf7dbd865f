/- Contracts: a number's bytes, a value's bytes into a builder. -/
import Derived.Test.YtebamnlknaoehaaRcA
namespace Go.Proofs.Ytebamnlknaoehaa
set_option linter.unusedVariables false
open Go.ChangeShapes Go.WideShapes Go.ChangeAt Go.RowKit

theorem conv_c (w : World) (xs : List Int) (t : TypeId) : (convert 62 9 (.slice (some ⟨w.heap.size, 0, none⟩) xs.length xs.length)).run Try.prog (w.alloc (.cells (xs.map (Value.int .u8)).toArray t)) = .ok (.string (strOfNums xs)) (w.alloc (.cells (xs.map (Value.int .u8)).toArray t)) := by
  refine run_convert_bytes_arg (w.alloc (.cells (xs.map (Value.int .u8)).toArray t)) 62 5 Try.underlying62 Try.underlying5 w.heap.size 0 xs.length xs.length xs rfl ?_ 9 Try.underlying9
  intro i hi
  have h := cell_of_row (w.alloc (.cells (xs.map (Value.int .u8)).toArray t)) w.heap.size i _ _ _ (heap_alloc_new w _)
  rw [Nat.zero_add]
  refine h.trans ?_
  simp [List.getD, hi]
theorem strOf_word (n : Int) : strOfNums (putL n 8) = ⟨(word8 n).toArray⟩ := rfl
theorem number_c (n : Int) (w : World) : Calls Try.prog 54 #[.int .i64 n] w fun e w' => e = .returned (.string (strOfNums (putL n 8))) ∧ Below w.heap.size w w' := by
  have hcv : (convert 62 9 (.slice (some ⟨w.heap.size, 0, none⟩) 8 8)).run Try.prog (w.alloc (.cells #[.int .u8 (n / 256 / 256 / 256 / 256 / 256 / 256 / 256 % 256), .int .u8 (n / 256 / 256 / 256 / 256 / 256 / 256 % 256), .int .u8 (n / 256 / 256 / 256 / 256 / 256 % 256), .int .u8 (n / 256 / 256 / 256 / 256 % 256), .int .u8 (n / 256 / 256 / 256 % 256), .int .u8 (n / 256 / 256 % 256), .int .u8 (n / 256 % 256), .int .u8 (n % 256)] 97)) = .ok (.string (strOfNums (putL n 8))) (w.alloc (.cells #[.int .u8 (n / 256 / 256 / 256 / 256 / 256 / 256 / 256 % 256), .int .u8 (n / 256 / 256 / 256 / 256 / 256 / 256 % 256), .int .u8 (n / 256 / 256 / 256 / 256 / 256 % 256), .int .u8 (n / 256 / 256 / 256 / 256 % 256), .int .u8 (n / 256 / 256 / 256 % 256), .int .u8 (n / 256 / 256 % 256), .int .u8 (n / 256 % 256), .int .u8 (n % 256)] 97)) := conv_c w [n / 256 / 256 / 256 / 256 / 256 / 256 / 256 % 256, n / 256 / 256 / 256 / 256 / 256 / 256 % 256, n / 256 / 256 / 256 / 256 / 256 % 256, n / 256 / 256 / 256 / 256 % 256, n / 256 / 256 / 256 % 256, n / 256 / 256 % 256, n / 256 % 256, n % 256] 97
  generalize strOfNums (putL n 8) = s at *
  go_enter Try.func54, Try.ntmps54
  go_wp2
  go_rounds 9
  go_ret
  exact ⟨rfl, Bel.one _ _⟩
theorem BldAt.kept {w w' : World} {B b : Nat} {l : List UInt8} (h : BldAt w B b l) (hb : Below w.heap.size w w') : BldAt w' B b l := by
  have key : ∀ p, Lib.BuilderAtF 64 5 B b p (Lib.byteCells l) w → Lib.BuilderAtF 64 5 B b p (Lib.byteCells l) w' := by
    intro p h
    have hlt := h.lt
    obtain ⟨hB, v, hh, hown, hne⟩ := h
    exact ⟨hB, v, (hb.block b hlt).trans hh, hown.kept (row := none) ⟨hb.os, hb.tape, hb.output, hb.size, fun k hk _ => hb.block k hk⟩ (by cases hv : v.ownBlock <;> simp), hne⟩
  rcases h with h | h
  · exact .inl (key _ h)
  · exact .inr (key _ h)
theorem bld_byteZ (B b : Nat) (l : List UInt8) (c : UInt8) (z : Int) (w : World) (hz : z = c.toNat) (h : BldAt w B b l) (hl : l.length ≤ 1099511627776) (hB : B ≤ w.heap.size) :
    Calls Try.prog 36 #[.pointer (some ⟨b, 0, none⟩), .int .u8 z] w fun e w' => e = .returned .nilIface ∧ BldAt w' B b (l ++ [c]) ∧ Below B w w' ∧ Lib.OthersKept 5 (some b) w w' := by
  subst hz
  refine (bld_byte B b l c w h hl hB).mono ?_
  rintro e w' ⟨rfl, h1, h2, h3⟩
  exact ⟨rfl, h1, h2, h3⟩
theorem bld_strZ (B b : Nat) (l : List UInt8) (s : ByteArray) (w : World) (h : BldAt w B b l) (hl : l.length + s.size ≤ 1099511627776) (hB : B ≤ w.heap.size) :
    Calls Try.prog 53 #[.pointer (some ⟨b, 0, none⟩), .string s] w fun e w' => e = .returned (.tuple #[.int .i64 s.size, .nilIface]) ∧ BldAt w' B b (l ++ s.data.toList) ∧ Below B w w' ∧ Lib.OthersKept 5 (some b) w w' := by
  refine (bld_str B b l s w h hl hB).mono ?_
  rintro e w' ⟨rfl, h1, h2, h3⟩
  exact ⟨rfl, h1, h2, h3⟩
theorem BldAt.lt {w : World} {B b : Nat} {l : List UInt8} (h : BldAt w B b l) : b < w.heap.size := h.elim (fun h => h.lt) (fun h => h.lt)
/-- A value in a block of its own. -/
def VBox (w : World) (g : Nat) (v : ValV) : Prop := w.heap[g]? = some (.cells #[.int .i64 v.kind, .int .i64 v.num, .string v.str] 49 (0, 0))
theorem vbox_new (w : World) (v : ValV) : VBox (w.alloc (.cells #[.int .i64 v.kind, .int .i64 v.num, .string v.str] 49)) w.heap.size v := heap_alloc_new w _
theorem VBox.others {w w' : World} {g b : Nat} {v : ValV} (h : VBox w g v) (hk : Lib.OthersKept 5 (some b) w w') (hne : b < g) : VBox w' g v :=
  hk g _ h (by intro e; injection e; omega) (by intro c fz e; injection e with _ e2 _; exact absurd e2 (by decide))
theorem VBox.kept {w w' : World} {g : Nat} {v : ValV} (h : VBox w g v) (hb : Below w.heap.size w w') : VBox w' g v := (hb.block g (Array.getElem?_eq_some_iff.1 h).1).trans h
theorem VBox.cells {w : World} {g : Nat} {v : ValV} (h : VBox w g v) : w.cell? ⟨g, 0, none⟩ = some (.int .i64 v.kind) ∧ w.cell? ⟨g, 1, none⟩ = some (.int .i64 v.num) ∧ w.cell? ⟨g, 2, none⟩ = some (.string v.str) :=
  ⟨Lib.cell_of_heap h 0, Lib.cell_of_heap h 1, Lib.cell_of_heap h 2⟩
/-- What put does. -/
def Puts (B b : Nat) (l : List UInt8) (w : World) (e : Ending) (w' : World) : Prop := e = .returned (.tuple #[]) ∧ BldAt w' B b l ∧ Below B w w'
theorem word_str (n : Int) : (strOfNums (putL n 8)).data.toList = word8 n := rfl
set_option maxHeartbeats 1000000 in
theorem put_c (B b : Nat) (l : List UInt8) (v : ValV) (w : World) (hv : rightP v = true) (h : BldAt w B b l) (hl : l.length ≤ 1000000000) (hB : B ≤ w.heap.size) :
    Calls Try.prog 37 #[.pointer (some ⟨b, 0, none⟩), valAgg v] w (Puts B b (l ++ encV v) w) := by
  rcases right_kinds hv with rfl | rfl | rfl | ⟨n, rfl, hn⟩ | ⟨s, rfl, hs⟩
  · have Q := hide (fun W hW => bld_byteZ B b l 0 0 W rfl (h.kept hW) (by omega) (Nat.le_trans hB hW.size))
    have hlt := h.lt
    clear h hv
    rw [enc_null]
    unfold valAgg
    go_enter Try.func37, Try.ntmps37
    go_wp2_with fail
    refine (Q.out _ (Bel.one _ _)).mono ?_
    rintro e w1 ⟨rfl, h1, hb1, hk1⟩
    obtain ⟨c0, c1, c2⟩ := (VBox.others (vbox_new w ⟨0, 0, .empty⟩) hk1 hlt).cells
    have HX := hide (VBox.others (vbox_new w ⟨0, 0, .empty⟩) hk1 hlt)
    simp only at c0 c1 c2
    have H1 := hide h1
    have HB1 := hide (((Below.refl B w).alloc hB _).trans hb1)
    clear h1 hb1 Q hk1
    go_wp2_with fail
    go_end0
    exact ⟨rfl, H1.out, HB1.out⟩
  · have Q := hide (fun W hW => bld_byteZ B b l 1 1 W rfl (h.kept hW) (by omega) (Nat.le_trans hB hW.size))
    have hlt := h.lt
    clear h hv
    rw [enc_false]
    unfold valAgg
    go_enter Try.func37, Try.ntmps37
    go_wp2_with fail
    refine (Q.out _ (Bel.one _ _)).mono ?_
    rintro e w1 ⟨rfl, h1, hb1, hk1⟩
    obtain ⟨c0, c1, c2⟩ := (VBox.others (vbox_new w ⟨1, 0, .empty⟩) hk1 hlt).cells
    have HX := hide (VBox.others (vbox_new w ⟨1, 0, .empty⟩) hk1 hlt)
    simp only at c0 c1 c2
    have H1 := hide h1
    have HB1 := hide (((Below.refl B w).alloc hB _).trans hb1)
    clear h1 hb1 Q hk1
    have Q2 := hide (fun W hW => bld_byteZ B b _ 0 0 W rfl (H1.out.kept hW) (by simp; omega) (Nat.le_trans (Nat.le_trans hB HB1.out.size) hW.size))
    go_wp2_with fail
    refine (Q2.out _ (Below.refl _ _)).mono ?_
    rintro e w2 ⟨rfl, h2, hb2, hk2⟩
    obtain ⟨c0, c1, c2⟩ := (VBox.others HX.out hk2 hlt).cells
    simp only at c0 c1 c2
    have H2 := hide h2
    have HB2 := hide (HB1.out.trans hb2)
    clear h2 hb2 Q2 hk2
    go_wp2_with fail
    go_end0
    exact ⟨rfl, by have := H2.out; simpa using this, HB2.out⟩
  · have Q := hide (fun W hW => bld_byteZ B b l 1 1 W rfl (h.kept hW) (by omega) (Nat.le_trans hB hW.size))
    have hlt := h.lt
    clear h hv
    rw [enc_true]
    unfold valAgg
    go_enter Try.func37, Try.ntmps37
    go_wp2_with fail
    refine (Q.out _ (Bel.one _ _)).mono ?_
    rintro e w1 ⟨rfl, h1, hb1, hk1⟩
    obtain ⟨c0, c1, c2⟩ := (VBox.others (vbox_new w ⟨1, 1, .empty⟩) hk1 hlt).cells
    have HX := hide (VBox.others (vbox_new w ⟨1, 1, .empty⟩) hk1 hlt)
    simp only at c0 c1 c2
    have H1 := hide h1
    have HB1 := hide (((Below.refl B w).alloc hB _).trans hb1)
    clear h1 hb1 Q hk1
    have Q2 := hide (fun W hW => bld_byteZ B b _ 1 1 W rfl (H1.out.kept hW) (by simp; omega) (Nat.le_trans (Nat.le_trans hB HB1.out.size) hW.size))
    go_wp2_with fail
    refine (Q2.out _ (Below.refl _ _)).mono ?_
    rintro e w2 ⟨rfl, h2, hb2, hk2⟩
    obtain ⟨c0, c1, c2⟩ := (VBox.others HX.out hk2 hlt).cells
    simp only at c0 c1 c2
    have H2 := hide h2
    have HB2 := hide (HB1.out.trans hb2)
    clear h2 hb2 Q2 hk2
    go_wp2_with fail
    go_end0
    exact ⟨rfl, by have := H2.out; simpa using this, HB2.out⟩
  · have Q := hide (fun W hW => bld_byteZ B b l 2 2 W rfl (h.kept hW) (by omega) (Nat.le_trans hB hW.size))
    have QN := hide (fun W => number_c n W)
    have HW := hide (word_str n)
    have hz : (strOfNums (putL n 8)).size ≤ 8 := by rw [← str_len, word_str, word8_len]; omega
    generalize strOfNums (putL n 8) = t at *
    have hlt := h.lt
    clear h hv hn
    rw [enc_num]
    unfold valAgg
    go_enter Try.func37, Try.ntmps37
    go_wp2_with fail
    refine (Q.out _ (Bel.one _ _)).mono ?_
    rintro e w1 ⟨rfl, h1, hb1, hk1⟩
    obtain ⟨c0, c1, c2⟩ := (VBox.others (vbox_new w ⟨2, n, .empty⟩) hk1 hlt).cells
    have HX := hide (VBox.others (vbox_new w ⟨2, n, .empty⟩) hk1 hlt)
    simp only at c0 c1 c2
    have H1 := hide h1
    have HB1 := hide (((Below.refl B w).alloc hB _).trans hb1)
    clear h1 hb1 Q hk1
    go_wp2_with fail
    refine (QN.out _).mono ?_
    rintro e w2 ⟨rfl, hb2⟩
    have Q2 := hide (bld_strZ B b _ t w2 (H1.out.kept hb2) (by simp; omega) (Nat.le_trans (Nat.le_trans hB HB1.out.size) hb2.size))
    have HB2 := hide (HB1.out.trans (hb2.mono (Nat.le_trans hB HB1.out.size)))
    clear hb2 H1 hz
    go_wp2_with fail
    refine Q2.out.mono ?_
    rintro e w3 ⟨rfl, h3, hb3, hk3⟩
    have H3 := hide h3
    have HB3 := hide (HB2.out.trans hb3)
    clear h3 hb3 hk3 Q2
    go_wp2_with fail
    go_end0
    exact ⟨rfl, by have := H3.out; rw [HW.out] at this; simpa using this, HB3.out⟩
  · have hp := (plain_iff.1 hs).1
    have Q := hide (fun W hW => bld_byteZ B b l 3 3 W rfl (h.kept hW) (by omega) (Nat.le_trans hB hW.size))
    have hbz : (s.size : Int) = (byteOf (s.size : Int)).toNat := by rw [byteOf_small hp]
    have HZ := hide hbz
    have hlt := h.lt
    clear h hv hs hbz
    rw [enc_text]
    unfold valAgg
    go_enter Try.func37, Try.ntmps37
    go_wp2_with fail
    refine (Q.out _ (Bel.one _ _)).mono ?_
    rintro e w1 ⟨rfl, h1, hb1, hk1⟩
    obtain ⟨c0, c1, c2⟩ := (VBox.others (vbox_new w ⟨3, 0, s⟩) hk1 hlt).cells
    have HX := hide (VBox.others (vbox_new w ⟨3, 0, s⟩) hk1 hlt)
    simp only at c0 c1 c2
    have H1 := hide h1
    have HB1 := hide (((Below.refl B w).alloc hB _).trans hb1)
    clear h1 hb1 Q hk1
    have Q2 := hide (fun W hW => bld_byteZ B b _ (byteOf (s.size : Int)) (s.size : Int) W HZ.out (H1.out.kept hW) (by simp; omega) (Nat.le_trans (Nat.le_trans hB HB1.out.size) hW.size))
    go_wp2_with fail
    refine (Q2.out _ (Below.refl _ _)).mono ?_
    rintro e w2 ⟨rfl, h2, hb2, hk2⟩
    obtain ⟨c0, c1, c2⟩ := (VBox.others HX.out hk2 hlt).cells
    simp only at c0 c1 c2
    have H2 := hide h2
    have HB2 := hide (HB1.out.trans hb2)
    clear h2 hb2 Q2 hk2
    have Q3 := hide (bld_strZ B b _ s w2 H2.out (by simp; omega) (Nat.le_trans hB HB2.out.size))
    go_wp2_with fail
    refine Q3.out.mono ?_
    rintro e w3 ⟨rfl, h3, hb3, hk3⟩
    have H3 := hide h3
    have HB3 := hide (HB2.out.trans hb3)
    clear h3 hb3 hk3 Q3
    go_wp2_with fail
    go_end0
    exact ⟨rfl, by have := H3.out; simpa using this, HB3.out⟩
end Go.Proofs.Ytebamnlknaoehaa
