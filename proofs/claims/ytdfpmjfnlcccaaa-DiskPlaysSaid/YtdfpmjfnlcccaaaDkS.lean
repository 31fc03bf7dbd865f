/- The walk of DiskPlays. -/
import Derived.Test.YtdfpmjfnlcccaaaDkY
import Derived.Test.YtdfpmjfnlcccaaaNth
import Derived.Deep.Cut
namespace Go.Proofs.Ytdfpmjfnlcccaaa
set_option linter.unusedVariables false
open Go.ChangeShapes Go.WideShapes Go.ChangeAt Go.RowKit

/-- An act in a block of its own. -/
def ABox (w : World) (g : Nat) (a : ActV) : Prop := w.heap[g]? = some (.cells #[.int .i64 a.kind, .int .i64 a.at', .int .i64 a.num, .string a.str] 32 (0, 0))
section
variable {w w' : World} {g b : Nat} {a : ActV} {v : Value} {x : Int} {z : Bool}
theorem ABox.lt (h : ABox w g a) : g < w.heap.size := (Array.getElem?_eq_some_iff.1 h).1
theorem ABox.kept (h : ABox w g a) (hb : Below w.heap.size w w') : ABox w' g a := (hb.block g h.lt).trans h
theorem ABox.drew (h : ABox w g a) : ABox w.drew g a := h
theorem ABox.ne (h : ABox w g a) (hx : DBox w b v x z) : g ≠ b := by
  intro e
  subst e
  unfold ABox at h
  unfold DBox at hx
  rw [h] at hx
  injection hx with hx
  injection hx with _ ht
  exact absurd ht (by decide)
theorem ABox.far3 (h : ABox w g a) (hx : DBox w b v x z) (p q r : Value) : ABox (((w.setCell ⟨b, 0, none⟩ p).setCell ⟨b, 1, none⟩ q).setCell ⟨b, 2, none⟩ r) g a :=
  (Below.heap_setCell _ ⟨b, 2, none⟩ r g (h.ne hx)).trans ((Below.heap_setCell _ ⟨b, 1, none⟩ q g (h.ne hx)).trans ((Below.heap_setCell w ⟨b, 0, none⟩ p g (h.ne hx)).trans h))
theorem ABox.cells (h : ABox w g a) : w.cell? ⟨g, 0, none⟩ = some (.int .i64 a.kind) ∧ w.cell? ⟨g, 1, none⟩ = some (.int .i64 a.at') ∧ w.cell? ⟨g, 2, none⟩ = some (.int .i64 a.num) ∧ w.cell? ⟨g, 3, none⟩ = some (.string a.str) :=
  ⟨cell_of_row w g 0 _ _ (0, 0) h, cell_of_row w g 1 _ _ (0, 0) h, cell_of_row w g 2 _ _ (0, 0) h, cell_of_row w g 3 _ _ (0, 0) h⟩
end
theorem wrap_byte (n : Int) : ∃ c : UInt8, IntKind.u8.wrap n = (c.toNat : Int) := by
  refine ⟨UInt8.ofNat (n % 256).toNat, ?_⟩
  rw [IntKind.wrap_u8]
  have : (UInt8.ofNat (n % 256).toNat).toNat = (n % 256).toNat % 256 := rfl
  omega
theorem armD_left {d : DiskV} {m : Int} (h : -9223372036854775808 ≤ m ∧ m ≤ 9223372036854775807) : Left64 (armD d m) := by
  unfold armD Left64
  simp only
  split <;> omega
set_option maxRecDepth 100000 in
set_option maxHeartbeats 4000000 in
theorem diskPlays_w (n : Int) (A : Option Addr) (N C : Nat) (l : List ActV) (w : World) (h : SlAt actC 4 w w.heap.size A N C l) (hok : ∀ a ∈ l, OkAct a) :
    Calls Try.prog 3 #[.int .i64 n, .slice A N C] w fun e w' => e = .returned (.bool true) ∧ Below w.heap.size w w' := by
  have HOK := hide hok
  have HACT := hide h
  have hcap := Nat.le_trans (SlAt.cap h) (SlAt.max h)
  unfold maxLen at hcap
  have QA := hide (fun W => awake_c W)
  have hn1 : (newD (if 100 < n then 100 else n)).1.secs.length ≤ 100 := by
    unfold newD
    by_cases h1 : 100 < n
    · rw [if_pos h1, if_neg (by omega)]; simp
    · rw [if_neg h1]
      split
      · simp
      · simp; omega
  have QN1 := hide (fun W => cNew (w := W) (if 100 < n then 100 else n) rfl)
  have QN2 := hide (fun W => rcNew (w := W) (if 100 < n then 100 else n) rfl)
  have hL0 := newD_left (if 100 < n then 100 else n)
  have hS0 := newD_sec (if 100 < n then 100 else n)
  have QS := hide (fun D A1 A2 c1 c2 W h1 h2 => cSame D (A1 := A1) (A2 := A2) (n := (newD (if 100 < n then 100 else n)).1.secs.length) (c1 := c1) (c2 := c2) (w := W) h1 h2)
  unfold GivesN at QN1 QN2
  generalize newD (if 100 < n then 100 else n) = xn at *
  obtain ⟨⟨ns, nl, nd⟩, ne⟩ := xn
  simp only at *
  generalize ns.length = n1 at *
  generalize hmin : (if 100 < n then (100 : Int) else n) = n2 at *
  have hn : n1 ≤ 1048576 := by omega
  have HB := hide (Below.refl w.heap.size w)
  clear h hok
  go_enter Try.func3, Try.ntmps3
  go_wp2_with fail
  refine (QN1.out _).mono ?_
  rintro e w' ⟨A1, c1, rfl, hS1, hb⟩
  replace HB := hide (Bel.then HB.out hb)
  clear hb
  have hwd : w.heap.size ≤ w'.heap.size := HB.out.size
  go_upto_region 2 with (fail)
  have Xd := hide (dbox_new w' (.slice A1 n1 c1) nl nd)
  have Sd := hide (hS1.kept (Bel.one w' (.cells #[.slice A1 n1 c1, .int .i64 nl, .bool nd] 25)))
  replace HB := hide (Bel.alloc HB.out (.cells #[.slice A1 n1 c1, .int .i64 nl, .bool nd] 25))
  generalize w'.alloc (.cells #[.slice A1 n1 c1, .int .i64 nl, .bool nd] 25) = w2 at *
  generalize w'.heap.size = gd at *
  clear hS1 QN1
  go_wp2_with fail
  refine (QN2.out _).mono ?_
  rintro e w' ⟨A2, c2, rfl, hS2, hb⟩
  replace HB := hide (Bel.then HB.out hb)
  replace Xd := hide (Xd.out.kept hb)
  replace Sd := hide (Sd.out.kept hb)
  clear hb
  have hwx : w.heap.size ≤ w'.heap.size := HB.out.size
  have hndx : gd ≠ w'.heap.size := by have := Xd.out.lt; omega
  go_upto_region 3 with (fail)
  have Xx := hide (dbox_new w' (.slice A2 n1 c2) nl nd)
  have Sx := hide (hS2.kept (Bel.one w' (.cells #[.slice A2 n1 c2, .int .i64 nl, .bool nd] 25)))
  replace HB := hide (Bel.alloc HB.out (.cells #[.slice A2 n1 c2, .int .i64 nl, .bool nd] 25))
  replace Xd := hide (Xd.out.alloc (.cells #[.slice A2 n1 c2, .int .i64 nl, .bool nd] 25))
  replace Sd := hide (Sd.out.kept (Bel.one w' (.cells #[.slice A2 n1 c2, .int .i64 nl, .bool nd] 25)))
  generalize w'.alloc (.cells #[.slice A2 n1 c2, .int .i64 nl, .bool nd] 25) = w2 at *
  generalize w'.heap.size = gx at *
  have hnxd : gx ≠ gd := fun e => hndx e.symm
  clear hS2 QN2 hmin
  obtain ⟨d_0, d_1, d_2, d_3, d_4, d_5⟩ := Xd.out.cells
  obtain ⟨x_0, x_1, x_2, x_3, x_4, x_5⟩ := Xx.out.cells
  go_wp2_with fail
  refine (QA.out _).mono ?_
  rintro e w' ⟨rfl, hb⟩
  clear d_0 d_1 d_2 d_3 d_4 d_5 x_0 x_1 x_2 x_3 x_4 x_5 QA
  replace HB := hide (Bel.then HB.out hb)
  replace Xd := hide (Xd.out.kept hb)
  replace Sd := hide (Sd.out.kept hb)
  replace Xx := hide (Xx.out.kept hb)
  replace Sx := hide (Sx.out.kept hb)
  clear hb
  obtain ⟨d_0, d_1, d_2, d_3, d_4, d_5⟩ := Xd.out.cells
  obtain ⟨x_0, x_1, x_2, x_3, x_4, x_5⟩ := Xx.out.cells
  go_wp2_with fail
  refine (QS.out ⟨ns, nl, nd⟩ _ _ _ _ _ Sd.out Sx.out).mono ?_
  rintro e w' ⟨rfl, hb⟩
  clear d_0 d_1 d_2 d_3 d_4 d_5 x_0 x_1 x_2 x_3 x_4 x_5
  replace HB := hide (Bel.then HB.out hb)
  replace Xd := hide (Xd.out.kept hb)
  replace Sd := hide (Sd.out.kept hb)
  replace Xx := hide (Xx.out.kept hb)
  replace Sx := hide (Sx.out.kept hb)
  clear hb
  by_cases g60 : 60 < N
  · have g60i : (60 : Int) < N := by omega
    go_wp2_with fail
    go_ret
    exact ⟨rfl, HB.out⟩
  have g60i : ¬ (60 : Int) < N := by omega
  by_cases gne : ne = 0
  · have hz : (ne != 0) = false := by rw [bne_eq_false_iff_eq]; exact gne
    clear gne
    go_wp2_with fail
    go_loopw [6, 8, 9] (fun e f i wr => ∃ k : Nat, ∃ ev : Int, ∃ D : DiskV, ∃ (A1 : Option Addr) (c1 : Nat) (A2 : Option Addr) (c2 : Nat), k ≤ N ∧ e = .int .i64 ev ∧ f = .int .i64 ev ∧ i = .int .i64 k ∧ Hid (DBox wr gd (.slice A1 n1 c1) D.left D.down) ∧ Hid (DkAt wr A1 n1 c1 D.secs) ∧ Hid (DBox wr gx (.slice A2 n1 c2) D.left D.down) ∧ Hid (DkAt wr A2 n1 c2 D.secs) ∧ Hid (Below w.heap.size w wr) ∧ Left64 D ∧ Sec128 D) (fun _ _ i _ => N - (intOf i).toNat)
    case atStart => exact ⟨0, ne, ⟨ns, nl, nd⟩, A1, c1, A2, c2, Nat.zero_le _, rfl, rfl, rfl, Xd, Sd, Xx, Sx, HB, hL0, hS0⟩
    case round =>
      obtain ⟨k, ev, D, A1, c1, A2, c2, hk, rfl, rfl, rfl, Xd, Sd, Xx, Sx, HB, hL, hS⟩ := hrel
      have hwk : IntKind.i64.wrap ((k : Int) + 1) = (k : Int) + 1 := IntWalk.i64_in _ (by omega)
      by_cases hlt : k < N
      · obtain ⟨ab, aoff, a, rfl, habl, ha, hc⟩ := (HACT.out.below HB.out).at (by omega) hlt
        have hoa := HOK.out a (List.mem_of_getElem? ha)
        have k0 := hc 0 _ rfl
        have k1 := hc 1 _ rfl
        have k2 := hc 2 _ rfl
        have k3 := hc 3 _ rfl
        rw [Nat.add_zero] at k0
        rw [← Nat.add_assoc] at k1 k2 k3
        clear hc ha hL0 hS0
        go_upto_region 11 with (fail)
        have XA := hide (show ABox (wr.alloc (.cells #[.int .i64 a.kind, .int .i64 a.at', .int .i64 a.num, .string a.str] 32)) wr.heap.size a from heap_alloc_new wr _)
        replace Xd := hide (Xd.out.alloc (.cells #[.int .i64 a.kind, .int .i64 a.at', .int .i64 a.num, .string a.str] 32))
        replace Xx := hide (Xx.out.alloc (.cells #[.int .i64 a.kind, .int .i64 a.at', .int .i64 a.num, .string a.str] 32))
        replace Sd := hide (Sd.out.kept (Bel.one wr (.cells #[.int .i64 a.kind, .int .i64 a.at', .int .i64 a.num, .string a.str] 32)))
        replace Sx := hide (Sx.out.kept (Bel.one wr (.cells #[.int .i64 a.kind, .int .i64 a.at', .int .i64 a.num, .string a.str] 32)))
        replace HB := hide (Bel.alloc HB.out (.cells #[.int .i64 a.kind, .int .i64 a.at', .int .i64 a.num, .string a.str] 32))
        generalize wr.alloc (.cells #[.int .i64 a.kind, .int .i64 a.at', .int .i64 a.num, .string a.str] 32) = w' at *
        generalize wr.heap.size = ga at *
        clear k0 k1 k2 k3
        obtain ⟨ds, dl, dd⟩ := D
        simp only at Xd Xx Sd Sx
        obtain ⟨d_0, d_1, d_2, d_3, d_4, d_5⟩ := Xd.out.cells
        obtain ⟨x_0, x_1, x_2, x_3, x_4, x_5⟩ := Xx.out.cells
        obtain ⟨t_0, t_1, t_2, t_3⟩ := XA.out.cells
        rcases (show a.kind = 0 ∨ a.kind = 1 ∨ a.kind = 2 ∨ a.kind = 3 ∨ a.kind = 4 ∨ (a.kind ≠ 0 ∧ a.kind ≠ 1 ∧ a.kind ≠ 2 ∧ a.kind ≠ 3 ∧ a.kind ≠ 4) by omega) with h9 | h9 | h9 | h9 | h9 | h9
        · have q0 : (a.kind == 0) = true := by simpa using h9
          have QW1 := hide (fun A c W hW => cWrite (A := A) (n := n1) (c := c) (d := ⟨ds, dl, dd⟩) (w := W) a.at' a.str hW hn hL)
          have QW2 := hide (fun A c W hW => rcWrite (A := A) (n := n1) (c := c) (d := ⟨ds, dl, dd⟩) (w := W) a.at' a.str hW hn hL)
          have hL2 := writeD_left hL a.at' a.str
          have hS2 := writeD_sec hS a.at' a.str
          unfold GivesN at QW1 QW2
          generalize writeD ⟨ds, dl, dd⟩ a.at' a.str = x at *
          obtain ⟨⟨xs, xl, xd⟩, xe⟩ := x
          simp only at *
          clear h9
          go_wp2_with fail
          refine (QW1.out _ _ _ Sd.out).mono ?_
          rintro e w' ⟨A3, c3, rfl, hS3, hb⟩
          clear d_0 d_1 d_2 d_3 d_4 d_5 x_0 x_1 x_2 x_3 x_4 x_5 t_0 t_1 t_2 t_3
          replace Xd := hide (Xd.out.kept hb)
          replace Xx := hide (Xx.out.kept hb)
          replace Sd := hide (Sd.out.kept hb)
          replace Sx := hide (Sx.out.kept hb)
          replace XA := hide (XA.out.kept hb)
          replace HB := hide (Bel.then HB.out hb)
          have S3 := hide hS3
          clear hS3
          clear hb
          obtain ⟨d_0, d_1, d_2, d_3, d_4, d_5⟩ := Xd.out.cells
          obtain ⟨x_0, x_1, x_2, x_3, x_4, x_5⟩ := Xx.out.cells
          obtain ⟨t_0, t_1, t_2, t_3⟩ := XA.out.cells
          go_upto_region 16 with (fail)
          have hX := Xd.out.set3 (.slice A3 n1 c3) xl xd
          have hO := far3 Xx.out hnxd (.slice A3 n1 c3) (.int .i64 xl) (.bool xd)
          have hA := XA.out.far3 Xd.out (.slice A3 n1 c3) (.int .i64 xl) (.bool xd)
          have hB := below_set3 HB.out hwd (.slice A3 n1 c3) (.int .i64 xl) (.bool xd)
          have hSx := Sx.out.put (u := (.slice A3 n1 c3)) (y := xl) (b := xd) Xd.out (by intro s h; cases h) (by intro s h; cases h)
          have hS3 := S3.out.put (u := (.slice A3 n1 c3)) (y := xl) (b := xd) Xd.out (by intro s h; cases h) (by intro s h; cases h)
          generalize ((w'.setCell ⟨gd, 0, none⟩ (.slice A3 n1 c3)).setCell ⟨gd, 1, none⟩ (.int .i64 xl)).setCell ⟨gd, 2, none⟩ (.bool xd) = w1 at *
          clear d_0 d_1 d_2 d_3 d_4 d_5 x_0 x_1 x_2 x_3 x_4 x_5 t_0 t_1 t_2 t_3
          replace Xd := hide hX
          replace Xx := hide hO
          replace XA := hide hA
          replace HB := hide hB
          replace Sx := hide hSx
          replace Sd := hide hS3
          clear hX hO hA hB hSx hS3
          obtain ⟨w', hww⟩ : ∃ w', w' = w1 := ⟨_, rfl⟩
          subst hww
          obtain ⟨d_0, d_1, d_2, d_3, d_4, d_5⟩ := Xd.out.cells
          obtain ⟨x_0, x_1, x_2, x_3, x_4, x_5⟩ := Xx.out.cells
          obtain ⟨t_0, t_1, t_2, t_3⟩ := XA.out.cells
          go_wp2_with fail
          refine (QW2.out _ _ _ Sx.out).mono ?_
          rintro e w' ⟨A4, c4, rfl, hS4, hb⟩
          clear d_0 d_1 d_2 d_3 d_4 d_5 x_0 x_1 x_2 x_3 x_4 x_5 t_0 t_1 t_2 t_3
          replace Xd := hide (Xd.out.kept hb)
          replace Xx := hide (Xx.out.kept hb)
          replace Sd := hide (Sd.out.kept hb)
          replace Sx := hide (Sx.out.kept hb)
          replace XA := hide (XA.out.kept hb)
          replace HB := hide (Bel.then HB.out hb)
          have S4 := hide hS4
          clear hS4
          clear hb
          obtain ⟨d_0, d_1, d_2, d_3, d_4, d_5⟩ := Xd.out.cells
          obtain ⟨x_0, x_1, x_2, x_3, x_4, x_5⟩ := Xx.out.cells
          obtain ⟨t_0, t_1, t_2, t_3⟩ := XA.out.cells
          go_upto_region 28 with (fail)
          have hX := Xx.out.set3 (.slice A4 n1 c4) xl xd
          have hO := far3 Xd.out hndx (.slice A4 n1 c4) (.int .i64 xl) (.bool xd)
          have hA := XA.out.far3 Xx.out (.slice A4 n1 c4) (.int .i64 xl) (.bool xd)
          have hB := below_set3 HB.out hwx (.slice A4 n1 c4) (.int .i64 xl) (.bool xd)
          have hSd := Sd.out.put (u := (.slice A4 n1 c4)) (y := xl) (b := xd) Xx.out (by intro s h; cases h) (by intro s h; cases h)
          have hS4 := S4.out.put (u := (.slice A4 n1 c4)) (y := xl) (b := xd) Xx.out (by intro s h; cases h) (by intro s h; cases h)
          generalize ((w'.setCell ⟨gx, 0, none⟩ (.slice A4 n1 c4)).setCell ⟨gx, 1, none⟩ (.int .i64 xl)).setCell ⟨gx, 2, none⟩ (.bool xd) = w1 at *
          clear d_0 d_1 d_2 d_3 d_4 d_5 x_0 x_1 x_2 x_3 x_4 x_5 t_0 t_1 t_2 t_3
          replace Xx := hide hX
          replace Xd := hide hO
          replace XA := hide hA
          replace HB := hide hB
          replace Sd := hide hSd
          replace Sx := hide hS4
          clear hX hO hA hB hSd hS4
          obtain ⟨w', hww⟩ : ∃ w', w' = w1 := ⟨_, rfl⟩
          subst hww
          obtain ⟨d_0, d_1, d_2, d_3, d_4, d_5⟩ := Xd.out.cells
          obtain ⟨x_0, x_1, x_2, x_3, x_4, x_5⟩ := Xx.out.cells
          obtain ⟨t_0, t_1, t_2, t_3⟩ := XA.out.cells
          go_wp2_with fail
          refine (QS.out ⟨xs, xl, xd⟩ _ _ _ _ _ Sd.out Sx.out).mono ?_
          rintro e w' ⟨rfl, hb⟩
          clear d_0 d_1 d_2 d_3 d_4 d_5 x_0 x_1 x_2 x_3 x_4 x_5 t_0 t_1 t_2 t_3
          replace Xd := hide (Xd.out.kept hb)
          replace Xx := hide (Xx.out.kept hb)
          replace Sd := hide (Sd.out.kept hb)
          replace Sx := hide (Sx.out.kept hb)
          replace XA := hide (XA.out.kept hb)
          replace HB := hide (Bel.then HB.out hb)
          clear hb
          go_wp2_with fail
          go_roundw
          case rel => exact ⟨k + 1, xe, ⟨xs, xl, xd⟩, _, _, _, _, by omega, rfl, rfl, by go_num, Xd, Sd, Xx, Sx, HB, hL2, hS2⟩
          case measure => simp [intOf]; omega
        · have q0 : (a.kind == 0) = false := by rw [beq_eq_false_iff_ne]; omega
          have q1 : (a.kind == 1) = true := by simpa using h9
          have QR1 := hide (fun A c W hW => cRead (A := A) (n := n1) (c := c) (d := ⟨ds, dl, dd⟩) (w := W) a.at' hW hn)
          have QR2 := hide (fun A c W hW => rcRead (A := A) (n := n1) (c := c) (d := ⟨ds, dl, dd⟩) (w := W) a.at' hW hn)
          unfold GivesR at QR1 QR2
          generalize readD ⟨ds, dl, dd⟩ a.at' = x at *
          obtain ⟨rs, re⟩ := x
          simp only at *
          clear h9
          go_wp2_with fail
          refine (QR1.out _ _ _ Sd.out).mono ?_
          rintro e w' ⟨rfl, hb⟩
          clear d_0 d_1 d_2 d_3 d_4 d_5 x_0 x_1 x_2 x_3 x_4 x_5 t_0 t_1 t_2 t_3
          replace Xd := hide (Xd.out.kept hb)
          replace Xx := hide (Xx.out.kept hb)
          replace Sd := hide (Sd.out.kept hb)
          replace Sx := hide (Sx.out.kept hb)
          replace XA := hide (XA.out.kept hb)
          replace HB := hide (Bel.then HB.out hb)
          clear hb
          obtain ⟨d_0, d_1, d_2, d_3, d_4, d_5⟩ := Xd.out.cells
          obtain ⟨x_0, x_1, x_2, x_3, x_4, x_5⟩ := Xx.out.cells
          obtain ⟨t_0, t_1, t_2, t_3⟩ := XA.out.cells
          go_wp2_with fail
          refine (QR2.out _ _ _ Sx.out).mono ?_
          rintro e w' ⟨rfl, hb⟩
          clear d_0 d_1 d_2 d_3 d_4 d_5 x_0 x_1 x_2 x_3 x_4 x_5 t_0 t_1 t_2 t_3
          replace Xd := hide (Xd.out.kept hb)
          replace Xx := hide (Xx.out.kept hb)
          replace Sd := hide (Sd.out.kept hb)
          replace Sx := hide (Sx.out.kept hb)
          replace XA := hide (XA.out.kept hb)
          replace HB := hide (Bel.then HB.out hb)
          clear hb
          obtain ⟨d_0, d_1, d_2, d_3, d_4, d_5⟩ := Xd.out.cells
          obtain ⟨x_0, x_1, x_2, x_3, x_4, x_5⟩ := Xx.out.cells
          obtain ⟨t_0, t_1, t_2, t_3⟩ := XA.out.cells
          go_wp2_with fail
          refine (QS.out ⟨ds, dl, dd⟩ _ _ _ _ _ Sd.out Sx.out).mono ?_
          rintro e w' ⟨rfl, hb⟩
          clear d_0 d_1 d_2 d_3 d_4 d_5 x_0 x_1 x_2 x_3 x_4 x_5 t_0 t_1 t_2 t_3
          replace Xd := hide (Xd.out.kept hb)
          replace Xx := hide (Xx.out.kept hb)
          replace Sd := hide (Sd.out.kept hb)
          replace Sx := hide (Sx.out.kept hb)
          replace XA := hide (XA.out.kept hb)
          replace HB := hide (Bel.then HB.out hb)
          clear hb
          go_wp2_with fail
          go_roundw
          case rel => exact ⟨k + 1, _, ⟨ds, dl, dd⟩, _, _, _, _, by omega, rfl, rfl, by go_num, Xd, Sd, Xx, Sx, HB, hL, hS⟩
          case measure => simp [intOf]; omega
        · have q0 : (a.kind == 0) = false := by rw [beq_eq_false_iff_ne]; omega
          have q1 : (a.kind == 1) = false := by rw [beq_eq_false_iff_ne]; omega
          have q2 : (a.kind == 2) = true := by simpa using h9
          obtain ⟨cb, hcb⟩ := wrap_byte a.num
          have QPg := hide (fun W => page_c cb W)
          have QG1 := hide (fun A c W hW => cWriteP (A := A) (n := n1) (c := c) (d := ⟨ds, dl, dd⟩) (w := W) a.at' (repS 512 cb) hW hn hL)
          have QG2 := hide (fun A c W hW => rcWriteP (A := A) (n := n1) (c := c) (d := ⟨ds, dl, dd⟩) (w := W) a.at' (repS 512 cb) hW hn hL)
          have hL2 := writeP_left hL a.at' (repS 512 cb)
          have hS2 := writeP_sec hS a.at' (repS 512 cb)
          unfold GivesN at QG1 QG2
          generalize writeP ⟨ds, dl, dd⟩ a.at' (repS 512 cb) = x at *
          generalize repS 512 cb = pg at *
          generalize (cb.toNat : Int) = cz at *
          obtain ⟨⟨xs, xl, xd⟩, xe⟩ := x
          simp only at *
          clear h9
          go_wp2_with fail
          refine wp_region_held_drew (S := fun w' => ABox w' ga a) (by kernel_rfl) XA.out.drew (fun hHeld => ?_)
          have hb : Below w'.heap.size w' w'.drew := (Below.refl _ _).drew
          clear d_0 d_1 d_2 d_3 d_4 d_5 x_0 x_1 x_2 x_3 x_4 x_5 t_0 t_1 t_2 t_3
          replace Xd := hide (Xd.out.kept hb)
          replace Xx := hide (Xx.out.kept hb)
          replace Sd := hide (Sd.out.kept hb)
          replace Sx := hide (Sx.out.kept hb)
          replace XA := hide (XA.out.kept hb)
          replace HB := hide (Bel.then HB.out hb)
          clear hb
          obtain ⟨d_0, d_1, d_2, d_3, d_4, d_5⟩ := Xd.out.cells
          obtain ⟨x_0, x_1, x_2, x_3, x_4, x_5⟩ := Xx.out.cells
          obtain ⟨t_0, t_1, t_2, t_3⟩ := XA.out.cells
          first | (refine wpAnyH_take (i := 1) (v := ?_) nth1 (by kernel_rfl) (by kernel_rfl) (by kernel_rfl) (fun _ _ _ h => h) (Or.inl ⟨by rfl, ?_⟩) hHeld ?_; rotate_left; focus (intro wS hSw; obtain ⟨t_0, t_1, t_2, t_3⟩ := hSw.cells; go_simp; try with_reducible rfl; done)) | fail
          (try simp only [Act.put]); (try simp only [List.setIfInBounds_toArray]); (try simp only [List.set_cons_succ]); (try simp only [List.set_cons_zero])
          first | (refine wpAnyH_take (i := 3) (v := ?_) nth3 (by kernel_rfl) (by kernel_rfl) (by kernel_rfl) (fun _ _ _ h => h) (Or.inl ⟨by rfl, ?_⟩) hHeld ?_; rotate_left; focus (intro wS hSw; obtain ⟨t_0, t_1, t_2, t_3⟩ := hSw.cells; go_simp; try with_reducible rfl; done)) | fail
          (try simp only [Act.put]); (try simp only [List.setIfInBounds_toArray]); (try simp only [List.set_cons_succ]); (try simp only [List.set_cons_zero])
          first | (refine wpAnyH_take (i := 2) (v := ?_) nth2 (by kernel_rfl) (by kernel_rfl) (by kernel_rfl) (fun _ _ _ h => h) (Or.inl ⟨by rfl, ?_⟩) hHeld ?_; rotate_left; focus (intro wS hSw; obtain ⟨t_0, t_1, t_2, t_3⟩ := hSw.cells; go_simp; try with_reducible rfl; done)) | fail
          (try simp only [Act.put]); (try simp only [List.setIfInBounds_toArray]); (try simp only [List.set_cons_succ]); (try simp only [List.set_cons_zero])
          first | (refine wpAnyH_take (i := 4) (v := ?_) nth4 (by kernel_rfl) (by kernel_rfl) (by kernel_rfl) (fun _ _ _ h => h) (Or.inl ⟨by rfl, ?_⟩) hHeld ?_; rotate_left; focus (intro wS hSw; obtain ⟨t_0, t_1, t_2, t_3⟩ := hSw.cells; go_simp; try with_reducible rfl; done)) | fail
          (try simp only [Act.put]); (try simp only [List.setIfInBounds_toArray]); (try simp only [List.set_cons_succ]); (try simp only [List.set_cons_zero])
          first | (refine wpAnyH_take (i := 5) (v := ?_) nth5 (by kernel_rfl) (by kernel_rfl) (by kernel_rfl) (fun _ _ _ h => h) (Or.inl ⟨by rfl, ?_⟩) hHeld ?_; rotate_left; focus (intro wS hSw; obtain ⟨t_0, t_1, t_2, t_3⟩ := hSw.cells; go_simp; try with_reducible rfl; done)) | fail
          (try simp only [Act.put]); (try simp only [List.setIfInBounds_toArray]); (try simp only [List.set_cons_succ]); (try simp only [List.set_cons_zero])
          refine wpAnyH_ready (rs := [0, 6]) (by kernel_rfl) (by simp) ?_
          refine (AllReadyH.cons nth0 (fun K hK => ?_) (AllReadyH.cons nth6 (fun K hK => ?_) AllReadyH.nil))
          · go_simp
            refine hK.out _ _ XA.out (fun hHeld => ?_)
            clear hK K
            (try simp only [Act.put]); (try simp only [List.setIfInBounds_toArray]); (try simp only [List.set_cons_succ]); (try simp only [List.set_cons_zero])
            refine wpAnyH_ready (rs := [6]) (by kernel_rfl) (by simp) ?_
            refine (AllReadyH.cons nth6 (fun K hK => ?_) AllReadyH.nil)
            go_simp
            refine (QPg.out _).mono ?_
            rintro e w' ⟨rfl, hb⟩
            clear d_0 d_1 d_2 d_3 d_4 d_5 x_0 x_1 x_2 x_3 x_4 x_5 t_0 t_1 t_2 t_3
            replace Xd := hide (Xd.out.kept hb)
            replace Xx := hide (Xx.out.kept hb)
            replace Sd := hide (Sd.out.kept hb)
            replace Sx := hide (Sx.out.kept hb)
            replace XA := hide (XA.out.kept hb)
            replace HB := hide (Bel.then HB.out hb)
            clear hb
            obtain ⟨d_0, d_1, d_2, d_3, d_4, d_5⟩ := Xd.out.cells
            obtain ⟨x_0, x_1, x_2, x_3, x_4, x_5⟩ := Xx.out.cells
            obtain ⟨t_0, t_1, t_2, t_3⟩ := XA.out.cells
            refine hK.out _ _ XA.out (fun hHeld => ?_)
            clear hK K
            (try simp only [Act.put]); (try simp only [List.setIfInBounds_toArray]); (try simp only [List.set_cons_succ]); (try simp only [List.set_cons_zero])
            refine wpAnyH_ready (rs := [7]) (by kernel_rfl) (by simp) ?_
            refine (AllReadyH.cons nth7 (fun K hK => ?_) AllReadyH.nil)
            go_simp
            refine (QG1.out _ _ _ Sd.out).mono ?_
            rintro e w' ⟨A3, c3, rfl, hS3, hb⟩
            clear d_0 d_1 d_2 d_3 d_4 d_5 x_0 x_1 x_2 x_3 x_4 x_5 t_0 t_1 t_2 t_3
            replace Xd := hide (Xd.out.kept hb)
            replace Xx := hide (Xx.out.kept hb)
            replace Sd := hide (Sd.out.kept hb)
            replace Sx := hide (Sx.out.kept hb)
            replace XA := hide (XA.out.kept hb)
            replace HB := hide (Bel.then HB.out hb)
            have S3 := hide hS3
            clear hS3 hb
            obtain ⟨d_0, d_1, d_2, d_3, d_4, d_5⟩ := Xd.out.cells
            obtain ⟨x_0, x_1, x_2, x_3, x_4, x_5⟩ := Xx.out.cells
            obtain ⟨t_0, t_1, t_2, t_3⟩ := XA.out.cells
            refine hK.out _ _ XA.out (fun hHeld => ?_)
            clear hK K
            (try simp only [Act.put]); (try simp only [List.setIfInBounds_toArray]); (try simp only [List.set_cons_succ]); (try simp only [List.set_cons_zero])
            first | (refine wpAnyH_take (i := 8) (v := ?_) nth8 (by kernel_rfl) (by kernel_rfl) (by kernel_rfl) (fun _ _ _ h => h) (Or.inl ⟨by rfl, ?_⟩) hHeld ?_; rotate_left; focus (intro wS hSw; obtain ⟨t_0, t_1, t_2, t_3⟩ := hSw.cells; go_simp; try with_reducible rfl; done)) | fail
            (try simp only [Act.put]); (try simp only [List.setIfInBounds_toArray]); (try simp only [List.set_cons_succ]); (try simp only [List.set_cons_zero])
            first | (refine wpAnyH_take (i := 9) (v := ?_) nth9 (by kernel_rfl) (by kernel_rfl) (by kernel_rfl) (fun _ _ _ h => h) (Or.inl ⟨by rfl, ?_⟩) hHeld ?_; rotate_left; focus (intro wS hSw; obtain ⟨t_0, t_1, t_2, t_3⟩ := hSw.cells; go_simp; try with_reducible rfl; done)) | fail
            (try simp only [Act.put]); (try simp only [List.setIfInBounds_toArray]); (try simp only [List.set_cons_succ]); (try simp only [List.set_cons_zero])
            first | (refine wpAnyH_take (i := 10) (v := ?_) nth10 (by kernel_rfl) (by kernel_rfl) (by kernel_rfl) (fun _ _ _ h => h) (Or.inl ⟨by rfl, ?_⟩) hHeld ?_; rotate_left; focus (intro wS hSw; obtain ⟨t_0, t_1, t_2, t_3⟩ := hSw.cells; go_simp; try with_reducible rfl; done)) | fail
            (try simp only [Act.put]); (try simp only [List.setIfInBounds_toArray]); (try simp only [List.set_cons_succ]); (try simp only [List.set_cons_zero])
            refine wpAnyH_ready (rs := [11]) (by kernel_rfl) (by simp) ?_
            refine (AllReadyH.cons nth11 (fun K hK => ?_) AllReadyH.nil)
            go_simp
            have hX := Xd.out.set3 (.slice A3 n1 c3) xl xd
            have hO := far3 Xx.out hnxd (.slice A3 n1 c3) (.int .i64 xl) (.bool xd)
            have hA := XA.out.far3 Xd.out (.slice A3 n1 c3) (.int .i64 xl) (.bool xd)
            have hB := below_set3 HB.out hwd (.slice A3 n1 c3) (.int .i64 xl) (.bool xd)
            have hSx := Sx.out.put (u := (.slice A3 n1 c3)) (y := xl) (b := xd) Xd.out (by intro s h; cases h) (by intro s h; cases h)
            have hS3 := S3.out.put (u := (.slice A3 n1 c3)) (y := xl) (b := xd) Xd.out (by intro s h; cases h) (by intro s h; cases h)
            clear d_0 d_1 d_2 d_3 d_4 d_5 x_0 x_1 x_2 x_3 x_4 x_5 t_0 t_1 t_2 t_3
            replace Xd := hide hX
            replace Xx := hide hO
            replace XA := hide hA
            replace HB := hide hB
            replace Sx := hide hSx
            replace Sd := hide hS3
            clear hX hO hA hB hSx hS3
            obtain ⟨d_0, d_1, d_2, d_3, d_4, d_5⟩ := Xd.out.cells
            obtain ⟨x_0, x_1, x_2, x_3, x_4, x_5⟩ := Xx.out.cells
            obtain ⟨t_0, t_1, t_2, t_3⟩ := XA.out.cells
            refine hK.out _ _ XA.out (fun hHeld => ?_)
            clear hK K
            (try simp only [Act.put]); (try simp only [List.setIfInBounds_toArray]); (try simp only [List.set_cons_succ]); (try simp only [List.set_cons_zero])
            first | (refine wpAnyH_take (i := 12) (v := ?_) nth12 (by kernel_rfl) (by kernel_rfl) (by kernel_rfl) (fun _ _ _ h => h) (Or.inl ⟨by rfl, ?_⟩) hHeld ?_; rotate_left; focus (intro wS hSw; obtain ⟨t_0, t_1, t_2, t_3⟩ := hSw.cells; go_simp; try with_reducible rfl; done)) | fail
            (try simp only [Act.put]); (try simp only [List.setIfInBounds_toArray]); (try simp only [List.set_cons_succ]); (try simp only [List.set_cons_zero])
            refine wpAnyH_done (by kernel_rfl) ?_ _
            generalize ((w'.setCell ⟨gd, 0, none⟩ (.slice A3 n1 c3)).setCell ⟨gd, 1, none⟩ (.int .i64 xl)).setCell ⟨gd, 2, none⟩ (.bool xd) = w1 at *
            obtain ⟨w', hww⟩ : ∃ w', w' = w1 := ⟨_, rfl⟩
            subst hww
            go_wp2_with fail
            refine wp_region_held_drew (S := fun w' => ABox w' ga a) (by kernel_rfl) XA.out.drew (fun hHeld => ?_)
            have hb : Below w'.heap.size w' w'.drew := (Below.refl _ _).drew
            clear d_0 d_1 d_2 d_3 d_4 d_5 x_0 x_1 x_2 x_3 x_4 x_5 t_0 t_1 t_2 t_3
            replace Xd := hide (Xd.out.kept hb)
            replace Xx := hide (Xx.out.kept hb)
            replace Sd := hide (Sd.out.kept hb)
            replace Sx := hide (Sx.out.kept hb)
            replace XA := hide (XA.out.kept hb)
            replace HB := hide (Bel.then HB.out hb)
            clear hb
            obtain ⟨d_0, d_1, d_2, d_3, d_4, d_5⟩ := Xd.out.cells
            obtain ⟨x_0, x_1, x_2, x_3, x_4, x_5⟩ := Xx.out.cells
            obtain ⟨t_0, t_1, t_2, t_3⟩ := XA.out.cells
            first | (refine wpAnyH_take (i := 1) (v := ?_) nth1 (by kernel_rfl) (by kernel_rfl) (by kernel_rfl) (fun _ _ _ h => h) (Or.inl ⟨by rfl, ?_⟩) hHeld ?_; rotate_left; focus (intro wS hSw; obtain ⟨t_0, t_1, t_2, t_3⟩ := hSw.cells; go_simp; try with_reducible rfl; done)) | fail
            (try simp only [Act.put]); (try simp only [List.setIfInBounds_toArray]); (try simp only [List.set_cons_succ]); (try simp only [List.set_cons_zero])
            first | (refine wpAnyH_take (i := 3) (v := ?_) nth3 (by kernel_rfl) (by kernel_rfl) (by kernel_rfl) (fun _ _ _ h => h) (Or.inl ⟨by rfl, ?_⟩) hHeld ?_; rotate_left; focus (intro wS hSw; obtain ⟨t_0, t_1, t_2, t_3⟩ := hSw.cells; go_simp; try with_reducible rfl; done)) | fail
            (try simp only [Act.put]); (try simp only [List.setIfInBounds_toArray]); (try simp only [List.set_cons_succ]); (try simp only [List.set_cons_zero])
            first | (refine wpAnyH_take (i := 2) (v := ?_) nth2 (by kernel_rfl) (by kernel_rfl) (by kernel_rfl) (fun _ _ _ h => h) (Or.inl ⟨by rfl, ?_⟩) hHeld ?_; rotate_left; focus (intro wS hSw; obtain ⟨t_0, t_1, t_2, t_3⟩ := hSw.cells; go_simp; try with_reducible rfl; done)) | fail
            (try simp only [Act.put]); (try simp only [List.setIfInBounds_toArray]); (try simp only [List.set_cons_succ]); (try simp only [List.set_cons_zero])
            first | (refine wpAnyH_take (i := 4) (v := ?_) nth4 (by kernel_rfl) (by kernel_rfl) (by kernel_rfl) (fun _ _ _ h => h) (Or.inl ⟨by rfl, ?_⟩) hHeld ?_; rotate_left; focus (intro wS hSw; obtain ⟨t_0, t_1, t_2, t_3⟩ := hSw.cells; go_simp; try with_reducible rfl; done)) | fail
            (try simp only [Act.put]); (try simp only [List.setIfInBounds_toArray]); (try simp only [List.set_cons_succ]); (try simp only [List.set_cons_zero])
            first | (refine wpAnyH_take (i := 5) (v := ?_) nth5 (by kernel_rfl) (by kernel_rfl) (by kernel_rfl) (fun _ _ _ h => h) (Or.inl ⟨by rfl, ?_⟩) hHeld ?_; rotate_left; focus (intro wS hSw; obtain ⟨t_0, t_1, t_2, t_3⟩ := hSw.cells; go_simp; try with_reducible rfl; done)) | fail
            (try simp only [Act.put]); (try simp only [List.setIfInBounds_toArray]); (try simp only [List.set_cons_succ]); (try simp only [List.set_cons_zero])
            refine wpAnyH_ready (rs := [0, 6]) (by kernel_rfl) (by simp) ?_
            refine (AllReadyH.cons nth0 (fun K hK => ?_) (AllReadyH.cons nth6 (fun K hK => ?_) AllReadyH.nil))
            · go_simp
              refine hK.out _ _ XA.out (fun hHeld => ?_)
              clear hK K
              (try simp only [Act.put]); (try simp only [List.setIfInBounds_toArray]); (try simp only [List.set_cons_succ]); (try simp only [List.set_cons_zero])
              refine wpAnyH_ready (rs := [6]) (by kernel_rfl) (by simp) ?_
              refine (AllReadyH.cons nth6 (fun K hK => ?_) AllReadyH.nil)
              go_simp
              refine (QPg.out _).mono ?_
              rintro e w' ⟨rfl, hb⟩
              clear d_0 d_1 d_2 d_3 d_4 d_5 x_0 x_1 x_2 x_3 x_4 x_5 t_0 t_1 t_2 t_3
              replace Xd := hide (Xd.out.kept hb)
              replace Xx := hide (Xx.out.kept hb)
              replace Sd := hide (Sd.out.kept hb)
              replace Sx := hide (Sx.out.kept hb)
              replace XA := hide (XA.out.kept hb)
              replace HB := hide (Bel.then HB.out hb)
              clear hb
              obtain ⟨d_0, d_1, d_2, d_3, d_4, d_5⟩ := Xd.out.cells
              obtain ⟨x_0, x_1, x_2, x_3, x_4, x_5⟩ := Xx.out.cells
              obtain ⟨t_0, t_1, t_2, t_3⟩ := XA.out.cells
              refine hK.out _ _ XA.out (fun hHeld => ?_)
              clear hK K
              (try simp only [Act.put]); (try simp only [List.setIfInBounds_toArray]); (try simp only [List.set_cons_succ]); (try simp only [List.set_cons_zero])
              refine wpAnyH_ready (rs := [7]) (by kernel_rfl) (by simp) ?_
              refine (AllReadyH.cons nth7 (fun K hK => ?_) AllReadyH.nil)
              go_simp
              refine (QG2.out _ _ _ Sx.out).mono ?_
              rintro e w' ⟨A4, c4, rfl, hS4, hb⟩
              clear d_0 d_1 d_2 d_3 d_4 d_5 x_0 x_1 x_2 x_3 x_4 x_5 t_0 t_1 t_2 t_3
              replace Xd := hide (Xd.out.kept hb)
              replace Xx := hide (Xx.out.kept hb)
              replace Sd := hide (Sd.out.kept hb)
              replace Sx := hide (Sx.out.kept hb)
              replace XA := hide (XA.out.kept hb)
              replace HB := hide (Bel.then HB.out hb)
              have S4 := hide hS4
              clear hS4 hb
              obtain ⟨d_0, d_1, d_2, d_3, d_4, d_5⟩ := Xd.out.cells
              obtain ⟨x_0, x_1, x_2, x_3, x_4, x_5⟩ := Xx.out.cells
              obtain ⟨t_0, t_1, t_2, t_3⟩ := XA.out.cells
              refine hK.out _ _ XA.out (fun hHeld => ?_)
              clear hK K
              (try simp only [Act.put]); (try simp only [List.setIfInBounds_toArray]); (try simp only [List.set_cons_succ]); (try simp only [List.set_cons_zero])
              first | (refine wpAnyH_take (i := 8) (v := ?_) nth8 (by kernel_rfl) (by kernel_rfl) (by kernel_rfl) (fun _ _ _ h => h) (Or.inl ⟨by rfl, ?_⟩) hHeld ?_; rotate_left; focus (intro wS hSw; obtain ⟨t_0, t_1, t_2, t_3⟩ := hSw.cells; go_simp; try with_reducible rfl; done)) | fail
              (try simp only [Act.put]); (try simp only [List.setIfInBounds_toArray]); (try simp only [List.set_cons_succ]); (try simp only [List.set_cons_zero])
              first | (refine wpAnyH_take (i := 9) (v := ?_) nth9 (by kernel_rfl) (by kernel_rfl) (by kernel_rfl) (fun _ _ _ h => h) (Or.inl ⟨by rfl, ?_⟩) hHeld ?_; rotate_left; focus (intro wS hSw; obtain ⟨t_0, t_1, t_2, t_3⟩ := hSw.cells; go_simp; try with_reducible rfl; done)) | fail
              (try simp only [Act.put]); (try simp only [List.setIfInBounds_toArray]); (try simp only [List.set_cons_succ]); (try simp only [List.set_cons_zero])
              first | (refine wpAnyH_take (i := 10) (v := ?_) nth10 (by kernel_rfl) (by kernel_rfl) (by kernel_rfl) (fun _ _ _ h => h) (Or.inl ⟨by rfl, ?_⟩) hHeld ?_; rotate_left; focus (intro wS hSw; obtain ⟨t_0, t_1, t_2, t_3⟩ := hSw.cells; go_simp; try with_reducible rfl; done)) | fail
              (try simp only [Act.put]); (try simp only [List.setIfInBounds_toArray]); (try simp only [List.set_cons_succ]); (try simp only [List.set_cons_zero])
              refine wpAnyH_ready (rs := [11]) (by kernel_rfl) (by simp) ?_
              refine (AllReadyH.cons nth11 (fun K hK => ?_) AllReadyH.nil)
              go_simp
              have hX := Xx.out.set3 (.slice A4 n1 c4) xl xd
              have hO := far3 Xd.out hndx (.slice A4 n1 c4) (.int .i64 xl) (.bool xd)
              have hA := XA.out.far3 Xx.out (.slice A4 n1 c4) (.int .i64 xl) (.bool xd)
              have hB := below_set3 HB.out hwx (.slice A4 n1 c4) (.int .i64 xl) (.bool xd)
              have hSd := Sd.out.put (u := (.slice A4 n1 c4)) (y := xl) (b := xd) Xx.out (by intro s h; cases h) (by intro s h; cases h)
              have hS4 := S4.out.put (u := (.slice A4 n1 c4)) (y := xl) (b := xd) Xx.out (by intro s h; cases h) (by intro s h; cases h)
              clear d_0 d_1 d_2 d_3 d_4 d_5 x_0 x_1 x_2 x_3 x_4 x_5 t_0 t_1 t_2 t_3
              replace Xx := hide hX
              replace Xd := hide hO
              replace XA := hide hA
              replace HB := hide hB
              replace Sd := hide hSd
              replace Sx := hide hS4
              clear hX hO hA hB hSd hS4
              obtain ⟨d_0, d_1, d_2, d_3, d_4, d_5⟩ := Xd.out.cells
              obtain ⟨x_0, x_1, x_2, x_3, x_4, x_5⟩ := Xx.out.cells
              obtain ⟨t_0, t_1, t_2, t_3⟩ := XA.out.cells
              refine hK.out _ _ XA.out (fun hHeld => ?_)
              clear hK K
              (try simp only [Act.put]); (try simp only [List.setIfInBounds_toArray]); (try simp only [List.set_cons_succ]); (try simp only [List.set_cons_zero])
              first | (refine wpAnyH_take (i := 12) (v := ?_) nth12 (by kernel_rfl) (by kernel_rfl) (by kernel_rfl) (fun _ _ _ h => h) (Or.inl ⟨by rfl, ?_⟩) hHeld ?_; rotate_left; focus (intro wS hSw; obtain ⟨t_0, t_1, t_2, t_3⟩ := hSw.cells; go_simp; try with_reducible rfl; done)) | fail
              (try simp only [Act.put]); (try simp only [List.setIfInBounds_toArray]); (try simp only [List.set_cons_succ]); (try simp only [List.set_cons_zero])
              refine wpAnyH_done (by kernel_rfl) ?_ _
              go_wp2_with fail
              refine (QS.out ⟨xs, xl, xd⟩ _ _ _ _ _ Sd.out Sx.out).mono ?_
              rintro e w' ⟨rfl, hb⟩
              clear d_0 d_1 d_2 d_3 d_4 d_5 x_0 x_1 x_2 x_3 x_4 x_5 t_0 t_1 t_2 t_3
              replace Xd := hide (Xd.out.kept hb)
              replace Xx := hide (Xx.out.kept hb)
              replace Sd := hide (Sd.out.kept hb)
              replace Sx := hide (Sx.out.kept hb)
              replace XA := hide (XA.out.kept hb)
              replace HB := hide (Bel.then HB.out hb)
              clear hb
              go_wp2_with fail
              go_roundw
              case rel => exact ⟨k + 1, xe, ⟨xs, xl, xd⟩, _, _, _, _, by omega, rfl, rfl, by go_num, Xd, Sd, Xx, Sx, HB, hL2, hS2⟩
              case measure => simp [intOf]; omega
            · go_simp
              refine (QPg.out _).mono ?_
              rintro e w' ⟨rfl, hb⟩
              clear d_0 d_1 d_2 d_3 d_4 d_5 x_0 x_1 x_2 x_3 x_4 x_5 t_0 t_1 t_2 t_3
              replace Xd := hide (Xd.out.kept hb)
              replace Xx := hide (Xx.out.kept hb)
              replace Sd := hide (Sd.out.kept hb)
              replace Sx := hide (Sx.out.kept hb)
              replace XA := hide (XA.out.kept hb)
              replace HB := hide (Bel.then HB.out hb)
              clear hb
              obtain ⟨d_0, d_1, d_2, d_3, d_4, d_5⟩ := Xd.out.cells
              obtain ⟨x_0, x_1, x_2, x_3, x_4, x_5⟩ := Xx.out.cells
              obtain ⟨t_0, t_1, t_2, t_3⟩ := XA.out.cells
              refine hK.out _ _ XA.out (fun hHeld => ?_)
              clear hK K
              (try simp only [Act.put]); (try simp only [List.setIfInBounds_toArray]); (try simp only [List.set_cons_succ]); (try simp only [List.set_cons_zero])
              refine wpAnyH_ready (rs := [0]) (by kernel_rfl) (by simp) ?_
              refine (AllReadyH.cons nth0 (fun K hK => ?_) AllReadyH.nil)
              go_simp
              refine hK.out _ _ XA.out (fun hHeld => ?_)
              clear hK K
              (try simp only [Act.put]); (try simp only [List.setIfInBounds_toArray]); (try simp only [List.set_cons_succ]); (try simp only [List.set_cons_zero])
              refine wpAnyH_ready (rs := [7]) (by kernel_rfl) (by simp) ?_
              refine (AllReadyH.cons nth7 (fun K hK => ?_) AllReadyH.nil)
              go_simp
              refine (QG2.out _ _ _ Sx.out).mono ?_
              rintro e w' ⟨A4, c4, rfl, hS4, hb⟩
              clear d_0 d_1 d_2 d_3 d_4 d_5 x_0 x_1 x_2 x_3 x_4 x_5 t_0 t_1 t_2 t_3
              replace Xd := hide (Xd.out.kept hb)
              replace Xx := hide (Xx.out.kept hb)
              replace Sd := hide (Sd.out.kept hb)
              replace Sx := hide (Sx.out.kept hb)
              replace XA := hide (XA.out.kept hb)
              replace HB := hide (Bel.then HB.out hb)
              have S4 := hide hS4
              clear hS4 hb
              obtain ⟨d_0, d_1, d_2, d_3, d_4, d_5⟩ := Xd.out.cells
              obtain ⟨x_0, x_1, x_2, x_3, x_4, x_5⟩ := Xx.out.cells
              obtain ⟨t_0, t_1, t_2, t_3⟩ := XA.out.cells
              refine hK.out _ _ XA.out (fun hHeld => ?_)
              clear hK K
              (try simp only [Act.put]); (try simp only [List.setIfInBounds_toArray]); (try simp only [List.set_cons_succ]); (try simp only [List.set_cons_zero])
              first | (refine wpAnyH_take (i := 8) (v := ?_) nth8 (by kernel_rfl) (by kernel_rfl) (by kernel_rfl) (fun _ _ _ h => h) (Or.inl ⟨by rfl, ?_⟩) hHeld ?_; rotate_left; focus (intro wS hSw; obtain ⟨t_0, t_1, t_2, t_3⟩ := hSw.cells; go_simp; try with_reducible rfl; done)) | fail
              (try simp only [Act.put]); (try simp only [List.setIfInBounds_toArray]); (try simp only [List.set_cons_succ]); (try simp only [List.set_cons_zero])
              first | (refine wpAnyH_take (i := 9) (v := ?_) nth9 (by kernel_rfl) (by kernel_rfl) (by kernel_rfl) (fun _ _ _ h => h) (Or.inl ⟨by rfl, ?_⟩) hHeld ?_; rotate_left; focus (intro wS hSw; obtain ⟨t_0, t_1, t_2, t_3⟩ := hSw.cells; go_simp; try with_reducible rfl; done)) | fail
              (try simp only [Act.put]); (try simp only [List.setIfInBounds_toArray]); (try simp only [List.set_cons_succ]); (try simp only [List.set_cons_zero])
              first | (refine wpAnyH_take (i := 10) (v := ?_) nth10 (by kernel_rfl) (by kernel_rfl) (by kernel_rfl) (fun _ _ _ h => h) (Or.inl ⟨by rfl, ?_⟩) hHeld ?_; rotate_left; focus (intro wS hSw; obtain ⟨t_0, t_1, t_2, t_3⟩ := hSw.cells; go_simp; try with_reducible rfl; done)) | fail
              (try simp only [Act.put]); (try simp only [List.setIfInBounds_toArray]); (try simp only [List.set_cons_succ]); (try simp only [List.set_cons_zero])
              refine wpAnyH_ready (rs := [11]) (by kernel_rfl) (by simp) ?_
              refine (AllReadyH.cons nth11 (fun K hK => ?_) AllReadyH.nil)
              go_simp
              have hX := Xx.out.set3 (.slice A4 n1 c4) xl xd
              have hO := far3 Xd.out hndx (.slice A4 n1 c4) (.int .i64 xl) (.bool xd)
              have hA := XA.out.far3 Xx.out (.slice A4 n1 c4) (.int .i64 xl) (.bool xd)
              have hB := below_set3 HB.out hwx (.slice A4 n1 c4) (.int .i64 xl) (.bool xd)
              have hSd := Sd.out.put (u := (.slice A4 n1 c4)) (y := xl) (b := xd) Xx.out (by intro s h; cases h) (by intro s h; cases h)
              have hS4 := S4.out.put (u := (.slice A4 n1 c4)) (y := xl) (b := xd) Xx.out (by intro s h; cases h) (by intro s h; cases h)
              clear d_0 d_1 d_2 d_3 d_4 d_5 x_0 x_1 x_2 x_3 x_4 x_5 t_0 t_1 t_2 t_3
              replace Xx := hide hX
              replace Xd := hide hO
              replace XA := hide hA
              replace HB := hide hB
              replace Sd := hide hSd
              replace Sx := hide hS4
              clear hX hO hA hB hSd hS4
              obtain ⟨d_0, d_1, d_2, d_3, d_4, d_5⟩ := Xd.out.cells
              obtain ⟨x_0, x_1, x_2, x_3, x_4, x_5⟩ := Xx.out.cells
              obtain ⟨t_0, t_1, t_2, t_3⟩ := XA.out.cells
              refine hK.out _ _ XA.out (fun hHeld => ?_)
              clear hK K
              (try simp only [Act.put]); (try simp only [List.setIfInBounds_toArray]); (try simp only [List.set_cons_succ]); (try simp only [List.set_cons_zero])
              first | (refine wpAnyH_take (i := 12) (v := ?_) nth12 (by kernel_rfl) (by kernel_rfl) (by kernel_rfl) (fun _ _ _ h => h) (Or.inl ⟨by rfl, ?_⟩) hHeld ?_; rotate_left; focus (intro wS hSw; obtain ⟨t_0, t_1, t_2, t_3⟩ := hSw.cells; go_simp; try with_reducible rfl; done)) | fail
              (try simp only [Act.put]); (try simp only [List.setIfInBounds_toArray]); (try simp only [List.set_cons_succ]); (try simp only [List.set_cons_zero])
              refine wpAnyH_done (by kernel_rfl) ?_ _
              go_wp2_with fail
              refine (QS.out ⟨xs, xl, xd⟩ _ _ _ _ _ Sd.out Sx.out).mono ?_
              rintro e w' ⟨rfl, hb⟩
              clear d_0 d_1 d_2 d_3 d_4 d_5 x_0 x_1 x_2 x_3 x_4 x_5 t_0 t_1 t_2 t_3
              replace Xd := hide (Xd.out.kept hb)
              replace Xx := hide (Xx.out.kept hb)
              replace Sd := hide (Sd.out.kept hb)
              replace Sx := hide (Sx.out.kept hb)
              replace XA := hide (XA.out.kept hb)
              replace HB := hide (Bel.then HB.out hb)
              clear hb
              go_wp2_with fail
              go_roundw
              case rel => exact ⟨k + 1, xe, ⟨xs, xl, xd⟩, _, _, _, _, by omega, rfl, rfl, by go_num, Xd, Sd, Xx, Sx, HB, hL2, hS2⟩
              case measure => simp [intOf]; omega
          · go_simp
            refine (QPg.out _).mono ?_
            rintro e w' ⟨rfl, hb⟩
            clear d_0 d_1 d_2 d_3 d_4 d_5 x_0 x_1 x_2 x_3 x_4 x_5 t_0 t_1 t_2 t_3
            replace Xd := hide (Xd.out.kept hb)
            replace Xx := hide (Xx.out.kept hb)
            replace Sd := hide (Sd.out.kept hb)
            replace Sx := hide (Sx.out.kept hb)
            replace XA := hide (XA.out.kept hb)
            replace HB := hide (Bel.then HB.out hb)
            clear hb
            obtain ⟨d_0, d_1, d_2, d_3, d_4, d_5⟩ := Xd.out.cells
            obtain ⟨x_0, x_1, x_2, x_3, x_4, x_5⟩ := Xx.out.cells
            obtain ⟨t_0, t_1, t_2, t_3⟩ := XA.out.cells
            refine hK.out _ _ XA.out (fun hHeld => ?_)
            clear hK K
            (try simp only [Act.put]); (try simp only [List.setIfInBounds_toArray]); (try simp only [List.set_cons_succ]); (try simp only [List.set_cons_zero])
            refine wpAnyH_ready (rs := [0]) (by kernel_rfl) (by simp) ?_
            refine (AllReadyH.cons nth0 (fun K hK => ?_) AllReadyH.nil)
            go_simp
            refine hK.out _ _ XA.out (fun hHeld => ?_)
            clear hK K
            (try simp only [Act.put]); (try simp only [List.setIfInBounds_toArray]); (try simp only [List.set_cons_succ]); (try simp only [List.set_cons_zero])
            refine wpAnyH_ready (rs := [7]) (by kernel_rfl) (by simp) ?_
            refine (AllReadyH.cons nth7 (fun K hK => ?_) AllReadyH.nil)
            go_simp
            refine (QG1.out _ _ _ Sd.out).mono ?_
            rintro e w' ⟨A3, c3, rfl, hS3, hb⟩
            clear d_0 d_1 d_2 d_3 d_4 d_5 x_0 x_1 x_2 x_3 x_4 x_5 t_0 t_1 t_2 t_3
            replace Xd := hide (Xd.out.kept hb)
            replace Xx := hide (Xx.out.kept hb)
            replace Sd := hide (Sd.out.kept hb)
            replace Sx := hide (Sx.out.kept hb)
            replace XA := hide (XA.out.kept hb)
            replace HB := hide (Bel.then HB.out hb)
            have S3 := hide hS3
            clear hS3 hb
            obtain ⟨d_0, d_1, d_2, d_3, d_4, d_5⟩ := Xd.out.cells
            obtain ⟨x_0, x_1, x_2, x_3, x_4, x_5⟩ := Xx.out.cells
            obtain ⟨t_0, t_1, t_2, t_3⟩ := XA.out.cells
            refine hK.out _ _ XA.out (fun hHeld => ?_)
            clear hK K
            (try simp only [Act.put]); (try simp only [List.setIfInBounds_toArray]); (try simp only [List.set_cons_succ]); (try simp only [List.set_cons_zero])
            first | (refine wpAnyH_take (i := 8) (v := ?_) nth8 (by kernel_rfl) (by kernel_rfl) (by kernel_rfl) (fun _ _ _ h => h) (Or.inl ⟨by rfl, ?_⟩) hHeld ?_; rotate_left; focus (intro wS hSw; obtain ⟨t_0, t_1, t_2, t_3⟩ := hSw.cells; go_simp; try with_reducible rfl; done)) | fail
            (try simp only [Act.put]); (try simp only [List.setIfInBounds_toArray]); (try simp only [List.set_cons_succ]); (try simp only [List.set_cons_zero])
            first | (refine wpAnyH_take (i := 9) (v := ?_) nth9 (by kernel_rfl) (by kernel_rfl) (by kernel_rfl) (fun _ _ _ h => h) (Or.inl ⟨by rfl, ?_⟩) hHeld ?_; rotate_left; focus (intro wS hSw; obtain ⟨t_0, t_1, t_2, t_3⟩ := hSw.cells; go_simp; try with_reducible rfl; done)) | fail
            (try simp only [Act.put]); (try simp only [List.setIfInBounds_toArray]); (try simp only [List.set_cons_succ]); (try simp only [List.set_cons_zero])
            first | (refine wpAnyH_take (i := 10) (v := ?_) nth10 (by kernel_rfl) (by kernel_rfl) (by kernel_rfl) (fun _ _ _ h => h) (Or.inl ⟨by rfl, ?_⟩) hHeld ?_; rotate_left; focus (intro wS hSw; obtain ⟨t_0, t_1, t_2, t_3⟩ := hSw.cells; go_simp; try with_reducible rfl; done)) | fail
            (try simp only [Act.put]); (try simp only [List.setIfInBounds_toArray]); (try simp only [List.set_cons_succ]); (try simp only [List.set_cons_zero])
            refine wpAnyH_ready (rs := [11]) (by kernel_rfl) (by simp) ?_
            refine (AllReadyH.cons nth11 (fun K hK => ?_) AllReadyH.nil)
            go_simp
            have hX := Xd.out.set3 (.slice A3 n1 c3) xl xd
            have hO := far3 Xx.out hnxd (.slice A3 n1 c3) (.int .i64 xl) (.bool xd)
            have hA := XA.out.far3 Xd.out (.slice A3 n1 c3) (.int .i64 xl) (.bool xd)
            have hB := below_set3 HB.out hwd (.slice A3 n1 c3) (.int .i64 xl) (.bool xd)
            have hSx := Sx.out.put (u := (.slice A3 n1 c3)) (y := xl) (b := xd) Xd.out (by intro s h; cases h) (by intro s h; cases h)
            have hS3 := S3.out.put (u := (.slice A3 n1 c3)) (y := xl) (b := xd) Xd.out (by intro s h; cases h) (by intro s h; cases h)
            clear d_0 d_1 d_2 d_3 d_4 d_5 x_0 x_1 x_2 x_3 x_4 x_5 t_0 t_1 t_2 t_3
            replace Xd := hide hX
            replace Xx := hide hO
            replace XA := hide hA
            replace HB := hide hB
            replace Sx := hide hSx
            replace Sd := hide hS3
            clear hX hO hA hB hSx hS3
            obtain ⟨d_0, d_1, d_2, d_3, d_4, d_5⟩ := Xd.out.cells
            obtain ⟨x_0, x_1, x_2, x_3, x_4, x_5⟩ := Xx.out.cells
            obtain ⟨t_0, t_1, t_2, t_3⟩ := XA.out.cells
            refine hK.out _ _ XA.out (fun hHeld => ?_)
            clear hK K
            (try simp only [Act.put]); (try simp only [List.setIfInBounds_toArray]); (try simp only [List.set_cons_succ]); (try simp only [List.set_cons_zero])
            first | (refine wpAnyH_take (i := 12) (v := ?_) nth12 (by kernel_rfl) (by kernel_rfl) (by kernel_rfl) (fun _ _ _ h => h) (Or.inl ⟨by rfl, ?_⟩) hHeld ?_; rotate_left; focus (intro wS hSw; obtain ⟨t_0, t_1, t_2, t_3⟩ := hSw.cells; go_simp; try with_reducible rfl; done)) | fail
            (try simp only [Act.put]); (try simp only [List.setIfInBounds_toArray]); (try simp only [List.set_cons_succ]); (try simp only [List.set_cons_zero])
            refine wpAnyH_done (by kernel_rfl) ?_ _
            generalize ((w'.setCell ⟨gd, 0, none⟩ (.slice A3 n1 c3)).setCell ⟨gd, 1, none⟩ (.int .i64 xl)).setCell ⟨gd, 2, none⟩ (.bool xd) = w1 at *
            obtain ⟨w', hww⟩ : ∃ w', w' = w1 := ⟨_, rfl⟩
            subst hww
            go_wp2_with fail
            refine wp_region_held_drew (S := fun w' => ABox w' ga a) (by kernel_rfl) XA.out.drew (fun hHeld => ?_)
            have hb : Below w'.heap.size w' w'.drew := (Below.refl _ _).drew
            clear d_0 d_1 d_2 d_3 d_4 d_5 x_0 x_1 x_2 x_3 x_4 x_5 t_0 t_1 t_2 t_3
            replace Xd := hide (Xd.out.kept hb)
            replace Xx := hide (Xx.out.kept hb)
            replace Sd := hide (Sd.out.kept hb)
            replace Sx := hide (Sx.out.kept hb)
            replace XA := hide (XA.out.kept hb)
            replace HB := hide (Bel.then HB.out hb)
            clear hb
            obtain ⟨d_0, d_1, d_2, d_3, d_4, d_5⟩ := Xd.out.cells
            obtain ⟨x_0, x_1, x_2, x_3, x_4, x_5⟩ := Xx.out.cells
            obtain ⟨t_0, t_1, t_2, t_3⟩ := XA.out.cells
            first | (refine wpAnyH_take (i := 1) (v := ?_) nth1 (by kernel_rfl) (by kernel_rfl) (by kernel_rfl) (fun _ _ _ h => h) (Or.inl ⟨by rfl, ?_⟩) hHeld ?_; rotate_left; focus (intro wS hSw; obtain ⟨t_0, t_1, t_2, t_3⟩ := hSw.cells; go_simp; try with_reducible rfl; done)) | fail
            (try simp only [Act.put]); (try simp only [List.setIfInBounds_toArray]); (try simp only [List.set_cons_succ]); (try simp only [List.set_cons_zero])
            first | (refine wpAnyH_take (i := 3) (v := ?_) nth3 (by kernel_rfl) (by kernel_rfl) (by kernel_rfl) (fun _ _ _ h => h) (Or.inl ⟨by rfl, ?_⟩) hHeld ?_; rotate_left; focus (intro wS hSw; obtain ⟨t_0, t_1, t_2, t_3⟩ := hSw.cells; go_simp; try with_reducible rfl; done)) | fail
            (try simp only [Act.put]); (try simp only [List.setIfInBounds_toArray]); (try simp only [List.set_cons_succ]); (try simp only [List.set_cons_zero])
            first | (refine wpAnyH_take (i := 2) (v := ?_) nth2 (by kernel_rfl) (by kernel_rfl) (by kernel_rfl) (fun _ _ _ h => h) (Or.inl ⟨by rfl, ?_⟩) hHeld ?_; rotate_left; focus (intro wS hSw; obtain ⟨t_0, t_1, t_2, t_3⟩ := hSw.cells; go_simp; try with_reducible rfl; done)) | fail
            (try simp only [Act.put]); (try simp only [List.setIfInBounds_toArray]); (try simp only [List.set_cons_succ]); (try simp only [List.set_cons_zero])
            first | (refine wpAnyH_take (i := 4) (v := ?_) nth4 (by kernel_rfl) (by kernel_rfl) (by kernel_rfl) (fun _ _ _ h => h) (Or.inl ⟨by rfl, ?_⟩) hHeld ?_; rotate_left; focus (intro wS hSw; obtain ⟨t_0, t_1, t_2, t_3⟩ := hSw.cells; go_simp; try with_reducible rfl; done)) | fail
            (try simp only [Act.put]); (try simp only [List.setIfInBounds_toArray]); (try simp only [List.set_cons_succ]); (try simp only [List.set_cons_zero])
            first | (refine wpAnyH_take (i := 5) (v := ?_) nth5 (by kernel_rfl) (by kernel_rfl) (by kernel_rfl) (fun _ _ _ h => h) (Or.inl ⟨by rfl, ?_⟩) hHeld ?_; rotate_left; focus (intro wS hSw; obtain ⟨t_0, t_1, t_2, t_3⟩ := hSw.cells; go_simp; try with_reducible rfl; done)) | fail
            (try simp only [Act.put]); (try simp only [List.setIfInBounds_toArray]); (try simp only [List.set_cons_succ]); (try simp only [List.set_cons_zero])
            refine wpAnyH_ready (rs := [0, 6]) (by kernel_rfl) (by simp) ?_
            refine (AllReadyH.cons nth0 (fun K hK => ?_) (AllReadyH.cons nth6 (fun K hK => ?_) AllReadyH.nil))
            · go_simp
              refine hK.out _ _ XA.out (fun hHeld => ?_)
              clear hK K
              (try simp only [Act.put]); (try simp only [List.setIfInBounds_toArray]); (try simp only [List.set_cons_succ]); (try simp only [List.set_cons_zero])
              refine wpAnyH_ready (rs := [6]) (by kernel_rfl) (by simp) ?_
              refine (AllReadyH.cons nth6 (fun K hK => ?_) AllReadyH.nil)
              go_simp
              refine (QPg.out _).mono ?_
              rintro e w' ⟨rfl, hb⟩
              clear d_0 d_1 d_2 d_3 d_4 d_5 x_0 x_1 x_2 x_3 x_4 x_5 t_0 t_1 t_2 t_3
              replace Xd := hide (Xd.out.kept hb)
              replace Xx := hide (Xx.out.kept hb)
              replace Sd := hide (Sd.out.kept hb)
              replace Sx := hide (Sx.out.kept hb)
              replace XA := hide (XA.out.kept hb)
              replace HB := hide (Bel.then HB.out hb)
              clear hb
              obtain ⟨d_0, d_1, d_2, d_3, d_4, d_5⟩ := Xd.out.cells
              obtain ⟨x_0, x_1, x_2, x_3, x_4, x_5⟩ := Xx.out.cells
              obtain ⟨t_0, t_1, t_2, t_3⟩ := XA.out.cells
              refine hK.out _ _ XA.out (fun hHeld => ?_)
              clear hK K
              (try simp only [Act.put]); (try simp only [List.setIfInBounds_toArray]); (try simp only [List.set_cons_succ]); (try simp only [List.set_cons_zero])
              refine wpAnyH_ready (rs := [7]) (by kernel_rfl) (by simp) ?_
              refine (AllReadyH.cons nth7 (fun K hK => ?_) AllReadyH.nil)
              go_simp
              refine (QG2.out _ _ _ Sx.out).mono ?_
              rintro e w' ⟨A4, c4, rfl, hS4, hb⟩
              clear d_0 d_1 d_2 d_3 d_4 d_5 x_0 x_1 x_2 x_3 x_4 x_5 t_0 t_1 t_2 t_3
              replace Xd := hide (Xd.out.kept hb)
              replace Xx := hide (Xx.out.kept hb)
              replace Sd := hide (Sd.out.kept hb)
              replace Sx := hide (Sx.out.kept hb)
              replace XA := hide (XA.out.kept hb)
              replace HB := hide (Bel.then HB.out hb)
              have S4 := hide hS4
              clear hS4 hb
              obtain ⟨d_0, d_1, d_2, d_3, d_4, d_5⟩ := Xd.out.cells
              obtain ⟨x_0, x_1, x_2, x_3, x_4, x_5⟩ := Xx.out.cells
              obtain ⟨t_0, t_1, t_2, t_3⟩ := XA.out.cells
              refine hK.out _ _ XA.out (fun hHeld => ?_)
              clear hK K
              (try simp only [Act.put]); (try simp only [List.setIfInBounds_toArray]); (try simp only [List.set_cons_succ]); (try simp only [List.set_cons_zero])
              first | (refine wpAnyH_take (i := 8) (v := ?_) nth8 (by kernel_rfl) (by kernel_rfl) (by kernel_rfl) (fun _ _ _ h => h) (Or.inl ⟨by rfl, ?_⟩) hHeld ?_; rotate_left; focus (intro wS hSw; obtain ⟨t_0, t_1, t_2, t_3⟩ := hSw.cells; go_simp; try with_reducible rfl; done)) | fail
              (try simp only [Act.put]); (try simp only [List.setIfInBounds_toArray]); (try simp only [List.set_cons_succ]); (try simp only [List.set_cons_zero])
              first | (refine wpAnyH_take (i := 9) (v := ?_) nth9 (by kernel_rfl) (by kernel_rfl) (by kernel_rfl) (fun _ _ _ h => h) (Or.inl ⟨by rfl, ?_⟩) hHeld ?_; rotate_left; focus (intro wS hSw; obtain ⟨t_0, t_1, t_2, t_3⟩ := hSw.cells; go_simp; try with_reducible rfl; done)) | fail
              (try simp only [Act.put]); (try simp only [List.setIfInBounds_toArray]); (try simp only [List.set_cons_succ]); (try simp only [List.set_cons_zero])
              first | (refine wpAnyH_take (i := 10) (v := ?_) nth10 (by kernel_rfl) (by kernel_rfl) (by kernel_rfl) (fun _ _ _ h => h) (Or.inl ⟨by rfl, ?_⟩) hHeld ?_; rotate_left; focus (intro wS hSw; obtain ⟨t_0, t_1, t_2, t_3⟩ := hSw.cells; go_simp; try with_reducible rfl; done)) | fail
              (try simp only [Act.put]); (try simp only [List.setIfInBounds_toArray]); (try simp only [List.set_cons_succ]); (try simp only [List.set_cons_zero])
              refine wpAnyH_ready (rs := [11]) (by kernel_rfl) (by simp) ?_
              refine (AllReadyH.cons nth11 (fun K hK => ?_) AllReadyH.nil)
              go_simp
              have hX := Xx.out.set3 (.slice A4 n1 c4) xl xd
              have hO := far3 Xd.out hndx (.slice A4 n1 c4) (.int .i64 xl) (.bool xd)
              have hA := XA.out.far3 Xx.out (.slice A4 n1 c4) (.int .i64 xl) (.bool xd)
              have hB := below_set3 HB.out hwx (.slice A4 n1 c4) (.int .i64 xl) (.bool xd)
              have hSd := Sd.out.put (u := (.slice A4 n1 c4)) (y := xl) (b := xd) Xx.out (by intro s h; cases h) (by intro s h; cases h)
              have hS4 := S4.out.put (u := (.slice A4 n1 c4)) (y := xl) (b := xd) Xx.out (by intro s h; cases h) (by intro s h; cases h)
              clear d_0 d_1 d_2 d_3 d_4 d_5 x_0 x_1 x_2 x_3 x_4 x_5 t_0 t_1 t_2 t_3
              replace Xx := hide hX
              replace Xd := hide hO
              replace XA := hide hA
              replace HB := hide hB
              replace Sd := hide hSd
              replace Sx := hide hS4
              clear hX hO hA hB hSd hS4
              obtain ⟨d_0, d_1, d_2, d_3, d_4, d_5⟩ := Xd.out.cells
              obtain ⟨x_0, x_1, x_2, x_3, x_4, x_5⟩ := Xx.out.cells
              obtain ⟨t_0, t_1, t_2, t_3⟩ := XA.out.cells
              refine hK.out _ _ XA.out (fun hHeld => ?_)
              clear hK K
              (try simp only [Act.put]); (try simp only [List.setIfInBounds_toArray]); (try simp only [List.set_cons_succ]); (try simp only [List.set_cons_zero])
              first | (refine wpAnyH_take (i := 12) (v := ?_) nth12 (by kernel_rfl) (by kernel_rfl) (by kernel_rfl) (fun _ _ _ h => h) (Or.inl ⟨by rfl, ?_⟩) hHeld ?_; rotate_left; focus (intro wS hSw; obtain ⟨t_0, t_1, t_2, t_3⟩ := hSw.cells; go_simp; try with_reducible rfl; done)) | fail
              (try simp only [Act.put]); (try simp only [List.setIfInBounds_toArray]); (try simp only [List.set_cons_succ]); (try simp only [List.set_cons_zero])
              refine wpAnyH_done (by kernel_rfl) ?_ _
              go_wp2_with fail
              refine (QS.out ⟨xs, xl, xd⟩ _ _ _ _ _ Sd.out Sx.out).mono ?_
              rintro e w' ⟨rfl, hb⟩
              clear d_0 d_1 d_2 d_3 d_4 d_5 x_0 x_1 x_2 x_3 x_4 x_5 t_0 t_1 t_2 t_3
              replace Xd := hide (Xd.out.kept hb)
              replace Xx := hide (Xx.out.kept hb)
              replace Sd := hide (Sd.out.kept hb)
              replace Sx := hide (Sx.out.kept hb)
              replace XA := hide (XA.out.kept hb)
              replace HB := hide (Bel.then HB.out hb)
              clear hb
              go_wp2_with fail
              go_roundw
              case rel => exact ⟨k + 1, xe, ⟨xs, xl, xd⟩, _, _, _, _, by omega, rfl, rfl, by go_num, Xd, Sd, Xx, Sx, HB, hL2, hS2⟩
              case measure => simp [intOf]; omega
            · go_simp
              refine (QPg.out _).mono ?_
              rintro e w' ⟨rfl, hb⟩
              clear d_0 d_1 d_2 d_3 d_4 d_5 x_0 x_1 x_2 x_3 x_4 x_5 t_0 t_1 t_2 t_3
              replace Xd := hide (Xd.out.kept hb)
              replace Xx := hide (Xx.out.kept hb)
              replace Sd := hide (Sd.out.kept hb)
              replace Sx := hide (Sx.out.kept hb)
              replace XA := hide (XA.out.kept hb)
              replace HB := hide (Bel.then HB.out hb)
              clear hb
              obtain ⟨d_0, d_1, d_2, d_3, d_4, d_5⟩ := Xd.out.cells
              obtain ⟨x_0, x_1, x_2, x_3, x_4, x_5⟩ := Xx.out.cells
              obtain ⟨t_0, t_1, t_2, t_3⟩ := XA.out.cells
              refine hK.out _ _ XA.out (fun hHeld => ?_)
              clear hK K
              (try simp only [Act.put]); (try simp only [List.setIfInBounds_toArray]); (try simp only [List.set_cons_succ]); (try simp only [List.set_cons_zero])
              refine wpAnyH_ready (rs := [0]) (by kernel_rfl) (by simp) ?_
              refine (AllReadyH.cons nth0 (fun K hK => ?_) AllReadyH.nil)
              go_simp
              refine hK.out _ _ XA.out (fun hHeld => ?_)
              clear hK K
              (try simp only [Act.put]); (try simp only [List.setIfInBounds_toArray]); (try simp only [List.set_cons_succ]); (try simp only [List.set_cons_zero])
              refine wpAnyH_ready (rs := [7]) (by kernel_rfl) (by simp) ?_
              refine (AllReadyH.cons nth7 (fun K hK => ?_) AllReadyH.nil)
              go_simp
              refine (QG2.out _ _ _ Sx.out).mono ?_
              rintro e w' ⟨A4, c4, rfl, hS4, hb⟩
              clear d_0 d_1 d_2 d_3 d_4 d_5 x_0 x_1 x_2 x_3 x_4 x_5 t_0 t_1 t_2 t_3
              replace Xd := hide (Xd.out.kept hb)
              replace Xx := hide (Xx.out.kept hb)
              replace Sd := hide (Sd.out.kept hb)
              replace Sx := hide (Sx.out.kept hb)
              replace XA := hide (XA.out.kept hb)
              replace HB := hide (Bel.then HB.out hb)
              have S4 := hide hS4
              clear hS4 hb
              obtain ⟨d_0, d_1, d_2, d_3, d_4, d_5⟩ := Xd.out.cells
              obtain ⟨x_0, x_1, x_2, x_3, x_4, x_5⟩ := Xx.out.cells
              obtain ⟨t_0, t_1, t_2, t_3⟩ := XA.out.cells
              refine hK.out _ _ XA.out (fun hHeld => ?_)
              clear hK K
              (try simp only [Act.put]); (try simp only [List.setIfInBounds_toArray]); (try simp only [List.set_cons_succ]); (try simp only [List.set_cons_zero])
              first | (refine wpAnyH_take (i := 8) (v := ?_) nth8 (by kernel_rfl) (by kernel_rfl) (by kernel_rfl) (fun _ _ _ h => h) (Or.inl ⟨by rfl, ?_⟩) hHeld ?_; rotate_left; focus (intro wS hSw; obtain ⟨t_0, t_1, t_2, t_3⟩ := hSw.cells; go_simp; try with_reducible rfl; done)) | fail
              (try simp only [Act.put]); (try simp only [List.setIfInBounds_toArray]); (try simp only [List.set_cons_succ]); (try simp only [List.set_cons_zero])
              first | (refine wpAnyH_take (i := 9) (v := ?_) nth9 (by kernel_rfl) (by kernel_rfl) (by kernel_rfl) (fun _ _ _ h => h) (Or.inl ⟨by rfl, ?_⟩) hHeld ?_; rotate_left; focus (intro wS hSw; obtain ⟨t_0, t_1, t_2, t_3⟩ := hSw.cells; go_simp; try with_reducible rfl; done)) | fail
              (try simp only [Act.put]); (try simp only [List.setIfInBounds_toArray]); (try simp only [List.set_cons_succ]); (try simp only [List.set_cons_zero])
              first | (refine wpAnyH_take (i := 10) (v := ?_) nth10 (by kernel_rfl) (by kernel_rfl) (by kernel_rfl) (fun _ _ _ h => h) (Or.inl ⟨by rfl, ?_⟩) hHeld ?_; rotate_left; focus (intro wS hSw; obtain ⟨t_0, t_1, t_2, t_3⟩ := hSw.cells; go_simp; try with_reducible rfl; done)) | fail
              (try simp only [Act.put]); (try simp only [List.setIfInBounds_toArray]); (try simp only [List.set_cons_succ]); (try simp only [List.set_cons_zero])
              refine wpAnyH_ready (rs := [11]) (by kernel_rfl) (by simp) ?_
              refine (AllReadyH.cons nth11 (fun K hK => ?_) AllReadyH.nil)
              go_simp
              have hX := Xx.out.set3 (.slice A4 n1 c4) xl xd
              have hO := far3 Xd.out hndx (.slice A4 n1 c4) (.int .i64 xl) (.bool xd)
              have hA := XA.out.far3 Xx.out (.slice A4 n1 c4) (.int .i64 xl) (.bool xd)
              have hB := below_set3 HB.out hwx (.slice A4 n1 c4) (.int .i64 xl) (.bool xd)
              have hSd := Sd.out.put (u := (.slice A4 n1 c4)) (y := xl) (b := xd) Xx.out (by intro s h; cases h) (by intro s h; cases h)
              have hS4 := S4.out.put (u := (.slice A4 n1 c4)) (y := xl) (b := xd) Xx.out (by intro s h; cases h) (by intro s h; cases h)
              clear d_0 d_1 d_2 d_3 d_4 d_5 x_0 x_1 x_2 x_3 x_4 x_5 t_0 t_1 t_2 t_3
              replace Xx := hide hX
              replace Xd := hide hO
              replace XA := hide hA
              replace HB := hide hB
              replace Sd := hide hSd
              replace Sx := hide hS4
              clear hX hO hA hB hSd hS4
              obtain ⟨d_0, d_1, d_2, d_3, d_4, d_5⟩ := Xd.out.cells
              obtain ⟨x_0, x_1, x_2, x_3, x_4, x_5⟩ := Xx.out.cells
              obtain ⟨t_0, t_1, t_2, t_3⟩ := XA.out.cells
              refine hK.out _ _ XA.out (fun hHeld => ?_)
              clear hK K
              (try simp only [Act.put]); (try simp only [List.setIfInBounds_toArray]); (try simp only [List.set_cons_succ]); (try simp only [List.set_cons_zero])
              first | (refine wpAnyH_take (i := 12) (v := ?_) nth12 (by kernel_rfl) (by kernel_rfl) (by kernel_rfl) (fun _ _ _ h => h) (Or.inl ⟨by rfl, ?_⟩) hHeld ?_; rotate_left; focus (intro wS hSw; obtain ⟨t_0, t_1, t_2, t_3⟩ := hSw.cells; go_simp; try with_reducible rfl; done)) | fail
              (try simp only [Act.put]); (try simp only [List.setIfInBounds_toArray]); (try simp only [List.set_cons_succ]); (try simp only [List.set_cons_zero])
              refine wpAnyH_done (by kernel_rfl) ?_ _
              go_wp2_with fail
              refine (QS.out ⟨xs, xl, xd⟩ _ _ _ _ _ Sd.out Sx.out).mono ?_
              rintro e w' ⟨rfl, hb⟩
              clear d_0 d_1 d_2 d_3 d_4 d_5 x_0 x_1 x_2 x_3 x_4 x_5 t_0 t_1 t_2 t_3
              replace Xd := hide (Xd.out.kept hb)
              replace Xx := hide (Xx.out.kept hb)
              replace Sd := hide (Sd.out.kept hb)
              replace Sx := hide (Sx.out.kept hb)
              replace XA := hide (XA.out.kept hb)
              replace HB := hide (Bel.then HB.out hb)
              clear hb
              go_wp2_with fail
              go_roundw
              case rel => exact ⟨k + 1, xe, ⟨xs, xl, xd⟩, _, _, _, _, by omega, rfl, rfl, by go_num, Xd, Sd, Xx, Sx, HB, hL2, hS2⟩
              case measure => simp [intOf]; omega
        · have q0 : (a.kind == 0) = false := by rw [beq_eq_false_iff_ne]; omega
          have q1 : (a.kind == 1) = false := by rw [beq_eq_false_iff_ne]; omega
          have q2 : (a.kind == 2) = false := by rw [beq_eq_false_iff_ne]; omega
          have q3 : (a.kind == 3) = true := by simpa using h9
          have QR1 := hide (fun A c W hW => cReadP (A := A) (n := n1) (c := c) (d := ⟨ds, dl, dd⟩) (w := W) a.at' hW hn hS hoa.1)
          have QR2 := hide (fun A c W hW => rcReadP (A := A) (n := n1) (c := c) (d := ⟨ds, dl, dd⟩) (w := W) a.at' hW hn hS hoa.1)
          unfold GivesR at QR1 QR2
          generalize readP ⟨ds, dl, dd⟩ a.at' = x at *
          obtain ⟨rs, re⟩ := x
          simp only at *
          clear h9
          go_wp2_with fail
          refine (QR1.out _ _ _ Sd.out).mono ?_
          rintro e w' ⟨rfl, hb⟩
          clear d_0 d_1 d_2 d_3 d_4 d_5 x_0 x_1 x_2 x_3 x_4 x_5 t_0 t_1 t_2 t_3
          replace Xd := hide (Xd.out.kept hb)
          replace Xx := hide (Xx.out.kept hb)
          replace Sd := hide (Sd.out.kept hb)
          replace Sx := hide (Sx.out.kept hb)
          replace XA := hide (XA.out.kept hb)
          replace HB := hide (Bel.then HB.out hb)
          clear hb
          obtain ⟨d_0, d_1, d_2, d_3, d_4, d_5⟩ := Xd.out.cells
          obtain ⟨x_0, x_1, x_2, x_3, x_4, x_5⟩ := Xx.out.cells
          obtain ⟨t_0, t_1, t_2, t_3⟩ := XA.out.cells
          go_wp2_with fail
          refine (QR2.out _ _ _ Sx.out).mono ?_
          rintro e w' ⟨rfl, hb⟩
          clear d_0 d_1 d_2 d_3 d_4 d_5 x_0 x_1 x_2 x_3 x_4 x_5 t_0 t_1 t_2 t_3
          replace Xd := hide (Xd.out.kept hb)
          replace Xx := hide (Xx.out.kept hb)
          replace Sd := hide (Sd.out.kept hb)
          replace Sx := hide (Sx.out.kept hb)
          replace XA := hide (XA.out.kept hb)
          replace HB := hide (Bel.then HB.out hb)
          clear hb
          obtain ⟨d_0, d_1, d_2, d_3, d_4, d_5⟩ := Xd.out.cells
          obtain ⟨x_0, x_1, x_2, x_3, x_4, x_5⟩ := Xx.out.cells
          obtain ⟨t_0, t_1, t_2, t_3⟩ := XA.out.cells
          go_wp2_with fail
          refine (QS.out ⟨ds, dl, dd⟩ _ _ _ _ _ Sd.out Sx.out).mono ?_
          rintro e w' ⟨rfl, hb⟩
          clear d_0 d_1 d_2 d_3 d_4 d_5 x_0 x_1 x_2 x_3 x_4 x_5 t_0 t_1 t_2 t_3
          replace Xd := hide (Xd.out.kept hb)
          replace Xx := hide (Xx.out.kept hb)
          replace Sd := hide (Sd.out.kept hb)
          replace Sx := hide (Sx.out.kept hb)
          replace XA := hide (XA.out.kept hb)
          replace HB := hide (Bel.then HB.out hb)
          clear hb
          go_wp2_with fail
          go_roundw
          case rel => exact ⟨k + 1, _, ⟨ds, dl, dd⟩, _, _, _, _, by omega, rfl, rfl, by go_num, Xd, Sd, Xx, Sx, HB, hL, hS⟩
          case measure => simp [intOf]; omega
        · have q0 : (a.kind == 0) = false := by rw [beq_eq_false_iff_ne]; omega
          have q1 : (a.kind == 1) = false := by rw [beq_eq_false_iff_ne]; omega
          have q2 : (a.kind == 2) = false := by rw [beq_eq_false_iff_ne]; omega
          have q3 : (a.kind == 3) = false := by rw [beq_eq_false_iff_ne]; omega
          have q4 : (a.kind == 4) = true := by simpa using h9
          have QA1 := hide (fun A c W hW => cArm (A := A) (n := n1) (c := c) (d := ⟨ds, dl, dd⟩) (w := W) a.num hW hn)
          have QA2 := hide (fun A c W hW => rcArm (A := A) (n := n1) (c := c) (d := ⟨ds, dl, dd⟩) (w := W) a.num hW)
          have hL2 := armD_left (d := ⟨ds, dl, dd⟩) hoa.2
          have hS2 : Sec128 (armD ⟨ds, dl, dd⟩ a.num) := hS
          unfold GivesK at QA1 QA2
          generalize armD ⟨ds, dl, dd⟩ a.num = x at *
          obtain ⟨xs, xl, xd⟩ := x
          simp only at *
          clear h9
          go_wp2_with fail
          refine wp_region_held_drew (S := fun w' => ABox w' ga a) (by kernel_rfl) XA.out.drew (fun hHeld => ?_)
          have hb : Below w'.heap.size w' w'.drew := (Below.refl _ _).drew
          clear d_0 d_1 d_2 d_3 d_4 d_5 x_0 x_1 x_2 x_3 x_4 x_5 t_0 t_1 t_2 t_3
          replace Xd := hide (Xd.out.kept hb)
          replace Xx := hide (Xx.out.kept hb)
          replace Sd := hide (Sd.out.kept hb)
          replace Sx := hide (Sx.out.kept hb)
          replace XA := hide (XA.out.kept hb)
          replace HB := hide (Bel.then HB.out hb)
          clear hb
          obtain ⟨d_0, d_1, d_2, d_3, d_4, d_5⟩ := Xd.out.cells
          obtain ⟨x_0, x_1, x_2, x_3, x_4, x_5⟩ := Xx.out.cells
          obtain ⟨t_0, t_1, t_2, t_3⟩ := XA.out.cells
          first | (refine wpAnyH_take (i := 1) (v := ?_) nth1 (by kernel_rfl) (by kernel_rfl) (by kernel_rfl) (fun _ _ _ h => h) (Or.inl ⟨by rfl, ?_⟩) hHeld ?_; rotate_left; focus (intro wS hSw; obtain ⟨t_0, t_1, t_2, t_3⟩ := hSw.cells; go_simp; try with_reducible rfl; done)) | fail
          (try simp only [Act.put]); (try simp only [List.setIfInBounds_toArray]); (try simp only [List.set_cons_succ]); (try simp only [List.set_cons_zero])
          first | (refine wpAnyH_take (i := 5) (v := ?_) nth5 (by kernel_rfl) (by kernel_rfl) (by kernel_rfl) (fun _ _ _ h => h) (Or.inl ⟨by rfl, ?_⟩) hHeld ?_; rotate_left; focus (intro wS hSw; obtain ⟨t_0, t_1, t_2, t_3⟩ := hSw.cells; go_simp; try with_reducible rfl; done)) | fail
          (try simp only [Act.put]); (try simp only [List.setIfInBounds_toArray]); (try simp only [List.set_cons_succ]); (try simp only [List.set_cons_zero])
          first | (refine wpAnyH_take (i := 2) (v := ?_) nth2 (by kernel_rfl) (by kernel_rfl) (by kernel_rfl) (fun _ _ _ h => h) (Or.inl ⟨by rfl, ?_⟩) hHeld ?_; rotate_left; focus (intro wS hSw; obtain ⟨t_0, t_1, t_2, t_3⟩ := hSw.cells; go_simp; try with_reducible rfl; done)) | fail
          (try simp only [Act.put]); (try simp only [List.setIfInBounds_toArray]); (try simp only [List.set_cons_succ]); (try simp only [List.set_cons_zero])
          first | (refine wpAnyH_take (i := 6) (v := ?_) nth6 (by kernel_rfl) (by kernel_rfl) (by kernel_rfl) (fun _ _ _ h => h) (Or.inl ⟨by rfl, ?_⟩) hHeld ?_; rotate_left; focus (intro wS hSw; obtain ⟨t_0, t_1, t_2, t_3⟩ := hSw.cells; go_simp; try with_reducible rfl; done)) | fail
          (try simp only [Act.put]); (try simp only [List.setIfInBounds_toArray]); (try simp only [List.set_cons_succ]); (try simp only [List.set_cons_zero])
          refine wpAnyH_ready (rs := [0, 4]) (by kernel_rfl) (by simp) ?_
          refine (AllReadyH.cons nth0 (fun K hK => ?_) (AllReadyH.cons nth4 (fun K hK => ?_) AllReadyH.nil))
          · go_simp
            refine hK.out _ _ XA.out (fun hHeld => ?_)
            clear hK K
            (try simp only [Act.put]); (try simp only [List.setIfInBounds_toArray]); (try simp only [List.set_cons_succ]); (try simp only [List.set_cons_zero])
            refine wpAnyH_ready (rs := [3, 4]) (by kernel_rfl) (by simp) ?_
            refine (AllReadyH.cons nth3 (fun K hK => ?_) (AllReadyH.cons nth4 (fun K hK => ?_) AllReadyH.nil))
            · go_simp
              refine (QA1.out _ _ _ Sd.out).mono ?_
              rintro e w' ⟨A3, c3, rfl, hS3, hb⟩
              clear d_0 d_1 d_2 d_3 d_4 d_5 x_0 x_1 x_2 x_3 x_4 x_5 t_0 t_1 t_2 t_3
              replace Xd := hide (Xd.out.kept hb)
              replace Xx := hide (Xx.out.kept hb)
              replace Sd := hide (Sd.out.kept hb)
              replace Sx := hide (Sx.out.kept hb)
              replace XA := hide (XA.out.kept hb)
              replace HB := hide (Bel.then HB.out hb)
              have S3 := hide hS3
              clear hS3 hb
              obtain ⟨d_0, d_1, d_2, d_3, d_4, d_5⟩ := Xd.out.cells
              obtain ⟨x_0, x_1, x_2, x_3, x_4, x_5⟩ := Xx.out.cells
              obtain ⟨t_0, t_1, t_2, t_3⟩ := XA.out.cells
              refine hK.out _ _ XA.out (fun hHeld => ?_)
              clear hK K
              (try simp only [Act.put]); (try simp only [List.setIfInBounds_toArray]); (try simp only [List.set_cons_succ]); (try simp only [List.set_cons_zero])
              refine wpAnyH_ready (rs := [4]) (by kernel_rfl) (by simp) ?_
              refine (AllReadyH.cons nth4 (fun K hK => ?_) AllReadyH.nil)
              go_simp
              refine hK.out _ _ XA.out (fun hHeld => ?_)
              clear hK K
              (try simp only [Act.put]); (try simp only [List.setIfInBounds_toArray]); (try simp only [List.set_cons_succ]); (try simp only [List.set_cons_zero])
              refine wpAnyH_ready (rs := [7]) (by kernel_rfl) (by simp) ?_
              refine (AllReadyH.cons nth7 (fun K hK => ?_) AllReadyH.nil)
              go_simp
              refine (QA2.out _ _ _ Sx.out).mono ?_
              rintro e w' ⟨A4, c4, rfl, hS4, hb⟩
              clear d_0 d_1 d_2 d_3 d_4 d_5 x_0 x_1 x_2 x_3 x_4 x_5 t_0 t_1 t_2 t_3
              replace Xd := hide (Xd.out.kept hb)
              replace Xx := hide (Xx.out.kept hb)
              replace Sd := hide (Sd.out.kept hb)
              replace Sx := hide (Sx.out.kept hb)
              replace S3 := hide (S3.out.kept hb)
              replace XA := hide (XA.out.kept hb)
              replace HB := hide (Bel.then HB.out hb)
              have S4 := hide hS4
              clear hS4 hb
              obtain ⟨d_0, d_1, d_2, d_3, d_4, d_5⟩ := Xd.out.cells
              obtain ⟨x_0, x_1, x_2, x_3, x_4, x_5⟩ := Xx.out.cells
              obtain ⟨t_0, t_1, t_2, t_3⟩ := XA.out.cells
              refine hK.out _ _ XA.out (fun hHeld => ?_)
              clear hK K
              (try simp only [Act.put]); (try simp only [List.setIfInBounds_toArray]); (try simp only [List.set_cons_succ]); (try simp only [List.set_cons_zero])
              refine wpAnyH_ready (rs := [8]) (by kernel_rfl) (by simp) ?_
              refine (AllReadyH.cons nth8 (fun K hK => ?_) AllReadyH.nil)
              go_simp
              have hX := Xd.out.set3 (.slice A3 n1 c3) xl xd
              have hO := far3 Xx.out hnxd (.slice A3 n1 c3) (.int .i64 xl) (.bool xd)
              have hA := XA.out.far3 Xd.out (.slice A3 n1 c3) (.int .i64 xl) (.bool xd)
              have hB := below_set3 HB.out hwd (.slice A3 n1 c3) (.int .i64 xl) (.bool xd)
              have hSx := Sx.out.put (u := (.slice A3 n1 c3)) (y := xl) (b := xd) Xd.out (by intro s h; cases h) (by intro s h; cases h)
              have hS3 := S3.out.put (u := (.slice A3 n1 c3)) (y := xl) (b := xd) Xd.out (by intro s h; cases h) (by intro s h; cases h)
              have hS4 := S4.out.put (u := (.slice A3 n1 c3)) (y := xl) (b := xd) Xd.out (by intro s h; cases h) (by intro s h; cases h)
              clear d_0 d_1 d_2 d_3 d_4 d_5 x_0 x_1 x_2 x_3 x_4 x_5 t_0 t_1 t_2 t_3
              replace Xd := hide hX
              replace Xx := hide hO
              replace XA := hide hA
              replace HB := hide hB
              replace Sx := hide hSx
              replace Sd := hide hS3
              replace S4 := hide hS4
              clear hX hO hA hB hSx hS3 hS4
              obtain ⟨d_0, d_1, d_2, d_3, d_4, d_5⟩ := Xd.out.cells
              obtain ⟨x_0, x_1, x_2, x_3, x_4, x_5⟩ := Xx.out.cells
              obtain ⟨t_0, t_1, t_2, t_3⟩ := XA.out.cells
              refine hK.out _ _ XA.out (fun hHeld => ?_)
              clear hK K
              (try simp only [Act.put]); (try simp only [List.setIfInBounds_toArray]); (try simp only [List.set_cons_succ]); (try simp only [List.set_cons_zero])
              refine wpAnyH_ready (rs := [9]) (by kernel_rfl) (by simp) ?_
              refine (AllReadyH.cons nth9 (fun K hK => ?_) AllReadyH.nil)
              go_simp
              have hX := Xx.out.set3 (.slice A4 n1 c4) xl xd
              have hO := far3 Xd.out hndx (.slice A4 n1 c4) (.int .i64 xl) (.bool xd)
              have hA := XA.out.far3 Xx.out (.slice A4 n1 c4) (.int .i64 xl) (.bool xd)
              have hB := below_set3 HB.out hwx (.slice A4 n1 c4) (.int .i64 xl) (.bool xd)
              have hSd := Sd.out.put (u := (.slice A4 n1 c4)) (y := xl) (b := xd) Xx.out (by intro s h; cases h) (by intro s h; cases h)
              have hS4 := S4.out.put (u := (.slice A4 n1 c4)) (y := xl) (b := xd) Xx.out (by intro s h; cases h) (by intro s h; cases h)
              clear d_0 d_1 d_2 d_3 d_4 d_5 x_0 x_1 x_2 x_3 x_4 x_5 t_0 t_1 t_2 t_3
              replace Xx := hide hX
              replace Xd := hide hO
              replace XA := hide hA
              replace HB := hide hB
              replace Sd := hide hSd
              replace Sx := hide hS4
              clear hX hO hA hB hSd hS4
              obtain ⟨d_0, d_1, d_2, d_3, d_4, d_5⟩ := Xd.out.cells
              obtain ⟨x_0, x_1, x_2, x_3, x_4, x_5⟩ := Xx.out.cells
              obtain ⟨t_0, t_1, t_2, t_3⟩ := XA.out.cells
              refine hK.out _ _ XA.out (fun hHeld => ?_)
              clear hK K
              (try simp only [Act.put]); (try simp only [List.setIfInBounds_toArray]); (try simp only [List.set_cons_succ]); (try simp only [List.set_cons_zero])
              refine wpAnyH_done (by kernel_rfl) ?_ _
              go_wp2_with fail
              refine (QS.out ⟨xs, xl, xd⟩ _ _ _ _ _ Sd.out Sx.out).mono ?_
              rintro e w' ⟨rfl, hb⟩
              clear d_0 d_1 d_2 d_3 d_4 d_5 x_0 x_1 x_2 x_3 x_4 x_5 t_0 t_1 t_2 t_3
              replace Xd := hide (Xd.out.kept hb)
              replace Xx := hide (Xx.out.kept hb)
              replace Sd := hide (Sd.out.kept hb)
              replace Sx := hide (Sx.out.kept hb)
              replace XA := hide (XA.out.kept hb)
              replace HB := hide (Bel.then HB.out hb)
              clear hb
              go_wp2_with fail
              go_roundw
              case rel => exact ⟨k + 1, _, ⟨xs, xl, xd⟩, _, _, _, _, by omega, rfl, rfl, by go_num, Xd, Sd, Xx, Sx, HB, hL2, hS2⟩
              case measure => simp [intOf]; omega
            · go_simp
              refine hK.out _ _ XA.out (fun hHeld => ?_)
              clear hK K
              (try simp only [Act.put]); (try simp only [List.setIfInBounds_toArray]); (try simp only [List.set_cons_succ]); (try simp only [List.set_cons_zero])
              refine wpAnyH_ready (rs := [3]) (by kernel_rfl) (by simp) ?_
              refine (AllReadyH.cons nth3 (fun K hK => ?_) AllReadyH.nil)
              go_simp
              refine (QA1.out _ _ _ Sd.out).mono ?_
              rintro e w' ⟨A3, c3, rfl, hS3, hb⟩
              clear d_0 d_1 d_2 d_3 d_4 d_5 x_0 x_1 x_2 x_3 x_4 x_5 t_0 t_1 t_2 t_3
              replace Xd := hide (Xd.out.kept hb)
              replace Xx := hide (Xx.out.kept hb)
              replace Sd := hide (Sd.out.kept hb)
              replace Sx := hide (Sx.out.kept hb)
              replace XA := hide (XA.out.kept hb)
              replace HB := hide (Bel.then HB.out hb)
              have S3 := hide hS3
              clear hS3 hb
              obtain ⟨d_0, d_1, d_2, d_3, d_4, d_5⟩ := Xd.out.cells
              obtain ⟨x_0, x_1, x_2, x_3, x_4, x_5⟩ := Xx.out.cells
              obtain ⟨t_0, t_1, t_2, t_3⟩ := XA.out.cells
              refine hK.out _ _ XA.out (fun hHeld => ?_)
              clear hK K
              (try simp only [Act.put]); (try simp only [List.setIfInBounds_toArray]); (try simp only [List.set_cons_succ]); (try simp only [List.set_cons_zero])
              refine wpAnyH_ready (rs := [7]) (by kernel_rfl) (by simp) ?_
              refine (AllReadyH.cons nth7 (fun K hK => ?_) AllReadyH.nil)
              go_simp
              refine (QA2.out _ _ _ Sx.out).mono ?_
              rintro e w' ⟨A4, c4, rfl, hS4, hb⟩
              clear d_0 d_1 d_2 d_3 d_4 d_5 x_0 x_1 x_2 x_3 x_4 x_5 t_0 t_1 t_2 t_3
              replace Xd := hide (Xd.out.kept hb)
              replace Xx := hide (Xx.out.kept hb)
              replace Sd := hide (Sd.out.kept hb)
              replace Sx := hide (Sx.out.kept hb)
              replace S3 := hide (S3.out.kept hb)
              replace XA := hide (XA.out.kept hb)
              replace HB := hide (Bel.then HB.out hb)
              have S4 := hide hS4
              clear hS4 hb
              obtain ⟨d_0, d_1, d_2, d_3, d_4, d_5⟩ := Xd.out.cells
              obtain ⟨x_0, x_1, x_2, x_3, x_4, x_5⟩ := Xx.out.cells
              obtain ⟨t_0, t_1, t_2, t_3⟩ := XA.out.cells
              refine hK.out _ _ XA.out (fun hHeld => ?_)
              clear hK K
              (try simp only [Act.put]); (try simp only [List.setIfInBounds_toArray]); (try simp only [List.set_cons_succ]); (try simp only [List.set_cons_zero])
              refine wpAnyH_ready (rs := [8]) (by kernel_rfl) (by simp) ?_
              refine (AllReadyH.cons nth8 (fun K hK => ?_) AllReadyH.nil)
              go_simp
              have hX := Xd.out.set3 (.slice A3 n1 c3) xl xd
              have hO := far3 Xx.out hnxd (.slice A3 n1 c3) (.int .i64 xl) (.bool xd)
              have hA := XA.out.far3 Xd.out (.slice A3 n1 c3) (.int .i64 xl) (.bool xd)
              have hB := below_set3 HB.out hwd (.slice A3 n1 c3) (.int .i64 xl) (.bool xd)
              have hSx := Sx.out.put (u := (.slice A3 n1 c3)) (y := xl) (b := xd) Xd.out (by intro s h; cases h) (by intro s h; cases h)
              have hS3 := S3.out.put (u := (.slice A3 n1 c3)) (y := xl) (b := xd) Xd.out (by intro s h; cases h) (by intro s h; cases h)
              have hS4 := S4.out.put (u := (.slice A3 n1 c3)) (y := xl) (b := xd) Xd.out (by intro s h; cases h) (by intro s h; cases h)
              clear d_0 d_1 d_2 d_3 d_4 d_5 x_0 x_1 x_2 x_3 x_4 x_5 t_0 t_1 t_2 t_3
              replace Xd := hide hX
              replace Xx := hide hO
              replace XA := hide hA
              replace HB := hide hB
              replace Sx := hide hSx
              replace Sd := hide hS3
              replace S4 := hide hS4
              clear hX hO hA hB hSx hS3 hS4
              obtain ⟨d_0, d_1, d_2, d_3, d_4, d_5⟩ := Xd.out.cells
              obtain ⟨x_0, x_1, x_2, x_3, x_4, x_5⟩ := Xx.out.cells
              obtain ⟨t_0, t_1, t_2, t_3⟩ := XA.out.cells
              refine hK.out _ _ XA.out (fun hHeld => ?_)
              clear hK K
              (try simp only [Act.put]); (try simp only [List.setIfInBounds_toArray]); (try simp only [List.set_cons_succ]); (try simp only [List.set_cons_zero])
              refine wpAnyH_ready (rs := [9]) (by kernel_rfl) (by simp) ?_
              refine (AllReadyH.cons nth9 (fun K hK => ?_) AllReadyH.nil)
              go_simp
              have hX := Xx.out.set3 (.slice A4 n1 c4) xl xd
              have hO := far3 Xd.out hndx (.slice A4 n1 c4) (.int .i64 xl) (.bool xd)
              have hA := XA.out.far3 Xx.out (.slice A4 n1 c4) (.int .i64 xl) (.bool xd)
              have hB := below_set3 HB.out hwx (.slice A4 n1 c4) (.int .i64 xl) (.bool xd)
              have hSd := Sd.out.put (u := (.slice A4 n1 c4)) (y := xl) (b := xd) Xx.out (by intro s h; cases h) (by intro s h; cases h)
              have hS4 := S4.out.put (u := (.slice A4 n1 c4)) (y := xl) (b := xd) Xx.out (by intro s h; cases h) (by intro s h; cases h)
              clear d_0 d_1 d_2 d_3 d_4 d_5 x_0 x_1 x_2 x_3 x_4 x_5 t_0 t_1 t_2 t_3
              replace Xx := hide hX
              replace Xd := hide hO
              replace XA := hide hA
              replace HB := hide hB
              replace Sd := hide hSd
              replace Sx := hide hS4
              clear hX hO hA hB hSd hS4
              obtain ⟨d_0, d_1, d_2, d_3, d_4, d_5⟩ := Xd.out.cells
              obtain ⟨x_0, x_1, x_2, x_3, x_4, x_5⟩ := Xx.out.cells
              obtain ⟨t_0, t_1, t_2, t_3⟩ := XA.out.cells
              refine hK.out _ _ XA.out (fun hHeld => ?_)
              clear hK K
              (try simp only [Act.put]); (try simp only [List.setIfInBounds_toArray]); (try simp only [List.set_cons_succ]); (try simp only [List.set_cons_zero])
              refine wpAnyH_done (by kernel_rfl) ?_ _
              go_wp2_with fail
              refine (QS.out ⟨xs, xl, xd⟩ _ _ _ _ _ Sd.out Sx.out).mono ?_
              rintro e w' ⟨rfl, hb⟩
              clear d_0 d_1 d_2 d_3 d_4 d_5 x_0 x_1 x_2 x_3 x_4 x_5 t_0 t_1 t_2 t_3
              replace Xd := hide (Xd.out.kept hb)
              replace Xx := hide (Xx.out.kept hb)
              replace Sd := hide (Sd.out.kept hb)
              replace Sx := hide (Sx.out.kept hb)
              replace XA := hide (XA.out.kept hb)
              replace HB := hide (Bel.then HB.out hb)
              clear hb
              go_wp2_with fail
              go_roundw
              case rel => exact ⟨k + 1, _, ⟨xs, xl, xd⟩, _, _, _, _, by omega, rfl, rfl, by go_num, Xd, Sd, Xx, Sx, HB, hL2, hS2⟩
              case measure => simp [intOf]; omega
          · go_simp
            refine hK.out _ _ XA.out (fun hHeld => ?_)
            clear hK K
            (try simp only [Act.put]); (try simp only [List.setIfInBounds_toArray]); (try simp only [List.set_cons_succ]); (try simp only [List.set_cons_zero])
            refine wpAnyH_ready (rs := [0]) (by kernel_rfl) (by simp) ?_
            refine (AllReadyH.cons nth0 (fun K hK => ?_) AllReadyH.nil)
            go_simp
            refine hK.out _ _ XA.out (fun hHeld => ?_)
            clear hK K
            (try simp only [Act.put]); (try simp only [List.setIfInBounds_toArray]); (try simp only [List.set_cons_succ]); (try simp only [List.set_cons_zero])
            refine wpAnyH_ready (rs := [3]) (by kernel_rfl) (by simp) ?_
            refine (AllReadyH.cons nth3 (fun K hK => ?_) AllReadyH.nil)
            go_simp
            refine (QA1.out _ _ _ Sd.out).mono ?_
            rintro e w' ⟨A3, c3, rfl, hS3, hb⟩
            clear d_0 d_1 d_2 d_3 d_4 d_5 x_0 x_1 x_2 x_3 x_4 x_5 t_0 t_1 t_2 t_3
            replace Xd := hide (Xd.out.kept hb)
            replace Xx := hide (Xx.out.kept hb)
            replace Sd := hide (Sd.out.kept hb)
            replace Sx := hide (Sx.out.kept hb)
            replace XA := hide (XA.out.kept hb)
            replace HB := hide (Bel.then HB.out hb)
            have S3 := hide hS3
            clear hS3 hb
            obtain ⟨d_0, d_1, d_2, d_3, d_4, d_5⟩ := Xd.out.cells
            obtain ⟨x_0, x_1, x_2, x_3, x_4, x_5⟩ := Xx.out.cells
            obtain ⟨t_0, t_1, t_2, t_3⟩ := XA.out.cells
            refine hK.out _ _ XA.out (fun hHeld => ?_)
            clear hK K
            (try simp only [Act.put]); (try simp only [List.setIfInBounds_toArray]); (try simp only [List.set_cons_succ]); (try simp only [List.set_cons_zero])
            refine wpAnyH_ready (rs := [7]) (by kernel_rfl) (by simp) ?_
            refine (AllReadyH.cons nth7 (fun K hK => ?_) AllReadyH.nil)
            go_simp
            refine (QA2.out _ _ _ Sx.out).mono ?_
            rintro e w' ⟨A4, c4, rfl, hS4, hb⟩
            clear d_0 d_1 d_2 d_3 d_4 d_5 x_0 x_1 x_2 x_3 x_4 x_5 t_0 t_1 t_2 t_3
            replace Xd := hide (Xd.out.kept hb)
            replace Xx := hide (Xx.out.kept hb)
            replace Sd := hide (Sd.out.kept hb)
            replace Sx := hide (Sx.out.kept hb)
            replace S3 := hide (S3.out.kept hb)
            replace XA := hide (XA.out.kept hb)
            replace HB := hide (Bel.then HB.out hb)
            have S4 := hide hS4
            clear hS4 hb
            obtain ⟨d_0, d_1, d_2, d_3, d_4, d_5⟩ := Xd.out.cells
            obtain ⟨x_0, x_1, x_2, x_3, x_4, x_5⟩ := Xx.out.cells
            obtain ⟨t_0, t_1, t_2, t_3⟩ := XA.out.cells
            refine hK.out _ _ XA.out (fun hHeld => ?_)
            clear hK K
            (try simp only [Act.put]); (try simp only [List.setIfInBounds_toArray]); (try simp only [List.set_cons_succ]); (try simp only [List.set_cons_zero])
            refine wpAnyH_ready (rs := [8]) (by kernel_rfl) (by simp) ?_
            refine (AllReadyH.cons nth8 (fun K hK => ?_) AllReadyH.nil)
            go_simp
            have hX := Xd.out.set3 (.slice A3 n1 c3) xl xd
            have hO := far3 Xx.out hnxd (.slice A3 n1 c3) (.int .i64 xl) (.bool xd)
            have hA := XA.out.far3 Xd.out (.slice A3 n1 c3) (.int .i64 xl) (.bool xd)
            have hB := below_set3 HB.out hwd (.slice A3 n1 c3) (.int .i64 xl) (.bool xd)
            have hSx := Sx.out.put (u := (.slice A3 n1 c3)) (y := xl) (b := xd) Xd.out (by intro s h; cases h) (by intro s h; cases h)
            have hS3 := S3.out.put (u := (.slice A3 n1 c3)) (y := xl) (b := xd) Xd.out (by intro s h; cases h) (by intro s h; cases h)
            have hS4 := S4.out.put (u := (.slice A3 n1 c3)) (y := xl) (b := xd) Xd.out (by intro s h; cases h) (by intro s h; cases h)
            clear d_0 d_1 d_2 d_3 d_4 d_5 x_0 x_1 x_2 x_3 x_4 x_5 t_0 t_1 t_2 t_3
            replace Xd := hide hX
            replace Xx := hide hO
            replace XA := hide hA
            replace HB := hide hB
            replace Sx := hide hSx
            replace Sd := hide hS3
            replace S4 := hide hS4
            clear hX hO hA hB hSx hS3 hS4
            obtain ⟨d_0, d_1, d_2, d_3, d_4, d_5⟩ := Xd.out.cells
            obtain ⟨x_0, x_1, x_2, x_3, x_4, x_5⟩ := Xx.out.cells
            obtain ⟨t_0, t_1, t_2, t_3⟩ := XA.out.cells
            refine hK.out _ _ XA.out (fun hHeld => ?_)
            clear hK K
            (try simp only [Act.put]); (try simp only [List.setIfInBounds_toArray]); (try simp only [List.set_cons_succ]); (try simp only [List.set_cons_zero])
            refine wpAnyH_ready (rs := [9]) (by kernel_rfl) (by simp) ?_
            refine (AllReadyH.cons nth9 (fun K hK => ?_) AllReadyH.nil)
            go_simp
            have hX := Xx.out.set3 (.slice A4 n1 c4) xl xd
            have hO := far3 Xd.out hndx (.slice A4 n1 c4) (.int .i64 xl) (.bool xd)
            have hA := XA.out.far3 Xx.out (.slice A4 n1 c4) (.int .i64 xl) (.bool xd)
            have hB := below_set3 HB.out hwx (.slice A4 n1 c4) (.int .i64 xl) (.bool xd)
            have hSd := Sd.out.put (u := (.slice A4 n1 c4)) (y := xl) (b := xd) Xx.out (by intro s h; cases h) (by intro s h; cases h)
            have hS4 := S4.out.put (u := (.slice A4 n1 c4)) (y := xl) (b := xd) Xx.out (by intro s h; cases h) (by intro s h; cases h)
            clear d_0 d_1 d_2 d_3 d_4 d_5 x_0 x_1 x_2 x_3 x_4 x_5 t_0 t_1 t_2 t_3
            replace Xx := hide hX
            replace Xd := hide hO
            replace XA := hide hA
            replace HB := hide hB
            replace Sd := hide hSd
            replace Sx := hide hS4
            clear hX hO hA hB hSd hS4
            obtain ⟨d_0, d_1, d_2, d_3, d_4, d_5⟩ := Xd.out.cells
            obtain ⟨x_0, x_1, x_2, x_3, x_4, x_5⟩ := Xx.out.cells
            obtain ⟨t_0, t_1, t_2, t_3⟩ := XA.out.cells
            refine hK.out _ _ XA.out (fun hHeld => ?_)
            clear hK K
            (try simp only [Act.put]); (try simp only [List.setIfInBounds_toArray]); (try simp only [List.set_cons_succ]); (try simp only [List.set_cons_zero])
            refine wpAnyH_done (by kernel_rfl) ?_ _
            go_wp2_with fail
            refine (QS.out ⟨xs, xl, xd⟩ _ _ _ _ _ Sd.out Sx.out).mono ?_
            rintro e w' ⟨rfl, hb⟩
            clear d_0 d_1 d_2 d_3 d_4 d_5 x_0 x_1 x_2 x_3 x_4 x_5 t_0 t_1 t_2 t_3
            replace Xd := hide (Xd.out.kept hb)
            replace Xx := hide (Xx.out.kept hb)
            replace Sd := hide (Sd.out.kept hb)
            replace Sx := hide (Sx.out.kept hb)
            replace XA := hide (XA.out.kept hb)
            replace HB := hide (Bel.then HB.out hb)
            clear hb
            go_wp2_with fail
            go_roundw
            case rel => exact ⟨k + 1, _, ⟨xs, xl, xd⟩, _, _, _, _, by omega, rfl, rfl, by go_num, Xd, Sd, Xx, Sx, HB, hL2, hS2⟩
            case measure => simp [intOf]; omega
        · have q0 : (a.kind == 0) = false := by rw [beq_eq_false_iff_ne]; omega
          have q1 : (a.kind == 1) = false := by rw [beq_eq_false_iff_ne]; omega
          have q2 : (a.kind == 2) = false := by rw [beq_eq_false_iff_ne]; omega
          have q3 : (a.kind == 3) = false := by rw [beq_eq_false_iff_ne]; omega
          have q4 : (a.kind == 4) = false := by rw [beq_eq_false_iff_ne]; omega
          have QA1 := hide (fun A c W hW => cStart (A := A) (n := n1) (c := c) (d := ⟨ds, dl, dd⟩) (w := W) hW hn)
          have QA2 := hide (fun A c W hW => rcStart (A := A) (n := n1) (c := c) (d := ⟨ds, dl, dd⟩) (w := W) hW)
          have hL2 : Left64 (startD ⟨ds, dl, dd⟩) := ⟨(by omega : (-9223372036854775808 : Int) ≤ -1), (by omega : (-1 : Int) ≤ 9223372036854775807)⟩
          have hS2 : Sec128 (startD ⟨ds, dl, dd⟩) := hS
          unfold GivesK at QA1 QA2
          generalize startD ⟨ds, dl, dd⟩ = x at *
          obtain ⟨xs, xl, xd⟩ := x
          simp only at *
          clear h9
          go_wp2_with fail
          refine wp_region_held_drew (S := fun w' => ABox w' ga a) (by kernel_rfl) XA.out.drew (fun hHeld => ?_)
          have hb : Below w'.heap.size w' w'.drew := (Below.refl _ _).drew
          clear d_0 d_1 d_2 d_3 d_4 d_5 x_0 x_1 x_2 x_3 x_4 x_5 t_0 t_1 t_2 t_3
          replace Xd := hide (Xd.out.kept hb)
          replace Xx := hide (Xx.out.kept hb)
          replace Sd := hide (Sd.out.kept hb)
          replace Sx := hide (Sx.out.kept hb)
          replace XA := hide (XA.out.kept hb)
          replace HB := hide (Bel.then HB.out hb)
          clear hb
          obtain ⟨d_0, d_1, d_2, d_3, d_4, d_5⟩ := Xd.out.cells
          obtain ⟨x_0, x_1, x_2, x_3, x_4, x_5⟩ := Xx.out.cells
          obtain ⟨t_0, t_1, t_2, t_3⟩ := XA.out.cells
          refine wpAnyH_ready (rs := [0, 2]) (by kernel_rfl) (by simp) ?_
          refine (AllReadyH.cons nth0 (fun K hK => ?_) (AllReadyH.cons nth2 (fun K hK => ?_) AllReadyH.nil))
          · go_simp
            refine hK.out _ _ XA.out (fun hHeld => ?_)
            clear hK K
            (try simp only [Act.put]); (try simp only [List.setIfInBounds_toArray]); (try simp only [List.set_cons_succ]); (try simp only [List.set_cons_zero])
            refine wpAnyH_ready (rs := [1, 2]) (by kernel_rfl) (by simp) ?_
            refine (AllReadyH.cons nth1 (fun K hK => ?_) (AllReadyH.cons nth2 (fun K hK => ?_) AllReadyH.nil))
            · go_simp
              refine (QA1.out _ _ _ Sd.out).mono ?_
              rintro e w' ⟨A3, c3, rfl, hS3, hb⟩
              clear d_0 d_1 d_2 d_3 d_4 d_5 x_0 x_1 x_2 x_3 x_4 x_5 t_0 t_1 t_2 t_3
              replace Xd := hide (Xd.out.kept hb)
              replace Xx := hide (Xx.out.kept hb)
              replace Sd := hide (Sd.out.kept hb)
              replace Sx := hide (Sx.out.kept hb)
              replace XA := hide (XA.out.kept hb)
              replace HB := hide (Bel.then HB.out hb)
              have S3 := hide hS3
              clear hS3 hb
              obtain ⟨d_0, d_1, d_2, d_3, d_4, d_5⟩ := Xd.out.cells
              obtain ⟨x_0, x_1, x_2, x_3, x_4, x_5⟩ := Xx.out.cells
              obtain ⟨t_0, t_1, t_2, t_3⟩ := XA.out.cells
              refine hK.out _ _ XA.out (fun hHeld => ?_)
              clear hK K
              (try simp only [Act.put]); (try simp only [List.setIfInBounds_toArray]); (try simp only [List.set_cons_succ]); (try simp only [List.set_cons_zero])
              refine wpAnyH_ready (rs := [2]) (by kernel_rfl) (by simp) ?_
              refine (AllReadyH.cons nth2 (fun K hK => ?_) AllReadyH.nil)
              go_simp
              refine hK.out _ _ XA.out (fun hHeld => ?_)
              clear hK K
              (try simp only [Act.put]); (try simp only [List.setIfInBounds_toArray]); (try simp only [List.set_cons_succ]); (try simp only [List.set_cons_zero])
              refine wpAnyH_ready (rs := [3]) (by kernel_rfl) (by simp) ?_
              refine (AllReadyH.cons nth3 (fun K hK => ?_) AllReadyH.nil)
              go_simp
              refine (QA2.out _ _ _ Sx.out).mono ?_
              rintro e w' ⟨A4, c4, rfl, hS4, hb⟩
              clear d_0 d_1 d_2 d_3 d_4 d_5 x_0 x_1 x_2 x_3 x_4 x_5 t_0 t_1 t_2 t_3
              replace Xd := hide (Xd.out.kept hb)
              replace Xx := hide (Xx.out.kept hb)
              replace Sd := hide (Sd.out.kept hb)
              replace Sx := hide (Sx.out.kept hb)
              replace S3 := hide (S3.out.kept hb)
              replace XA := hide (XA.out.kept hb)
              replace HB := hide (Bel.then HB.out hb)
              have S4 := hide hS4
              clear hS4 hb
              obtain ⟨d_0, d_1, d_2, d_3, d_4, d_5⟩ := Xd.out.cells
              obtain ⟨x_0, x_1, x_2, x_3, x_4, x_5⟩ := Xx.out.cells
              obtain ⟨t_0, t_1, t_2, t_3⟩ := XA.out.cells
              refine hK.out _ _ XA.out (fun hHeld => ?_)
              clear hK K
              (try simp only [Act.put]); (try simp only [List.setIfInBounds_toArray]); (try simp only [List.set_cons_succ]); (try simp only [List.set_cons_zero])
              refine wpAnyH_ready (rs := [4]) (by kernel_rfl) (by simp) ?_
              refine (AllReadyH.cons nth4 (fun K hK => ?_) AllReadyH.nil)
              go_simp
              have hX := Xd.out.set3 (.slice A3 n1 c3) xl xd
              have hO := far3 Xx.out hnxd (.slice A3 n1 c3) (.int .i64 xl) (.bool xd)
              have hA := XA.out.far3 Xd.out (.slice A3 n1 c3) (.int .i64 xl) (.bool xd)
              have hB := below_set3 HB.out hwd (.slice A3 n1 c3) (.int .i64 xl) (.bool xd)
              have hSx := Sx.out.put (u := (.slice A3 n1 c3)) (y := xl) (b := xd) Xd.out (by intro s h; cases h) (by intro s h; cases h)
              have hS3 := S3.out.put (u := (.slice A3 n1 c3)) (y := xl) (b := xd) Xd.out (by intro s h; cases h) (by intro s h; cases h)
              have hS4 := S4.out.put (u := (.slice A3 n1 c3)) (y := xl) (b := xd) Xd.out (by intro s h; cases h) (by intro s h; cases h)
              clear d_0 d_1 d_2 d_3 d_4 d_5 x_0 x_1 x_2 x_3 x_4 x_5 t_0 t_1 t_2 t_3
              replace Xd := hide hX
              replace Xx := hide hO
              replace XA := hide hA
              replace HB := hide hB
              replace Sx := hide hSx
              replace Sd := hide hS3
              replace S4 := hide hS4
              clear hX hO hA hB hSx hS3 hS4
              obtain ⟨d_0, d_1, d_2, d_3, d_4, d_5⟩ := Xd.out.cells
              obtain ⟨x_0, x_1, x_2, x_3, x_4, x_5⟩ := Xx.out.cells
              obtain ⟨t_0, t_1, t_2, t_3⟩ := XA.out.cells
              refine hK.out _ _ XA.out (fun hHeld => ?_)
              clear hK K
              (try simp only [Act.put]); (try simp only [List.setIfInBounds_toArray]); (try simp only [List.set_cons_succ]); (try simp only [List.set_cons_zero])
              refine wpAnyH_ready (rs := [5]) (by kernel_rfl) (by simp) ?_
              refine (AllReadyH.cons nth5 (fun K hK => ?_) AllReadyH.nil)
              go_simp
              have hX := Xx.out.set3 (.slice A4 n1 c4) xl xd
              have hO := far3 Xd.out hndx (.slice A4 n1 c4) (.int .i64 xl) (.bool xd)
              have hA := XA.out.far3 Xx.out (.slice A4 n1 c4) (.int .i64 xl) (.bool xd)
              have hB := below_set3 HB.out hwx (.slice A4 n1 c4) (.int .i64 xl) (.bool xd)
              have hSd := Sd.out.put (u := (.slice A4 n1 c4)) (y := xl) (b := xd) Xx.out (by intro s h; cases h) (by intro s h; cases h)
              have hS4 := S4.out.put (u := (.slice A4 n1 c4)) (y := xl) (b := xd) Xx.out (by intro s h; cases h) (by intro s h; cases h)
              clear d_0 d_1 d_2 d_3 d_4 d_5 x_0 x_1 x_2 x_3 x_4 x_5 t_0 t_1 t_2 t_3
              replace Xx := hide hX
              replace Xd := hide hO
              replace XA := hide hA
              replace HB := hide hB
              replace Sd := hide hSd
              replace Sx := hide hS4
              clear hX hO hA hB hSd hS4
              obtain ⟨d_0, d_1, d_2, d_3, d_4, d_5⟩ := Xd.out.cells
              obtain ⟨x_0, x_1, x_2, x_3, x_4, x_5⟩ := Xx.out.cells
              obtain ⟨t_0, t_1, t_2, t_3⟩ := XA.out.cells
              refine hK.out _ _ XA.out (fun hHeld => ?_)
              clear hK K
              (try simp only [Act.put]); (try simp only [List.setIfInBounds_toArray]); (try simp only [List.set_cons_succ]); (try simp only [List.set_cons_zero])
              refine wpAnyH_done (by kernel_rfl) ?_ _
              go_wp2_with fail
              refine (QS.out ⟨xs, xl, xd⟩ _ _ _ _ _ Sd.out Sx.out).mono ?_
              rintro e w' ⟨rfl, hb⟩
              clear d_0 d_1 d_2 d_3 d_4 d_5 x_0 x_1 x_2 x_3 x_4 x_5 t_0 t_1 t_2 t_3
              replace Xd := hide (Xd.out.kept hb)
              replace Xx := hide (Xx.out.kept hb)
              replace Sd := hide (Sd.out.kept hb)
              replace Sx := hide (Sx.out.kept hb)
              replace XA := hide (XA.out.kept hb)
              replace HB := hide (Bel.then HB.out hb)
              clear hb
              go_wp2_with fail
              go_roundw
              case rel => exact ⟨k + 1, _, ⟨xs, xl, xd⟩, _, _, _, _, by omega, rfl, rfl, by go_num, Xd, Sd, Xx, Sx, HB, hL2, hS2⟩
              case measure => simp [intOf]; omega
            · go_simp
              refine hK.out _ _ XA.out (fun hHeld => ?_)
              clear hK K
              (try simp only [Act.put]); (try simp only [List.setIfInBounds_toArray]); (try simp only [List.set_cons_succ]); (try simp only [List.set_cons_zero])
              refine wpAnyH_ready (rs := [1]) (by kernel_rfl) (by simp) ?_
              refine (AllReadyH.cons nth1 (fun K hK => ?_) AllReadyH.nil)
              go_simp
              refine (QA1.out _ _ _ Sd.out).mono ?_
              rintro e w' ⟨A3, c3, rfl, hS3, hb⟩
              clear d_0 d_1 d_2 d_3 d_4 d_5 x_0 x_1 x_2 x_3 x_4 x_5 t_0 t_1 t_2 t_3
              replace Xd := hide (Xd.out.kept hb)
              replace Xx := hide (Xx.out.kept hb)
              replace Sd := hide (Sd.out.kept hb)
              replace Sx := hide (Sx.out.kept hb)
              replace XA := hide (XA.out.kept hb)
              replace HB := hide (Bel.then HB.out hb)
              have S3 := hide hS3
              clear hS3 hb
              obtain ⟨d_0, d_1, d_2, d_3, d_4, d_5⟩ := Xd.out.cells
              obtain ⟨x_0, x_1, x_2, x_3, x_4, x_5⟩ := Xx.out.cells
              obtain ⟨t_0, t_1, t_2, t_3⟩ := XA.out.cells
              refine hK.out _ _ XA.out (fun hHeld => ?_)
              clear hK K
              (try simp only [Act.put]); (try simp only [List.setIfInBounds_toArray]); (try simp only [List.set_cons_succ]); (try simp only [List.set_cons_zero])
              refine wpAnyH_ready (rs := [3]) (by kernel_rfl) (by simp) ?_
              refine (AllReadyH.cons nth3 (fun K hK => ?_) AllReadyH.nil)
              go_simp
              refine (QA2.out _ _ _ Sx.out).mono ?_
              rintro e w' ⟨A4, c4, rfl, hS4, hb⟩
              clear d_0 d_1 d_2 d_3 d_4 d_5 x_0 x_1 x_2 x_3 x_4 x_5 t_0 t_1 t_2 t_3
              replace Xd := hide (Xd.out.kept hb)
              replace Xx := hide (Xx.out.kept hb)
              replace Sd := hide (Sd.out.kept hb)
              replace Sx := hide (Sx.out.kept hb)
              replace S3 := hide (S3.out.kept hb)
              replace XA := hide (XA.out.kept hb)
              replace HB := hide (Bel.then HB.out hb)
              have S4 := hide hS4
              clear hS4 hb
              obtain ⟨d_0, d_1, d_2, d_3, d_4, d_5⟩ := Xd.out.cells
              obtain ⟨x_0, x_1, x_2, x_3, x_4, x_5⟩ := Xx.out.cells
              obtain ⟨t_0, t_1, t_2, t_3⟩ := XA.out.cells
              refine hK.out _ _ XA.out (fun hHeld => ?_)
              clear hK K
              (try simp only [Act.put]); (try simp only [List.setIfInBounds_toArray]); (try simp only [List.set_cons_succ]); (try simp only [List.set_cons_zero])
              refine wpAnyH_ready (rs := [4]) (by kernel_rfl) (by simp) ?_
              refine (AllReadyH.cons nth4 (fun K hK => ?_) AllReadyH.nil)
              go_simp
              have hX := Xd.out.set3 (.slice A3 n1 c3) xl xd
              have hO := far3 Xx.out hnxd (.slice A3 n1 c3) (.int .i64 xl) (.bool xd)
              have hA := XA.out.far3 Xd.out (.slice A3 n1 c3) (.int .i64 xl) (.bool xd)
              have hB := below_set3 HB.out hwd (.slice A3 n1 c3) (.int .i64 xl) (.bool xd)
              have hSx := Sx.out.put (u := (.slice A3 n1 c3)) (y := xl) (b := xd) Xd.out (by intro s h; cases h) (by intro s h; cases h)
              have hS3 := S3.out.put (u := (.slice A3 n1 c3)) (y := xl) (b := xd) Xd.out (by intro s h; cases h) (by intro s h; cases h)
              have hS4 := S4.out.put (u := (.slice A3 n1 c3)) (y := xl) (b := xd) Xd.out (by intro s h; cases h) (by intro s h; cases h)
              clear d_0 d_1 d_2 d_3 d_4 d_5 x_0 x_1 x_2 x_3 x_4 x_5 t_0 t_1 t_2 t_3
              replace Xd := hide hX
              replace Xx := hide hO
              replace XA := hide hA
              replace HB := hide hB
              replace Sx := hide hSx
              replace Sd := hide hS3
              replace S4 := hide hS4
              clear hX hO hA hB hSx hS3 hS4
              obtain ⟨d_0, d_1, d_2, d_3, d_4, d_5⟩ := Xd.out.cells
              obtain ⟨x_0, x_1, x_2, x_3, x_4, x_5⟩ := Xx.out.cells
              obtain ⟨t_0, t_1, t_2, t_3⟩ := XA.out.cells
              refine hK.out _ _ XA.out (fun hHeld => ?_)
              clear hK K
              (try simp only [Act.put]); (try simp only [List.setIfInBounds_toArray]); (try simp only [List.set_cons_succ]); (try simp only [List.set_cons_zero])
              refine wpAnyH_ready (rs := [5]) (by kernel_rfl) (by simp) ?_
              refine (AllReadyH.cons nth5 (fun K hK => ?_) AllReadyH.nil)
              go_simp
              have hX := Xx.out.set3 (.slice A4 n1 c4) xl xd
              have hO := far3 Xd.out hndx (.slice A4 n1 c4) (.int .i64 xl) (.bool xd)
              have hA := XA.out.far3 Xx.out (.slice A4 n1 c4) (.int .i64 xl) (.bool xd)
              have hB := below_set3 HB.out hwx (.slice A4 n1 c4) (.int .i64 xl) (.bool xd)
              have hSd := Sd.out.put (u := (.slice A4 n1 c4)) (y := xl) (b := xd) Xx.out (by intro s h; cases h) (by intro s h; cases h)
              have hS4 := S4.out.put (u := (.slice A4 n1 c4)) (y := xl) (b := xd) Xx.out (by intro s h; cases h) (by intro s h; cases h)
              clear d_0 d_1 d_2 d_3 d_4 d_5 x_0 x_1 x_2 x_3 x_4 x_5 t_0 t_1 t_2 t_3
              replace Xx := hide hX
              replace Xd := hide hO
              replace XA := hide hA
              replace HB := hide hB
              replace Sd := hide hSd
              replace Sx := hide hS4
              clear hX hO hA hB hSd hS4
              obtain ⟨d_0, d_1, d_2, d_3, d_4, d_5⟩ := Xd.out.cells
              obtain ⟨x_0, x_1, x_2, x_3, x_4, x_5⟩ := Xx.out.cells
              obtain ⟨t_0, t_1, t_2, t_3⟩ := XA.out.cells
              refine hK.out _ _ XA.out (fun hHeld => ?_)
              clear hK K
              (try simp only [Act.put]); (try simp only [List.setIfInBounds_toArray]); (try simp only [List.set_cons_succ]); (try simp only [List.set_cons_zero])
              refine wpAnyH_done (by kernel_rfl) ?_ _
              go_wp2_with fail
              refine (QS.out ⟨xs, xl, xd⟩ _ _ _ _ _ Sd.out Sx.out).mono ?_
              rintro e w' ⟨rfl, hb⟩
              clear d_0 d_1 d_2 d_3 d_4 d_5 x_0 x_1 x_2 x_3 x_4 x_5 t_0 t_1 t_2 t_3
              replace Xd := hide (Xd.out.kept hb)
              replace Xx := hide (Xx.out.kept hb)
              replace Sd := hide (Sd.out.kept hb)
              replace Sx := hide (Sx.out.kept hb)
              replace XA := hide (XA.out.kept hb)
              replace HB := hide (Bel.then HB.out hb)
              clear hb
              go_wp2_with fail
              go_roundw
              case rel => exact ⟨k + 1, _, ⟨xs, xl, xd⟩, _, _, _, _, by omega, rfl, rfl, by go_num, Xd, Sd, Xx, Sx, HB, hL2, hS2⟩
              case measure => simp [intOf]; omega
          · go_simp
            refine hK.out _ _ XA.out (fun hHeld => ?_)
            clear hK K
            (try simp only [Act.put]); (try simp only [List.setIfInBounds_toArray]); (try simp only [List.set_cons_succ]); (try simp only [List.set_cons_zero])
            refine wpAnyH_ready (rs := [0]) (by kernel_rfl) (by simp) ?_
            refine (AllReadyH.cons nth0 (fun K hK => ?_) AllReadyH.nil)
            go_simp
            refine hK.out _ _ XA.out (fun hHeld => ?_)
            clear hK K
            (try simp only [Act.put]); (try simp only [List.setIfInBounds_toArray]); (try simp only [List.set_cons_succ]); (try simp only [List.set_cons_zero])
            refine wpAnyH_ready (rs := [1]) (by kernel_rfl) (by simp) ?_
            refine (AllReadyH.cons nth1 (fun K hK => ?_) AllReadyH.nil)
            go_simp
            refine (QA1.out _ _ _ Sd.out).mono ?_
            rintro e w' ⟨A3, c3, rfl, hS3, hb⟩
            clear d_0 d_1 d_2 d_3 d_4 d_5 x_0 x_1 x_2 x_3 x_4 x_5 t_0 t_1 t_2 t_3
            replace Xd := hide (Xd.out.kept hb)
            replace Xx := hide (Xx.out.kept hb)
            replace Sd := hide (Sd.out.kept hb)
            replace Sx := hide (Sx.out.kept hb)
            replace XA := hide (XA.out.kept hb)
            replace HB := hide (Bel.then HB.out hb)
            have S3 := hide hS3
            clear hS3 hb
            obtain ⟨d_0, d_1, d_2, d_3, d_4, d_5⟩ := Xd.out.cells
            obtain ⟨x_0, x_1, x_2, x_3, x_4, x_5⟩ := Xx.out.cells
            obtain ⟨t_0, t_1, t_2, t_3⟩ := XA.out.cells
            refine hK.out _ _ XA.out (fun hHeld => ?_)
            clear hK K
            (try simp only [Act.put]); (try simp only [List.setIfInBounds_toArray]); (try simp only [List.set_cons_succ]); (try simp only [List.set_cons_zero])
            refine wpAnyH_ready (rs := [3]) (by kernel_rfl) (by simp) ?_
            refine (AllReadyH.cons nth3 (fun K hK => ?_) AllReadyH.nil)
            go_simp
            refine (QA2.out _ _ _ Sx.out).mono ?_
            rintro e w' ⟨A4, c4, rfl, hS4, hb⟩
            clear d_0 d_1 d_2 d_3 d_4 d_5 x_0 x_1 x_2 x_3 x_4 x_5 t_0 t_1 t_2 t_3
            replace Xd := hide (Xd.out.kept hb)
            replace Xx := hide (Xx.out.kept hb)
            replace Sd := hide (Sd.out.kept hb)
            replace Sx := hide (Sx.out.kept hb)
            replace S3 := hide (S3.out.kept hb)
            replace XA := hide (XA.out.kept hb)
            replace HB := hide (Bel.then HB.out hb)
            have S4 := hide hS4
            clear hS4 hb
            obtain ⟨d_0, d_1, d_2, d_3, d_4, d_5⟩ := Xd.out.cells
            obtain ⟨x_0, x_1, x_2, x_3, x_4, x_5⟩ := Xx.out.cells
            obtain ⟨t_0, t_1, t_2, t_3⟩ := XA.out.cells
            refine hK.out _ _ XA.out (fun hHeld => ?_)
            clear hK K
            (try simp only [Act.put]); (try simp only [List.setIfInBounds_toArray]); (try simp only [List.set_cons_succ]); (try simp only [List.set_cons_zero])
            refine wpAnyH_ready (rs := [4]) (by kernel_rfl) (by simp) ?_
            refine (AllReadyH.cons nth4 (fun K hK => ?_) AllReadyH.nil)
            go_simp
            have hX := Xd.out.set3 (.slice A3 n1 c3) xl xd
            have hO := far3 Xx.out hnxd (.slice A3 n1 c3) (.int .i64 xl) (.bool xd)
            have hA := XA.out.far3 Xd.out (.slice A3 n1 c3) (.int .i64 xl) (.bool xd)
            have hB := below_set3 HB.out hwd (.slice A3 n1 c3) (.int .i64 xl) (.bool xd)
            have hSx := Sx.out.put (u := (.slice A3 n1 c3)) (y := xl) (b := xd) Xd.out (by intro s h; cases h) (by intro s h; cases h)
            have hS3 := S3.out.put (u := (.slice A3 n1 c3)) (y := xl) (b := xd) Xd.out (by intro s h; cases h) (by intro s h; cases h)
            have hS4 := S4.out.put (u := (.slice A3 n1 c3)) (y := xl) (b := xd) Xd.out (by intro s h; cases h) (by intro s h; cases h)
            clear d_0 d_1 d_2 d_3 d_4 d_5 x_0 x_1 x_2 x_3 x_4 x_5 t_0 t_1 t_2 t_3
            replace Xd := hide hX
            replace Xx := hide hO
            replace XA := hide hA
            replace HB := hide hB
            replace Sx := hide hSx
            replace Sd := hide hS3
            replace S4 := hide hS4
            clear hX hO hA hB hSx hS3 hS4
            obtain ⟨d_0, d_1, d_2, d_3, d_4, d_5⟩ := Xd.out.cells
            obtain ⟨x_0, x_1, x_2, x_3, x_4, x_5⟩ := Xx.out.cells
            obtain ⟨t_0, t_1, t_2, t_3⟩ := XA.out.cells
            refine hK.out _ _ XA.out (fun hHeld => ?_)
            clear hK K
            (try simp only [Act.put]); (try simp only [List.setIfInBounds_toArray]); (try simp only [List.set_cons_succ]); (try simp only [List.set_cons_zero])
            refine wpAnyH_ready (rs := [5]) (by kernel_rfl) (by simp) ?_
            refine (AllReadyH.cons nth5 (fun K hK => ?_) AllReadyH.nil)
            go_simp
            have hX := Xx.out.set3 (.slice A4 n1 c4) xl xd
            have hO := far3 Xd.out hndx (.slice A4 n1 c4) (.int .i64 xl) (.bool xd)
            have hA := XA.out.far3 Xx.out (.slice A4 n1 c4) (.int .i64 xl) (.bool xd)
            have hB := below_set3 HB.out hwx (.slice A4 n1 c4) (.int .i64 xl) (.bool xd)
            have hSd := Sd.out.put (u := (.slice A4 n1 c4)) (y := xl) (b := xd) Xx.out (by intro s h; cases h) (by intro s h; cases h)
            have hS4 := S4.out.put (u := (.slice A4 n1 c4)) (y := xl) (b := xd) Xx.out (by intro s h; cases h) (by intro s h; cases h)
            clear d_0 d_1 d_2 d_3 d_4 d_5 x_0 x_1 x_2 x_3 x_4 x_5 t_0 t_1 t_2 t_3
            replace Xx := hide hX
            replace Xd := hide hO
            replace XA := hide hA
            replace HB := hide hB
            replace Sd := hide hSd
            replace Sx := hide hS4
            clear hX hO hA hB hSd hS4
            obtain ⟨d_0, d_1, d_2, d_3, d_4, d_5⟩ := Xd.out.cells
            obtain ⟨x_0, x_1, x_2, x_3, x_4, x_5⟩ := Xx.out.cells
            obtain ⟨t_0, t_1, t_2, t_3⟩ := XA.out.cells
            refine hK.out _ _ XA.out (fun hHeld => ?_)
            clear hK K
            (try simp only [Act.put]); (try simp only [List.setIfInBounds_toArray]); (try simp only [List.set_cons_succ]); (try simp only [List.set_cons_zero])
            refine wpAnyH_done (by kernel_rfl) ?_ _
            go_wp2_with fail
            refine (QS.out ⟨xs, xl, xd⟩ _ _ _ _ _ Sd.out Sx.out).mono ?_
            rintro e w' ⟨rfl, hb⟩
            clear d_0 d_1 d_2 d_3 d_4 d_5 x_0 x_1 x_2 x_3 x_4 x_5 t_0 t_1 t_2 t_3
            replace Xd := hide (Xd.out.kept hb)
            replace Xx := hide (Xx.out.kept hb)
            replace Sd := hide (Sd.out.kept hb)
            replace Sx := hide (Sx.out.kept hb)
            replace XA := hide (XA.out.kept hb)
            replace HB := hide (Bel.then HB.out hb)
            clear hb
            go_wp2_with fail
            go_roundw
            case rel => exact ⟨k + 1, _, ⟨xs, xl, xd⟩, _, _, _, _, by omega, rfl, rfl, by go_num, Xd, Sd, Xx, Sx, HB, hL2, hS2⟩
            case measure => simp [intOf]; omega
      · go_wp2_with fail
        go_ret
        exact ⟨rfl, HB.out⟩
  · have hz : (ne != 0) = true := by rw [bne_iff_ne]; exact gne
    clear gne
    go_wp2_with fail
    go_ret
    exact ⟨rfl, HB.out⟩
end Go.Proofs.Ytdfpmjfnlcccaaa

