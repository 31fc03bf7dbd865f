/- The walk of KeycodeSays. -/
import Derived.Test.YtiealokabmjfjaaKcU
import Derived.Test.YtiealokabmjfjaaKcE
import Derived.BigRegion
namespace Go.Proofs.Ytiealokabmjfjaa
set_option linter.unusedVariables false
open Go.ChangeShapes Go.WideShapes Go.ChangeAt Go.RowKit

set_option maxRecDepth 100000 in
set_option maxHeartbeats 2000000 in
theorem says_w (A : Option Addr) (n c : Nat) (r : List ValV) (s : ByteArray) (w : World) (h : RowAt w w.heap.size A n c r) (hn : n ≤ 1048576) (hr : ∀ a ∈ r, OkV a) (hz : s.size ≤ 1048576) :
    Calls Try.prog 3 #[.slice A n c, .string s] w fun e w' => e = .returned (.bool true) ∧ Below w.heap.size w w' := by
  have QA := hide (fun W => awakeK_c W)
  have QG1 := hide (fun W => getK_c s W (by omega))
  have QG2 := hide (fun W => rgetK_c s W (by omega))
  have QF1 := hide (fun W => after_c s W (by omega))
  have QF2 := hide (fun W => rafter_c s W (by omega))
  have QP1 := hide (fun (W : World) (hW : Below w.heap.size w W) => putK_c A n c r W (h.kept hW) hn hr)
  have QP2 := hide (fun (W : World) (hW : Below w.heap.size w W) => rputK_c A n c r W (h.kept hW) hn hr)
  unfold GivesB at QP1 QP2
  unfold GivesA at QF1 QF2
  unfold GivesO at QG1 QG2
  generalize strL (putK r) = t1 at *
  generalize strL ((afterK s.data.toList).getD []) = t2 at *
  generalize (afterK s.data.toList).isSome = b2 at *
  generalize (getK s.size s.data.toList).isSome = b3 at *
  generalize (getK s.size s.data.toList).getD [] = l at *
  have QO := hide (fun (W : World) (A1 A2 : Option Addr) (c1 c2 : Nat) (h1 : RowAt W W.heap.size A1 l.length c1 l) (h2 : RowAt W W.heap.size A2 l.length c2 l) => orders_c A1 A2 l.length c1 l.length c2 l l W h1 h2)
  rw [cmpR_refl] at QO
  generalize l.length = m at *
  clear h hr hn hz
  go_enter Try.func3, Try.ntmps3
  go_wp2_with fail
  refine (QG1.out _).mono ?_
  rintro e w1 ⟨A1, c1, rfl, h1, hb⟩
  have HB1 := hide hb
  have HR1 := hide h1
  clear hb h1
  go_wp2_with fail
  refine (QG2.out _).mono ?_
  rintro e w2 ⟨A2, c2, rfl, h2, hb⟩
  have HB2 := hide (Bel.then HB1.out hb)
  have HR1' := hide (HR1.out.kept hb)
  have HR2 := hide h2
  clear hb h2 HB1 HR1
  go_wp2_with fail
  refine (QF1.out _).mono ?_
  rintro e w3 ⟨rfl, hb⟩
  have HB3 := hide (Bel.then HB2.out hb)
  have HR3 := hide (And.intro (HR1'.out.kept hb) (HR2.out.kept hb))
  clear hb HB2 HR1' HR2
  go_wp2_with fail
  refine (QF2.out _).mono ?_
  rintro e w4 ⟨rfl, hb⟩
  have HB4 := hide (Bel.then HB3.out hb)
  have HR4 := hide (And.intro (HR3.out.1.kept hb) (HR3.out.2.kept hb))
  clear hb HB3 HR3
  go_wp2_with fail
  refine (QA.out _).mono ?_
  rintro e w5 ⟨rfl, hb⟩
  have HB5 := hide (Bel.then HB4.out hb)
  have HR5 := hide (And.intro (HR4.out.1.kept hb) (HR4.out.2.kept hb))
  clear hb HB4 HR4
  go_wp2_with fail
  refine (QP1.out _ HB5.out).mono ?_
  rintro e w6 ⟨rfl, hb⟩
  have HB6 := hide (Bel.then HB5.out hb)
  have HR6 := hide (And.intro (HR5.out.1.kept hb) (HR5.out.2.kept hb))
  clear hb HB5 HR5
  go_wp2_with fail
  refine (QP2.out _ HB6.out).mono ?_
  rintro e w7 ⟨rfl, hb⟩
  have HB7 := hide (Bel.then HB6.out hb)
  have HR7 := hide (And.intro (HR6.out.1.kept hb) (HR6.out.2.kept hb))
  clear hb HB6 HR6
  go_wp2_with fail
  refine (QO.out _ _ _ _ _ HR7.out.1 HR7.out.2).mono ?_
  rintro e w8 ⟨rfl, hb⟩
  have HB8 := hide (Bel.then HB7.out hb)
  clear hb HB7 HR7
  go_wp2_with fail
  go_ret
  exact ⟨ret_bool (by first | rfl | (simp; done)), HB8.out⟩
end Go.Proofs.Ytiealokabmjfjaa
