/- The statement ValueRows. -/
import Derived.Test.YtammpddkeinijaaDoorRights
import Derived.Test.YtammpddkeinijaaDoorValueRowsFrame
namespace Go.Proofs.YtammpddkeinijaaDoor
set_option linter.unusedVariables false
open Go.ChangeShapes Go.WideShapes Go.ChangeAt Go.RowKit Go.Joins Go.Deep

set_option maxHeartbeats 2000000 in
theorem rows_w (A A2 : Option Addr) (n c n2 c2 : Nat) (r s : List ValV) (w : World) (hW : ValW w) (h : RowAt w w.heap.size A n c r) (h2 : RowAt w w.heap.size A2 n2 c2 s) (hn : n ≤ 1048576) (hr : ∀ a ∈ r, OkV a) (hs : ∀ a ∈ s, OkV a) :
    Calls Tryd.prog 4 #[.slice A n c, .slice A2 n2 c2] w fun e w' => e = .returned (.bool true) ∧ Below w.heap.size w w' := by
  have Q1 := hide (awake_c w hW)
  have Q2 := hide (fun (W : World) (hb : Below w.heap.size w W) => rights_c A n c r W (h.kept hb) hn hr)
  have Q3 := hide (fun (W : World) (hb : Below w.heap.size w W) => rrights_c A n c r W (h.kept hb) hn hr)
  have Q4 := hide (fun (W : World) (hb : Below w.heap.size w W) => orders_c A A2 n c n2 c2 r s W (h.kept hb) (h2.kept hb))
  have Q5 := hide (fun (W : World) (hb : Below w.heap.size w W) => rorders_c A A2 n c n2 c2 r s W (h.kept hb) (h2.kept hb) (fun v hv => by have := (hr v hv).2; omega) (fun v hv => by have := (hs v hv).2; omega))
  have Q6 := hide (fun (W : World) (hb : Below w.heap.size w W) => orders_c A A n c n c r r W (h.kept hb) (h.kept hb))
  simp only [cmpR_refl] at Q6
  clear hW h h2 hr hs
  generalize r.all rightP = x at *
  generalize cmpR r s = y at *
  go_enter Tryd.func4, Tryd.ntmps4
  go_wp2_with fail
  refine Q1.out.mono ?_
  rintro e w1 ⟨rfl, hb⟩
  have HB1 := hide hb
  clear hb
  go_wp2_with fail
  refine (Q2.out _ HB1.out).mono ?_
  rintro e w2 ⟨rfl, hb⟩
  have HB2 := hide (Bel.then HB1.out hb)
  clear hb
  go_wp2_with fail
  refine (Q3.out _ HB2.out).mono ?_
  rintro e w3 ⟨rfl, hb⟩
  have HB3 := hide (Bel.then HB2.out hb)
  clear hb
  go_wp2_with fail
  refine (Q4.out _ HB3.out).mono ?_
  rintro e w4 ⟨rfl, hb⟩
  have HB4 := hide (Bel.then HB3.out hb)
  clear hb
  go_wp2_with fail
  refine (Q5.out _ HB4.out).mono ?_
  rintro e w5 ⟨rfl, hb⟩
  have HB5 := hide (Bel.then HB4.out hb)
  clear hb
  go_wp2_with fail
  refine (Q6.out _ HB5.out).mono ?_
  rintro e w6 ⟨rfl, hb⟩
  have HB6 := hide (Bel.then HB5.out hb)
  clear hb
  go_wp2_with fail
  go_ret
  exact ⟨rfl, HB6.out⟩
theorem valueRows_holds : Rows.ValueRowsUptoCardSaid := valueRowsFrame.card_of_walk (by
  intro H enc W base v0 v1 d0 d1 p0 p1 k0 h0 k1 h1 hL hS hk
  have hu := bulk_all hk
  simp only [Rows.uptoBulkAll] at hu
  obtain ⟨A, n, c, r, rfl, g1, g2, g3⟩ := open_rowT k0 h0 (by omega)
  obtain ⟨A2, n2, c2, s, rfl, f1, f2, f3⟩ := open_rowT k1 h1 (by omega)
  exact rows_w A A2 n c n2 c2 r s W (valW_of hL hS) g1 f1 g2 g3 f3)
end Go.Proofs.YtammpddkeinijaaDoor
