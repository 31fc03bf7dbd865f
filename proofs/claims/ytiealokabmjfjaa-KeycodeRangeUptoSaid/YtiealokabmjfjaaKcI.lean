/- The walk of KeycodeBack. -/
import Derived.Test.YtiealokabmjfjaaKcH
namespace Go.Proofs.Ytiealokabmjfjaa
set_option linter.unusedVariables false
open Go.ChangeShapes Go.WideShapes Go.ChangeAt Go.RowKit

theorem okV_of_right {v : ValV} (h : rightP v = true) : OkV v := by
  rcases right_kinds h with rfl | rfl | rfl | ⟨n, rfl, hn⟩ | ⟨s, rfl, hs⟩
  · exact ⟨⟨by decide, by decide⟩, by decide⟩
  · exact ⟨⟨by decide, by decide⟩, by decide⟩
  · exact ⟨⟨by decide, by decide⟩, by decide⟩
  · have := inN_iff.1 hn
    exact ⟨⟨show -9223372036854775808 ≤ n by omega, show n ≤ 9223372036854775807 by omega⟩, show (ByteArray.empty).size ≤ 1048576 by decide⟩
  · have := (plain_iff.1 hs).1
    exact ⟨⟨show (-9223372036854775808 : Int) ≤ 0 by decide, show (0 : Int) ≤ 9223372036854775807 by decide⟩, show s.size ≤ 1048576 by omega⟩
theorem strL_str (s : ByteArray) : strL s.data.toList = s := str_eta s
theorem strL_size (l : List UInt8) : (strL l).size = l.length := by show l.toArray.size = _; simp
theorem putK_yes {r : List ValV} (h : r.all rightP = true) : putK r = bytesK r := by unfold putK; rw [if_pos h]
theorem keys_eq {r s : List ValV} (hr : r.all rightP = true) (hs : s.all rightP = true) : ∃ b : Bool, ((strL (bytesK r)).toList == (strL (bytesK s)).toList) = b ∧ (cmpR r s == 0) = b := by
  haveI : Decidable (r = s) := Classical.propDecidable _
  refine ⟨decide (r = s), ?_, ?_⟩
  · rw [toList_strL, toList_strL, Bool.eq_iff_iff, decide_eq_true_eq, beq_iff_eq]
    exact bytesK_inj hr hs
  · rw [Bool.eq_iff_iff, decide_eq_true_eq, beq_iff_eq]
    exact cmpR_zero
set_option maxRecDepth 100000 in
set_option maxHeartbeats 4000000 in
theorem back_w (A B : Option Addr) (n c m d : Nat) (r r2 : List ValV) (s : ByteArray) (w : World) (h : RowAt w w.heap.size A n c r) (h2 : RowAt w w.heap.size B m d r2) (hn : n ≤ 1048576) (hm : m ≤ 1048576) (hr : ∀ a ∈ r, OkV a) (hs : ∀ a ∈ r2, OkV a) (hz : s.size ≤ 1048576) :
    Calls Try.prog 4 #[.slice A n c, .slice B m d, .string s] w fun e w' => e = .returned (.bool true) ∧ Below w.heap.size w w' := by
  have hlen := h.len
  subst hlen
  have QA := hide (fun W => awakeK_c W)
  have QR1 := hide (rights_c A r.length c r w h hn hr)
  have QR2 := hide (fun (W : World) (hW : Below w.heap.size w W) => rights_c B m d r2 W (h2.kept hW) hm hs)
  have QP1 := hide (fun (W : World) (hW : Below w.heap.size w W) => putK_c A r.length c r W (h.kept hW) hn hr)
  have QP2 := hide (fun (W : World) (hW : Below w.heap.size w W) => putK_c B m d r2 W (h2.kept hW) hm hs)
  have QO := hide (fun (W : World) (hW : Below w.heap.size w W) => orders_c A B r.length c m d r r2 W (h.kept hW) (h2.kept hW))
  have QO1 := hide (fun (W : World) (hW : Below w.heap.size w W) (A3 : Option Addr) (c3 : Nat) (h3 : RowAt W W.heap.size A3 r.length c3 r) => orders_c A3 A r.length c3 r.length c r r W h3 (h.kept hW))
  rw [cmpR_refl] at QO1
  have QG := hide (fun W => getK_c s W (by omega))
  unfold GivesB at QP1 QP2
  have hgb := fun x => getK_back s.size s.data.toList x
  clear h h2 hr hs
  cases hx : getK s.size s.data.toList
  · rw [hx] at QG
    clear hx hgb
    cases h1 : r.all rightP
    · rw [h1] at QR1
      clear h1
      go_enter Try.func4, Try.ntmps4
      go_wp2_with fail
      refine QR1.out.mono ?_
      rintro e w1 ⟨rfl, hb⟩
      have HB1 := hide hb
      clear hb
      go_wp2_with fail
      refine (QG.out _).mono ?_
      rintro e wg ⟨Ag, cg, rfl, hrg, hb⟩
      have HBg := hide (Bel.then HB1.out hb)
      have HRg := hide hrg
      clear hb hrg
      simp only [Option.getD_none, Option.isSome_none, List.length_nil] at HRg ⊢
      go_wp2_with fail
      refine (QA.out _).mono ?_
      rintro e wh ⟨rfl, hb⟩
      have HBh := hide (Bel.then HBg.out hb)
      have HRh := hide (HRg.out.kept hb)
      clear hb HBg HRg
      go_wp2_with fail
      go_ret
      exact ⟨ret_bool (by first | rfl | simp), HBh.out⟩
    · rw [h1] at QR1
      have hsz : (strL (bytesK r)).size ≤ 2000000000 := by rw [strL_size]; have := bytesK_len r h1; omega
      have QG1 := hide (fun W => getK_c (strL (bytesK r)) W hsz)
      rw [show getK (strL (bytesK r)).size (strL (bytesK r)).data.toList = some r from getK_put r _ h1 (by rw [strL_size]; exact Nat.le_refl _)] at QG1
      rw [putK_yes h1] at QP1
      cases h2 : r2.all rightP
      · rw [h2] at QR2
        generalize strL (bytesK r) = t at *
        clear h1 h2
        go_enter Try.func4, Try.ntmps4
        go_wp2_with fail
        refine QR1.out.mono ?_
        rintro e w1 ⟨rfl, hb⟩
        have HB1 := hide hb
        clear hb
        go_wp2_with fail
        refine (QP1.out _ HB1.out).mono ?_
        rintro e w2 ⟨rfl, hb⟩
        have HB2 := hide (Bel.then HB1.out hb)
        clear hb HB1
        go_wp2_with fail
        refine (QG1.out _).mono ?_
        rintro e w3 ⟨A3, c3, rfl, hr3, hb⟩
        have HR3 := hide hr3
        have HB3 := hide (Bel.then HB2.out hb)
        clear hb HB2 hr3
        simp only [Option.getD_some, Option.isSome_some] at HR3 ⊢
        go_wp2_with fail
        refine (QO1.out _ HB3.out _ _ HR3.out).mono ?_
        rintro e w4 ⟨rfl, hb⟩
        have HB4 := hide (Bel.then HB3.out hb)
        clear hb HB3 HR3
        go_wp2_with fail
        refine (QR2.out _ HB4.out).mono ?_
        rintro e w5 ⟨rfl, hb⟩
        have HB5 := hide (Bel.then HB4.out hb)
        clear hb HB4
        go_wp2_with fail
        refine (QG.out _).mono ?_
        rintro e wg ⟨Ag, cg, rfl, hrg, hb⟩
        have HBg := hide (Bel.then HB5.out hb)
        have HRg := hide hrg
        clear hb hrg
        simp only [Option.getD_none, Option.isSome_none, List.length_nil] at HRg ⊢
        go_wp2_with fail
        refine (QA.out _).mono ?_
        rintro e wh ⟨rfl, hb⟩
        have HBh := hide (Bel.then HBg.out hb)
        have HRh := hide (HRg.out.kept hb)
        clear hb HBg HRg
        go_wp2_with fail
        go_ret
        exact ⟨ret_bool (by first | rfl | simp), HBh.out⟩
      · rw [h2] at QR2
        obtain ⟨b, hbt, hby⟩ := keys_eq h1 h2
        rw [putK_yes h2] at QP2
        generalize strL (bytesK r2) = t2 at *
        generalize cmpR r r2 = y at *
        generalize strL (bytesK r) = t at *
        clear h1 h2
        go_enter Try.func4, Try.ntmps4
        go_wp2_with fail
        refine QR1.out.mono ?_
        rintro e w1 ⟨rfl, hb⟩
        have HB1 := hide hb
        clear hb
        go_wp2_with fail
        refine (QP1.out _ HB1.out).mono ?_
        rintro e w2 ⟨rfl, hb⟩
        have HB2 := hide (Bel.then HB1.out hb)
        clear hb HB1
        go_wp2_with fail
        refine (QG1.out _).mono ?_
        rintro e w3 ⟨A3, c3, rfl, hr3, hb⟩
        have HR3 := hide hr3
        have HB3 := hide (Bel.then HB2.out hb)
        clear hb HB2 hr3
        simp only [Option.getD_some, Option.isSome_some] at HR3 ⊢
        go_wp2_with fail
        refine (QO1.out _ HB3.out _ _ HR3.out).mono ?_
        rintro e w4 ⟨rfl, hb⟩
        have HB4 := hide (Bel.then HB3.out hb)
        clear hb HB3 HR3
        go_wp2_with fail
        refine (QR2.out _ HB4.out).mono ?_
        rintro e w5 ⟨rfl, hb⟩
        have HB5 := hide (Bel.then HB4.out hb)
        clear hb HB4
        go_wp2_with fail
        refine (QP1.out _ HB5.out).mono ?_
        rintro e w6 ⟨rfl, hb⟩
        have HB6 := hide (Bel.then HB5.out hb)
        clear hb HB5
        go_wp2_with fail
        refine (QP2.out _ HB6.out).mono ?_
        rintro e w7 ⟨rfl, hb⟩
        have HB7 := hide (Bel.then HB6.out hb)
        clear hb HB6
        go_wp2_with fail
        refine (QO.out _ HB7.out).mono ?_
        rintro e w8 ⟨rfl, hb⟩
        have HB8 := hide (Bel.then HB7.out hb)
        clear hb HB7
        go_wp2_with fail
        refine (QG.out _).mono ?_
        rintro e wg ⟨Ag, cg, rfl, hrg, hb⟩
        have HBg := hide (Bel.then HB8.out hb)
        have HRg := hide hrg
        clear hb hrg
        simp only [Option.getD_none, Option.isSome_none, List.length_nil] at HRg ⊢
        go_wp2_with fail
        refine (QA.out _).mono ?_
        rintro e wh ⟨rfl, hb⟩
        have HBh := hide (Bel.then HBg.out hb)
        have HRh := hide (HRg.out.kept hb)
        clear hb HBg HRg
        go_wp2_with fail
        go_ret
        exact ⟨ret_bool (by first | rfl | simp), HBh.out⟩
  · rename_i x
    obtain ⟨hxr, hxs⟩ := hgb x hx
    have hxl := bytesK_ge x hxr
    have hxn : x.length ≤ 1048576 := by rw [← hxs, str_len] at hxl; omega
    have QRx := hide (fun (W : World) (A3 : Option Addr) (c3 : Nat) (h3 : RowAt W W.heap.size A3 x.length c3 x) => rights_c A3 x.length c3 x W h3 hxn (fun v hv => okV_of_right (List.all_eq_true.1 hxr v hv)))
    have QPx := hide (fun (W : World) (A3 : Option Addr) (c3 : Nat) (h3 : RowAt W W.heap.size A3 x.length c3 x) => putK_c A3 x.length c3 x W h3 hxn (fun v hv => okV_of_right (List.all_eq_true.1 hxr v hv)))
    rw [hxr] at QRx
    rw [putK_yes hxr, ← hxs] at QPx
    unfold GivesB at QPx
    rw [strL_str] at QPx
    rw [hx] at QG
    clear hx hgb hxr hxs hxl
    cases h1 : r.all rightP
    · rw [h1] at QR1
      clear h1
      go_enter Try.func4, Try.ntmps4
      go_wp2_with fail
      refine QR1.out.mono ?_
      rintro e w1 ⟨rfl, hb⟩
      have HB1 := hide hb
      clear hb
      go_wp2_with fail
      refine (QG.out _).mono ?_
      rintro e wg ⟨Ag, cg, rfl, hrg, hb⟩
      have HBg := hide (Bel.then HB1.out hb)
      have HRg := hide hrg
      clear hb hrg
      simp only [Option.getD_some, Option.isSome_some] at HRg ⊢
      go_wp2_with fail
      refine (QA.out _).mono ?_
      rintro e wh ⟨rfl, hb⟩
      have HBh := hide (Bel.then HBg.out hb)
      have HRh := hide (HRg.out.kept hb)
      clear hb HBg HRg
      go_wp2_with fail
      refine (QRx.out _ _ _ HRh.out).mono ?_
      rintro e wi ⟨rfl, hb⟩
      have HBi := hide (Bel.then HBh.out hb)
      have HRi := hide (HRh.out.kept hb)
      clear hb HBh HRh
      go_wp2_with fail
      refine (QPx.out _ _ _ HRi.out).mono ?_
      rintro e wj ⟨rfl, hb⟩
      have HBh := hide (Bel.then HBi.out hb)
      clear hb HBi HRi
      go_wp2_with fail
      go_ret
      exact ⟨ret_bool (by first | rfl | simp), HBh.out⟩
    · rw [h1] at QR1
      have hsz : (strL (bytesK r)).size ≤ 2000000000 := by rw [strL_size]; have := bytesK_len r h1; omega
      have QG1 := hide (fun W => getK_c (strL (bytesK r)) W hsz)
      rw [show getK (strL (bytesK r)).size (strL (bytesK r)).data.toList = some r from getK_put r _ h1 (by rw [strL_size]; exact Nat.le_refl _)] at QG1
      rw [putK_yes h1] at QP1
      cases h2 : r2.all rightP
      · rw [h2] at QR2
        generalize strL (bytesK r) = t at *
        clear h1 h2
        go_enter Try.func4, Try.ntmps4
        go_wp2_with fail
        refine QR1.out.mono ?_
        rintro e w1 ⟨rfl, hb⟩
        have HB1 := hide hb
        clear hb
        go_wp2_with fail
        refine (QP1.out _ HB1.out).mono ?_
        rintro e w2 ⟨rfl, hb⟩
        have HB2 := hide (Bel.then HB1.out hb)
        clear hb HB1
        go_wp2_with fail
        refine (QG1.out _).mono ?_
        rintro e w3 ⟨A3, c3, rfl, hr3, hb⟩
        have HR3 := hide hr3
        have HB3 := hide (Bel.then HB2.out hb)
        clear hb HB2 hr3
        simp only [Option.getD_some, Option.isSome_some] at HR3 ⊢
        go_wp2_with fail
        refine (QO1.out _ HB3.out _ _ HR3.out).mono ?_
        rintro e w4 ⟨rfl, hb⟩
        have HB4 := hide (Bel.then HB3.out hb)
        clear hb HB3 HR3
        go_wp2_with fail
        refine (QR2.out _ HB4.out).mono ?_
        rintro e w5 ⟨rfl, hb⟩
        have HB5 := hide (Bel.then HB4.out hb)
        clear hb HB4
        go_wp2_with fail
        refine (QG.out _).mono ?_
        rintro e wg ⟨Ag, cg, rfl, hrg, hb⟩
        have HBg := hide (Bel.then HB5.out hb)
        have HRg := hide hrg
        clear hb hrg
        simp only [Option.getD_some, Option.isSome_some] at HRg ⊢
        go_wp2_with fail
        refine (QA.out _).mono ?_
        rintro e wh ⟨rfl, hb⟩
        have HBh := hide (Bel.then HBg.out hb)
        have HRh := hide (HRg.out.kept hb)
        clear hb HBg HRg
        go_wp2_with fail
        refine (QRx.out _ _ _ HRh.out).mono ?_
        rintro e wi ⟨rfl, hb⟩
        have HBi := hide (Bel.then HBh.out hb)
        have HRi := hide (HRh.out.kept hb)
        clear hb HBh HRh
        go_wp2_with fail
        refine (QPx.out _ _ _ HRi.out).mono ?_
        rintro e wj ⟨rfl, hb⟩
        have HBh := hide (Bel.then HBi.out hb)
        clear hb HBi HRi
        go_wp2_with fail
        go_ret
        exact ⟨ret_bool (by first | rfl | simp), HBh.out⟩
      · rw [h2] at QR2
        obtain ⟨b, hbt, hby⟩ := keys_eq h1 h2
        rw [putK_yes h2] at QP2
        generalize strL (bytesK r2) = t2 at *
        generalize cmpR r r2 = y at *
        generalize strL (bytesK r) = t at *
        clear h1 h2
        go_enter Try.func4, Try.ntmps4
        go_wp2_with fail
        refine QR1.out.mono ?_
        rintro e w1 ⟨rfl, hb⟩
        have HB1 := hide hb
        clear hb
        go_wp2_with fail
        refine (QP1.out _ HB1.out).mono ?_
        rintro e w2 ⟨rfl, hb⟩
        have HB2 := hide (Bel.then HB1.out hb)
        clear hb HB1
        go_wp2_with fail
        refine (QG1.out _).mono ?_
        rintro e w3 ⟨A3, c3, rfl, hr3, hb⟩
        have HR3 := hide hr3
        have HB3 := hide (Bel.then HB2.out hb)
        clear hb HB2 hr3
        simp only [Option.getD_some, Option.isSome_some] at HR3 ⊢
        go_wp2_with fail
        refine (QO1.out _ HB3.out _ _ HR3.out).mono ?_
        rintro e w4 ⟨rfl, hb⟩
        have HB4 := hide (Bel.then HB3.out hb)
        clear hb HB3 HR3
        go_wp2_with fail
        refine (QR2.out _ HB4.out).mono ?_
        rintro e w5 ⟨rfl, hb⟩
        have HB5 := hide (Bel.then HB4.out hb)
        clear hb HB4
        go_wp2_with fail
        refine (QP1.out _ HB5.out).mono ?_
        rintro e w6 ⟨rfl, hb⟩
        have HB6 := hide (Bel.then HB5.out hb)
        clear hb HB5
        go_wp2_with fail
        refine (QP2.out _ HB6.out).mono ?_
        rintro e w7 ⟨rfl, hb⟩
        have HB7 := hide (Bel.then HB6.out hb)
        clear hb HB6
        go_wp2_with fail
        refine (QO.out _ HB7.out).mono ?_
        rintro e w8 ⟨rfl, hb⟩
        have HB8 := hide (Bel.then HB7.out hb)
        clear hb HB7
        go_wp2_with fail
        refine (QG.out _).mono ?_
        rintro e wg ⟨Ag, cg, rfl, hrg, hb⟩
        have HBg := hide (Bel.then HB8.out hb)
        have HRg := hide hrg
        clear hb hrg
        simp only [Option.getD_some, Option.isSome_some] at HRg ⊢
        go_wp2_with fail
        refine (QA.out _).mono ?_
        rintro e wh ⟨rfl, hb⟩
        have HBh := hide (Bel.then HBg.out hb)
        have HRh := hide (HRg.out.kept hb)
        clear hb HBg HRg
        go_wp2_with fail
        refine (QRx.out _ _ _ HRh.out).mono ?_
        rintro e wi ⟨rfl, hb⟩
        have HBi := hide (Bel.then HBh.out hb)
        have HRi := hide (HRh.out.kept hb)
        clear hb HBh HRh
        go_wp2_with fail
        refine (QPx.out _ _ _ HRi.out).mono ?_
        rintro e wj ⟨rfl, hb⟩
        have HBh := hide (Bel.then HBi.out hb)
        clear hb HBi HRi
        go_wp2_with fail
        go_ret
        exact ⟨ret_bool (by first | rfl | simp), HBh.out⟩
end Go.Proofs.Ytiealokabmjfjaa
